/- ShowParts: the law, its contracts put in. -/
import Derived.Test.YthilicmhdkmipaaGreatDoorQShowPartsWalk
import Derived.Test.YthilicmhdkmipaaGreatDoorQJoinBA
import Derived.Test.YthilicmhdkmipaaGreatDoorQJoinAV
namespace Go.Proofs.YthilicmhdkmipaaGreatDoor
open Go.RowKit
set_option linter.unusedVariables false

theorem ok_of {ts : List TkB} (h : (wtT ts : Int) ≤ 100000) : ts.length ≤ 100000 ∧ okTk ts ∧ (lineT ts).length ≤ 1000000000 := by
  have h1 := wtT_len ts
  have h2 := wtT_line ts
  exact ⟨by omega, fun t ht => by have := wtT_mem ht; unfold maxLen; omega, by omega⟩
set_option maxRecDepth 100000 in
set_option maxHeartbeats 4000000 in
theorem showParts_great (k : Int) (tn : ByteArray) (at1 : Option Addr) (tn1 tq1 : Nat) (op iv : Int) (nm sc pn : ByteArray) (ps : Int) (p0 : Option Addr) (n0 q0 : Nat) (p1 : Option Addr) (n1 q1 : Nat) (w : World) (x1 x2 : Bool) (hx : x1 = true ∨ (x1 = false ∧ x2 = true))
    (G1 : Hid (∀ W, Below w.heap.size w W → Calls Tryz.prog 15 #[.agg #[.int .u8 k, .string tn, .slice at1 tn1 tq1]] W fun e w' => e = .returned (.bool x1) ∧ Below W.heap.size W w'))
    (G2 : Hid (∀ W, Below w.heap.size w W → Calls Tryz.prog 16 #[.agg #[.int .u8 op, .int .i64 iv, .string nm, .string sc, .string pn, .slice p0 n0 q0, .slice p1 n1 q1, .int .i64 ps]] W fun e w' => e = .returned (.bool x2) ∧ Below W.heap.size W w')) :
    Calls Tryz.prog 4 #[.agg #[.int .u8 k, .string tn, .slice at1 tn1 tq1], .agg #[.int .u8 op, .int .i64 iv, .string nm, .string sc, .string pn, .slice p0 n0 q0, .slice p1 n1 q1, .int .i64 ps]] w fun e w' => e = .returned (.bool true) ∧ Below w.heap.size w w' := by
  rcases hx with rfl | ⟨rfl, rfl⟩
  · go_enter Tryz.func4, Tryz.ntmps4
    go_wp2_with fail
    refine (G1.out _ (box2 _ _ _)).mono ?_; rintro e w1 ⟨rfl, b1⟩
    have bel1 := Lib.hid (up_tr (box2 _ _ _) b1)
    go_wp2_with fail
    go_ret
    exact ⟨rfl, bel1.out⟩
  · go_enter Tryz.func4, Tryz.ntmps4
    go_wp2_with fail
    refine (G1.out _ (box2 _ _ _)).mono ?_; rintro e w1 ⟨rfl, b1⟩
    have bel1 := Lib.hid (up_tr (box2 _ _ _) b1)
    have hc1 := old_cells b1
    go_wp2_with fail
    refine (G2.out _ bel1.out).mono ?_; rintro e W0 ⟨rfl, b2⟩
    have bel2 := Lib.hid (up_tr bel1.out b2)
    go_wp2_with fail
    go_ret
    exact ⟨rfl, bel2.out⟩
set_option maxRecDepth 100000 in
set_option maxHeartbeats 4000000 in
theorem showParts_law (t : PT) (pt : Option Addr) (nt qt : Nat) (op iv : Int) (nm sc : ByteArray) (pl : PP) (es : List PE) (ps : Int) (p0 : Option Addr) (n0 q0 : Nat) (p1 : Option Addr) (n1 q1 : Nat) (w : World) (hm : MaxOk w) (hW : Words w.heap.size w)
    (ht : t.In w.heap.size w (.slice pt nt qt)) (he : PE.In w.heap.size w (.mk op iv nm sc pl es ps) ⟨.slice p0 n0 q0, .slice p1 n1 q1⟩) :
    Calls Tryz.prog 4 #[.agg #[.int .u8 t.kind, .string t.name, .slice pt nt qt], .agg #[.int .u8 op, .int .i64 iv, .string nm, .string sc, .string pl.name, .slice p0 n0 q0, .slice p1 n1 q1, .int .i64 ps]] w fun r w' => r = .returned (.bool true) ∧ Below w.heap.size w w' := by
  have hpl : pl.In w.heap.size w (.slice p0 n0 q0) := he.2.1
  have G1 : Hid (∀ w', Below w.heap.size w w' → Calls Tryz.prog 15 #[.agg #[.int .u8 t.kind, .string t.name, .slice pt nt qt]] w' fun e w'' => e = .returned (.bool (decide (typeR t 20000 < 0))) ∧ Below w'.heap.size w' w'') :=
    Lib.hid fun w' h => greatT_calls w.heap.size t _ w' h.size (PT.In.below h ht)
  have G2 : Hid (∀ w', Below w.heap.size w w' → Calls Tryz.prog 16 #[.agg #[.int .u8 op, .int .i64 iv, .string nm, .string sc, .string pl.name, .slice p0 n0 q0, .slice p1 n1 q1, .int .i64 ps]] w' fun e w'' => e = .returned (.bool (decide (exprR (.mk op iv nm sc pl es ps) 20000 < 0))) ∧ Below w'.heap.size w' w'') :=
    Lib.hid fun w' h => greatE_calls w.heap.size _ _ _ _ _ _ _ _ _ _ _ _ _ w' h.size (PE.In.below h he)
  by_cases h1 : typeR t 20000 < 0
  · rw [decide_eq_true h1] at G1
    exact showParts_great _ _ _ _ _ _ _ _ _ _ _ _ _ _ _ _ _ w true _ (.inl rfl) G1 G2
  by_cases h2 : exprR (.mk op iv nm sc pl es ps) 20000 < 0
  · rw [decide_eq_false h1] at G1
    rw [decide_eq_true h2] at G2
    exact showParts_great _ _ _ _ _ _ _ _ _ _ _ _ _ _ _ _ _ w false true (.inr ⟨rfl, rfl⟩) G1 G2
  rw [decide_eq_false h1] at G1
  rw [decide_eq_false h2] at G2
  have wt := typeR_w t 20000 (by omega)
  have we := exprR_w _ _ 20000 he (by omega)
  have wp : (wtT (tokP pl) : Int) ≤ 100000 := by
    have h3 : 0 ≤ exprR (.mk op iv nm sc pl es ps) 20000 := by omega
    rw [exprR] at h3
    by_cases h0 : placeR pl (nameR (nameR 20000 nm.size) sc.size) < 0
    · rw [exprsR_neg _ _ h0] at h3; omega
    have hp := placeR_w pl _ (show 0 ≤ placeR pl (nameR (nameR 20000 nm.size) sc.size) by omega)
    have e1 := nameR_ok (show 0 ≤ nameR (nameR 20000 nm.size) sc.size by omega)
    have e2 := nameR_ok (m := 20000) (n := nm.size) (by omega)
    omega
  obtain ⟨t1, t2, t3⟩ := ok_of (ts := tokT t) (by omega)
  obtain ⟨e1, e2, e3⟩ := ok_of (ts := tokE (.mk op iv nm sc pl es ps)) (by omega)
  obtain ⟨l1, l2, l3⟩ := ok_of wp
  obtain ⟨x, hx⟩ : ∃ x, x = PE.mk op iv nm sc pl es ps := ⟨_, rfl⟩
  refine showParts_walk t.kind t.name pt nt qt op iv nm sc pl.name ps p0 n0 q0 p1 n1 q1 w (rT 40 t) (lentB (.mk op iv nm sc pl es ps)) (rE 40 (.mk op iv nm sc pl es ps)) (plB pl) (bT (lineT (tokT t))) (bT (lineT (tokE (.mk op iv nm sc pl es ps)))) (bT (lineT (tokP pl))) G1 G2
    (Lib.hid fun w' h => refWT_calls 40 (by omega) w.heap.size t _ w' h.size (PT.In.below h ht))
    (Lib.hid fun w' h => refLent_calls op iv nm sc pl es ps p0 n0 q0 p1 n1 q1 w')
    (Lib.hid fun w' h => refWE_calls 40 (by omega) w.heap.size (.mk op iv nm sc pl es ps) ⟨.slice p0 n0 q0, .slice p1 n1 q1⟩ w' h.size (PE.In.below h he))
    (Lib.hid fun w' h => refPlace_calls w.heap.size pl _ w' h.size (hpl.below h))
    (Lib.hid fun hr W h => ?d1) (Lib.hid fun hr W h => ?d2) (Lib.hid fun hr W h => ?d3)
    (Lib.hid fun W h => ?s1) (Lib.hid fun W h => ?s2) (Lib.hid fun W h => ?s3)
  case d1 =>
    refine (docT_calls w.heap.size 40 t hr (.slice pt nt qt) W h.size (PT.In.below h ht) t1 t2).mono ?_
    rintro e w' ⟨u, rfl, hu, hb⟩
    exact ⟨u, rfl, hb, docLine_calls w'.heap.size (tokT t) u w' (Nat.le_refl _) hu (by omega) t3⟩
  case d2 =>
    refine (docE_calls w.heap.size 40 _ hr ⟨.slice p0 n0 q0, .slice p1 n1 q1⟩ W h.size (PE.In.below h he) e1 e2).mono ?_
    rintro e w' ⟨u, rfl, hu, hb⟩
    exact ⟨u, rfl, hb, docLine_calls w'.heap.size _ u w' (Nat.le_refl _) hu.row (by omega) e3⟩
  case d3 =>
    refine (docP_calls w.heap.size pl (.slice p0 n0 q0) W h.size (hpl.below h) l1 l2).mono ?_
    rintro e w' ⟨u, rfl, hu, hb⟩
    exact ⟨u, rfl, hb, docLine_calls w'.heap.size _ u w' (Nat.le_refl _) hu.row (by omega) l3⟩
  case s1 =>
    have := showT_calls w.heap.size t pt nt qt W h.size (hW.below h) (hm.below h) (PT.In.below h ht) (fun _ => t3)
    refine this.mono ?_
    rintro e w' ⟨rfl, hb⟩
    refine ⟨?_, hb⟩
    cases rT 40 t <;> rfl
  case s2 =>
    have := showE_calls w.heap.size op iv nm sc pl es ps p0 n0 q0 p1 n1 q1 W h.size (hW.below h) (hm.below h) (PE.In.below h he) _ rfl (fun _ => e3)
    refine this.mono ?_
    rintro e w' ⟨rfl, hb⟩
    refine ⟨?_, hb⟩
    cases (!lentB (.mk op iv nm sc pl es ps) && rE 40 (.mk op iv nm sc pl es ps)) <;> rfl
  case s3 =>
    have := showP_calls w.heap.size pl p0 n0 q0 W h.size (hm.below h) (hpl.below h) (fun _ => l3)
    refine this.mono ?_
    rintro e w' ⟨rfl, hb⟩
    refine ⟨?_, hb⟩
    cases plB pl <;> rfl
end Go.Proofs.YthilicmhdkmipaaGreatDoor
