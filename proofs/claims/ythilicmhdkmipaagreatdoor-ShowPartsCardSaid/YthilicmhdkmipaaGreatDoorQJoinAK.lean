/- The document's own way of saying what is whole: expressions (made by gen_refW4.py). -/
import Derived.Test.YthilicmhdkmipaaGreatDoorQJoinAH
import Derived.Test.YthilicmhdkmipaaGreatDoorQTreeRefEA
import Derived.Test.YthilicmhdkmipaaGreatDoorQTreeRefEB
import Derived.Test.YthilicmhdkmipaaGreatDoorQTreeRefEC
import Derived.Test.YthilicmhdkmipaaGreatDoorQTreeGreat
namespace Go.Proofs.YthilicmhdkmipaaGreatDoor
open Go.RowKit
set_option linter.unusedVariables false

set_option maxRecDepth 100000 in
set_option maxHeartbeats 2000000 in
theorem refExpr_low (op iv : Int) (nm sc : ByteArray) (pl : PP) (ps : Int) (p0 : Option Addr) (n0 q0 : Nat) (p1 : Option Addr) (n1 q1 : Nat) (w : World) (s : ByteArray)
    (hform : Hid (∀ w, Calls Tryz.prog 53 #[.int .u8 op] w fun e w' => e = .returned (.string s) ∧ Below w.heap.size w w')) :
    Calls Tryz.prog 21 #[.agg #[.int .u8 op, .int .i64 iv, .string nm, .string sc, .string pl.name, .slice p0 n0 q0, .slice p1 n1 q1, .int .i64 ps], .int .i64 0] w fun r w' => r = .returned (.bool false) ∧ Below w.heap.size w w' := by
  go_enter Tryz.func21, Tryz.ntmps21
  go_wp2_with fail
  refine (hform.out _).mono ?_; rintro e w1 ⟨rfl, b1⟩
  have bel1 := Lib.hid (up_tr (box1 _ _) b1)
  clear b1
  go_wp2_with fail
  go_ret
  exact ⟨rfl, bel1.out⟩
set_option maxRecDepth 100000 in
set_option maxHeartbeats 2000000 in
theorem refExpr_none (m : Nat) (hm : m ≤ 1000) (op iv : Int) (nm sc : ByteArray) (pl : PP) (ps : Int) (p0 : Option Addr) (n0 q0 : Nat) (p1 : Option Addr) (n1 q1 : Nat) (w : World)
    (hform : Hid (∀ w, Calls Tryz.prog 53 #[.int .u8 op] w fun e w' => e = .returned (.string ⟨#[]⟩) ∧ Below w.heap.size w w')) :
    Calls Tryz.prog 21 #[.agg #[.int .u8 op, .int .i64 iv, .string nm, .string sc, .string pl.name, .slice p0 n0 q0, .slice p1 n1 q1, .int .i64 ps], .int .i64 ((m : Int) + 1)] w fun r w' => r = .returned (.bool false) ∧ Below w.heap.size w w' := by
  have ec : ¬ ((m : Int) + 1 < 1) := by omega
  go_enter Tryz.func21, Tryz.ntmps21
  go_wp2_with fail
  refine (hform.out _).mono ?_; rintro e w1 ⟨rfl, b1⟩
  have bel1 := Lib.hid (up_tr (box1 _ _) b1)
  clear b1
  go_wp2_with fail
  go_ret
  exact ⟨rfl, bel1.out⟩
theorem refWE_zero : RefWEAt 0 := by
  intro B e v w hB he
  obtain ⟨p0, n0, q0, p1, n1, q1, rfl⟩ := he.shape
  obtain ⟨op, iv, nm, sc, pl, es, ps⟩ := e
  have hk := u8_lt he.1.1
  rw [rE]
  exact refExpr_low op iv nm sc pl ps p0 n0 q0 p1 n1 q1 w _ (Lib.hid fun w => refForm_calls op hk w)
set_option maxRecDepth 100000 in
set_option maxHeartbeats 4000000 in
theorem refWE_succ (m : Nat) (hm : m ≤ 1000) (ih : RefWEAt m) : RefWEAt (m + 1) := by
  intro B e v w hB he
  obtain ⟨p0, n0, q0, p1, n1, q1, rfl⟩ := he.shape
  obtain ⟨op, iv, nm, sc, pl, es, ps⟩ := e
  have hk := u8_lt he.1.1
  have hf : Hid (∀ w, Calls Tryz.prog 53 #[.int .u8 op] w fun e w' => e = .returned (.string (bs (formL op))) ∧ Below w.heap.size w w') := Lib.hid fun w => refForm_calls op hk w
  have ec : ((m + 1 : Nat) : Int) = (m : Int) + 1 := by omega
  show Calls Tryz.prog 21 #[.agg #[.int .u8 op, .int .i64 iv, .string nm, .string sc, .string pl.name, .slice p0 n0 q0, .slice p1 n1 q1, .int .i64 ps], .int .i64 (m + 1 : Nat)] w _
  rw [ec]
  have hrE : ∀ e : PE, rE (m + 1) e = (rSh e && e.args.all (fun a => (!lentB a || decide (e.op = 18)) && rE m a)) := fun e => by rw [rE]
  rcases op_cases hk with h | h
  · have e2 : formL op = [] := by
      unfold formL
      rw [List.getD_eq_getElem?_getD, List.getElem?_eq_none (by simp [formTab]; omega)]; rfl
    have e3 : rE (m + 1) (.mk op iv nm sc pl es ps) = false := by
      rw [hrE, show rSh (.mk op iv nm sc pl es ps) = false from by unfold rSh; rw [show PE.op (.mk op iv nm sc pl es ps) = op from rfl, e2]; rfl, Bool.false_and]
    rw [e3]
    rw [e2] at hf
    exact refExpr_none m hm op iv nm sc pl ps p0 n0 q0 p1 n1 q1 w hf
  · rcases h with rfl | rfl | rfl | rfl | rfl | rfl | rfl | rfl | rfl | rfl | rfl | rfl | rfl | rfl | rfl | rfl | rfl | rfl | rfl | rfl | rfl | rfl | rfl | rfl | rfl | rfl | rfl | rfl | rfl | rfl | rfl | rfl | rfl | rfl | rfl | rfl | rfl
    · have e3 : rE (m + 1) (.mk 0 iv nm sc pl es ps) = false := by rw [hrE]; rfl
      rw [e3]
      exact refExpr_none m hm 0 iv nm sc pl ps p0 n0 q0 p1 n1 q1 w hf
    · rw [show rE (m + 1) (.mk 1 iv nm sc pl es ps) = (rShF [105, 48] (.mk 1 iv nm sc pl es ps) && es.all (fun a => (!lentB a || false) && rE m a)) from by rw [hrE]; rfl]
      exact refExpr_i0 m hm ih B 1 iv nm sc pl es ps p0 n0 q0 p1 n1 q1 w hB he rfl hf
    · rw [show rE (m + 1) (.mk 2 iv nm sc pl es ps) = (rShF [98, 48] (.mk 2 iv nm sc pl es ps) && es.all (fun a => (!lentB a || false) && rE m a)) from by rw [hrE]; rfl]
      exact refExpr_b0 m hm ih B 2 iv nm sc pl es ps p0 n0 q0 p1 n1 q1 w hB he rfl hf
    · rw [show rE (m + 1) (.mk 3 iv nm sc pl es ps) = (rShF [48] (.mk 3 iv nm sc pl es ps) && es.all (fun a => (!lentB a || false) && rE m a)) from by rw [hrE]; rfl]
      exact refExpr_z0 m hm ih B 3 iv nm sc pl es ps p0 n0 q0 p1 n1 q1 w hB he rfl hf
    · rw [show rE (m + 1) (.mk 4 iv nm sc pl es ps) = (rShF [112, 48] (.mk 4 iv nm sc pl es ps) && es.all (fun a => (!lentB a || false) && rE m a)) from by rw [hrE]; rfl]
      exact refExpr_p0 m hm ih B 4 iv nm sc pl es ps p0 n0 q0 p1 n1 q1 w hB he rfl hf
    · rw [show rE (m + 1) (.mk 5 iv nm sc pl es ps) = (rShF [112, 48] (.mk 5 iv nm sc pl es ps) && es.all (fun a => (!lentB a || false) && rE m a)) from by rw [hrE]; rfl]
      exact refExpr_p0 m hm ih B 5 iv nm sc pl es ps p0 n0 q0 p1 n1 q1 w hB he rfl hf
    · rw [show rE (m + 1) (.mk 6 iv nm sc pl es ps) = (rShF [112, 48] (.mk 6 iv nm sc pl es ps) && es.all (fun a => (!lentB a || false) && rE m a)) from by rw [hrE]; rfl]
      exact refExpr_p0 m hm ih B 6 iv nm sc pl es ps p0 n0 q0 p1 n1 q1 w hB he rfl hf
    · rw [show rE (m + 1) (.mk 7 iv nm sc pl es ps) = (rShF [49] (.mk 7 iv nm sc pl es ps) && es.all (fun a => (!lentB a || false) && rE m a)) from by rw [hrE]; rfl]
      exact refExpr_w1 m hm ih B 7 iv nm sc pl es ps p0 n0 q0 p1 n1 q1 w hB he rfl hf
    · rw [show rE (m + 1) (.mk 8 iv nm sc pl es ps) = (rShF [49] (.mk 8 iv nm sc pl es ps) && es.all (fun a => (!lentB a || false) && rE m a)) from by rw [hrE]; rfl]
      exact refExpr_w1 m hm ih B 8 iv nm sc pl es ps p0 n0 q0 p1 n1 q1 w hB he rfl hf
    · rw [show rE (m + 1) (.mk 9 iv nm sc pl es ps) = (rShF [50] (.mk 9 iv nm sc pl es ps) && es.all (fun a => (!lentB a || false) && rE m a)) from by rw [hrE]; rfl]
      exact refExpr_w2 m hm ih B 9 iv nm sc pl es ps p0 n0 q0 p1 n1 q1 w hB he rfl hf
    · rw [show rE (m + 1) (.mk 10 iv nm sc pl es ps) = (rShF [50] (.mk 10 iv nm sc pl es ps) && es.all (fun a => (!lentB a || false) && rE m a)) from by rw [hrE]; rfl]
      exact refExpr_w2 m hm ih B 10 iv nm sc pl es ps p0 n0 q0 p1 n1 q1 w hB he rfl hf
    · rw [show rE (m + 1) (.mk 11 iv nm sc pl es ps) = (rShF [50] (.mk 11 iv nm sc pl es ps) && es.all (fun a => (!lentB a || false) && rE m a)) from by rw [hrE]; rfl]
      exact refExpr_w2 m hm ih B 11 iv nm sc pl es ps p0 n0 q0 p1 n1 q1 w hB he rfl hf
    · rw [show rE (m + 1) (.mk 12 iv nm sc pl es ps) = (rShF [50] (.mk 12 iv nm sc pl es ps) && es.all (fun a => (!lentB a || false) && rE m a)) from by rw [hrE]; rfl]
      exact refExpr_w2 m hm ih B 12 iv nm sc pl es ps p0 n0 q0 p1 n1 q1 w hB he rfl hf
    · rw [show rE (m + 1) (.mk 13 iv nm sc pl es ps) = (rShF [50] (.mk 13 iv nm sc pl es ps) && es.all (fun a => (!lentB a || false) && rE m a)) from by rw [hrE]; rfl]
      exact refExpr_w2 m hm ih B 13 iv nm sc pl es ps p0 n0 q0 p1 n1 q1 w hB he rfl hf
    · rw [show rE (m + 1) (.mk 14 iv nm sc pl es ps) = (rShF [50] (.mk 14 iv nm sc pl es ps) && es.all (fun a => (!lentB a || false) && rE m a)) from by rw [hrE]; rfl]
      exact refExpr_w2 m hm ih B 14 iv nm sc pl es ps p0 n0 q0 p1 n1 q1 w hB he rfl hf
    · rw [show rE (m + 1) (.mk 15 iv nm sc pl es ps) = (rShF [50] (.mk 15 iv nm sc pl es ps) && es.all (fun a => (!lentB a || false) && rE m a)) from by rw [hrE]; rfl]
      exact refExpr_w2 m hm ih B 15 iv nm sc pl es ps p0 n0 q0 p1 n1 q1 w hB he rfl hf
    · rw [show rE (m + 1) (.mk 16 iv nm sc pl es ps) = (rShF [50] (.mk 16 iv nm sc pl es ps) && es.all (fun a => (!lentB a || false) && rE m a)) from by rw [hrE]; rfl]
      exact refExpr_w2 m hm ih B 16 iv nm sc pl es ps p0 n0 q0 p1 n1 q1 w hB he rfl hf
    · rw [show rE (m + 1) (.mk 17 iv nm sc pl es ps) = (rShF [50] (.mk 17 iv nm sc pl es ps) && es.all (fun a => (!lentB a || false) && rE m a)) from by rw [hrE]; rfl]
      exact refExpr_w2 m hm ih B 17 iv nm sc pl es ps p0 n0 q0 p1 n1 q1 w hB he rfl hf
    · rw [show rE (m + 1) (.mk 18 iv nm sc pl es ps) = (rShF [110, 54] (.mk 18 iv nm sc pl es ps) && es.all (fun a => (!lentB a || true) && rE m a)) from by rw [hrE]; rfl]
      exact refExpr_n6 m hm ih B 18 iv nm sc pl es ps p0 n0 q0 p1 n1 q1 w hB he rfl hf
    · rw [show rE (m + 1) (.mk 19 iv nm sc pl es ps) = (rShF [116, 102, 54] (.mk 19 iv nm sc pl es ps) && es.all (fun a => (!lentB a || false) && rE m a)) from by rw [hrE]; rfl]
      exact refExpr_tf6 m hm ih B 19 iv nm sc pl es ps p0 n0 q0 p1 n1 q1 w hB he rfl hf
    · rw [show rE (m + 1) (.mk 20 iv nm sc pl es ps) = (rShF [116, 118, 57] (.mk 20 iv nm sc pl es ps) && es.all (fun a => (!lentB a || false) && rE m a)) from by rw [hrE]; rfl]
      exact refExpr_tv9 m hm ih B 20 iv nm sc pl es ps p0 n0 q0 p1 n1 q1 w hB he rfl hf
    · rw [show rE (m + 1) (.mk 21 iv nm sc pl es ps) = (rShF [49] (.mk 21 iv nm sc pl es ps) && es.all (fun a => (!lentB a || false) && rE m a)) from by rw [hrE]; rfl]
      exact refExpr_w1 m hm ih B 21 iv nm sc pl es ps p0 n0 q0 p1 n1 q1 w hB he rfl hf
    · rw [show rE (m + 1) (.mk 22 iv nm sc pl es ps) = (rShF [49] (.mk 22 iv nm sc pl es ps) && es.all (fun a => (!lentB a || false) && rE m a)) from by rw [hrE]; rfl]
      exact refExpr_w1 m hm ih B 22 iv nm sc pl es ps p0 n0 q0 p1 n1 q1 w hB he rfl hf
    · rw [show rE (m + 1) (.mk 23 iv nm sc pl es ps) = (rShF [49] (.mk 23 iv nm sc pl es ps) && es.all (fun a => (!lentB a || false) && rE m a)) from by rw [hrE]; rfl]
      exact refExpr_w1 m hm ih B 23 iv nm sc pl es ps p0 n0 q0 p1 n1 q1 w hB he rfl hf
    · rw [show rE (m + 1) (.mk 24 iv nm sc pl es ps) = (rShF [112, 48] (.mk 24 iv nm sc pl es ps) && es.all (fun a => (!lentB a || false) && rE m a)) from by rw [hrE]; rfl]
      exact refExpr_p0 m hm ih B 24 iv nm sc pl es ps p0 n0 q0 p1 n1 q1 w hB he rfl hf
    · rw [show rE (m + 1) (.mk 25 iv nm sc pl es ps) = (rShF [112, 49] (.mk 25 iv nm sc pl es ps) && es.all (fun a => (!lentB a || false) && rE m a)) from by rw [hrE]; rfl]
      exact refExpr_p1 m hm ih B 25 iv nm sc pl es ps p0 n0 q0 p1 n1 q1 w hB he rfl hf
    · rw [show rE (m + 1) (.mk 26 iv nm sc pl es ps) = (rShF [49] (.mk 26 iv nm sc pl es ps) && es.all (fun a => (!lentB a || false) && rE m a)) from by rw [hrE]; rfl]
      exact refExpr_w1 m hm ih B 26 iv nm sc pl es ps p0 n0 q0 p1 n1 q1 w hB he rfl hf
    · rw [show rE (m + 1) (.mk 27 iv nm sc pl es ps) = (rShF [49] (.mk 27 iv nm sc pl es ps) && es.all (fun a => (!lentB a || false) && rE m a)) from by rw [hrE]; rfl]
      exact refExpr_w1 m hm ih B 27 iv nm sc pl es ps p0 n0 q0 p1 n1 q1 w hB he rfl hf
    · rw [show rE (m + 1) (.mk 28 iv nm sc pl es ps) = (rShF [112, 48] (.mk 28 iv nm sc pl es ps) && es.all (fun a => (!lentB a || false) && rE m a)) from by rw [hrE]; rfl]
      exact refExpr_p0 m hm ih B 28 iv nm sc pl es ps p0 n0 q0 p1 n1 q1 w hB he rfl hf
    · rw [show rE (m + 1) (.mk 29 iv nm sc pl es ps) = (rShF [49] (.mk 29 iv nm sc pl es ps) && es.all (fun a => (!lentB a || false) && rE m a)) from by rw [hrE]; rfl]
      exact refExpr_w1 m hm ih B 29 iv nm sc pl es ps p0 n0 q0 p1 n1 q1 w hB he rfl hf
    · rw [show rE (m + 1) (.mk 30 iv nm sc pl es ps) = (rShF [49] (.mk 30 iv nm sc pl es ps) && es.all (fun a => (!lentB a || false) && rE m a)) from by rw [hrE]; rfl]
      exact refExpr_w1 m hm ih B 30 iv nm sc pl es ps p0 n0 q0 p1 n1 q1 w hB he rfl hf
    · rw [show rE (m + 1) (.mk 31 iv nm sc pl es ps) = (rShF [49] (.mk 31 iv nm sc pl es ps) && es.all (fun a => (!lentB a || false) && rE m a)) from by rw [hrE]; rfl]
      exact refExpr_w1 m hm ih B 31 iv nm sc pl es ps p0 n0 q0 p1 n1 q1 w hB he rfl hf
    · rw [show rE (m + 1) (.mk 32 iv nm sc pl es ps) = (rShF [112, 48] (.mk 32 iv nm sc pl es ps) && es.all (fun a => (!lentB a || false) && rE m a)) from by rw [hrE]; rfl]
      exact refExpr_p0 m hm ih B 32 iv nm sc pl es ps p0 n0 q0 p1 n1 q1 w hB he rfl hf
    · rw [show rE (m + 1) (.mk 33 iv nm sc pl es ps) = (rShF [112, 49] (.mk 33 iv nm sc pl es ps) && es.all (fun a => (!lentB a || false) && rE m a)) from by rw [hrE]; rfl]
      exact refExpr_p1 m hm ih B 33 iv nm sc pl es ps p0 n0 q0 p1 n1 q1 w hB he rfl hf
    · rw [show rE (m + 1) (.mk 34 iv nm sc pl es ps) = (rShF [112, 49] (.mk 34 iv nm sc pl es ps) && es.all (fun a => (!lentB a || false) && rE m a)) from by rw [hrE]; rfl]
      exact refExpr_p1 m hm ih B 34 iv nm sc pl es ps p0 n0 q0 p1 n1 q1 w hB he rfl hf
    · rw [show rE (m + 1) (.mk 35 iv nm sc pl es ps) = (rShF [112, 49] (.mk 35 iv nm sc pl es ps) && es.all (fun a => (!lentB a || false) && rE m a)) from by rw [hrE]; rfl]
      exact refExpr_p1 m hm ih B 35 iv nm sc pl es ps p0 n0 q0 p1 n1 q1 w hB he rfl hf
    · rw [show rE (m + 1) (.mk 36 iv nm sc pl es ps) = (rShF [112, 48] (.mk 36 iv nm sc pl es ps) && es.all (fun a => (!lentB a || false) && rE m a)) from by rw [hrE]; rfl]
      exact refExpr_p0 m hm ih B 36 iv nm sc pl es ps p0 n0 q0 p1 n1 q1 w hB he rfl hf
theorem refWE_calls : ∀ n, n ≤ 1000 → RefWEAt n
  | 0, _ => refWE_zero
  | n + 1, h => refWE_succ n (by omega) (refWE_calls n (by omega))
end Go.Proofs.YthilicmhdkmipaaGreatDoor
/- TreeParts: the walk. -/
namespace Go.Proofs.YthilicmhdkmipaaGreatDoor
open Go.RowKit
set_option linter.unusedVariables false

theorem cellsAt_new (w : World) (cs : List Value) (T : TypeId) : CellsAt (w.alloc (.cells cs.toArray T)) w.heap.size 0 cs := fun i v h => by
  rw [Nat.zero_add, World.cell?_alloc_at (hn := rfl)]
  simpa using h
set_option maxHeartbeats 1000000 in
theorem topWholeT_calls (B : Nat) (t : PT) (p : Option Addr) (n q : Nat) (w : World) (hB : B ≤ w.heap.size) (hm : MaxOk w) (ht : t.In B w (.slice p n q)) :
    Calls Tryz.prog 65 #[.agg #[.int .u8 t.kind, .string t.name, .slice p n q]] w fun e w' => e = .returned (.bool (rT 40 t)) ∧ Below w.heap.size w w' := by
  have C : Hid (Calls Tryz.prog 74 #[.iface 155 (.agg #[.pointer (some ⟨w.heap.size, 0, none⟩), .int .u8 0]), .int .i64 40] (w.alloc (.cells #[.int .u8 t.kind, .string t.name, .slice p n q] 31))
      fun e w' => e = .returned (.bool (rT 40 t)) ∧ Below (w.alloc (.cells #[.int .u8 t.kind, .string t.name, .slice p n q] 31)).heap.size (w.alloc (.cells #[.int .u8 t.kind, .string t.name, .slice p n q] 31)) w') := by
    have h := wholeT_calls 40 (by omega) B t 0 w.heap.size 0 (.slice p n q) (w.alloc (.cells #[.int .u8 t.kind, .string t.name, .slice p n q] 31)) (by omega) (by simp; omega) (hm.alloc _) (by simp)
      (cellsAt_new w _ _) (PT.In.below ((box1 w _).mono hB) ht)
    rw [wholeT_eq] at h
    exact Lib.hid h
  generalize rT 40 t = res at *
  go_enter Tryz.func65, Tryz.ntmps65
  go_wp2_with fail
  refine C.out.mono ?_; rintro e w1 ⟨rfl, b1⟩
  have bel1 := Lib.hid (up_tr (box1 _ _) b1)
  clear b1 C
  go_wp2
  go_ret
  exact ⟨rfl, bel1.out⟩
set_option maxHeartbeats 1000000 in
theorem topWholeE_calls (B : Nat) (op iv : Int) (nm sc : ByteArray) (pl : PP) (es : List PE) (ps : Int) (p0 : Option Addr) (n0 q0 : Nat) (p1 : Option Addr) (n1 q1 : Nat) (w : World) (hB : B ≤ w.heap.size) (hm : MaxOk w)
    (he : PE.In B w (.mk op iv nm sc pl es ps) ⟨.slice p0 n0 q0, .slice p1 n1 q1⟩) :
    Calls Tryz.prog 68 #[.agg #[.int .u8 op, .int .i64 iv, .string nm, .string sc, .string pl.name, .slice p0 n0 q0, .slice p1 n1 q1, .int .i64 ps]] w fun e w' => e = .returned (.bool (!lentB (.mk op iv nm sc pl es ps) && rE 40 (.mk op iv nm sc pl es ps))) ∧ Below w.heap.size w w' := by
  have C : Hid (Calls Tryz.prog 74 #[.iface 160 (.agg #[.pointer (some ⟨w.heap.size, 0, none⟩), .int .u8 0]), .int .i64 40] (w.alloc (.cells #[.int .u8 op, .int .i64 iv, .string nm, .string sc, .string pl.name, .slice p0 n0 q0, .slice p1 n1 q1, .int .i64 ps] 37))
      fun e w' => e = .returned (.bool (!lentB (.mk op iv nm sc pl es ps) && rE 40 (.mk op iv nm sc pl es ps))) ∧ Below (w.alloc (.cells #[.int .u8 op, .int .i64 iv, .string nm, .string sc, .string pl.name, .slice p0 n0 q0, .slice p1 n1 q1, .int .i64 ps] 37)).heap.size (w.alloc (.cells #[.int .u8 op, .int .i64 iv, .string nm, .string sc, .string pl.name, .slice p0 n0 q0, .slice p1 n1 q1, .int .i64 ps] 37)) w') := by
    have hin := PE.In.below ((box1 w (.cells #[.int .u8 op, .int .i64 iv, .string nm, .string sc, .string pl.name, .slice p0 n0 q0, .slice p1 n1 q1, .int .i64 ps] 37)).mono hB) he
    have h := wholeE_calls 40 (by omega) B (.mk op iv nm sc pl es ps) 0 w.heap.size 0 ⟨.slice p0 n0 q0, .slice p1 n1 q1⟩ (w.alloc (.cells #[.int .u8 op, .int .i64 iv, .string nm, .string sc, .string pl.name, .slice p0 n0 q0, .slice p1 n1 q1, .int .i64 ps] 37)) (by omega) (by simp; omega) (hm.alloc _) (by simp)
      (cellsAt_new w _ _) hin
    rw [wholeE_eq 40 _ _ 0 hin (by omega), show decide (0 = 1) = false from rfl, Bool.or_false] at h
    exact Lib.hid h
  generalize (!lentB (.mk op iv nm sc pl es ps) && rE 40 (.mk op iv nm sc pl es ps)) = res at *
  go_enter Tryz.func68, Tryz.ntmps68
  go_wp2_with fail
  refine C.out.mono ?_; rintro e w1 ⟨rfl, b1⟩
  have bel1 := Lib.hid (up_tr (box1 _ _) b1)
  clear b1 C
  go_wp2
  go_ret
  exact ⟨rfl, bel1.out⟩
set_option maxHeartbeats 1000000 in
theorem topWholeP_calls (B : Nat) (x : PP) (p : Option Addr) (n q : Nat) (w : World) (hB : B ≤ w.heap.size) (hm : MaxOk w) (hx : x.In B w (.slice p n q)) :
    Calls Tryz.prog 71 #[.agg #[.string x.name, .slice p n q]] w fun e w' => e = .returned (.bool (plB x)) ∧ Below w.heap.size w w' := by
  have C : Hid (∀ w', Below w.heap.size w w' → Calls Tryz.prog 108 #[.agg #[.string x.name, .slice p n q]] w' fun e w'' => e = .returned (.bool (plB x)) ∧ Below w'.heap.size w' w'') :=
    Lib.hid fun w' hw => isPlace_calls B x _ w' (by have := hw.size; omega) (hm.below hw) (hx.below (hw.mono hB))
  generalize plB x = res at *
  go_enter Tryz.func71, Tryz.ntmps71
  go_wp2_with fail
  refine (C.out _ (box1 _ _)).mono ?_; rintro e w1 ⟨rfl, b1⟩
  have bel1 := Lib.hid (up_tr (box1 _ _) b1)
  clear b1 C
  go_wp2
  go_ret
  exact ⟨rfl, bel1.out⟩

end Go.Proofs.YthilicmhdkmipaaGreatDoor
