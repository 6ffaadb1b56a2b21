/- TreeParts: the walk. -/
import Derived.Test.YtgpgambbmapicaaTreeWholeE
import Derived.Test.YtgpgambbmapicaaTreeRefW4
import Derived.Test.YtgpgambbmapicaaTreeGreat
namespace Go.Proofs.Ytgpgambbmapicaa
open Go.RowKit
set_option linter.unusedVariables false

theorem cellsAt_new (w : World) (cs : List Value) (T : TypeId) : CellsAt (w.alloc (.cells cs.toArray T)) w.heap.size 0 cs := fun i v h => by
  rw [Nat.zero_add, World.cell?_alloc_at (hn := rfl)]
  simpa using h
set_option maxHeartbeats 1000000 in
theorem topWholeT_calls (B : Nat) (t : PT) (p : Option Addr) (n q : Nat) (w : World) (hB : B ≤ w.heap.size) (hm : MaxOk w) (ht : t.In B w (.slice p n q)) :
    Calls Try.prog 7 #[.agg #[.int .u8 t.kind, .string t.name, .slice p n q]] w fun e w' => e = .returned (.bool (rT 40 t)) ∧ Below w.heap.size w w' := by
  have C : Hid (Calls Try.prog 22 #[.iface 54 (.agg #[.pointer (some ⟨w.heap.size, 0, none⟩), .int .u8 0]), .int .i64 40] (w.alloc (.cells #[.int .u8 t.kind, .string t.name, .slice p n q] 24))
      fun e w' => e = .returned (.bool (rT 40 t)) ∧ Below (w.alloc (.cells #[.int .u8 t.kind, .string t.name, .slice p n q] 24)).heap.size (w.alloc (.cells #[.int .u8 t.kind, .string t.name, .slice p n q] 24)) w') := by
    have h := wholeT_calls 40 (by omega) B t 0 w.heap.size 0 (.slice p n q) (w.alloc (.cells #[.int .u8 t.kind, .string t.name, .slice p n q] 24)) (by omega) (by simp; omega) (hm.alloc _) (by simp)
      (cellsAt_new w _ _) (PT.In.below ((box1 w _).mono hB) ht)
    rw [wholeT_eq] at h
    exact Lib.hid h
  generalize rT 40 t = res at *
  go_enter Try.func7, Try.ntmps7
  go_wp2_with fail
  refine C.out.mono ?_; rintro e w1 ⟨rfl, b1⟩
  have bel1 := Lib.hid (up_tr (box1 _ _) b1)
  clear b1 C
  go_wp2
  go_ret
  exact ⟨rfl, bel1.out⟩
set_option maxHeartbeats 1000000 in
theorem topWholeE_calls (B : Nat) (op iv : Int) (nm sc : ByteArray) (pl : PP) (es : List PE) (ps : Int) (p0 : Option Addr) (n0 q0 : Nat) (p1 : Option Addr) (n1 q1 : Nat) (w : World) (hB : B ≤ w.heap.size) (hm : MaxOk w)
    (he : PE.In B w (.mk op iv nm sc pl es ps) ⟨.slice p0 n0 q0, .slice p1 n1 q1⟩) :
    Calls Try.prog 9 #[.agg #[.int .u8 op, .int .i64 iv, .string nm, .string sc, .string pl.name, .slice p0 n0 q0, .slice p1 n1 q1, .int .i64 ps]] w fun e w' => e = .returned (.bool (!lentB (.mk op iv nm sc pl es ps) && rE 40 (.mk op iv nm sc pl es ps))) ∧ Below w.heap.size w w' := by
  have C : Hid (Calls Try.prog 22 #[.iface 58 (.agg #[.pointer (some ⟨w.heap.size, 0, none⟩), .int .u8 0]), .int .i64 40] (w.alloc (.cells #[.int .u8 op, .int .i64 iv, .string nm, .string sc, .string pl.name, .slice p0 n0 q0, .slice p1 n1 q1, .int .i64 ps] 30))
      fun e w' => e = .returned (.bool (!lentB (.mk op iv nm sc pl es ps) && rE 40 (.mk op iv nm sc pl es ps))) ∧ Below (w.alloc (.cells #[.int .u8 op, .int .i64 iv, .string nm, .string sc, .string pl.name, .slice p0 n0 q0, .slice p1 n1 q1, .int .i64 ps] 30)).heap.size (w.alloc (.cells #[.int .u8 op, .int .i64 iv, .string nm, .string sc, .string pl.name, .slice p0 n0 q0, .slice p1 n1 q1, .int .i64 ps] 30)) w') := by
    have hin := PE.In.below ((box1 w (.cells #[.int .u8 op, .int .i64 iv, .string nm, .string sc, .string pl.name, .slice p0 n0 q0, .slice p1 n1 q1, .int .i64 ps] 30)).mono hB) he
    have h := wholeE_calls 40 (by omega) B (.mk op iv nm sc pl es ps) 0 w.heap.size 0 ⟨.slice p0 n0 q0, .slice p1 n1 q1⟩ (w.alloc (.cells #[.int .u8 op, .int .i64 iv, .string nm, .string sc, .string pl.name, .slice p0 n0 q0, .slice p1 n1 q1, .int .i64 ps] 30)) (by omega) (by simp; omega) (hm.alloc _) (by simp)
      (cellsAt_new w _ _) hin
    rw [wholeE_eq 40 _ _ 0 hin (by omega), show decide (0 = 1) = false from rfl, Bool.or_false] at h
    exact Lib.hid h
  generalize (!lentB (.mk op iv nm sc pl es ps) && rE 40 (.mk op iv nm sc pl es ps)) = res at *
  go_enter Try.func9, Try.ntmps9
  go_wp2_with fail
  refine C.out.mono ?_; rintro e w1 ⟨rfl, b1⟩
  have bel1 := Lib.hid (up_tr (box1 _ _) b1)
  clear b1 C
  go_wp2
  go_ret
  exact ⟨rfl, bel1.out⟩
set_option maxHeartbeats 1000000 in
theorem topWholeP_calls (B : Nat) (x : PP) (p : Option Addr) (n q : Nat) (w : World) (hB : B ≤ w.heap.size) (hm : MaxOk w) (hx : x.In B w (.slice p n q)) :
    Calls Try.prog 12 #[.agg #[.string x.name, .slice p n q]] w fun e w' => e = .returned (.bool (plB x)) ∧ Below w.heap.size w w' := by
  have C : Hid (∀ w', Below w.heap.size w w' → Calls Try.prog 29 #[.agg #[.string x.name, .slice p n q]] w' fun e w'' => e = .returned (.bool (plB x)) ∧ Below w'.heap.size w' w'') :=
    Lib.hid fun w' hw => isPlace_calls B x _ w' (by have := hw.size; omega) (hm.below hw) (hx.below (hw.mono hB))
  generalize plB x = res at *
  go_enter Try.func12, Try.ntmps12
  go_wp2_with fail
  refine (C.out _ (box1 _ _)).mono ?_; rintro e w1 ⟨rfl, b1⟩
  have bel1 := Lib.hid (up_tr (box1 _ _) b1)
  clear b1 C
  go_wp2
  go_ret
  exact ⟨rfl, bel1.out⟩

set_option maxRecDepth 100000 in
set_option maxHeartbeats 8000000 in
theorem treeParts_walk (t : PT) (pt : Option Addr) (nt qt : Nat) (op iv : Int) (nm sc : ByteArray) (pl : PP) (es : List PE) (ps : Int) (p0 : Option Addr) (n0 q0 : Nat) (p1 : Option Addr) (n1 q1 : Nat) (w : World) (hm : MaxOk w)
    (ht : t.In w.heap.size w (.slice pt nt qt)) (he : PE.In w.heap.size w (.mk op iv nm sc pl es ps) ⟨.slice p0 n0 q0, .slice p1 n1 q1⟩) :
    Calls Try.prog 3 #[.agg #[.int .u8 t.kind, .string t.name, .slice pt nt qt], .agg #[.int .u8 op, .int .i64 iv, .string nm, .string sc, .string pl.name, .slice p0 n0 q0, .slice p1 n1 q1, .int .i64 ps]] w fun r w' => r = .returned (.bool true) ∧ Below w.heap.size w w' := by
  have hpl : pl.In w.heap.size w (.slice p0 n0 q0) := he.2.1
  have G1 : Hid (∀ w', Below w.heap.size w w' → Calls Try.prog 5 #[.agg #[.int .u8 t.kind, .string t.name, .slice pt nt qt]] w' fun e w'' => e = .returned (.bool (decide (typeR t 20000 < 0))) ∧ Below w'.heap.size w' w'') :=
    Lib.hid fun w' h => greatT_calls w.heap.size t _ w' h.size (PT.In.below h ht)
  have G2 : Hid (∀ w', Below w.heap.size w w' → Calls Try.prog 6 #[.agg #[.int .u8 op, .int .i64 iv, .string nm, .string sc, .string pl.name, .slice p0 n0 q0, .slice p1 n1 q1, .int .i64 ps]] w' fun e w'' => e = .returned (.bool (decide (exprR (.mk op iv nm sc pl es ps) 20000 < 0))) ∧ Below w'.heap.size w' w'') :=
    Lib.hid fun w' h => greatE_calls w.heap.size _ _ _ _ _ _ _ _ _ _ _ _ _ w' h.size (PE.In.below h he)
  have T1 : Hid (∀ w', Below w.heap.size w w' → Calls Try.prog 7 #[.agg #[.int .u8 t.kind, .string t.name, .slice pt nt qt]] w' fun e w'' => e = .returned (.bool (rT 40 t)) ∧ Below w'.heap.size w' w'') :=
    Lib.hid fun w' h => topWholeT_calls w.heap.size t _ _ _ w' h.size (hm.below h) (PT.In.below h ht)
  have T2 : Hid (∀ w', Below w.heap.size w w' → Calls Try.prog 8 #[.agg #[.int .u8 t.kind, .string t.name, .slice pt nt qt], .int .i64 40] w' fun e w'' => e = .returned (.bool (rT 40 t)) ∧ Below w'.heap.size w' w'') :=
    Lib.hid fun w' h => refWT_calls 40 (by omega) w.heap.size t _ w' h.size (PT.In.below h ht)
  have T3 : Hid (∀ w', Below w.heap.size w w' → Calls Try.prog 9 #[.agg #[.int .u8 op, .int .i64 iv, .string nm, .string sc, .string pl.name, .slice p0 n0 q0, .slice p1 n1 q1, .int .i64 ps]] w' fun e w'' => e = .returned (.bool (!lentB (.mk op iv nm sc pl es ps) && rE 40 (.mk op iv nm sc pl es ps))) ∧ Below w'.heap.size w' w'') :=
    Lib.hid fun w' h => topWholeE_calls w.heap.size _ _ _ _ _ _ _ _ _ _ _ _ _ w' h.size (hm.below h) (PE.In.below h he)
  have T4 : Hid (∀ w', Below w.heap.size w w' → Calls Try.prog 10 #[.agg #[.int .u8 op, .int .i64 iv, .string nm, .string sc, .string pl.name, .slice p0 n0 q0, .slice p1 n1 q1, .int .i64 ps]] w' fun e w'' => e = .returned (.bool (lentB (.mk op iv nm sc pl es ps))) ∧ Below w'.heap.size w' w'') :=
    Lib.hid fun w' h => refLent_calls op iv nm sc pl es ps p0 n0 q0 p1 n1 q1 w'
  have T5 : Hid (∀ w', Below w.heap.size w w' → Calls Try.prog 11 #[.agg #[.int .u8 op, .int .i64 iv, .string nm, .string sc, .string pl.name, .slice p0 n0 q0, .slice p1 n1 q1, .int .i64 ps], .int .i64 40] w' fun e w'' => e = .returned (.bool (rE 40 (.mk op iv nm sc pl es ps))) ∧ Below w'.heap.size w' w'') :=
    Lib.hid fun w' h => refWE_calls 40 (by omega) w.heap.size (.mk op iv nm sc pl es ps) ⟨.slice p0 n0 q0, .slice p1 n1 q1⟩ w' h.size (PE.In.below h he)
  have T6 : Hid (∀ w', Below w.heap.size w w' → Calls Try.prog 12 #[.agg #[.string pl.name, .slice p0 n0 q0]] w' fun e w'' => e = .returned (.bool (plB pl)) ∧ Below w'.heap.size w' w'') :=
    Lib.hid fun w' h => topWholeP_calls w.heap.size pl _ _ _ w' h.size (hm.below h) (hpl.below h)
  have T7 : Hid (∀ w', Below w.heap.size w w' → Calls Try.prog 13 #[.agg #[.string pl.name, .slice p0 n0 q0]] w' fun e w'' => e = .returned (.bool (plB pl)) ∧ Below w'.heap.size w' w'') :=
    Lib.hid fun w' h => refPlace_calls w.heap.size pl _ w' h.size (hpl.below h)
  clear hm ht he hpl
  generalize decide (typeR t 20000 < 0) = x1 at *
  generalize decide (exprR (.mk op iv nm sc pl es ps) 20000 < 0) = x2 at *
  generalize rT 40 t = a at *
  generalize lentB (.mk op iv nm sc pl es ps) = l at *
  generalize rE 40 (.mk op iv nm sc pl es ps) = r at *
  generalize plB pl = p at *
  go_enter Try.func3, Try.ntmps3
  go_wp2_with fail
  refine (G1.out _ (box2 _ _ _)).mono ?_; rintro e w1 ⟨rfl, b1⟩
  have bel1 := Lib.hid (up_tr (box2 _ _ _) b1)
  have hc1 := old_cells b1
  cases x1
  · go_wp2_with fail
    refine (G2.out _ bel1.out).mono ?_; rintro e W0 ⟨rfl, b2⟩
    have bel2 := Lib.hid (up_tr bel1.out b2)
    have b2' := up_tr b1 b2
    have hc2 := old_cells b2'
    cases x2
    · have f0 : W0.cell? ⟨w.heap.size, 0, none⟩ = some (.int .u8 t.kind) := by go_simp
      have f1 : W0.cell? ⟨w.heap.size, 1, none⟩ = some (.string t.name) := by go_simp
      have f2 : W0.cell? ⟨w.heap.size, 2, none⟩ = some (.slice pt nt qt) := by go_simp
      have d0 : W0.cell? ⟨w.heap.size + 1, 0, none⟩ = some (.int .u8 op) := by go_simp
      have d1 : W0.cell? ⟨w.heap.size + 1, 1, none⟩ = some (.int .i64 iv) := by go_simp
      have d2 : W0.cell? ⟨w.heap.size + 1, 2, none⟩ = some (.string nm) := by go_simp
      have d3 : W0.cell? ⟨w.heap.size + 1, 3, none⟩ = some (.string sc) := by go_simp
      have d4 : W0.cell? ⟨w.heap.size + 1, 4, none⟩ = some (.string pl.name) := by go_simp
      have d5 : W0.cell? ⟨w.heap.size + 1, 5, none⟩ = some (.slice p0 n0 q0) := by go_simp
      have d6 : W0.cell? ⟨w.heap.size + 1, 6, none⟩ = some (.slice p1 n1 q1) := by go_simp
      have d7 : W0.cell? ⟨w.heap.size + 1, 7, none⟩ = some (.int .i64 ps) := by go_simp
      have z1 : w.heap.size + 1 < W0.heap.size := by have := b2'.size; simp at this; omega
      have z0 : w.heap.size < W0.heap.size := by omega
      have hF := Over.cells (W0 := W0)
      have K4 := Lib.hid (fun (n : Over W0) => (show Below w.heap.size w n.w from bel2.out.trans (n.h.mono (by omega))))
      have A1 := Lib.hid (fun (n : Over W0) => over_calls (T1.out _ (K4.out n)))
      have A2 := Lib.hid (fun (n : Over W0) => over_calls (T2.out _ (K4.out n)))
      have A3 := Lib.hid (fun (n : Over W0) => over_calls (T3.out _ (K4.out n)))
      have A4 := Lib.hid (fun (n : Over W0) => over_calls (T4.out _ (K4.out n)))
      have A5 := Lib.hid (fun (n : Over W0) => over_calls (T5.out _ (K4.out n)))
      have A6 := Lib.hid (fun (n : Over W0) => over_calls (T6.out _ (K4.out n)))
      have A7 := Lib.hid (fun (n : Over W0) => over_calls (T7.out _ (K4.out n)))
      clear b1 b2 b2' hc1 hc2 G1 G2 T1 T2 T3 T4 T5 T6 T7 bel1
      have haa : (a == a) = true := by simp
      have hpp : (p == p) = true := by simp
      have hrr : (r == r) = true := by simp
      go_wp2_with fail
      cases l
      · simp only [Bool.not_false, Bool.true_and] at A3
        refine wp_region_over (by kernel_rfl) (by kernel_rfl) ?_
        repeat (go_big_quiet_step ((first | (go_at_call 7; exact A1.out _) | (go_at_call 8; exact A2.out _) | (go_at_call 9; exact A3.out _) | (go_at_call 10; exact A4.out _) | (go_at_call 11; exact A5.out _) | (go_at_call 12; exact A6.out _) | (go_at_call 13; exact A7.out _))))
        refine wpQuiet_nil ?_
        rintro _ ⟨m, rfl⟩
        have HF := Lib.hid (K4.out m)
        go_wp2
        go_ret
        exact ⟨ret_bool (by simp), HF.out⟩
      · simp only [Bool.not_true, Bool.false_and] at A3
        refine wp_region_over (by kernel_rfl) (by kernel_rfl) ?_
        repeat (go_big_quiet_step ((first | (go_at_call 7; exact A1.out _) | (go_at_call 8; exact A2.out _) | (go_at_call 9; exact A3.out _) | (go_at_call 10; exact A4.out _) | (go_at_call 11; exact A5.out _) | (go_at_call 12; exact A6.out _) | (go_at_call 13; exact A7.out _))))
        refine wpQuiet_nil ?_
        rintro _ ⟨m, rfl⟩
        have HF := Lib.hid (K4.out m)
        go_wp2
        go_ret
        exact ⟨ret_bool (by simp), HF.out⟩
    · go_wp2_with fail
      go_ret
      exact ⟨rfl, bel2.out⟩
  · go_wp2_with fail
    go_ret
    exact ⟨rfl, bel1.out⟩
end Go.Proofs.Ytgpgambbmapicaa
