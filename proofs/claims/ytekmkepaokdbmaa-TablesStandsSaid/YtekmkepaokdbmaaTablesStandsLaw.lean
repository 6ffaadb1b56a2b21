/- TablesStands: the walk. -/
import Derived.Test.YtekmkepaokdbmaaTables2
import Derived.Test.YtekmkepaokdbmaaTreeRoomF
import Derived.Test.YtekmkepaokdbmaaOver
namespace Go.Proofs.Ytekmkepaokdbmaa
open Go.RowKit
set_option linter.unusedVariables false

theorem cellsAt_new (w : World) (cs : List Value) (T : TypeId) : CellsAt (w.alloc (.cells cs.toArray T)) w.heap.size 0 cs := fun i v h => by
  rw [Nat.zero_add, World.cell?_alloc_at (hn := rfl)]
  simpa using h
set_option maxHeartbeats 1000000 in
theorem topWholeT_calls (B : Nat) (t : PT) (p : Option Addr) (n q : Nat) (w : World) (hB : B ≤ w.heap.size) (hm : MaxOk w) (ht : t.In B w (.slice p n q)) :
    Calls Try.prog 33 #[.agg #[.int .u8 t.kind, .string t.name, .slice p n q]] w fun e w' => e = .returned (.bool (rT 40 t)) ∧ Below w.heap.size w w' := by
  have C : Hid (Calls Try.prog 59 #[.iface 99 (.agg #[.pointer (some ⟨w.heap.size, 0, none⟩), .int .u8 0]), .int .i64 40] (w.alloc (.cells #[.int .u8 t.kind, .string t.name, .slice p n q] 33))
      fun e w' => e = .returned (.bool (rT 40 t)) ∧ Below (w.alloc (.cells #[.int .u8 t.kind, .string t.name, .slice p n q] 33)).heap.size (w.alloc (.cells #[.int .u8 t.kind, .string t.name, .slice p n q] 33)) w') := by
    have h := wholeT_calls 40 (by omega) B t 0 w.heap.size 0 (.slice p n q) (w.alloc (.cells #[.int .u8 t.kind, .string t.name, .slice p n q] 33)) (by omega) (by simp; omega) (hm.alloc _) (by simp)
      (cellsAt_new w _ _) (PT.In.below ((box1 w _).mono hB) ht)
    rw [wholeT_eq] at h
    exact Lib.hid h
  generalize rT 40 t = res at *
  go_enter Try.func33, Try.ntmps33
  go_wp2_with fail
  refine C.out.mono ?_; rintro e w1 ⟨rfl, b1⟩
  have bel1 := Lib.hid (up_tr (box1 _ _) b1)
  clear b1 C
  go_wp2
  go_ret
  exact ⟨rfl, bel1.out⟩

set_option maxHeartbeats 1000000 in
theorem topStands_calls (B : Nat) (t : PT) (p : Option Addr) (n q : Nat) (w : World) (hB : B ≤ w.heap.size) (hm : MaxOk w) (ht : t.In B w (.slice p n q)) :
    Calls Try.prog 14 #[.agg #[.int .u8 t.kind, .string t.name, .slice p n q]] w fun e w' => e = .returned (.bool (rT 40 t && stB t)) ∧ Below w.heap.size w w' := by
  have C : Hid (∀ w', Below w.heap.size w w' → Calls Try.prog 33 #[.agg #[.int .u8 t.kind, .string t.name, .slice p n q]] w' fun e w'' => e = .returned (.bool (rT 40 t)) ∧ Below w'.heap.size w' w'') :=
    Lib.hid fun w' hw => topWholeT_calls B t _ _ _ w' (by have := hw.size; omega) (hm.below hw) (PT.In.below (hw.mono hB) ht)
  have D : Hid (∀ w', Below w.heap.size w w' → Calls Try.prog 34 #[.agg #[.int .u8 t.kind, .string t.name, .slice p n q]] w' fun e w'' => e = .returned (.bool (stB t)) ∧ Below w'.heap.size w' w'') :=
    Lib.hid fun w' hw => st_calls t B _ w' (by have := hw.size; omega) (PT.In.below (hw.mono hB) ht)
  generalize rT 40 t = a at *
  generalize stB t = b at *
  clear hm ht
  go_enter Try.func14, Try.ntmps14
  go_wp2_with fail
  refine (C.out _ (box1 _ _)).mono ?_; rintro e w1 ⟨rfl, b1⟩
  have bel1 := Lib.hid (up_tr (box1 _ _) b1)
  have hold := old_cells b1
  clear b1 C
  cases a
  · go_wp2_with fail
    go_ret
    exact ⟨rfl, bel1.out⟩
  · go_wp2_with fail
    refine (D.out _ bel1.out).mono ?_; rintro e w2 ⟨rfl, b2⟩
    have bel2 := Lib.hid (up_tr bel1.out b2)
    clear b2 D
    go_wp2_with fail
    go_ret
    exact ⟨ret_bool (by simp), bel2.out⟩

set_option maxRecDepth 100000 in
set_option maxHeartbeats 4000000 in
theorem tablesStands_walk (t : PT) (pt : Option Addr) (nt qt : Nat) (w : World) (hm : MaxOk w) (ht : t.In w.heap.size w (.slice pt nt qt)) :
    Calls Try.prog 5 #[.agg #[.int .u8 t.kind, .string t.name, .slice pt nt qt]] w fun r w' => r = .returned (.bool true) ∧ Below w.heap.size w w' := by
  have G1 : Hid (∀ w', Below w.heap.size w w' → Calls Try.prog 13 #[.agg #[.int .u8 t.kind, .string t.name, .slice pt nt qt]] w' fun e w'' => e = .returned (.bool (decide (typeR t 20000 < 0))) ∧ Below w'.heap.size w' w'') :=
    Lib.hid fun w' h => greatT_calls w.heap.size t _ w' h.size (PT.In.below h ht)
  have T1 : Hid (∀ w', Below w.heap.size w w' → Calls Try.prog 14 #[.agg #[.int .u8 t.kind, .string t.name, .slice pt nt qt]] w' fun e w'' => e = .returned (.bool (rT 40 t && stB t)) ∧ Below w'.heap.size w' w'') :=
    Lib.hid fun w' h => topStands_calls w.heap.size t _ _ _ w' h.size (hm.below h) (PT.In.below h ht)
  have T2 : Hid (∀ w', Below w.heap.size w w' → Calls Try.prog 15 #[.agg #[.int .u8 t.kind, .string t.name, .slice pt nt qt], .int .i64 40] w' fun e w'' => e = .returned (.bool (rT 40 t)) ∧ Below w'.heap.size w' w'') :=
    Lib.hid fun w' h => refWT_calls 40 (by omega) w.heap.size t _ w' h.size (PT.In.below h ht)
  have T3 : Hid (∀ w', Below w.heap.size w w' → Calls Try.prog 16 #[.agg #[.int .u8 t.kind, .string t.name, .slice pt nt qt]] w' fun e w'' => e = .returned (.bool (stB t)) ∧ Below w'.heap.size w' w'') :=
    Lib.hid fun w' h => refSt_calls t w.heap.size _ w' h.size (PT.In.below h ht)
  clear hm ht
  generalize decide (typeR t 20000 < 0) = x1 at *
  generalize rT 40 t = a at *
  generalize stB t = b at *
  go_enter Try.func5, Try.ntmps5
  have z0 : ∀ o, w.heap.size < (w.alloc o).heap.size := fun o => by simp
  go_wp2_with fail
  obtain ⟨W0, hW⟩ : ∃ W, W = w.alloc (.cells #[.int .u8 t.kind, .string t.name, .slice pt nt qt] 33) := ⟨_, rfl⟩
  have f0 : W0.cell? ⟨w.heap.size, 0, none⟩ = some (.int .u8 t.kind) := by rw [hW]; go_simp
  have f1 : W0.cell? ⟨w.heap.size, 1, none⟩ = some (.string t.name) := by rw [hW]; go_simp
  have f2 : W0.cell? ⟨w.heap.size, 2, none⟩ = some (.slice pt nt qt) := by rw [hW]; go_simp
  have z1 : w.heap.size < W0.heap.size := by rw [hW]; simp
  have bel0 : Below w.heap.size w W0 := by rw [hW]; exact box1 _ _
  rw [← hW]
  have hF := Over.cells (W0 := W0)
  have K4 := Lib.hid (fun (n : Over W0) => (show Below w.heap.size w n.w from bel0.trans (n.h.mono (by omega))))
  have A1 := Lib.hid (fun (n : Over W0) => over_calls (G1.out _ (K4.out n)))
  have A2 := Lib.hid (fun (n : Over W0) => over_calls (T1.out _ (K4.out n)))
  have A3 := Lib.hid (fun (n : Over W0) => over_calls (T2.out _ (K4.out n)))
  have A4 := Lib.hid (fun (n : Over W0) => over_calls (T3.out _ (K4.out n)))
  clear G1 T1 T2 T3 hW bel0
  have hbb : (b == b) = true := by simp
  cases x1 <;> cases a
  all_goals simp only [Bool.true_and, Bool.false_and] at A2
  all_goals refine wp_region_over (by kernel_rfl) (by kernel_rfl) ?_
  all_goals repeat (go_big_quiet_step ((first | (go_at_call 13; exact A1.out _) | (go_at_call 14; exact A2.out _) | (go_at_call 15; exact A3.out _) | (go_at_call 16; exact A4.out _))))
  all_goals refine wpQuiet_nil ?_
  all_goals rintro _ ⟨m, rfl⟩
  all_goals have HF := Lib.hid (K4.out m)
  all_goals go_wp2
  all_goals go_ret
  all_goals exact ⟨ret_bool (by simp), HF.out⟩
end Go.Proofs.Ytekmkepaokdbmaa
