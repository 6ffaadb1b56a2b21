/- TypesKinds: the walk. -/
import Derived.Test.YtikcjjbnbjjmcaaTypes1
import Derived.Test.YtikcjjbnbjjmcaaOver
namespace Go.Proofs.Ytikcjjbnbjjmcaa
open Go.RowKit
set_option linter.unusedVariables false

set_option maxRecDepth 100000 in
set_option maxHeartbeats 4000000 in
theorem typesKinds_walk (t u : PT) (pt : Option Addr) (nt qt : Nat) (pu : Option Addr) (nu qu : Nat) (w : World) (ht : t.In w.heap.size w (.slice pt nt qt)) (hu : u.In w.heap.size w (.slice pu nu qu)) :
    Calls Try.prog 3 #[.agg #[.int .u8 t.kind, .string t.name, .slice pt nt qt], .agg #[.int .u8 u.kind, .string u.name, .slice pu nu qu]] w fun r w' => r = .returned (.bool true) ∧ Below w.heap.size w w' := by
  have G1 : Hid (∀ w', Below w.heap.size w w' → Calls Try.prog 4 #[.agg #[.int .u8 t.kind, .string t.name, .slice pt nt qt]] w' fun e w'' => e = .returned (.bool (decide (typeR t 20000 < 0))) ∧ Below w'.heap.size w' w'') :=
    Lib.hid fun w' h => greatT_calls w.heap.size t _ w' h.size (PT.In.below h ht)
  have G2 : Hid (∀ w', Below w.heap.size w w' → Calls Try.prog 4 #[.agg #[.int .u8 u.kind, .string u.name, .slice pu nu qu]] w' fun e w'' => e = .returned (.bool (decide (typeR u 20000 < 0))) ∧ Below w'.heap.size w' w'') :=
    Lib.hid fun w' h => greatT_calls w.heap.size u _ w' h.size (PT.In.below h hu)
  have T1 : Hid (∀ w', Below w.heap.size w w' → Calls Try.prog 5 #[.agg #[.int .u8 t.kind, .string t.name, .slice pt nt qt]] w' fun e w'' => e = .returned (.bool (ownB t)) ∧ Below w'.heap.size w' w'') :=
    Lib.hid fun w' h => owned_calls t w.heap.size _ _ _ w' h.size (PT.In.below h ht)
  have T2 : Hid (∀ w', Below w.heap.size w w' → Calls Try.prog 6 #[.agg #[.int .u8 t.kind, .string t.name, .slice pt nt qt]] w' fun e w'' => e = .returned (.bool (ownB t)) ∧ Below w'.heap.size w' w'') :=
    Lib.hid fun w' h => refOwn_calls t w.heap.size _ w' h.size (PT.In.below h ht)
  have T3 : Hid (∀ w', Calls Try.prog 7 #[.agg #[.int .u8 t.kind, .string t.name, .slice pt nt qt]] w' fun e w'' => e = .returned (.bool (cpB t.kind)) ∧ Below w'.heap.size w' w'') :=
    Lib.hid fun w' => copied_calls t.kind t.name _ w'
  have T4 : Hid (∀ w', Calls Try.prog 8 #[.agg #[.int .u8 t.kind, .string t.name, .slice pt nt qt]] w' fun e w'' => e = .returned (.bool (cpB t.kind)) ∧ Below w'.heap.size w' w'') :=
    Lib.hid fun w' => refCopied_calls t.kind t.name _ w'
  have T5 : Hid (∀ w', Below w.heap.size w w' → Calls Try.prog 9 #[.agg #[.int .u8 t.kind, .string t.name, .slice pt nt qt], .agg #[.int .u8 u.kind, .string u.name, .slice pu nu qu]] w' fun e w'' => e = .returned (.bool (sameT t u)) ∧ Below w'.heap.size w' w'') :=
    Lib.hid fun w' h => typesSame_calls w.heap.size t u _ _ _ _ _ _ w' h.size (PT.In.below h ht) (PT.In.below h hu)
  have T6 : Hid (∀ w', Below w.heap.size w w' → Calls Try.prog 10 #[.agg #[.int .u8 t.kind, .string t.name, .slice pt nt qt], .agg #[.int .u8 u.kind, .string u.name, .slice pu nu qu]] w' fun e w'' => e = .returned (.bool (sameT t u)) ∧ Below w'.heap.size w' w'') :=
    Lib.hid fun w' h => refT_calls w.heap.size t u _ _ w' h.size (PT.In.below h ht) (PT.In.below h hu)
  clear ht hu
  generalize decide (typeR t 20000 < 0) = x1 at *
  generalize decide (typeR u 20000 < 0) = x2 at *
  generalize ownB t = a at *
  generalize cpB t.kind = b at *
  generalize sameT t u = c at *
  generalize t.kind = tk at *
  generalize t.name = tn at *
  generalize u.kind = uk at *
  generalize u.name = un at *
  go_enter Try.func3, Try.ntmps3
  go_wp2_with fail
  obtain ⟨W0, hW⟩ : ∃ W, W = (w.alloc (.cells #[.int .u8 tk, .string tn, .slice pt nt qt] 24)).alloc (.cells #[.int .u8 uk, .string un, .slice pu nu qu] 24) := ⟨_, rfl⟩
  have f0 : W0.cell? ⟨w.heap.size, 0, none⟩ = some (.int .u8 tk) := by rw [hW]; go_simp
  have f1 : W0.cell? ⟨w.heap.size, 1, none⟩ = some (.string tn) := by rw [hW]; go_simp
  have f2 : W0.cell? ⟨w.heap.size, 2, none⟩ = some (.slice pt nt qt) := by rw [hW]; go_simp
  have g0 : W0.cell? ⟨w.heap.size + 1, 0, none⟩ = some (.int .u8 uk) := by rw [hW]; go_simp
  have g1 : W0.cell? ⟨w.heap.size + 1, 1, none⟩ = some (.string un) := by rw [hW]; go_simp
  have g2 : W0.cell? ⟨w.heap.size + 1, 2, none⟩ = some (.slice pu nu qu) := by rw [hW]; go_simp
  have z1 : w.heap.size < W0.heap.size := by rw [hW]; simp; omega
  have z2 : w.heap.size + 1 < W0.heap.size := by rw [hW]; simp
  have bel0 : Below w.heap.size w W0 := by rw [hW]; exact box2 _ _ _
  rw [← hW]
  clear hW
  refine (G1.out _ bel0).mono ?_; rintro e w1 ⟨rfl, b1⟩
  have o1 := old_cells b1
  have f0 := (o1 _ _ z1).trans f0
  have f1 := (o1 _ _ z1).trans f1
  have f2 := (o1 _ _ z1).trans f2
  have g0 := (o1 _ _ z2).trans g0
  have g1 := (o1 _ _ z2).trans g1
  have g2 := (o1 _ _ z2).trans g2
  have bel1 := Lib.hid (bel0.trans (b1.mono (by omega)))
  have y1 : w.heap.size < w1.heap.size := by have := b1.size; omega
  have y2 : w.heap.size + 1 < w1.heap.size := by have := b1.size; omega
  clear o1 b1 G1 z1 z2 bel0
  cases x1
  case true =>
    go_wp2
    go_ret
    exact ⟨rfl, bel1.out⟩
  go_wp2_with fail
  refine (G2.out _ bel1.out).mono ?_; rintro e W0 ⟨rfl, b1⟩
  have o1 := old_cells b1
  have f0 := (o1 _ _ y1).trans f0
  have f1 := (o1 _ _ y1).trans f1
  have f2 := (o1 _ _ y1).trans f2
  have g0 := (o1 _ _ y2).trans g0
  have g1 := (o1 _ _ y2).trans g1
  have g2 := (o1 _ _ y2).trans g2
  have bel0 := bel1.out.trans (b1.mono (by omega))
  have z1 : w.heap.size < W0.heap.size := by have := b1.size; omega
  have z2 : w.heap.size + 1 < W0.heap.size := by have := b1.size; omega
  clear o1 b1 G2 y1 y2 bel1
  have hF := Over.cells (W0 := W0)
  have K4 := Lib.hid (fun (n : Over W0) => (show Below w.heap.size w n.w from bel0.trans (n.h.mono (by omega))))
  have A3 := Lib.hid (fun (n : Over W0) => over_calls (T1.out _ (K4.out n)))
  have A4 := Lib.hid (fun (n : Over W0) => over_calls (T2.out _ (K4.out n)))
  have A5 := Lib.hid (fun (n : Over W0) => over_calls (T3.out n.w))
  have A6 := Lib.hid (fun (n : Over W0) => over_calls (T4.out n.w))
  have A7 := Lib.hid (fun (n : Over W0) => over_calls (T5.out _ (K4.out n)))
  have A8 := Lib.hid (fun (n : Over W0) => over_calls (T6.out _ (K4.out n)))
  have B0 := Lib.hid bel0
  clear T1 T2 T3 T4 T5 T6 bel0
  have haa : (a == a) = true := by simp
  have hbb : (b == b) = true := by simp
  have hcc : (c == c) = true := by simp
  cases x2
  case true =>
    go_wp2
    go_ret
    exact ⟨rfl, B0.out⟩
  go_wp2
  refine wp_region_over (by kernel_rfl) (by kernel_rfl) ?_
  repeat (go_big_quiet_step ((first | (go_at_call 5; exact A3.out _) | (go_at_call 6; exact A4.out _) | (go_at_call 7; exact A5.out _) | (go_at_call 8; exact A6.out _) | (go_at_call 9; exact A7.out _) | (go_at_call 10; exact A8.out _))))
  refine wpQuiet_nil ?_
  rintro _ ⟨m, rfl⟩
  have HF := Lib.hid (K4.out m)
  go_wp2
  go_ret
  exact ⟨ret_bool (by simp), HF.out⟩
end Go.Proofs.Ytikcjjbnbjjmcaa
