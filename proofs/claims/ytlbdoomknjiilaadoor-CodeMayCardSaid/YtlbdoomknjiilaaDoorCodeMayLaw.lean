/- CodeMay: whether a unit may be is as the document says. -/
import Derived.Test.YtlbdoomknjiilaaDoorCodeLarge
import Derived.Test.YtlbdoomknjiilaaDoorCodeAwake
import Derived.Test.YtlbdoomknjiilaaDoorCodeRefM
namespace Go.Proofs.YtlbdoomknjiilaaDoor
open Go.RowKit
set_option linter.unusedVariables false

set_option maxRecDepth 100000 in
set_option maxHeartbeats 4000000 in
theorem codeMay0_walk (a1 a2 : Option Addr) (n1 n2 c1 c2 : Nat) (mn r : Int) (w : World)
    (K0 : Hid (∀ W, Hid (Below w.heap.size w W) → Calls Tryd.prog 10 #[.agg #[.slice a1 n1 c1, .int .i64 mn, .slice a2 n2 c2]] W fun e w' => ∃ r, e = .returned (.bool r) ∧ (r = false → n1 ≤ 30) ∧ Below W.heap.size W w'))
    (K1 : Hid (∀ W, Hid (Below w.heap.size w W) → Calls Tryd.prog 11 #[.agg #[.slice a1 n1 c1, .int .i64 mn, .slice a2 n2 c2]] W fun e w' => e = .returned (.int .i64 r) ∧ Below W.heap.size W w'))
    (K2 : Hid (∀ W, Hid (Below w.heap.size w W) → Calls Tryd.prog 12 #[.agg #[.slice a1 n1 c1, .int .i64 mn, .slice a2 n2 c2]] W fun e w' => e = .returned (.int .i64 r) ∧ Below W.heap.size W w'))
    (K3 : Hid (∀ W, Hid (Below w.heap.size w W) → Calls Tryd.prog 13 #[] W fun e w' => e = .returned (.bool true) ∧ Below W.heap.size W w')) :
    Calls Tryd.prog 3 #[.agg #[.slice a1 n1 c1, .int .i64 mn, .slice a2 n2 c2]] w fun e w' => e = .returned (.bool true) ∧ Below w.heap.size w w' := by
  have mB := Lib.hid (box1 w (.cells #[.slice a1 n1 c1, .int .i64 mn, .slice a2 n2 c2] 25))
  have z0 : w.heap.size < (w.alloc (.cells #[.slice a1 n1 c1, .int .i64 mn, .slice a2 n2 c2] 25)).heap.size := by simp
  have hr : (r == r) = true := by simp
  go_enter Tryd.func3, Tryd.ntmps3
  go_wp2_with fail
  (with_reducible refine (K0.out _ mB).mono ?_)
  rintro e w1 ⟨q, rfl, -, b1⟩
  have H1 := hid_upC mB b1
  have f0 := (b1.cell (p := ⟨w.heap.size, 0, none⟩) z0).trans (show _ = some (Value.slice a1 n1 c1) by go_simp)
  have f1 := (b1.cell (p := ⟨w.heap.size, 1, none⟩) z0).trans (show _ = some (Value.int .i64 mn) by go_simp)
  have f2 := (b1.cell (p := ⟨w.heap.size, 2, none⟩) z0).trans (show _ = some (Value.slice a2 n2 c2) by go_simp)
  clear b1 mB z0 K0
  cases q with
  | true =>
    go_wp2_with fail
    go_ret
    exact ⟨rfl, H1.out⟩
  | false =>
    go_wp2_with fail
    have o0 := fun m : Over w1 => cell_over f0 m.h
    have o1 := fun m : Over w1 => cell_over f1 m.h
    have o2 := fun m : Over w1 => cell_over f2 m.h
    have A1 := Lib.hid fun m : Over w1 => over_calls (n := m) (K1.out m.w (Lib.hid (H1.out.trans (m.h.mono H1.out.size))))
    have A2 := Lib.hid fun m : Over w1 => over_calls (n := m) (K2.out m.w (Lib.hid (H1.out.trans (m.h.mono H1.out.size))))
    have A3 := Lib.hid fun m : Over w1 => over_calls (n := m) (K3.out m.w (Lib.hid (H1.out.trans (m.h.mono H1.out.size))))
    clear f0 f1 f2
    refine wp_region_over (by kernel_rfl) (by kernel_rfl) ?_
    repeat (go_big_quiet_step ((first | (go_at_call 11; with_reducible exact A1.out _) | (go_at_call 12; with_reducible exact A2.out _) | (go_at_call 13; with_reducible exact A3.out _))))
    refine wpQuiet_nil ?_
    rintro _ ⟨m, rfl⟩
    have HF := hid_upC H1 m.h
    generalize m.w = w2 at *
    clear o0 o1 o2 A1 A2 A3
    go_wp2_with fail
    go_ret
    exact ⟨rfl, HF.out⟩
theorem codeMay_walk (w : World) (u : UU) (vu : VU) (hu : u.In w.heap.size w vu) (hT : RTab w.heap.size w) :
    Calls Tryd.prog 3 #[u.val vu] w fun e w' => e = .returned (.bool true) ∧ Below w.heap.size w w' := by
  have K0 := fun W (h : Hid (Below w.heap.size w W)) => large_calls w.heap.size u vu W h.out.size (hu.below h.out)
  have K1 := fun W (h : Hid (Below w.heap.size w W)) => may_calls w.heap.size u vu W h.out.size (hu.below h.out) (hT.up h.out)
  have K2 := fun W (h : Hid (Below w.heap.size w W)) => refMay_calls w.heap.size u vu W h.out.size (hu.below h.out)
  have K3 := fun W (h : Hid (Below w.heap.size w W)) => awake_calls W (hT.up h.out)
  obtain ⟨a1, c1, a2, c2, rfl⟩ := hu.shape
  exact codeMay0_walk a1 a2 _ _ c1 c2 _ _ w (Lib.hid K0) (Lib.hid K1) (Lib.hid K2) (Lib.hid K3)
end Go.Proofs.YtlbdoomknjiilaaDoor
