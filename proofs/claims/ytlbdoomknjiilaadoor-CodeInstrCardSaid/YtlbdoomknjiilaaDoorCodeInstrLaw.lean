/- CodeInstr: whether an instruction may be is as the document says. -/
import Derived.Test.YtlbdoomknjiilaaDoorCodeLarge
import Derived.Test.YtlbdoomknjiilaaDoorCodeAwake
import Derived.Test.YtlbdoomknjiilaaDoorCodeDoc
namespace Go.Proofs.YtlbdoomknjiilaaDoor
open Go.RowKit
set_option linter.unusedVariables false

set_option maxRecDepth 100000 in
set_option maxHeartbeats 4000000 in
theorem codeInstr0_walk (a1 a2 a4 a5 a6 : Option Addr) (n1 n2 n4 n5 n6 c1 c2 c4 c5 c6 : Nat) (mn fn op xa xb xc xi r : Int) (nm : ByteArray) (w : World)
    (K0 : Hid (∀ W, Hid (Below w.heap.size w W) → Calls Tryd.prog 10 #[.agg #[.slice a1 n1 c1, .int .i64 mn, .slice a2 n2 c2]] W fun e w' => ∃ r, e = .returned (.bool r) ∧ (r = false → n1 ≤ 30) ∧ Below W.heap.size W w'))
    (KL : Hid (∀ W, Hid (Below w.heap.size w W) → Calls Tryd.prog 14 #[.agg #[.int .u8 op, .int .i64 xa, .int .i64 xb, .int .i64 xc, .slice a4 n4 c4, .slice a5 n5 c5, .int .i64 xi, .string nm, .slice a6 n6 c6]] W fun e w' => ∃ r, e = .returned (.bool r) ∧ (r = false → n4 ≤ 60) ∧ Below W.heap.size W w'))
    (K1 : Hid (∀ W, Hid (Below w.heap.size w W) → Calls Tryd.prog 15 #[.agg #[.slice a1 n1 c1, .int .i64 mn, .slice a2 n2 c2], .int .i64 fn, .agg #[.int .u8 op, .int .i64 xa, .int .i64 xb, .int .i64 xc, .slice a4 n4 c4, .slice a5 n5 c5, .int .i64 xi, .string nm, .slice a6 n6 c6]] W fun e w' => e = .returned (.int .i64 r) ∧ Below W.heap.size W w'))
    (K2 : Hid (∀ W, Hid (Below w.heap.size w W) → Calls Tryd.prog 16 #[.agg #[.slice a1 n1 c1, .int .i64 mn, .slice a2 n2 c2], .int .i64 fn, .agg #[.int .u8 op, .int .i64 xa, .int .i64 xb, .int .i64 xc, .slice a4 n4 c4, .slice a5 n5 c5, .int .i64 xi, .string nm, .slice a6 n6 c6]] W fun e w' => e = .returned (.int .i64 r) ∧ Below W.heap.size W w'))
    (K3 : Hid (∀ W, Hid (Below w.heap.size w W) → Calls Tryd.prog 13 #[] W fun e w' => e = .returned (.bool true) ∧ Below W.heap.size W w')) :
    Calls Tryd.prog 4 #[.agg #[.slice a1 n1 c1, .int .i64 mn, .slice a2 n2 c2], .int .i64 fn, .agg #[.int .u8 op, .int .i64 xa, .int .i64 xb, .int .i64 xc, .slice a4 n4 c4, .slice a5 n5 c5, .int .i64 xi, .string nm, .slice a6 n6 c6]] w fun e w' => e = .returned (.bool true) ∧ Below w.heap.size w w' := by
  obtain ⟨W0, hW⟩ : ∃ W, W = (w.alloc (.cells #[.slice a1 n1 c1, .int .i64 mn, .slice a2 n2 c2] 25)).alloc (.cells #[.int .u8 op, .int .i64 xa, .int .i64 xb, .int .i64 xc, .slice a4 n4 c4, .slice a5 n5 c5, .int .i64 xi, .string nm, .slice a6 n6 c6] 34) := ⟨_, rfl⟩
  have mB : Hid (Below w.heap.size w W0) := by rw [hW]; exact Lib.hid (box2 w _ _)
  have f0 : W0.cell? ⟨w.heap.size, 0, none⟩ = some (.slice a1 n1 c1) := by rw [hW]; go_simp
  have f1 : W0.cell? ⟨w.heap.size, 1, none⟩ = some (.int .i64 mn) := by rw [hW]; go_simp
  have f2 : W0.cell? ⟨w.heap.size, 2, none⟩ = some (.slice a2 n2 c2) := by rw [hW]; go_simp
  have i0 : W0.cell? ⟨w.heap.size + 1, 0, none⟩ = some (.int .u8 op) := by rw [hW]; go_simp
  have i1 : W0.cell? ⟨w.heap.size + 1, 1, none⟩ = some (.int .i64 xa) := by rw [hW]; go_simp
  have i2 : W0.cell? ⟨w.heap.size + 1, 2, none⟩ = some (.int .i64 xb) := by rw [hW]; go_simp
  have i3 : W0.cell? ⟨w.heap.size + 1, 3, none⟩ = some (.int .i64 xc) := by rw [hW]; go_simp
  have i4 : W0.cell? ⟨w.heap.size + 1, 4, none⟩ = some (.slice a4 n4 c4) := by rw [hW]; go_simp
  have i5 : W0.cell? ⟨w.heap.size + 1, 5, none⟩ = some (.slice a5 n5 c5) := by rw [hW]; go_simp
  have i6 : W0.cell? ⟨w.heap.size + 1, 6, none⟩ = some (.int .i64 xi) := by rw [hW]; go_simp
  have i7 : W0.cell? ⟨w.heap.size + 1, 7, none⟩ = some (.string nm) := by rw [hW]; go_simp
  have i8 : W0.cell? ⟨w.heap.size + 1, 8, none⟩ = some (.slice a6 n6 c6) := by rw [hW]; go_simp
  have hr : (r == r) = true := by simp
  go_enter Tryd.func4, Tryd.ntmps4
  go_upto_region 1 with (fail)
  rw [← hW]
  clear hW
  go_wp2_with fail
  (with_reducible refine (K0.out _ mB).mono ?_)
  rintro e w1 ⟨q, rfl, -, b1⟩
  have H1 := hid_upC mB b1
  have f0 := cell_over f0 b1
  have f1 := cell_over f1 b1
  have f2 := cell_over f2 b1
  have i0 := cell_over i0 b1
  have i1 := cell_over i1 b1
  have i2 := cell_over i2 b1
  have i3 := cell_over i3 b1
  have i4 := cell_over i4 b1
  have i5 := cell_over i5 b1
  have i6 := cell_over i6 b1
  have i7 := cell_over i7 b1
  have i8 := cell_over i8 b1
  clear b1 mB K0
  cases q with
  | true =>
    go_wp2_with fail
    go_ret
    exact ⟨rfl, H1.out⟩
  | false =>
    go_wp2_with fail
    (with_reducible refine (KL.out _ H1).mono ?_)
    rintro e w3 ⟨q, rfl, -, b3⟩
    have H3 := hid_upC H1 b3
    have f0 := cell_over f0 b3
    have f1 := cell_over f1 b3
    have f2 := cell_over f2 b3
    have i0 := cell_over i0 b3
    have i1 := cell_over i1 b3
    have i2 := cell_over i2 b3
    have i3 := cell_over i3 b3
    have i4 := cell_over i4 b3
    have i5 := cell_over i5 b3
    have i6 := cell_over i6 b3
    have i7 := cell_over i7 b3
    have i8 := cell_over i8 b3
    clear b3 H1 KL
    cases q with
    | true =>
      go_wp2_with fail
      go_ret
      exact ⟨rfl, H3.out⟩
    | false =>
      go_wp2_with fail
      have of0 := fun m : Over w3 => cell_over f0 m.h
      have of1 := fun m : Over w3 => cell_over f1 m.h
      have of2 := fun m : Over w3 => cell_over f2 m.h
      have oi0 := fun m : Over w3 => cell_over i0 m.h
      have oi1 := fun m : Over w3 => cell_over i1 m.h
      have oi2 := fun m : Over w3 => cell_over i2 m.h
      have oi3 := fun m : Over w3 => cell_over i3 m.h
      have oi4 := fun m : Over w3 => cell_over i4 m.h
      have oi5 := fun m : Over w3 => cell_over i5 m.h
      have oi6 := fun m : Over w3 => cell_over i6 m.h
      have oi7 := fun m : Over w3 => cell_over i7 m.h
      have oi8 := fun m : Over w3 => cell_over i8 m.h
      have A1 := Lib.hid fun m : Over w3 => over_calls (n := m) (K1.out m.w (Lib.hid (H3.out.trans (m.h.mono H3.out.size))))
      have A2 := Lib.hid fun m : Over w3 => over_calls (n := m) (K2.out m.w (Lib.hid (H3.out.trans (m.h.mono H3.out.size))))
      have A3 := Lib.hid fun m : Over w3 => over_calls (n := m) (K3.out m.w (Lib.hid (H3.out.trans (m.h.mono H3.out.size))))
      refine wp_region_over (by kernel_rfl) (by kernel_rfl) ?_
      repeat (go_big_quiet_step ((first | (go_at_call 15; with_reducible exact A1.out _) | (go_at_call 16; with_reducible exact A2.out _) | (go_at_call 13; with_reducible exact A3.out _))))
      refine wpQuiet_nil ?_
      rintro _ ⟨m, rfl⟩
      have HF := hid_upC H3 m.h
      generalize m.w = w2 at *
      clear A1 A2 A3
      go_wp2_with fail
      go_ret
      exact ⟨rfl, HF.out⟩
theorem codeInstr_walk (w : World) (u : UU) (vu : VU) (hu : u.In w.heap.size w vu) (fn : Int) (hfn : -9223372036854775808 ≤ fn ∧ fn ≤ 9223372036854775807) (x : JJ) (v : VJ) (hx : x.In w.heap.size w v) (hT : RTab w.heap.size w) :
    Calls Tryd.prog 4 #[u.val vu, .int .i64 fn, x.val v] w fun e w' => e = .returned (.bool true) ∧ Below w.heap.size w w' := by
  have K0 := fun W (h : Hid (Below w.heap.size w W)) => large_calls w.heap.size u vu W h.out.size (hu.below h.out)
  have KL := fun W (h : Hid (Below w.heap.size w W)) => long_calls17 w.heap.size x v W h.out.size (hx.below h.out)
  have K1 := fun W (h : Hid (Below w.heap.size w W)) => instr_calls w.heap.size u vu fn x v W h.out.size (hu.below h.out) (hx.below h.out) (hT.up h.out)
  have K2 := fun W (h : Hid (Below w.heap.size w W)) => refInstr_calls w.heap.size u vu fn x v W h.out.size (hu.below h.out) (hx.below h.out)
  have K3 := fun W (h : Hid (Below w.heap.size w W)) => awake_calls W (hT.up h.out)
  obtain ⟨a1, c1, a2, c2, rfl⟩ := hu.shape
  obtain ⟨a4, c4, a5, c5, a6, c6, rfl⟩ := hx.shape
  exact codeInstr0_walk a1 a2 a4 a5 a6 _ _ _ _ _ c1 c2 c4 c5 c6 _ _ _ _ _ _ _ _ _ w (Lib.hid K0) (Lib.hid KL) (Lib.hid K1) (Lib.hid K2) (Lib.hid K3)
end Go.Proofs.YtlbdoomknjiilaaDoor
