/- CodeOthers: a field that an Op has not may not be set (made by gen_codeothers.py). -/
import Derived.Test.YtlbdoomknjiilaaDoorCodeLarge
import Derived.Test.YtlbdoomknjiilaaDoorCodeAwake
namespace Go.Proofs.YtlbdoomknjiilaaDoor
open Go.RowKit
set_option linter.unusedVariables false

theorem rows_i : ∀ k : Nat, k < 35 → ((codeRows[k]?).getD noRow).i ≠ 0 → k = 3 ∨ k = 27 := by decide +kernel
theorem rows_s : ∀ k : Nat, k < 35 → ((codeRows[k]?).getD noRow).s = true → k = 16 := by decide +kernel
theorem rowR_i {op : Int} (h : 0 ≤ op) (h3 : op ≠ 3) (h27 : op ≠ 27) : (rowR op).i = 0 := by
  unfold rowR
  by_cases hk : op.toNat < 35
  · by_cases h0 : ((codeRows[op.toNat]?).getD noRow).i = 0
    · exact h0
    · have := rows_i _ hk h0
      omega
  · rw [List.getElem?_eq_none (by show 35 ≤ op.toNat; omega)]; rfl
theorem rowR_s {op : Int} (h : 0 ≤ op) (h16 : op ≠ 16) : (rowR op).s = false := by
  unfold rowR
  by_cases hk : op.toNat < 35
  · cases h0 : ((codeRows[op.toNat]?).getD noRow).s
    · rfl
    · have := rows_s _ hk h0
      omega
  · rw [List.getElem?_eq_none (by show 35 ≤ op.toNat; omega)]; rfl
theorem instrB_no {u : UU} {fn : Int} {x : JJ} (h : ∀ f, mayJ u f x = false) : instrB u fn x = false := by
  unfold instrB
  split
  · exact h _
  · rfl
theorem mayJ_c {u : UU} {f : FF} {x : JJ} (h : x.c ≠ 0) : mayJ u f x = false := by
  unfold mayJ
  rw [decide_eq_false h]
  simp
theorem mayJ_names {u : UU} {f : FF} {x : JJ} (h : x.names ≠ 0) : mayJ u f x = false := by
  unfold mayJ
  rw [decide_eq_false h]
  simp
theorem mayJ_int {u : UU} {f : FF} {x : JJ} (hr : (rowR x.op).i = 0) (h : x.int ≠ 0) : mayJ u f x = false := by
  unfold mayJ
  rw [hr, fits_zero, decide_eq_false h]
  simp
theorem mayJ_slots {u : UU} {f : FF} {x : JJ} (hr : (rowR x.op).s = false) (h : x.slots.length ≠ 0) : mayJ u f x = false := by
  unfold mayJ
  rw [hr, decide_eq_false h]
  simp

set_option maxRecDepth 100000 in
set_option maxHeartbeats 16000000 in
theorem codeOthers0_walk (a1 a2 a4 a5 a6 : Option Addr) (n1 n2 n4 n5 n6 c1 c2 c4 c5 c6 : Nat) (mn fn op xa xb xc xi r : Int) (xn : ByteArray) (w : World)
    (K0 : Hid (∀ W, Hid (Below w.heap.size w W) → Calls Tryd.prog 10 #[.agg #[.slice a1 n1 c1, .int .i64 mn, .slice a2 n2 c2]] W fun e w' => ∃ r, e = .returned (.bool r) ∧ (r = false → n1 ≤ 30) ∧ Below W.heap.size W w'))
    (KL : Hid (∀ W, Hid (Below w.heap.size w W) → Calls Tryd.prog 14 #[.agg #[.int .u8 op, .int .i64 xa, .int .i64 xb, .int .i64 xc, .slice a4 n4 c4, .slice a5 n5 c5, .int .i64 xi, .string xn, .slice a6 n6 c6]] W fun e w' => ∃ r, e = .returned (.bool r) ∧ (r = false → n4 ≤ 60) ∧ Below W.heap.size W w'))
    (K1 : Hid (∀ W, Hid (Below w.heap.size w W) → Calls Tryd.prog 15 #[.agg #[.slice a1 n1 c1, .int .i64 mn, .slice a2 n2 c2], .int .i64 fn, .agg #[.int .u8 op, .int .i64 xa, .int .i64 xb, .int .i64 xc, .slice a4 n4 c4, .slice a5 n5 c5, .int .i64 xi, .string xn, .slice a6 n6 c6]] W fun e w' => e = .returned (.int .i64 r) ∧ Below W.heap.size W w'))
    (KY : Hid (∀ W, Hid (Below w.heap.size w W) → Calls Tryd.prog 15 #[.agg #[.slice a1 n1 c1, .int .i64 mn, .slice a2 n2 c2], .int .i64 fn, .agg #[.int .u8 op, .int .i64 xa, .int .i64 xb, .int .i64 1, .slice a4 n4 c4, .slice a5 n5 c5, .int .i64 xi, .string xn, .slice a6 n6 c6]] W fun e w' => e = .returned (.int .i64 170) ∧ Below W.heap.size W w'))
    (KZ : Hid (∀ W (b : Nat), W.cell? ⟨b, 0, none⟩ = some (.string ⟨#[97]⟩) → Hid (Below w.heap.size w W) → Calls Tryd.prog 15 #[.agg #[.slice a1 n1 c1, .int .i64 mn, .slice a2 n2 c2], .int .i64 fn, .agg #[.int .u8 op, .int .i64 xa, .int .i64 xb, .int .i64 xc, .slice a4 n4 c4, .slice a5 n5 c5, .int .i64 xi, .string xn, .slice (some ⟨b, 0, none⟩) 1 1]] W fun e w' => e = .returned (.int .i64 170) ∧ Below W.heap.size W w'))
    (KI : op ≠ 3 → op ≠ 27 → Hid (∀ W, Hid (Below w.heap.size w W) → Calls Tryd.prog 15 #[.agg #[.slice a1 n1 c1, .int .i64 mn, .slice a2 n2 c2], .int .i64 fn, .agg #[.int .u8 op, .int .i64 xa, .int .i64 xb, .int .i64 xc, .slice a4 n4 c4, .slice a5 n5 c5, .int .i64 1, .string xn, .slice a6 n6 c6]] W fun e w' => e = .returned (.int .i64 170) ∧ Below W.heap.size W w'))
    (KS : op ≠ 16 → Hid (∀ W (b : Nat), W.cell? ⟨b, 0, none⟩ = some (.int .i64 0) → Hid (Below w.heap.size w W) → Calls Tryd.prog 15 #[.agg #[.slice a1 n1 c1, .int .i64 mn, .slice a2 n2 c2], .int .i64 fn, .agg #[.int .u8 op, .int .i64 xa, .int .i64 xb, .int .i64 xc, .slice (some ⟨b, 0, none⟩) 1 1, .slice a5 n5 c5, .int .i64 xi, .string xn, .slice a6 n6 c6]] W fun e w' => e = .returned (.int .i64 170) ∧ Below W.heap.size W w'))
    (K3 : Hid (∀ W, Hid (Below w.heap.size w W) → Calls Tryd.prog 13 #[] W fun e w' => e = .returned (.bool true) ∧ Below W.heap.size W w')) :
    Calls Tryd.prog 9 #[.agg #[.slice a1 n1 c1, .int .i64 mn, .slice a2 n2 c2], .int .i64 fn, .agg #[.int .u8 op, .int .i64 xa, .int .i64 xb, .int .i64 xc, .slice a4 n4 c4, .slice a5 n5 c5, .int .i64 xi, .string xn, .slice a6 n6 c6]] w fun e w' => e = .returned (.bool true) ∧ Below w.heap.size w w' := by
  obtain ⟨W0, hW⟩ : ∃ W, W = (w.alloc (.cells #[.slice a1 n1 c1, .int .i64 mn, .slice a2 n2 c2] 25)).alloc (.cells #[.int .u8 op, .int .i64 xa, .int .i64 xb, .int .i64 xc, .slice a4 n4 c4, .slice a5 n5 c5, .int .i64 xi, .string xn, .slice a6 n6 c6] 34) := ⟨_, rfl⟩
  have mB : Hid (Below w.heap.size w W0) := by rw [hW]; exact Lib.hid (box2 w _ _)
  have f0 : W0.cell? ⟨w.heap.size, 0, none⟩ = some (.slice a1 n1 c1) := by rw [hW]; go_simp
  have f1 : W0.cell? ⟨w.heap.size, 1, none⟩ = some (.int .i64 mn) := by rw [hW]; go_simp
  have f2 : W0.cell? ⟨w.heap.size, 2, none⟩ = some (.slice a2 n2 c2) := by rw [hW]; go_simp
  have i0 : W0.cell? ⟨w.heap.size + 1, 0, none⟩ = some (.int .u8 op) := by rw [hW]; go_simp
  have i1 : W0.cell? ⟨w.heap.size + 1, 1, none⟩ = some (.int .i64 xa) := by rw [hW]; go_simp
  have i2 : W0.cell? ⟨w.heap.size + 1, 2, none⟩ = some (.int .i64 xb) := by rw [hW]; go_simp
  have i3 : W0.cell? ⟨w.heap.size + 1, 3, none⟩ = some (.int .i64 xc) := by rw [hW]; go_simp
  have i4 : W0.cell? ⟨w.heap.size + 1, 4, none⟩ = some (.slice a4 n4 c4) := by rw [hW]; go_simp
  have i5 : W0.cell? ⟨w.heap.size + 1, 5, none⟩ = some (.slice a5 n5 c5) := by rw [hW]; go_simp
  have i6 : W0.cell? ⟨w.heap.size + 1, 6, none⟩ = some (.int .i64 xi) := by rw [hW]; go_simp
  have i7 : W0.cell? ⟨w.heap.size + 1, 7, none⟩ = some (.string xn) := by rw [hW]; go_simp
  have i8 : W0.cell? ⟨w.heap.size + 1, 8, none⟩ = some (.slice a6 n6 c6) := by rw [hW]; go_simp
  go_enter Tryd.func9, Tryd.ntmps9
  go_upto_region 1 with (fail)
  rw [← hW]
  clear hW
  go_wp2_with fail
  (with_reducible refine (K0.out _ mB).mono ?_)
  rintro e w1 ⟨q, rfl, -, b1⟩
  have H1 := hid_upC mB b1
  have f0 := cell_over f0 b1
  have f1 := cell_over f1 b1
  have f2 := cell_over f2 b1
  have i0 := cell_over i0 b1
  have i1 := cell_over i1 b1
  have i2 := cell_over i2 b1
  have i3 := cell_over i3 b1
  have i4 := cell_over i4 b1
  have i5 := cell_over i5 b1
  have i6 := cell_over i6 b1
  have i7 := cell_over i7 b1
  have i8 := cell_over i8 b1
  clear b1 mB K0
  cases q with
  | true =>
    go_wp2_with fail
    (with_reducible refine (K3.out _ H1).mono ?_)
    rintro e w9 ⟨rfl, b9⟩
    have HZ := hid_upC H1 b9
    clear b9
    go_wp2_with fail
    go_ret
    exact ⟨rfl, HZ.out⟩
  | false =>
  go_wp2_with fail
  (with_reducible refine (KL.out _ H1).mono ?_)
  rintro e w2 ⟨q, rfl, -, b2⟩
  have H2 := hid_upC H1 b2
  have f0 := cell_over f0 b2
  have f1 := cell_over f1 b2
  have f2 := cell_over f2 b2
  have i0 := cell_over i0 b2
  have i1 := cell_over i1 b2
  have i2 := cell_over i2 b2
  have i3 := cell_over i3 b2
  have i4 := cell_over i4 b2
  have i5 := cell_over i5 b2
  have i6 := cell_over i6 b2
  have i7 := cell_over i7 b2
  have i8 := cell_over i8 b2
  clear b2 H1 KL
  cases q with
  | true =>
    go_wp2_with fail
    (with_reducible refine (K3.out _ H2).mono ?_)
    rintro e w9 ⟨rfl, b9⟩
    have HZ := hid_upC H2 b9
    clear b9
    go_wp2_with fail
    go_ret
    exact ⟨rfl, HZ.out⟩
  | false =>
  go_wp2_with fail
  (with_reducible refine (K1.out _ H2).mono ?_)
  rintro e w3 ⟨rfl, b3⟩
  have H3 := hid_upC H2 b3
  have f0 := cell_over f0 b3
  have f1 := cell_over f1 b3
  have f2 := cell_over f2 b3
  have i0 := cell_over i0 b3
  have i1 := cell_over i1 b3
  have i2 := cell_over i2 b3
  have i3 := cell_over i3 b3
  have i4 := cell_over i4 b3
  have i5 := cell_over i5 b3
  have i6 := cell_over i6 b3
  have i7 := cell_over i7 b3
  have i8 := cell_over i8 b3
  clear b3 H2 K1
  by_cases hr : r = 0
  case neg =>
    have e0 : (r != 0) = true := by simpa using hr
    clear hr
    go_wp2_with fail
    (with_reducible refine (K3.out _ H3).mono ?_)
    rintro e w9 ⟨rfl, b9⟩
    have HZ := hid_upC H3 b9
    clear b9
    go_wp2_with fail
    go_ret
    exact ⟨rfl, HZ.out⟩
  case pos =>
  subst hr
  have zi := World.block_lt_of_cell? w3 _ i0
  have zf := World.block_lt_of_cell? w3 _ f0
  dsimp only at zi zf
  go_upto_region 7 with (fail)
  obtain ⟨W7, hW⟩ : ∃ W, W = ((w3.alloc (.cells #[.int .u8 op, .int .i64 xa, .int .i64 xb, .int .i64 1, .slice a4 n4 c4, .slice a5 n5 c5, .int .i64 xi, .string xn, .slice a6 n6 c6] 34)).alloc (.cells #[.int .u8 op, .int .i64 xa, .int .i64 xb, .int .i64 xc, .slice a4 n4 c4, .slice a5 n5 c5, .int .i64 xi, .string xn, .slice (some ⟨w3.heap.size + 1 + 1, 0, none⟩) 1 1] 34)).alloc (.cells #[.string ⟨#[97]⟩] 9) := ⟨_, rfl⟩
  have B7 : Below w3.heap.size w3 W7 := by
    rw [hW]
    exact (box2 w3 _ _).alloc (by simp; omega) _
  have H7 : Hid (Below w.heap.size w W7) := hid_upC H3 B7
  have za : W7.cell? ⟨w3.heap.size + 1 + 1, 0, none⟩ = some (.string ⟨#[97]⟩) := by rw [hW]; go_simp
  have z0 : W7.cell? ⟨w3.heap.size + 1, 0, none⟩ = some (.int .u8 op) := by rw [hW]; go_simp
  have z1 : W7.cell? ⟨w3.heap.size + 1, 1, none⟩ = some (.int .i64 xa) := by rw [hW]; go_simp
  have z2 : W7.cell? ⟨w3.heap.size + 1, 2, none⟩ = some (.int .i64 xb) := by rw [hW]; go_simp
  have z3 : W7.cell? ⟨w3.heap.size + 1, 3, none⟩ = some (.int .i64 xc) := by rw [hW]; go_simp
  have z4 : W7.cell? ⟨w3.heap.size + 1, 4, none⟩ = some (.slice a4 n4 c4) := by rw [hW]; go_simp
  have z5 : W7.cell? ⟨w3.heap.size + 1, 5, none⟩ = some (.slice a5 n5 c5) := by rw [hW]; go_simp
  have z6 : W7.cell? ⟨w3.heap.size + 1, 6, none⟩ = some (.int .i64 xi) := by rw [hW]; go_simp
  have z7 : W7.cell? ⟨w3.heap.size + 1, 7, none⟩ = some (.string xn) := by rw [hW]; go_simp
  have z8 : W7.cell? ⟨w3.heap.size + 1, 8, none⟩ = some (.slice (some ⟨w3.heap.size + 1 + 1, 0, none⟩) 1 1) := by rw [hW]; go_simp
  have y0 : W7.cell? ⟨w3.heap.size, 0, none⟩ = some (.int .u8 op) := by rw [hW]; go_simp
  have y1 : W7.cell? ⟨w3.heap.size, 1, none⟩ = some (.int .i64 xa) := by rw [hW]; go_simp
  have y2 : W7.cell? ⟨w3.heap.size, 2, none⟩ = some (.int .i64 xb) := by rw [hW]; go_simp
  have y3 : W7.cell? ⟨w3.heap.size, 3, none⟩ = some (.int .i64 1) := by rw [hW]; go_simp
  have y4 : W7.cell? ⟨w3.heap.size, 4, none⟩ = some (.slice a4 n4 c4) := by rw [hW]; go_simp
  have y5 : W7.cell? ⟨w3.heap.size, 5, none⟩ = some (.slice a5 n5 c5) := by rw [hW]; go_simp
  have y6 : W7.cell? ⟨w3.heap.size, 6, none⟩ = some (.int .i64 xi) := by rw [hW]; go_simp
  have y7 : W7.cell? ⟨w3.heap.size, 7, none⟩ = some (.string xn) := by rw [hW]; go_simp
  have y8 : W7.cell? ⟨w3.heap.size, 8, none⟩ = some (.slice a6 n6 c6) := by rw [hW]; go_simp
  have f0 := cell_over f0 B7
  have f1 := cell_over f1 B7
  have f2 := cell_over f2 B7
  have i0 := cell_over i0 B7
  have i1 := cell_over i1 B7
  have i2 := cell_over i2 B7
  have i3 := cell_over i3 B7
  have i4 := cell_over i4 B7
  have i5 := cell_over i5 B7
  have i6 := cell_over i6 B7
  have i7 := cell_over i7 B7
  have i8 := cell_over i8 B7
  have s7 : w3.heap.size + 1 + 1 < W7.heap.size := World.block_lt_of_cell? W7 _ za
  have s7' : w3.heap.size < W7.heap.size := by omega
  have s7'' : w3.heap.size + 1 < W7.heap.size := by omega
  have zi := Nat.lt_of_lt_of_le zi B7.size
  have zf := Nat.lt_of_lt_of_le zf B7.size
  rw [← hW]
  clear hW B7 H3
  go_wp2_with fail
  (with_reducible refine (KY.out _ H7).mono ?_)
  rintro e w4 ⟨rfl, b4⟩
  have H4 := hid_upC H7 b4
  have z0 := cell_over z0 b4
  have z1 := cell_over z1 b4
  have z2 := cell_over z2 b4
  have z3 := cell_over z3 b4
  have z4 := cell_over z4 b4
  have z5 := cell_over z5 b4
  have z6 := cell_over z6 b4
  have z7 := cell_over z7 b4
  have z8 := cell_over z8 b4
  have za := cell_over za b4
  have f0 := cell_over f0 b4
  have f1 := cell_over f1 b4
  have f2 := cell_over f2 b4
  have i0 := cell_over i0 b4
  have i1 := cell_over i1 b4
  have i2 := cell_over i2 b4
  have i3 := cell_over i3 b4
  have i4 := cell_over i4 b4
  have i5 := cell_over i5 b4
  have i6 := cell_over i6 b4
  have i7 := cell_over i7 b4
  have i8 := cell_over i8 b4
  clear b4 KY y0 y1 y2 y3 y4 y5 y6 y7 y8 H7
  go_wp2_with fail
  (with_reducible refine (KZ.out _ _ za H4).mono ?_)
  rintro e w5 ⟨rfl, b5⟩
  have H5 := hid_upC H4 b5
  have f0 := cell_over f0 b5
  have f1 := cell_over f1 b5
  have f2 := cell_over f2 b5
  have i0 := cell_over i0 b5
  have i1 := cell_over i1 b5
  have i2 := cell_over i2 b5
  have i3 := cell_over i3 b5
  have i4 := cell_over i4 b5
  have i5 := cell_over i5 b5
  have i6 := cell_over i6 b5
  have i7 := cell_over i7 b5
  have i8 := cell_over i8 b5
  clear b5 KZ z0 z1 z2 z3 z4 z5 z6 z7 z8 za H4 s7 s7' s7'' zi zf
  have zi := World.block_lt_of_cell? w5 _ i0
  have zf := World.block_lt_of_cell? w5 _ f0
  dsimp only at zi zf
  by_cases h3 : op = 3
  case pos =>
    subst h3
    have KS := KS (by decide)
    go_upto_region 17 with (fail)
    obtain ⟨W9, hW⟩ : ∃ W, W = (w5.alloc (.cells #[.int .u8 3, .int .i64 xa, .int .i64 xb, .int .i64 xc, .slice (some ⟨w5.heap.size + 1, 0, none⟩) 1 1, .slice a5 n5 c5, .int .i64 xi, .string xn, .slice a6 n6 c6] 34)).alloc (.cells #[.int .i64 0] 3) := ⟨_, rfl⟩
    have B9 : Below w5.heap.size w5 W9 := by rw [hW]; exact box2 _ _ _
    have H9 : Hid (Below w.heap.size w W9) := hid_upC H5 B9
    have za : W9.cell? ⟨w5.heap.size + 1, 0, none⟩ = some (.int .i64 0) := by rw [hW]; go_simp
    have z0 : W9.cell? ⟨w5.heap.size, 0, none⟩ = some (.int .u8 3) := by rw [hW]; go_simp
    have z1 : W9.cell? ⟨w5.heap.size, 1, none⟩ = some (.int .i64 xa) := by rw [hW]; go_simp
    have z2 : W9.cell? ⟨w5.heap.size, 2, none⟩ = some (.int .i64 xb) := by rw [hW]; go_simp
    have z3 : W9.cell? ⟨w5.heap.size, 3, none⟩ = some (.int .i64 xc) := by rw [hW]; go_simp
    have z4 : W9.cell? ⟨w5.heap.size, 4, none⟩ = some (.slice (some ⟨w5.heap.size + 1, 0, none⟩) 1 1) := by rw [hW]; go_simp
    have z5 : W9.cell? ⟨w5.heap.size, 5, none⟩ = some (.slice a5 n5 c5) := by rw [hW]; go_simp
    have z6 : W9.cell? ⟨w5.heap.size, 6, none⟩ = some (.int .i64 xi) := by rw [hW]; go_simp
    have z7 : W9.cell? ⟨w5.heap.size, 7, none⟩ = some (.string xn) := by rw [hW]; go_simp
    have z8 : W9.cell? ⟨w5.heap.size, 8, none⟩ = some (.slice a6 n6 c6) := by rw [hW]; go_simp
    have f0 := cell_over f0 B9
    have f1 := cell_over f1 B9
    have f2 := cell_over f2 B9
    have i0 := cell_over i0 B9
    have i1 := cell_over i1 B9
    have i2 := cell_over i2 B9
    have i3 := cell_over i3 B9
    have i4 := cell_over i4 B9
    have i5 := cell_over i5 B9
    have i6 := cell_over i6 B9
    have i7 := cell_over i7 B9
    have i8 := cell_over i8 B9
    have s9 : w5.heap.size + 1 < W9.heap.size := World.block_lt_of_cell? W9 _ za
    have s9' : w5.heap.size < W9.heap.size := by omega
    have zi := Nat.lt_of_lt_of_le zi B9.size
    have zf := Nat.lt_of_lt_of_le zf B9.size
    rw [← hW]
    clear hW B9 H5
    go_wp2_with fail
    (with_reducible refine (KS.out _ _ za H9).mono ?_)
    rintro e w8 ⟨rfl, b⟩
    have H8 := hid_upC H9 b
    clear b H9
    go_wp2_with fail
    (with_reducible refine (K3.out _ H8).mono ?_)
    rintro e w9 ⟨rfl, b9⟩
    have HZ := hid_upC H8 b9
    clear b9
    go_wp2_with fail
    go_ret
    exact ⟨rfl, HZ.out⟩
  case neg =>
  by_cases h27 : op = 27
  case pos =>
    subst h27
    have KS := KS (by decide)
    go_upto_region 17 with (fail)
    obtain ⟨W9, hW⟩ : ∃ W, W = (w5.alloc (.cells #[.int .u8 27, .int .i64 xa, .int .i64 xb, .int .i64 xc, .slice (some ⟨w5.heap.size + 1, 0, none⟩) 1 1, .slice a5 n5 c5, .int .i64 xi, .string xn, .slice a6 n6 c6] 34)).alloc (.cells #[.int .i64 0] 3) := ⟨_, rfl⟩
    have B9 : Below w5.heap.size w5 W9 := by rw [hW]; exact box2 _ _ _
    have H9 : Hid (Below w.heap.size w W9) := hid_upC H5 B9
    have za : W9.cell? ⟨w5.heap.size + 1, 0, none⟩ = some (.int .i64 0) := by rw [hW]; go_simp
    have z0 : W9.cell? ⟨w5.heap.size, 0, none⟩ = some (.int .u8 27) := by rw [hW]; go_simp
    have z1 : W9.cell? ⟨w5.heap.size, 1, none⟩ = some (.int .i64 xa) := by rw [hW]; go_simp
    have z2 : W9.cell? ⟨w5.heap.size, 2, none⟩ = some (.int .i64 xb) := by rw [hW]; go_simp
    have z3 : W9.cell? ⟨w5.heap.size, 3, none⟩ = some (.int .i64 xc) := by rw [hW]; go_simp
    have z4 : W9.cell? ⟨w5.heap.size, 4, none⟩ = some (.slice (some ⟨w5.heap.size + 1, 0, none⟩) 1 1) := by rw [hW]; go_simp
    have z5 : W9.cell? ⟨w5.heap.size, 5, none⟩ = some (.slice a5 n5 c5) := by rw [hW]; go_simp
    have z6 : W9.cell? ⟨w5.heap.size, 6, none⟩ = some (.int .i64 xi) := by rw [hW]; go_simp
    have z7 : W9.cell? ⟨w5.heap.size, 7, none⟩ = some (.string xn) := by rw [hW]; go_simp
    have z8 : W9.cell? ⟨w5.heap.size, 8, none⟩ = some (.slice a6 n6 c6) := by rw [hW]; go_simp
    have f0 := cell_over f0 B9
    have f1 := cell_over f1 B9
    have f2 := cell_over f2 B9
    have i0 := cell_over i0 B9
    have i1 := cell_over i1 B9
    have i2 := cell_over i2 B9
    have i3 := cell_over i3 B9
    have i4 := cell_over i4 B9
    have i5 := cell_over i5 B9
    have i6 := cell_over i6 B9
    have i7 := cell_over i7 B9
    have i8 := cell_over i8 B9
    have s9 : w5.heap.size + 1 < W9.heap.size := World.block_lt_of_cell? W9 _ za
    have s9' : w5.heap.size < W9.heap.size := by omega
    have zi := Nat.lt_of_lt_of_le zi B9.size
    have zf := Nat.lt_of_lt_of_le zf B9.size
    rw [← hW]
    clear hW B9 H5
    go_wp2_with fail
    (with_reducible refine (KS.out _ _ za H9).mono ?_)
    rintro e w8 ⟨rfl, b⟩
    have H8 := hid_upC H9 b
    clear b H9
    go_wp2_with fail
    (with_reducible refine (K3.out _ H8).mono ?_)
    rintro e w9 ⟨rfl, b9⟩
    have HZ := hid_upC H8 b9
    clear b9
    go_wp2_with fail
    go_ret
    exact ⟨rfl, HZ.out⟩
  case neg =>
  by_cases h16 : op = 16
  case pos =>
    subst h16
    have KI := KI (by decide) (by decide)
    go_wp2_with fail
    have HB6 := hid_upC H5 (box1 w5 (.cells #[.int .u8 16, .int .i64 xa, .int .i64 xb, .int .i64 xc, .slice a4 n4 c4, .slice a5 n5 c5, .int .i64 1, .string xn, .slice a6 n6 c6] 34))
    (with_reducible refine (KI.out _ HB6).mono ?_)
    rintro e w6 ⟨rfl, b⟩
    have H6 := hid_upC HB6 b
    have f0 := cell_over (cell_over f0 (box1 w5 (.cells #[.int .u8 16, .int .i64 xa, .int .i64 xb, .int .i64 xc, .slice a4 n4 c4, .slice a5 n5 c5, .int .i64 1, .string xn, .slice a6 n6 c6] 34))) b
    have f1 := cell_over (cell_over f1 (box1 w5 (.cells #[.int .u8 16, .int .i64 xa, .int .i64 xb, .int .i64 xc, .slice a4 n4 c4, .slice a5 n5 c5, .int .i64 1, .string xn, .slice a6 n6 c6] 34))) b
    have f2 := cell_over (cell_over f2 (box1 w5 (.cells #[.int .u8 16, .int .i64 xa, .int .i64 xb, .int .i64 xc, .slice a4 n4 c4, .slice a5 n5 c5, .int .i64 1, .string xn, .slice a6 n6 c6] 34))) b
    have i0 := cell_over (cell_over i0 (box1 w5 (.cells #[.int .u8 16, .int .i64 xa, .int .i64 xb, .int .i64 xc, .slice a4 n4 c4, .slice a5 n5 c5, .int .i64 1, .string xn, .slice a6 n6 c6] 34))) b
    have i1 := cell_over (cell_over i1 (box1 w5 (.cells #[.int .u8 16, .int .i64 xa, .int .i64 xb, .int .i64 xc, .slice a4 n4 c4, .slice a5 n5 c5, .int .i64 1, .string xn, .slice a6 n6 c6] 34))) b
    have i2 := cell_over (cell_over i2 (box1 w5 (.cells #[.int .u8 16, .int .i64 xa, .int .i64 xb, .int .i64 xc, .slice a4 n4 c4, .slice a5 n5 c5, .int .i64 1, .string xn, .slice a6 n6 c6] 34))) b
    have i3 := cell_over (cell_over i3 (box1 w5 (.cells #[.int .u8 16, .int .i64 xa, .int .i64 xb, .int .i64 xc, .slice a4 n4 c4, .slice a5 n5 c5, .int .i64 1, .string xn, .slice a6 n6 c6] 34))) b
    have i4 := cell_over (cell_over i4 (box1 w5 (.cells #[.int .u8 16, .int .i64 xa, .int .i64 xb, .int .i64 xc, .slice a4 n4 c4, .slice a5 n5 c5, .int .i64 1, .string xn, .slice a6 n6 c6] 34))) b
    have i5 := cell_over (cell_over i5 (box1 w5 (.cells #[.int .u8 16, .int .i64 xa, .int .i64 xb, .int .i64 xc, .slice a4 n4 c4, .slice a5 n5 c5, .int .i64 1, .string xn, .slice a6 n6 c6] 34))) b
    have i6 := cell_over (cell_over i6 (box1 w5 (.cells #[.int .u8 16, .int .i64 xa, .int .i64 xb, .int .i64 xc, .slice a4 n4 c4, .slice a5 n5 c5, .int .i64 1, .string xn, .slice a6 n6 c6] 34))) b
    have i7 := cell_over (cell_over i7 (box1 w5 (.cells #[.int .u8 16, .int .i64 xa, .int .i64 xb, .int .i64 xc, .slice a4 n4 c4, .slice a5 n5 c5, .int .i64 1, .string xn, .slice a6 n6 c6] 34))) b
    have i8 := cell_over (cell_over i8 (box1 w5 (.cells #[.int .u8 16, .int .i64 xa, .int .i64 xb, .int .i64 xc, .slice a4 n4 c4, .slice a5 n5 c5, .int .i64 1, .string xn, .slice a6 n6 c6] 34))) b
    have zi := World.block_lt_of_cell? w6 _ i0
    have zf := World.block_lt_of_cell? w6 _ f0
    dsimp only at zi zf
    clear b HB6 H5
    go_wp2_with fail
    (with_reducible refine (K3.out _ H6).mono ?_)
    rintro e w9 ⟨rfl, b9⟩
    have HZ := hid_upC H6 b9
    clear b9
    go_wp2_with fail
    go_ret
    exact ⟨rfl, HZ.out⟩
  case neg =>
  have e3 : (op != 3) = true := by simpa using h3
  have e27 : (op != 27) = true := by simpa using h27
  have e16 : (op != 16) = true := by simpa using h16
  have KI := KI h3 h27
  have KS := KS h16
  clear h3 h27 h16
  go_wp2_with fail
  have HB6 := hid_upC H5 (box1 w5 (.cells #[.int .u8 op, .int .i64 xa, .int .i64 xb, .int .i64 xc, .slice a4 n4 c4, .slice a5 n5 c5, .int .i64 1, .string xn, .slice a6 n6 c6] 34))
  (with_reducible refine (KI.out _ HB6).mono ?_)
  rintro e w6 ⟨rfl, b⟩
  have H6 := hid_upC HB6 b
  have f0 := cell_over (cell_over f0 (box1 w5 (.cells #[.int .u8 op, .int .i64 xa, .int .i64 xb, .int .i64 xc, .slice a4 n4 c4, .slice a5 n5 c5, .int .i64 1, .string xn, .slice a6 n6 c6] 34))) b
  have f1 := cell_over (cell_over f1 (box1 w5 (.cells #[.int .u8 op, .int .i64 xa, .int .i64 xb, .int .i64 xc, .slice a4 n4 c4, .slice a5 n5 c5, .int .i64 1, .string xn, .slice a6 n6 c6] 34))) b
  have f2 := cell_over (cell_over f2 (box1 w5 (.cells #[.int .u8 op, .int .i64 xa, .int .i64 xb, .int .i64 xc, .slice a4 n4 c4, .slice a5 n5 c5, .int .i64 1, .string xn, .slice a6 n6 c6] 34))) b
  have i0 := cell_over (cell_over i0 (box1 w5 (.cells #[.int .u8 op, .int .i64 xa, .int .i64 xb, .int .i64 xc, .slice a4 n4 c4, .slice a5 n5 c5, .int .i64 1, .string xn, .slice a6 n6 c6] 34))) b
  have i1 := cell_over (cell_over i1 (box1 w5 (.cells #[.int .u8 op, .int .i64 xa, .int .i64 xb, .int .i64 xc, .slice a4 n4 c4, .slice a5 n5 c5, .int .i64 1, .string xn, .slice a6 n6 c6] 34))) b
  have i2 := cell_over (cell_over i2 (box1 w5 (.cells #[.int .u8 op, .int .i64 xa, .int .i64 xb, .int .i64 xc, .slice a4 n4 c4, .slice a5 n5 c5, .int .i64 1, .string xn, .slice a6 n6 c6] 34))) b
  have i3 := cell_over (cell_over i3 (box1 w5 (.cells #[.int .u8 op, .int .i64 xa, .int .i64 xb, .int .i64 xc, .slice a4 n4 c4, .slice a5 n5 c5, .int .i64 1, .string xn, .slice a6 n6 c6] 34))) b
  have i4 := cell_over (cell_over i4 (box1 w5 (.cells #[.int .u8 op, .int .i64 xa, .int .i64 xb, .int .i64 xc, .slice a4 n4 c4, .slice a5 n5 c5, .int .i64 1, .string xn, .slice a6 n6 c6] 34))) b
  have i5 := cell_over (cell_over i5 (box1 w5 (.cells #[.int .u8 op, .int .i64 xa, .int .i64 xb, .int .i64 xc, .slice a4 n4 c4, .slice a5 n5 c5, .int .i64 1, .string xn, .slice a6 n6 c6] 34))) b
  have i6 := cell_over (cell_over i6 (box1 w5 (.cells #[.int .u8 op, .int .i64 xa, .int .i64 xb, .int .i64 xc, .slice a4 n4 c4, .slice a5 n5 c5, .int .i64 1, .string xn, .slice a6 n6 c6] 34))) b
  have i7 := cell_over (cell_over i7 (box1 w5 (.cells #[.int .u8 op, .int .i64 xa, .int .i64 xb, .int .i64 xc, .slice a4 n4 c4, .slice a5 n5 c5, .int .i64 1, .string xn, .slice a6 n6 c6] 34))) b
  have i8 := cell_over (cell_over i8 (box1 w5 (.cells #[.int .u8 op, .int .i64 xa, .int .i64 xb, .int .i64 xc, .slice a4 n4 c4, .slice a5 n5 c5, .int .i64 1, .string xn, .slice a6 n6 c6] 34))) b
  have zi := World.block_lt_of_cell? w6 _ i0
  have zf := World.block_lt_of_cell? w6 _ f0
  dsimp only at zi zf
  clear b HB6 H5
  go_upto_region 17 with (fail)
  obtain ⟨W9, hW⟩ : ∃ W, W = (w6.alloc (.cells #[.int .u8 op, .int .i64 xa, .int .i64 xb, .int .i64 xc, .slice (some ⟨w6.heap.size + 1, 0, none⟩) 1 1, .slice a5 n5 c5, .int .i64 xi, .string xn, .slice a6 n6 c6] 34)).alloc (.cells #[.int .i64 0] 3) := ⟨_, rfl⟩
  have B9 : Below w6.heap.size w6 W9 := by rw [hW]; exact box2 _ _ _
  have H9 : Hid (Below w.heap.size w W9) := hid_upC H6 B9
  have za : W9.cell? ⟨w6.heap.size + 1, 0, none⟩ = some (.int .i64 0) := by rw [hW]; go_simp
  have z0 : W9.cell? ⟨w6.heap.size, 0, none⟩ = some (.int .u8 op) := by rw [hW]; go_simp
  have z1 : W9.cell? ⟨w6.heap.size, 1, none⟩ = some (.int .i64 xa) := by rw [hW]; go_simp
  have z2 : W9.cell? ⟨w6.heap.size, 2, none⟩ = some (.int .i64 xb) := by rw [hW]; go_simp
  have z3 : W9.cell? ⟨w6.heap.size, 3, none⟩ = some (.int .i64 xc) := by rw [hW]; go_simp
  have z4 : W9.cell? ⟨w6.heap.size, 4, none⟩ = some (.slice (some ⟨w6.heap.size + 1, 0, none⟩) 1 1) := by rw [hW]; go_simp
  have z5 : W9.cell? ⟨w6.heap.size, 5, none⟩ = some (.slice a5 n5 c5) := by rw [hW]; go_simp
  have z6 : W9.cell? ⟨w6.heap.size, 6, none⟩ = some (.int .i64 xi) := by rw [hW]; go_simp
  have z7 : W9.cell? ⟨w6.heap.size, 7, none⟩ = some (.string xn) := by rw [hW]; go_simp
  have z8 : W9.cell? ⟨w6.heap.size, 8, none⟩ = some (.slice a6 n6 c6) := by rw [hW]; go_simp
  have f0 := cell_over f0 B9
  have f1 := cell_over f1 B9
  have f2 := cell_over f2 B9
  have i0 := cell_over i0 B9
  have i1 := cell_over i1 B9
  have i2 := cell_over i2 B9
  have i3 := cell_over i3 B9
  have i4 := cell_over i4 B9
  have i5 := cell_over i5 B9
  have i6 := cell_over i6 B9
  have i7 := cell_over i7 B9
  have i8 := cell_over i8 B9
  have s9 : w6.heap.size + 1 < W9.heap.size := World.block_lt_of_cell? W9 _ za
  have s9' : w6.heap.size < W9.heap.size := by omega
  have zi := Nat.lt_of_lt_of_le zi B9.size
  have zf := Nat.lt_of_lt_of_le zf B9.size
  rw [← hW]
  clear hW B9 H6
  go_wp2_with fail
  (with_reducible refine (KS.out _ _ za H9).mono ?_)
  rintro e w8 ⟨rfl, b⟩
  have H8 := hid_upC H9 b
  clear b H9
  go_wp2_with fail
  (with_reducible refine (K3.out _ H8).mono ?_)
  rintro e w9 ⟨rfl, b9⟩
  have HZ := hid_upC H8 b9
  clear b9
  go_wp2_with fail
  go_ret
  exact ⟨rfl, HZ.out⟩

theorem codeOthers_walk (w : World) (u : UU) (vu : VU) (hu : u.In w.heap.size w vu) (fn : Int) (hfn : -9223372036854775808 ≤ fn ∧ fn ≤ 9223372036854775807) (x : JJ) (v : VJ) (hx : x.In w.heap.size w v) (hT : RTab w.heap.size w) :
    Calls Tryd.prog 9 #[u.val vu, .int .i64 fn, x.val v] w fun e w' => e = .returned (.bool true) ∧ Below w.heap.size w w' := by
  have K0 := fun W (h : Hid (Below w.heap.size w W)) => large_calls w.heap.size u vu W h.out.size (hu.below h.out)
  have KL := fun W (h : Hid (Below w.heap.size w W)) => long_calls17 w.heap.size x v W h.out.size (hx.below h.out)
  have K1 := fun W (h : Hid (Below w.heap.size w W)) => instr_calls w.heap.size u vu fn x v W h.out.size (hu.below h.out) (hx.below h.out) (hT.up h.out)
  have K3 := fun W (h : Hid (Below w.heap.size w W)) => awake_calls W (hT.up h.out)
  have KY := fun W (h : Hid (Below w.heap.size w W)) => instr_calls W.heap.size u vu fn { x with c := 1 } v W (Nat.le_refl _) ((hu.below h.out).mono h.out.size) ((hx.below h.out).mono h.out.size) (hT.up h.out)
  have KY2 : instrB u fn { x with c := 1 } = false := instrB_no fun f => mayJ_c (show (1 : Int) ≠ 0 by decide)
  rw [KY2] at KY
  have KZ := fun W (b : Nat) (hc : W.cell? ⟨b, 0, none⟩ = some (.string ⟨#[97]⟩)) (h : Hid (Below w.heap.size w W)) => instr_calls W.heap.size u vu fn { x with names := 1 } { v with n := .slice (some ⟨b, 0, none⟩) 1 1 } W (Nat.le_refl _) ((hu.below h.out).mono h.out.size)
    (let hy := (hx.below h.out).mono h.out.size; ⟨hy.1, hy.2.1, hy.2.2.1, hy.2.2.2.1, b, 0, ⟨by show 1 ≤ maxLen; decide, _, 1, rfl, Nat.le_refl _, .inr ⟨rfl, World.block_lt_of_cell? W _ hc⟩⟩⟩) (hT.up h.out)
  have KZ2 : instrB u fn { x with names := 1 } = false := instrB_no fun f => mayJ_names (show 1 ≠ 0 by decide)
  rw [KZ2] at KZ
  have KI := fun (h3 : x.op ≠ 3) (h27 : x.op ≠ 27) W (h : Hid (Below w.heap.size w W)) => instr_calls W.heap.size u vu fn { x with int := 1 } v W (Nat.le_refl _) ((hu.below h.out).mono h.out.size) ((hx.below h.out).mono h.out.size) (hT.up h.out)
  have KI2 : ∀ (h3 : x.op ≠ 3) (h27 : x.op ≠ 27), instrB u fn { x with int := 1 } = false := fun h3 h27 => instrB_no fun f => mayJ_int (rowR_i hx.1.1 h3 h27) (show (1 : Int) ≠ 0 by decide)
  have KS := fun (h16 : x.op ≠ 16) W (b : Nat) (hc : W.cell? ⟨b, 0, none⟩ = some (.int .i64 0)) (h : Hid (Below w.heap.size w W)) => instr_calls W.heap.size u vu fn { x with slots := [0] } { v with s := .slice (some ⟨b, 0, none⟩) 1 1 } W (Nat.le_refl _) ((hu.below h.out).mono h.out.size)
    (let hy := (hx.below h.out).mono h.out.size; ⟨hy.1, hy.2.1, ⟨b, 0, ⟨by show 1 ≤ maxLen; decide, _, 1, rfl, Nat.le_refl _, .inr ⟨rfl, World.block_lt_of_cell? W _ hc⟩⟩, fun j z hj => by
      match j, hj with
      | 0, hj => cases hj; exact hc⟩, hy.2.2.2.1, hy.2.2.2.2⟩) (hT.up h.out)
  have KS2 : ∀ (h16 : x.op ≠ 16), instrB u fn { x with slots := [0] } = false := fun h16 => instrB_no fun f => mayJ_slots (rowR_s hx.1.1 h16) (show [(0 : Int)].length ≠ 0 by decide)
  obtain ⟨a1, c1, a2, c2, rfl⟩ := hu.shape
  obtain ⟨a4, c4, a5, c5, a6, c6, rfl⟩ := hx.shape
  exact codeOthers0_walk a1 a2 a4 a5 a6 _ _ _ _ _ c1 c2 c4 c5 c6 _ _ _ _ _ _ _ _ _ w (Lib.hid K0) (Lib.hid KL) (Lib.hid K1) (Lib.hid KY) (Lib.hid KZ) (fun h3 h27 => Lib.hid (by have := KI h3 h27; rw [KI2 h3 h27] at this; exact this)) (fun h16 => Lib.hid (by have := KS h16; rw [KS2 h16] at this; exact this)) (Lib.hid K3)
end Go.Proofs.YtlbdoomknjiilaaDoor
