/- CodeSlots: more slots, jumps in the code (made by gen_codeslots.py). -/
import Derived.Test.YtlbdoomknjiilaaDoorCodeLarge
import Derived.Test.YtlbdoomknjiilaaDoorCodeAwake
import Derived.Test.YtlbdoomknjiilaaDoorCodeSet
namespace Go.Proofs.YtlbdoomknjiilaaDoor
open Go.RowKit
set_option linter.unusedVariables false

theorem own_rowS {w : World} {base n : Nat} {v : Value} {l : List Int} (h : w.ownsRow base 3 1 v n (ints l)) (hn : n ≤ maxLen) :
    ∃ g ao cap, v = .slice ao n cap ∧ (n ≠ 0 → ao = some ⟨g, 0, none⟩ ∧ g < w.heap.size ∧ base ≤ g) ∧ ∀ (j : Nat) z, l[j]? = some z → w.cell? ⟨g, j, none⟩ = some (.int .i64 z) := by
  have hlt := h.lt
  obtain ⟨⟨_, ao, cap, rfl, hc, h4⟩, h2⟩ := own_cells h hn
  refine ⟨rowAt (.slice ao n cap), ao, cap, rfl, fun h0 => ⟨(h4.resolve_left h0).1, (h4.resolve_left h0).2, ?_⟩, fun j z hj => ?_⟩
  · have := (h4.resolve_left h0).1
    exact (hlt _ (by rw [this]; rfl)).1
  · have := h2 j (.int .i64 z) (by unfold ints; rw [List.getElem?_map, hj]; rfl)
    rw [Nat.zero_add] at this
    exact this.1
theorem infoFunc : (Tryd.prog.info? 45).map (fun i => (i.zero, i.size, i.bytes)) = some (some (.agg #[.string ⟨#[]⟩, .int .i64 0, .int .i64 0, .slice none 0 0]), 4, 56) := by kernel_rfl
theorem cell_set_neS (w : World) (g k j : Nat) (v : Value) (h : k ≠ j) : (w.setCell ⟨g, k, none⟩ v).cell? ⟨g, j, none⟩ = w.cell? ⟨g, j, none⟩ := by
  apply World.cell?_setCell_other
  intro e
  injection e with e1 e2
  omega
theorem cell_set_blk (w : World) (b o g k : Nat) (v : Value) (h : g ≠ b) : (w.setCell ⟨g, k, none⟩ v).cell? ⟨b, o, none⟩ = w.cell? ⟨b, o, none⟩ := by
  apply World.cell?_setCell_other
  intro e
  injection e with e1 e2
  exact h e1
/-- one function's slots are set -/
theorem at_slots {w : World} {Z : List (FF × Value)} {g k : Nat} {f : FF} {vc : Value} {s : Int} (hC : ∀ (j : Nat) p, Z[j]? = some p → At w g (j * 4) (p.1.cells p.2)) (hf : Z[k]? = some (f, vc)) :
    ∀ (j : Nat) p, (Z.set k ({ f with slots := s }, vc))[j]? = some p → At (w.setCell ⟨g, k * 4 + 2, none⟩ (.int .i64 s)) g (j * 4) (p.1.cells p.2) := by
  intro j p hp i v hi
  have hi4 : i < 4 := some_lt hi
  have hk := hC k _ hf
  by_cases hjk : k = j
  · subst hjk
    rw [List.getElem?_set_self (some_lt hf)] at hp
    cases hp
    by_cases h2 : i = 2
    · subst h2
      cases hi
      exact World.cell?_setCell_same _ _ _ (hk 2 _ rfl)
    · rw [cell_set_neS _ _ _ _ _ (by omega)]
      refine hk i v ?_
      match i, hi4 with
      | 0, _ => exact hi
      | 1, _ => exact hi
      | 3, _ => exact hi
      | 2, _ => omega
  · rw [List.getElem?_set_ne hjk] at hp
    rw [cell_set_neS _ _ _ _ _ (by omega)]
    exact hC j p hp i v hi

set_option maxRecDepth 100000 in
set_option maxHeartbeats 16000000 in
theorem codeSlots0_no (a1 a2 a4 a5 a6 : Option Addr) (n1 n2 n4 n5 n6 c1 c2 c4 c5 c6 : Nat) (mn fn mr op xa xb xc xi r : Int) (xn : ByteArray) (w : World) (hr : r ≠ 0)
    (K0 : Hid (∀ W, Hid (Below w.heap.size w W) → Calls Tryd.prog 10 #[.agg #[.slice a1 n1 c1, .int .i64 mn, .slice a2 n2 c2]] W fun e w' => ∃ r, e = .returned (.bool r) ∧ (r = false → n1 ≤ 30) ∧ Below W.heap.size W w'))
    (KL : Hid (∀ W, Hid (Below w.heap.size w W) → Calls Tryd.prog 14 #[.agg #[.int .u8 op, .int .i64 xa, .int .i64 xb, .int .i64 xc, .slice a4 n4 c4, .slice a5 n5 c5, .int .i64 xi, .string xn, .slice a6 n6 c6]] W fun e w' => ∃ r, e = .returned (.bool r) ∧ (r = false → n4 ≤ 60) ∧ Below W.heap.size W w'))
    (K1 : Hid (∀ W, Hid (Below w.heap.size w W) → Calls Tryd.prog 15 #[.agg #[.slice a1 n1 c1, .int .i64 mn, .slice a2 n2 c2], .int .i64 fn, .agg #[.int .u8 op, .int .i64 xa, .int .i64 xb, .int .i64 xc, .slice a4 n4 c4, .slice a5 n5 c5, .int .i64 xi, .string xn, .slice a6 n6 c6]] W fun e w' => e = .returned (.int .i64 r) ∧ Below W.heap.size W w'))
    (K3 : Hid (∀ W, Hid (Below w.heap.size w W) → Calls Tryd.prog 13 #[] W fun e w' => e = .returned (.bool true) ∧ Below W.heap.size W w')) :
    Calls Tryd.prog 8 #[.agg #[.slice a1 n1 c1, .int .i64 mn, .slice a2 n2 c2], .int .i64 fn, .agg #[.int .u8 op, .int .i64 xa, .int .i64 xb, .int .i64 xc, .slice a4 n4 c4, .slice a5 n5 c5, .int .i64 xi, .string xn, .slice a6 n6 c6], .int .i64 mr] w fun e w' => e = .returned (.bool true) ∧ Below w.heap.size w w' := by
  obtain ⟨W0, hW⟩ : ∃ W, W = (w.alloc (.cells #[.slice a1 n1 c1, .int .i64 mn, .slice a2 n2 c2] 25)).alloc (.cells #[.int .u8 op, .int .i64 xa, .int .i64 xb, .int .i64 xc, .slice a4 n4 c4, .slice a5 n5 c5, .int .i64 xi, .string xn, .slice a6 n6 c6] 34) := ⟨_, rfl⟩
  have mB : Hid (Below w.heap.size w W0) := by rw [hW]; exact Lib.hid (box2 w _ _)
  have f0 : W0.cell? ⟨w.heap.size, 0, none⟩ = some (.slice a1 n1 c1) := by rw [hW]; go_simp
  have f1 : W0.cell? ⟨w.heap.size, 1, none⟩ = some (.int .i64 mn) := by rw [hW]; go_simp
  have f2 : W0.cell? ⟨w.heap.size, 2, none⟩ = some (.slice a2 n2 c2) := by rw [hW]; go_simp
  have i0 : W0.cell? ⟨w.heap.size + 1, 0, none⟩ = some (.int .u8 op) := by rw [hW]; go_simp
  have i1 : W0.cell? ⟨w.heap.size + 1, 1, none⟩ = some (.int .i64 xa) := by rw [hW]; go_simp
  have i2 : W0.cell? ⟨w.heap.size + 1, 2, none⟩ = some (.int .i64 xb) := by rw [hW]; go_simp
  have i3 : W0.cell? ⟨w.heap.size + 1, 3, none⟩ = some (.int .i64 xc) := by rw [hW]; go_simp
  have i4 : W0.cell? ⟨w.heap.size + 1, 4, none⟩ = some (.slice a4 n4 c4) := by rw [hW]; go_simp
  have i5 : W0.cell? ⟨w.heap.size + 1, 5, none⟩ = some (.slice a5 n5 c5) := by rw [hW]; go_simp
  have i6 : W0.cell? ⟨w.heap.size + 1, 6, none⟩ = some (.int .i64 xi) := by rw [hW]; go_simp
  have i7 : W0.cell? ⟨w.heap.size + 1, 7, none⟩ = some (.string xn) := by rw [hW]; go_simp
  have i8 : W0.cell? ⟨w.heap.size + 1, 8, none⟩ = some (.slice a6 n6 c6) := by rw [hW]; go_simp
  have e0 : (r != 0) = true := by simpa using hr
  clear hr
  go_enter Tryd.func8, Tryd.ntmps8
  go_upto_region 1 with (fail)
  rw [← hW]
  clear hW
  go_wp2_with fail
  (with_reducible refine (K0.out _ mB).mono ?_)
  rintro e w1 ⟨q, rfl, hq0, b1'⟩
  have H1 := hid_upC mB b1'
  have f0 := cell_over f0 b1'
  have f1 := cell_over f1 b1'
  have f2 := cell_over f2 b1'
  have i0 := cell_over i0 b1'
  have i1 := cell_over i1 b1'
  have i2 := cell_over i2 b1'
  have i3 := cell_over i3 b1'
  have i4 := cell_over i4 b1'
  have i5 := cell_over i5 b1'
  have i6 := cell_over i6 b1'
  have i7 := cell_over i7 b1'
  have i8 := cell_over i8 b1'
  clear b1' mB K0
  cases q with
  | true =>
    clear hq0
    go_wp2_with fail
    (with_reducible refine (K3.out _ H1).mono ?_)
    rintro e w9 ⟨rfl, b9⟩
    have HZ := hid_upC H1 b9
    clear b9
    go_wp2_with fail
    go_ret
    exact ⟨rfl, HZ.out⟩
  | false =>
  have h30 := hq0 rfl
  clear hq0
  go_wp2_with fail
  (with_reducible refine (KL.out _ H1).mono ?_)
  rintro e w2 ⟨q, rfl, hq1, b2⟩
  have H2 := hid_upC H1 b2
  have f0 := cell_over f0 b2
  have f1 := cell_over f1 b2
  have f2 := cell_over f2 b2
  have i0 := cell_over i0 b2
  have i1 := cell_over i1 b2
  have i2 := cell_over i2 b2
  have i3 := cell_over i3 b2
  have i4 := cell_over i4 b2
  have i5 := cell_over i5 b2
  have i6 := cell_over i6 b2
  have i7 := cell_over i7 b2
  have i8 := cell_over i8 b2
  clear b2 H1 KL
  cases q with
  | true =>
    clear hq1
    go_wp2_with fail
    (with_reducible refine (K3.out _ H2).mono ?_)
    rintro e w9 ⟨rfl, b9⟩
    have HZ := hid_upC H2 b9
    clear b9
    go_wp2_with fail
    go_ret
    exact ⟨rfl, HZ.out⟩
  | false =>
  have h60 := hq1 rfl
  clear hq1
  go_wp2_with fail
  (with_reducible refine (K1.out _ H2).mono ?_)
  rintro e w3 ⟨rfl, b3⟩
  have H3 := hid_upC H2 b3
  have f0 := cell_over f0 b3
  have f1 := cell_over f1 b3
  have f2 := cell_over f2 b3
  have i0 := cell_over i0 b3
  have i1 := cell_over i1 b3
  have i2 := cell_over i2 b3
  have i3 := cell_over i3 b3
  have i4 := cell_over i4 b3
  have i5 := cell_over i5 b3
  have i6 := cell_over i6 b3
  have i7 := cell_over i7 b3
  have i8 := cell_over i8 b3
  clear b3 H2 K1
  go_wp2_with fail
  (with_reducible refine (K3.out _ H3).mono ?_)
  rintro e w9 ⟨rfl, b9⟩
  have HZ := hid_upC H3 b9
  clear b9
  go_wp2_with fail
  go_ret
  exact ⟨rfl, HZ.out⟩

set_option maxRecDepth 100000 in
set_option maxHeartbeats 16000000 in
theorem codeSlots0_yes (a2 a3 a4 a5 a6 : Option Addr) (n1 n2 n4 n5 n6 c1 c2 c3 c4 c5 c6 cn k b1 o1 nl : Nat) (mn mr op xa xb xc xi sl : Int) (xn : ByteArray) (Z : List (FF × Value)) (f : FF) (l : List Int) (w : World)
    (K0 : Hid (∀ W, Hid (Below w.heap.size w W) → Calls Tryd.prog 10 #[.agg #[.slice (some ⟨b1, o1, none⟩) n1 c1, .int .i64 mn, .slice a2 n2 c2]] W fun e w' => ∃ r, e = .returned (.bool r) ∧ (r = false → n1 ≤ 30) ∧ Below W.heap.size W w'))
    (KL : Hid (∀ W, Hid (Below w.heap.size w W) → Calls Tryd.prog 14 #[.agg #[.int .u8 op, .int .i64 xa, .int .i64 xb, .int .i64 xc, .slice a4 n4 c4, .slice a5 n5 c5, .int .i64 xi, .string xn, .slice a6 n6 c6]] W fun e w' => ∃ r, e = .returned (.bool r) ∧ (r = false → n4 ≤ 60) ∧ Below W.heap.size W w'))
    (K1 : Hid (∀ W, Hid (Below w.heap.size w W) → Calls Tryd.prog 15 #[.agg #[.slice (some ⟨b1, o1, none⟩) n1 c1, .int .i64 mn, .slice a2 n2 c2], .int .i64 k, .agg #[.int .u8 op, .int .i64 xa, .int .i64 xb, .int .i64 xc, .slice a4 n4 c4, .slice a5 n5 c5, .int .i64 xi, .string xn, .slice a6 n6 c6]] W fun e w' => e = .returned (.int .i64 0) ∧ Below W.heap.size W w'))
    (KJ : n4 ≤ 60 → Hid (∀ W, Hid (Below w.heap.size w W) → Calls Tryd.prog 19 #[.agg #[.int .u8 op, .int .i64 xa, .int .i64 xb, .int .i64 xc, .slice a4 n4 c4, .slice a5 n5 c5, .int .i64 xi, .string xn, .slice a6 n6 c6]] W fun e w' => ∃ r, e = .returned r ∧ w'.ownsRow W.heap.size 3 1 r nl (ints l) ∧ Below W.heap.size W w'))
    (KW : Hid (∀ W (g gc : Nat) (s : Int), (0 < sl → sl ≤ s) → n1 ≤ gc → g < W.heap.size → (∀ (j : Nat) p, (Z.set k ({ f with slots := s }, .slice a3 cn c3))[j]? = some p → At W g (j * 4) (p.1.cells p.2)) → Hid (Below w.heap.size w W) → Calls Tryd.prog 15 #[.agg #[.slice (some ⟨g, 0, none⟩) n1 gc, .int .i64 mn, .slice a2 n2 c2], .int .i64 k, .agg #[.int .u8 op, .int .i64 xa, .int .i64 xb, .int .i64 xc, .slice a4 n4 c4, .slice a5 n5 c5, .int .i64 xi, .string xn, .slice a6 n6 c6]] W fun e w' => e = .returned (.int .i64 0) ∧ Below W.heap.size W w'))
    (hk : k < n1) (hnl : nl ≤ 1000) (HZ : Hid (n1 = Z.length)) (hsl : Hid (f.slots = sl)) (hf : Hid (Z[k]? = some (f, .slice a3 cn c3)))
    (HZa : Hid (∀ (j : Nat) p, Z[j]? = some p → At w b1 (o1 + j * 4) (p.1.cells p.2))) (HZi : Hid (∀ u ∈ cellsF Z, u.oneCell' = true))
    (hl : Hid (nl = l.length)) (hjl : Hid (∀ z ∈ l, 0 ≤ z ∧ z ≤ (cn : Int)))
    (K3 : Hid (∀ W, Hid (Below w.heap.size w W) → Calls Tryd.prog 13 #[] W fun e w' => e = .returned (.bool true) ∧ Below W.heap.size W w')) :
    Calls Tryd.prog 8 #[.agg #[.slice (some ⟨b1, o1, none⟩) n1 c1, .int .i64 mn, .slice a2 n2 c2], .int .i64 k, .agg #[.int .u8 op, .int .i64 xa, .int .i64 xb, .int .i64 xc, .slice a4 n4 c4, .slice a5 n5 c5, .int .i64 xi, .string xn, .slice a6 n6 c6], .int .i64 mr] w fun e w' => e = .returned (.bool true) ∧ Below w.heap.size w w' := by
  obtain ⟨W0, hW⟩ : ∃ W, W = (w.alloc (.cells #[.slice (some ⟨b1, o1, none⟩) n1 c1, .int .i64 mn, .slice a2 n2 c2] 25)).alloc (.cells #[.int .u8 op, .int .i64 xa, .int .i64 xb, .int .i64 xc, .slice a4 n4 c4, .slice a5 n5 c5, .int .i64 xi, .string xn, .slice a6 n6 c6] 34) := ⟨_, rfl⟩
  have mB : Hid (Below w.heap.size w W0) := by rw [hW]; exact Lib.hid (box2 w _ _)
  have f0 : W0.cell? ⟨w.heap.size, 0, none⟩ = some (.slice (some ⟨b1, o1, none⟩) n1 c1) := by rw [hW]; go_simp
  have f1 : W0.cell? ⟨w.heap.size, 1, none⟩ = some (.int .i64 mn) := by rw [hW]; go_simp
  have f2 : W0.cell? ⟨w.heap.size, 2, none⟩ = some (.slice a2 n2 c2) := by rw [hW]; go_simp
  have i0 : W0.cell? ⟨w.heap.size + 1, 0, none⟩ = some (.int .u8 op) := by rw [hW]; go_simp
  have i1 : W0.cell? ⟨w.heap.size + 1, 1, none⟩ = some (.int .i64 xa) := by rw [hW]; go_simp
  have i2 : W0.cell? ⟨w.heap.size + 1, 2, none⟩ = some (.int .i64 xb) := by rw [hW]; go_simp
  have i3 : W0.cell? ⟨w.heap.size + 1, 3, none⟩ = some (.int .i64 xc) := by rw [hW]; go_simp
  have i4 : W0.cell? ⟨w.heap.size + 1, 4, none⟩ = some (.slice a4 n4 c4) := by rw [hW]; go_simp
  have i5 : W0.cell? ⟨w.heap.size + 1, 5, none⟩ = some (.slice a5 n5 c5) := by rw [hW]; go_simp
  have i6 : W0.cell? ⟨w.heap.size + 1, 6, none⟩ = some (.int .i64 xi) := by rw [hW]; go_simp
  have i7 : W0.cell? ⟨w.heap.size + 1, 7, none⟩ = some (.string xn) := by rw [hW]; go_simp
  have i8 : W0.cell? ⟨w.heap.size + 1, 8, none⟩ = some (.slice a6 n6 c6) := by rw [hW]; go_simp
  obtain ⟨j0, hi, hz0, hz1, hz2⟩ := info_parts infoFunc
  have hk0 : 0 ≤ (k : Int) := by omega
  have hk1 : (k : Int) < (n1 : Int) := by omega
  have r3 : W0.cell? ⟨b1, o1 + k * 4 + 3, none⟩ = some (.slice a3 cn c3) := cell_over (HZa.out k _ hf.out 3 _ rfl) mB.out
  go_enter Tryd.func8, Tryd.ntmps8
  go_upto_region 1 with (fail)
  rw [← hW]
  clear hW
  go_wp2_with fail
  (with_reducible refine (K0.out _ mB).mono ?_)
  rintro e w1 ⟨q, rfl, hq0, b1'⟩
  have H1 := hid_upC mB b1'
  have f0 := cell_over f0 b1'
  have f1 := cell_over f1 b1'
  have f2 := cell_over f2 b1'
  have i0 := cell_over i0 b1'
  have i1 := cell_over i1 b1'
  have i2 := cell_over i2 b1'
  have i3 := cell_over i3 b1'
  have i4 := cell_over i4 b1'
  have i5 := cell_over i5 b1'
  have i6 := cell_over i6 b1'
  have i7 := cell_over i7 b1'
  have i8 := cell_over i8 b1'
  have r3 := cell_over r3 b1'
  clear b1' mB K0
  cases q with
  | true =>
    clear hq0
    go_wp2_with fail
    (with_reducible refine (K3.out _ H1).mono ?_)
    rintro e w9 ⟨rfl, b9⟩
    have HZ := hid_upC H1 b9
    clear b9
    go_wp2_with fail
    go_ret
    exact ⟨rfl, HZ.out⟩
  | false =>
  have h30 := hq0 rfl
  clear hq0
  go_wp2_with fail
  (with_reducible refine (KL.out _ H1).mono ?_)
  rintro e w2 ⟨q, rfl, hq1, b2⟩
  have H2 := hid_upC H1 b2
  have f0 := cell_over f0 b2
  have f1 := cell_over f1 b2
  have f2 := cell_over f2 b2
  have i0 := cell_over i0 b2
  have i1 := cell_over i1 b2
  have i2 := cell_over i2 b2
  have i3 := cell_over i3 b2
  have i4 := cell_over i4 b2
  have i5 := cell_over i5 b2
  have i6 := cell_over i6 b2
  have i7 := cell_over i7 b2
  have i8 := cell_over i8 b2
  have r3 := cell_over r3 b2
  clear b2 H1 KL
  cases q with
  | true =>
    clear hq1
    go_wp2_with fail
    (with_reducible refine (K3.out _ H2).mono ?_)
    rintro e w9 ⟨rfl, b9⟩
    have HZ := hid_upC H2 b9
    clear b9
    go_wp2_with fail
    go_ret
    exact ⟨rfl, HZ.out⟩
  | false =>
  have h60 := hq1 rfl
  clear hq1
  go_wp2_with fail
  (with_reducible refine (K1.out _ H2).mono ?_)
  rintro e w3 ⟨rfl, b3⟩
  have H3 := hid_upC H2 b3
  have f0 := cell_over f0 b3
  have f1 := cell_over f1 b3
  have f2 := cell_over f2 b3
  have i0 := cell_over i0 b3
  have i1 := cell_over i1 b3
  have i2 := cell_over i2 b3
  have i3 := cell_over i3 b3
  have i4 := cell_over i4 b3
  have i5 := cell_over i5 b3
  have i6 := cell_over i6 b3
  have i7 := cell_over i7 b3
  have i8 := cell_over i8 b3
  have r3 := cell_over r3 b3
  clear b3 H2 K1
  have zf := World.block_lt_of_cell? w3 _ f0
  have zi := World.block_lt_of_cell? w3 _ i0
  have zr := World.block_lt_of_cell? w3 _ r3
  dsimp only at zf zi zr
  have HS3 := Lib.hid H3.out.size
  go_upto_region 4 with (fail)
  obtain ⟨W4, hW⟩ : ∃ W, W = w3.alloc (.cells #[.slice (some ⟨b1, o1, none⟩) n1 c1, .int .i64 mn, .slice a2 n2 c2] 25) := ⟨_, rfl⟩
  have B4 : Below w3.heap.size w3 W4 := by rw [hW]; exact box1 _ _
  have y1 : W4.cell? ⟨w3.heap.size, 1, none⟩ = some (.int .i64 mn) := by rw [hW]; go_simp
  have y2 : W4.cell? ⟨w3.heap.size, 2, none⟩ = some (.slice a2 n2 c2) := by rw [hW]; go_simp
  have y0 : W4.cell? ⟨w3.heap.size, 0, none⟩ = some (.slice (some ⟨b1, o1, none⟩) n1 c1) := by rw [hW]; go_simp
  have yf : W4.frozen? ⟨w3.heap.size, 0, none⟩ = false := by rw [hW]; go_simp
  have H4 := hid_upC H3 B4
  have s4 := World.block_lt_of_cell? W4 _ y0
  dsimp only at s4
  have zf := World.block_lt_of_cell? W4 _ (cell_over f0 B4)
  dsimp only at zf
  have f0 := cell_over f0 B4
  have f1 := cell_over f1 B4
  have f2 := cell_over f2 B4
  have i0 := cell_over i0 B4
  have i1 := cell_over i1 B4
  have i2 := cell_over i2 B4
  have i3 := cell_over i3 B4
  have i4 := cell_over i4 B4
  have i5 := cell_over i5 B4
  have i6 := cell_over i6 B4
  have i7 := cell_over i7 B4
  have i8 := cell_over i8 B4
  have r3 := cell_over r3 B4
  rw [← hW]
  clear hW
  have HL4 : Hid ((cellsF Z).length = n1 * 4) := Lib.hid (by rw [cellsF_len, HZ.out])
  have HN4 : Hid (∀ ad, some (⟨b1, o1, none⟩ : Addr) = some ad → ∀ j u, (cellsF Z)[j]? = some u → (W4.alloc (.cells #[] 45)).cell? (ad.add j) = some u) := Lib.hid fun ad ha j u hu => by
    cases ha
    have hj := some_lt hu
    rw [cellsF_len] at hj
    obtain ⟨p, hp, _⟩ := get_at (l := Z) (k := j / 4) (by omega)
    have hi : ∃ v, (p.1.cells p.2)[j % 4]? = some v := by
      have : j % 4 < (p.1.cells p.2).length := Nat.mod_lt _ (by decide)
      exact ⟨_, List.getElem?_eq_getElem this⟩
    obtain ⟨v, hv⟩ := hi
    have h1 := cellsF_at hp _ _ hv
    rw [show j / 4 * 4 + j % 4 = j by omega, hu] at h1
    cases h1
    have h2 := HZa.out _ _ hp _ _ hv
    rw [Addr.add_mid]
    have h3 := cell_over (cell_over h2 H4.out) (box1 W4 (.cells #[] 45))
    rwa [show o1 + j / 4 * 4 + j % 4 = o1 + j by omega] at h3
  have HE4 : Hid ((W4.alloc (.cells #[] 45)).ownsRow W4.heap.size 45 4 (.slice (some ⟨W4.heap.size, 0, none⟩) 0 0) 0 []) := Lib.hid (World.ownsRow_lit W4 #[] 0 (Nat.le_refl _) (by decide) rfl)
  go_wp2_with (first
    | (at_builtin; refine wpList_append_anyC rfl _ _ 22 rfl W4.heap.size 45 j0 (.agg #[.string ⟨#[]⟩, .int .i64 0, .int .i64 0, .slice none 0 0]) 4 56 Tryd.underlying22 hi hz0 hz1 hz2 rfl (by decide) (.slice (some ⟨W4.heap.size, 0, none⟩) 0 0) 0 [] rfl HE4.out (some ⟨b1, o1, none⟩) n1 c1 (cellsF Z) rfl (fun h => by cases h) HL4.out HN4.out HZi.out ?c3 ?c4 ?c5 ?_)
    | fail)
  case c3 => unfold maxLen; omega
  case c4 => omega
  case c5 => simp
  intro v' v hown hgrow
  have BV : Below W4.heap.size W4 v := (box1 W4 _).grown hgrow (by simp) (fun k hk => by simp [Value.ownBlock] at hk; omega)
  have hown : v.ownsRow W4.heap.size 45 4 v' n1 (cellsF Z) := by simpa using hown
  obtain ⟨-, g, gao, gcap, rfl, hgc, hg0, hgC, hgF⟩ := own_F hown (by unfold maxLen; omega)
  obtain ⟨rfl, hgl, hgb⟩ := hg0 (by omega)
  clear hown hgrow hg0 HL4 HN4 hi hz0 hz1 hz2
  have HC := Lib.hid hgC
  have HF := Lib.hid hgF
  clear hgC hgF
  have H5 := hid_upC H4 BV
  have B5 : Below w3.heap.size w3 v := B4.trans (BV.mono B4.size)
  have f0 := cell_over f0 BV
  have f1 := cell_over f1 BV
  have f2 := cell_over f2 BV
  have i0 := cell_over i0 BV
  have i1 := cell_over i1 BV
  have i2 := cell_over i2 BV
  have i3 := cell_over i3 BV
  have i4 := cell_over i4 BV
  have i5 := cell_over i5 BV
  have i6 := cell_over i6 BV
  have i7 := cell_over i7 BV
  have i8 := cell_over i8 BV
  have r3 := cell_over r3 BV
  have y0 := cell_over y0 BV
  have y1 := cell_over y1 BV
  have y2 := cell_over y2 BV
  have yf := (BV.frozen (p := ⟨w3.heap.size, 0, none⟩) s4).trans yf
  clear BV B4 H4 H3
  go_upto_region 5 with (fail)
  obtain ⟨W6, hW⟩ : ∃ W, W = v.setCell ⟨w3.heap.size, 0, none⟩ (.slice (some ⟨g, 0, none⟩) n1 gcap) := ⟨_, rfl⟩
  have B6 : Below w3.heap.size w3 W6 := by rw [hW]; exact B5.setCell (Nat.le_refl _) _
  have H6 : Hid (Below w.heap.size w W6) := by rw [hW]; exact Lib.hid (H5.out.setCell HS3.out _)
  have hgne : w3.heap.size ≠ g := by omega
  have q2 : W6.cell? ⟨g, k * 4 + 2, none⟩ = some (.int .i64 sl) := by
    rw [hW, cell_set_blk _ _ _ _ _ _ hgne, ← hsl.out]
    exact HC.out k _ hf.out 2 _ rfl
  have q2f : W6.frozen? ⟨g, k * 4 + 2, none⟩ = false := by
    rw [hW, World.frozen?_setCell]
    exact HF.out _ (by omega)
  have HC6 : Hid (∀ (j : Nat) p, Z[j]? = some p → At W6 g (j * 4) (p.1.cells p.2)) := Lib.hid fun j p hp i u hi => by
    rw [hW, cell_set_blk _ _ _ _ _ _ hgne]
    exact HC.out j p hp i u hi
  have hg6 : g < W6.heap.size := by rw [hW]; simpa using hgl
  have y0 : W6.cell? ⟨w3.heap.size, 0, none⟩ = some (.slice (some ⟨g, 0, none⟩) n1 gcap) := by rw [hW]; exact World.cell?_setCell_same _ _ _ y0
  have y1 : W6.cell? ⟨w3.heap.size, 1, none⟩ = some (.int .i64 mn) := by rw [hW, cell_set_neS _ _ _ _ _ (by decide)]; exact y1
  have y2 : W6.cell? ⟨w3.heap.size, 2, none⟩ = some (.slice a2 n2 c2) := by rw [hW, cell_set_neS _ _ _ _ _ (by decide)]; exact y2
  have f0 : W6.cell? ⟨w.heap.size, 0, none⟩ = some (.slice (some ⟨b1, o1, none⟩) n1 c1) := by rw [hW, cell_set_blk _ _ _ _ _ _ (by omega)]; exact f0
  have f1 : W6.cell? ⟨w.heap.size, 1, none⟩ = some (.int .i64 mn) := by rw [hW, cell_set_blk _ _ _ _ _ _ (by omega)]; exact f1
  have f2 : W6.cell? ⟨w.heap.size, 2, none⟩ = some (.slice a2 n2 c2) := by rw [hW, cell_set_blk _ _ _ _ _ _ (by omega)]; exact f2
  have i0 : W6.cell? ⟨w.heap.size + 1, 0, none⟩ = some (.int .u8 op) := by rw [hW, cell_set_blk _ _ _ _ _ _ (by omega)]; exact i0
  have i1 : W6.cell? ⟨w.heap.size + 1, 1, none⟩ = some (.int .i64 xa) := by rw [hW, cell_set_blk _ _ _ _ _ _ (by omega)]; exact i1
  have i2 : W6.cell? ⟨w.heap.size + 1, 2, none⟩ = some (.int .i64 xb) := by rw [hW, cell_set_blk _ _ _ _ _ _ (by omega)]; exact i2
  have i3 : W6.cell? ⟨w.heap.size + 1, 3, none⟩ = some (.int .i64 xc) := by rw [hW, cell_set_blk _ _ _ _ _ _ (by omega)]; exact i3
  have i4 : W6.cell? ⟨w.heap.size + 1, 4, none⟩ = some (.slice a4 n4 c4) := by rw [hW, cell_set_blk _ _ _ _ _ _ (by omega)]; exact i4
  have i5 : W6.cell? ⟨w.heap.size + 1, 5, none⟩ = some (.slice a5 n5 c5) := by rw [hW, cell_set_blk _ _ _ _ _ _ (by omega)]; exact i5
  have i6 : W6.cell? ⟨w.heap.size + 1, 6, none⟩ = some (.int .i64 xi) := by rw [hW, cell_set_blk _ _ _ _ _ _ (by omega)]; exact i6
  have i7 : W6.cell? ⟨w.heap.size + 1, 7, none⟩ = some (.string xn) := by rw [hW, cell_set_blk _ _ _ _ _ _ (by omega)]; exact i7
  have i8 : W6.cell? ⟨w.heap.size + 1, 8, none⟩ = some (.slice a6 n6 c6) := by rw [hW, cell_set_blk _ _ _ _ _ _ (by omega)]; exact i8
  have r3 : W6.cell? ⟨b1, o1 + k * 4 + 3, none⟩ = some (.slice a3 cn c3) := by rw [hW, cell_set_blk _ _ _ _ _ _ (by omega)]; exact r3
  have t6 := World.block_lt_of_cell? W6 _ y0
  dsimp only at t6
  rw [← hW]
  clear hW B5 B6 H5 HC HF yf
  by_cases hs : 1000 < sl
  case pos =>
    go_wp2_with fail
    (with_reducible refine (K3.out _ H6).mono ?_)
    rintro e w9 ⟨rfl, b9⟩
    have HZ := hid_upC H6 b9
    clear b9
    go_wp2_with fail
    go_ret
    exact ⟨rfl, HZ.out⟩
  case neg =>
  have d0 := decide_eq_false hs
  obtain ⟨q, r, s, hq, hr, hr2, hs1, hs2⟩ : ∃ q r s : Int, IntKind.u64.wrap mr = q ∧ q.tmod 21 = r ∧ IntKind.i64.wrap r = r ∧ IntKind.i64.wrap (sl + r) = s ∧ (0 < sl → sl ≤ s) := by
    have h1 : 0 ≤ IntKind.u64.wrap mr := by
      simp only [IntKind.wrap, IntKind.bits, IntKind.signed]
      simp
      omega
    have h2 : 0 ≤ (IntKind.u64.wrap mr).tmod 21 ∧ (IntKind.u64.wrap mr).tmod 21 ≤ 20 := by
      rw [Int.tmod_eq_emod_of_nonneg h1]
      omega
    generalize (IntKind.u64.wrap mr) = q0 at *
    generalize hr0 : q0.tmod 21 = r0 at *
    refine ⟨_, r0, _, rfl, hr0, ?_, rfl, fun h0 => ?_⟩
    · rw [IntKind.wrap_i64]
      omega
    · rw [IntKind.wrap_i64]
      omega
  clear hs
  go_upto_region 9 with (fail)
  obtain ⟨W8, hW⟩ : ∃ W, W = W6.setCell ⟨g, k * 4 + 2, none⟩ (.int .i64 s) := ⟨_, rfl⟩
  have hwg : w.heap.size ≤ g := by omega
  have H8 : Hid (Below w.heap.size w W8) := by rw [hW]; exact Lib.hid (H6.out.setCell (by exact hwg) _)
  have HC8 : Hid (∀ (j : Nat) p, (Z.set k ({ f with slots := s }, .slice a3 cn c3))[j]? = some p → At W8 g (j * 4) (p.1.cells p.2)) := by
    rw [hW]
    exact Lib.hid (at_slots HC6.out hf.out)
  have hg8 : g < W8.heap.size := by rw [hW]; simpa using hg6
  have y0 : W8.cell? ⟨w3.heap.size, 0, none⟩ = some (.slice (some ⟨g, 0, none⟩) n1 gcap) := by rw [hW, cell_set_blk _ _ _ _ _ _ (by omega)]; exact y0
  have y1 : W8.cell? ⟨w3.heap.size, 1, none⟩ = some (.int .i64 mn) := by rw [hW, cell_set_blk _ _ _ _ _ _ (by omega)]; exact y1
  have y2 : W8.cell? ⟨w3.heap.size, 2, none⟩ = some (.slice a2 n2 c2) := by rw [hW, cell_set_blk _ _ _ _ _ _ (by omega)]; exact y2
  have f0 : W8.cell? ⟨w.heap.size, 0, none⟩ = some (.slice (some ⟨b1, o1, none⟩) n1 c1) := by rw [hW, cell_set_blk _ _ _ _ _ _ (by omega)]; exact f0
  have f1 : W8.cell? ⟨w.heap.size, 1, none⟩ = some (.int .i64 mn) := by rw [hW, cell_set_blk _ _ _ _ _ _ (by omega)]; exact f1
  have f2 : W8.cell? ⟨w.heap.size, 2, none⟩ = some (.slice a2 n2 c2) := by rw [hW, cell_set_blk _ _ _ _ _ _ (by omega)]; exact f2
  have i0 : W8.cell? ⟨w.heap.size + 1, 0, none⟩ = some (.int .u8 op) := by rw [hW, cell_set_blk _ _ _ _ _ _ (by omega)]; exact i0
  have i1 : W8.cell? ⟨w.heap.size + 1, 1, none⟩ = some (.int .i64 xa) := by rw [hW, cell_set_blk _ _ _ _ _ _ (by omega)]; exact i1
  have i2 : W8.cell? ⟨w.heap.size + 1, 2, none⟩ = some (.int .i64 xb) := by rw [hW, cell_set_blk _ _ _ _ _ _ (by omega)]; exact i2
  have i3 : W8.cell? ⟨w.heap.size + 1, 3, none⟩ = some (.int .i64 xc) := by rw [hW, cell_set_blk _ _ _ _ _ _ (by omega)]; exact i3
  have i4 : W8.cell? ⟨w.heap.size + 1, 4, none⟩ = some (.slice a4 n4 c4) := by rw [hW, cell_set_blk _ _ _ _ _ _ (by omega)]; exact i4
  have i5 : W8.cell? ⟨w.heap.size + 1, 5, none⟩ = some (.slice a5 n5 c5) := by rw [hW, cell_set_blk _ _ _ _ _ _ (by omega)]; exact i5
  have i6 : W8.cell? ⟨w.heap.size + 1, 6, none⟩ = some (.int .i64 xi) := by rw [hW, cell_set_blk _ _ _ _ _ _ (by omega)]; exact i6
  have i7 : W8.cell? ⟨w.heap.size + 1, 7, none⟩ = some (.string xn) := by rw [hW, cell_set_blk _ _ _ _ _ _ (by omega)]; exact i7
  have i8 : W8.cell? ⟨w.heap.size + 1, 8, none⟩ = some (.slice a6 n6 c6) := by rw [hW, cell_set_blk _ _ _ _ _ _ (by omega)]; exact i8
  have r3 : W8.cell? ⟨b1, o1 + k * 4 + 3, none⟩ = some (.slice a3 cn c3) := by rw [hW, cell_set_blk _ _ _ _ _ _ (by omega)]; exact r3
  rw [← hW]
  clear hW HC6 H6 q2 q2f hg6 hq hr hr2 hs1
  go_wp2_with fail
  (with_reducible refine ((KJ h60).out _ H8).mono ?_)
  rintro e w9 ⟨rr, rfl, ho, b9⟩
  have H9 := hid_upC H8 b9
  have f0 := cell_over f0 b9
  have f1 := cell_over f1 b9
  have f2 := cell_over f2 b9
  have i0 := cell_over i0 b9
  have i1 := cell_over i1 b9
  have i2 := cell_over i2 b9
  have i3 := cell_over i3 b9
  have i4 := cell_over i4 b9
  have i5 := cell_over i5 b9
  have i6 := cell_over i6 b9
  have i7 := cell_over i7 b9
  have i8 := cell_over i8 b9
  have r3 := cell_over r3 b9
  have y0 := cell_over y0 b9
  have y1 := cell_over y1 b9
  have y2 := cell_over y2 b9
  have HC9 : Hid (∀ (j : Nat) p, (Z.set k ({ f with slots := s }, .slice a3 cn c3))[j]? = some p → At w9 g (j * 4) (p.1.cells p.2)) := Lib.hid fun j p hp => (HC8.out j p hp).below hg8 b9
  have hg9 := Nat.lt_of_lt_of_le hg8 b9.size
  obtain ⟨h, ja, jc, rfl, hj1, hj2⟩ := own_rowS ho (by unfold maxLen; omega)
  have HJ1 := Lib.hid hj1
  have HJ2 := Lib.hid hj2
  clear b9 ho hj1 hj2 HC8 H8 hg8 KJ
  go_wp2_with fail
  go_loopw [12] (fun i wr => ∃ n : Nat, n ≤ nl ∧ i = .int .i64 n ∧ Hid (Below w9.heap.size w9 wr)) (fun i _ => nl - (intOf i).toNat)
  case atStart => exact ⟨0, by omega, rfl, Lib.hid (Below.refl _ _)⟩
  case round =>
    obtain ⟨n, hn, rfl, HB⟩ := hrel
    have hn0 : 0 ≤ (n : Int) := by omega
    have hg9 := Nat.lt_of_lt_of_le hg9 HB.out.size
    have f0 := cell_over f0 HB.out
    have f1 := cell_over f1 HB.out
    have f2 := cell_over f2 HB.out
    have i0 := cell_over i0 HB.out
    have i1 := cell_over i1 HB.out
    have i2 := cell_over i2 HB.out
    have i3 := cell_over i3 HB.out
    have i4 := cell_over i4 HB.out
    have i5 := cell_over i5 HB.out
    have i6 := cell_over i6 HB.out
    have i7 := cell_over i7 HB.out
    have i8 := cell_over i8 HB.out
    have r3 := cell_over r3 HB.out
    have y0 := cell_over y0 HB.out
    have y1 := cell_over y1 HB.out
    have y2 := cell_over y2 HB.out
    have H10 := Lib.hid (H9.out.trans (HB.out.mono H9.out.size))
    by_cases hlt : n < nl
    · have hn1 : (n : Int) < (nl : Int) := by omega
      obtain ⟨z, hz, hzm⟩ := get_at (l := l) (k := n) (by rw [← hl.out]; exact hlt)
      obtain ⟨rfl, hjl1, hjl2⟩ := HJ1.out (by omega)
      have q3 := cell_over (HJ2.out n z hz) HB.out
      have o3 := fun m : Over wr => cell_over q3 m.h
      have o0 := fun m : Over wr => cell_over f0 m.h
      have o9 := fun m : Over wr => cell_over r3 m.h
      have hzz := hjl.out z (List.mem_of_getElem? hz)
      have d1 : decide (z < 0) = false := decide_eq_false (by omega)
      have d2 : decide ((cn : Int) < z) = false := decide_eq_false (by omega)
      clear y0 y1 y2 hzz
      as_aux_lemma =>
        go_wp2_with fail
        refine wp_region_over (by kernel_rfl) (by kernel_rfl) ?_
        repeat (go_big_quiet_step (fail))
        refine wpQuiet_nil ?_
        rintro _ ⟨m, rfl⟩
        have HM := hid_upC HB m.h
        generalize m.w = mw at *
        clear o3 o0 o9 q3 m
        go_wp2_with fail
        go_roundw
        case rel => exact ⟨n + 1, by omega, by go_num, HM⟩
        case measure => simp [intOf]; omega
    · obtain rfl : n = nl := by omega
      have HCw : Hid (∀ (j : Nat) p, (Z.set k ({ f with slots := s }, .slice a3 cn c3))[j]? = some p → At wr g (j * 4) (p.1.cells p.2)) := Lib.hid fun j p hp i u hi => cell_over (HC9.out j p hp i u hi) HB.out
      have HS2 := Lib.hid hs2
      clear hs2 HC9
      as_aux_lemma =>
        go_wp2_with fail
        (with_reducible refine (KW.out _ g gcap s HS2.out hgc hg9 HCw.out H10).mono ?_)
        rintro e w11 ⟨rfl, b11⟩
        have H11 := hid_upC H10 b11
        clear b11 H10 HCw
        go_wp2_with fail
        (with_reducible refine (K3.out _ H11).mono ?_)
        rintro e w9 ⟨rfl, b9⟩
        have HZ := hid_upC H11 b9
        clear b9
        go_wp2_with fail
        go_ret
        exact ⟨rfl, HZ.out⟩

theorem codeSlots_walk (w : World) (u : UU) (vu : VU) (hu : u.In w.heap.size w vu) (fn : Int) (hfn : -9223372036854775808 ≤ fn ∧ fn ≤ 9223372036854775807) (x : JJ) (v : VJ) (hx : x.In w.heap.size w v) (mr : Int) (hmr : -9223372036854775808 ≤ mr ∧ mr ≤ 9223372036854775807) (hT : RTab w.heap.size w) :
    Calls Tryd.prog 8 #[u.val vu, .int .i64 fn, x.val v, .int .i64 mr] w fun e w' => e = .returned (.bool true) ∧ Below w.heap.size w w' := by
  have K0 := fun W (h : Hid (Below w.heap.size w W)) => large_calls w.heap.size u vu W h.out.size (hu.below h.out)
  have KL := fun W (h : Hid (Below w.heap.size w W)) => long_calls17 w.heap.size x v W h.out.size (hx.below h.out)
  have K1 := fun W (h : Hid (Below w.heap.size w W)) => instr_calls w.heap.size u vu fn x v W h.out.size (hu.below h.out) (hx.below h.out) (hT.up h.out)
  have K3 := fun W (h : Hid (Below w.heap.size w W)) => awake_calls W (hT.up h.out)
  cases hI : instrB u fn x with
  | false =>
    rw [hI] at K1
    obtain ⟨a1, c1, a2, c2, rfl⟩ := hu.shape
    obtain ⟨a4, c4, a5, c5, a6, c6, rfl⟩ := hx.shape
    exact codeSlots0_no a1 a2 a4 a5 a6 _ _ _ _ _ c1 c2 c4 c5 c6 _ fn mr _ _ _ _ _ 170 _ w (by decide) (Lib.hid K0) (Lib.hid KL) (Lib.hid K1) (Lib.hid K3)
  | true =>
    rw [hI] at K1
    obtain ⟨k, f, rfl, hf, hm⟩ := instrB_some hI
    have KJ := fun W (h : Hid (Below w.heap.size w W)) => jumps_calls w.heap.size x v W h.out.size (hx.below h.out) (slots_of_may hm)
    have hnl : (jumpsB x).length ≤ 1000 := by
      unfold jumpsB
      split
      · simp
      · split
        · rename_i h16; exact slots_of_may hm h16
        · simp
    have hkl := some_lt hf
    obtain ⟨b1, o1, ⟨hmx, ao, cap, hv, hc, h4⟩, hr⟩ := hu.1
    obtain ⟨hao, hb1⟩ := h4.resolve_left (by omega)
    obtain ⟨Z, hZ, hZa⟩ := frow_pairs hr
    have hZk : ∃ vc, Z[k]? = some (f, vc) := by
      rw [← hZ, List.getElem?_map, Option.map_eq_some_iff] at hf
      obtain ⟨⟨f', vc⟩, h1, rfl⟩ := hf
      exact ⟨vc, h1⟩
    obtain ⟨vc, hZk⟩ := hZk
    have hZl : u.funcs.length = Z.length := by rw [← hZ, List.length_map]
    have hZi : ∀ p, p ∈ Z → p.1.In w.heap.size w p.2 := fun p hp => by
      obtain ⟨j, hj⟩ := List.getElem?_of_mem hp
      exact (hZa j p hj).2
    have hfi : f.In w.heap.size w vc := (hZa k _ hZk).2
    have KW : ∀ W (g gc : Nat) (s : Int), (0 < f.slots → f.slots ≤ s) → u.funcs.length ≤ gc → g < W.heap.size → (∀ (j : Nat) p, (Z.set k ({ f with slots := s }, vc))[j]? = some p → At W g (j * 4) (p.1.cells p.2)) → Hid (Below w.heap.size w W) →
        Calls Tryd.prog 15 #[({ u with funcs := u.funcs.set k { f with slots := s } } : UU).val ⟨.slice (some ⟨g, 0, none⟩) u.funcs.length gc, vu.t⟩, .int .i64 k, x.val v] W fun e w' => e = .returned (.int .i64 0) ∧ Below W.heap.size W w' := by
      intro W g gc s hs hgc hg hC hW
      have hfs : (u.funcs.set k { f with slots := s })[k]? = some { f with slots := s } := List.getElem?_set_self hkl
      have hF : FsIn W.heap.size W ((Z.set k ({ f with slots := s }, vc)).map Prod.fst) (.slice (some ⟨g, 0, none⟩) u.funcs.length gc) :=
        mk_F (B := w.heap.size) (by rw [List.length_set]; exact hZl) hmx hgc (fun _ => ⟨rfl, hg⟩) hC (fun p hp => by
          rcases List.mem_or_eq_of_mem_set hp with hp | rfl
          · exact (hZi p hp).below hW.out
          · exact FF.In.below (x := { f with slots := s }) hfi hW.out) hW.out.size
      rw [List.map_set, hZ] at hF
      have h1 := instr_calls W.heap.size { u with funcs := u.funcs.set k { f with slots := s } } ⟨.slice (some ⟨g, 0, none⟩) u.funcs.length gc, vu.t⟩ k x v W (Nat.le_refl _) ⟨hF, (hu.2.below hW.out).mono hW.out.size⟩ ((hx.below hW.out).mono hW.out.size) (hT.up hW.out)
      rw [instrB_in (u := { u with funcs := u.funcs.set k { f with slots := s } }) hfs, mayJ_more hf hs hm] at h1
      exact h1
    obtain ⟨a3, c3, rfl⟩ := GIn.shape hfi.2
    have hjl := jumps_in hm
    have HZc := cellsF_one hZi
    obtain ⟨a1, c1, a2, c2, rfl⟩ := hu.shape
    obtain ⟨a4, c4, a5, c5, a6, c6, rfl⟩ := hx.shape
    obtain ⟨rfl, _, rfl⟩ := Value.slice.inj hv
    subst hao
    exact codeSlots0_yes a2 a3 a4 a5 a6 _ _ _ _ _ _ c2 c3 c4 c5 c6 _ k b1 o1 _ _ mr _ _ _ _ _ _ _ Z f _ w (Lib.hid K0) (Lib.hid KL) (Lib.hid K1) (fun _ => Lib.hid KJ) (Lib.hid KW) hkl hnl (Lib.hid hZl) (Lib.hid rfl) (Lib.hid hZk) (Lib.hid fun j p hp => (hZa j p hp).1) (Lib.hid HZc) (Lib.hid rfl) (Lib.hid hjl) (Lib.hid K3)

end Go.Proofs.YtlbdoomknjiilaaDoor
