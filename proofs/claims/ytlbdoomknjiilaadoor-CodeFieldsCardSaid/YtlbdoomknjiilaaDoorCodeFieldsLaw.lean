/- CodeFields: where a field stands, where an instruction jumps to (made by gen_codefields.py). -/
import Derived.Test.YtlbdoomknjiilaaDoorCodeLarge
import Derived.Test.YtlbdoomknjiilaaDoorCodeAwake
import Derived.Test.YtlbdoomknjiilaaDoorCodeRefField
namespace Go.Proofs.YtlbdoomknjiilaaDoor
open Go.RowKit
set_option linter.unusedVariables false

theorem cell_set_ne (w : World) (g k j : Nat) (v : Value) (h : k ≠ j) : (w.setCell ⟨g, k, none⟩ v).cell? ⟨g, j, none⟩ = w.cell? ⟨g, j, none⟩ := by
  apply World.cell?_setCell_other
  intro e
  injection e with e1 e2
  omega
theorem own_row {w : World} {base n : Nat} {v : Value} {l : List Int} (h : w.ownsRow base 3 1 v n (ints l)) (hn : n ≤ maxLen) :
    ∃ g ao cap, v = .slice ao n cap ∧ (n ≠ 0 → ao = some ⟨g, 0, none⟩ ∧ g < w.heap.size ∧ base ≤ g) ∧ ∀ (j : Nat) z, l[j]? = some z → w.cell? ⟨g, j, none⟩ = some (.int .i64 z) ∧ w.frozen? ⟨g, j, none⟩ = false := by
  have hlt := h.lt
  obtain ⟨⟨_, ao, cap, rfl, hc, h4⟩, h2⟩ := own_cells h hn
  refine ⟨rowAt (.slice ao n cap), ao, cap, rfl, fun h0 => ⟨(h4.resolve_left h0).1, (h4.resolve_left h0).2, ?_⟩, fun j z hj => ?_⟩
  · have := (h4.resolve_left h0).1
    exact (hlt _ (by rw [this]; rfl)).1
  · have := h2 j (.int .i64 z) (by unfold ints; rw [List.getElem?_map, hj]; rfl)
    rw [Nat.zero_add] at this
    exact this
set_option maxRecDepth 100000 in
set_option maxHeartbeats 16000000 in
theorem codeFields0_walk (a1 a2 a4 a5 a6 : Option Addr) (n1 n2 n4 n5 n6 c1 c2 c4 c5 c6 : Nat) (mn op xa xb xc xi p : Int) (ok : Bool) (nm fd xn : ByteArray) (l : List Int) (nl b4 o4 : Nat) (w : World)
    (K0 : Hid (∀ W, Hid (Below w.heap.size w W) → Calls Tryd.prog 10 #[.agg #[.slice a1 n1 c1, .int .i64 mn, .slice a2 n2 c2]] W fun e w' => ∃ r, e = .returned (.bool r) ∧ (r = false → n1 ≤ 30) ∧ Below W.heap.size W w'))
    (KL : Hid (∀ W, Hid (Below w.heap.size w W) → Calls Tryd.prog 14 #[.agg #[.int .u8 op, .int .i64 xa, .int .i64 xb, .int .i64 xc, .slice a4 n4 c4, .slice a5 n5 c5, .int .i64 xi, .string xn, .slice a6 n6 c6]] W fun e w' => ∃ r, e = .returned (.bool r) ∧ (r = false → n4 ≤ 60) ∧ Below W.heap.size W w'))
    (K1 : Hid (∀ W, Hid (Below w.heap.size w W) → Calls Tryd.prog 17 #[.agg #[.slice a1 n1 c1, .int .i64 mn, .slice a2 n2 c2], .string nm, .string fd] W fun e w' => e = .returned (.tuple #[.int .i64 p, .bool ok]) ∧ Below W.heap.size W w'))
    (K2 : Hid (∀ W, Hid (Below w.heap.size w W) → Calls Tryd.prog 18 #[.agg #[.slice a1 n1 c1, .int .i64 mn, .slice a2 n2 c2], .string nm, .string fd] W fun e w' => e = .returned (.tuple #[.int .i64 p, .bool ok]) ∧ Below W.heap.size W w'))
    (KJ : n4 ≤ 60 → Hid (∀ W, Hid (Below w.heap.size w W) → Calls Tryd.prog 19 #[.agg #[.int .u8 op, .int .i64 xa, .int .i64 xb, .int .i64 xc, .slice a4 n4 c4, .slice a5 n5 c5, .int .i64 xi, .string xn, .slice a6 n6 c6]] W fun e w' => ∃ r, e = .returned r ∧ w'.ownsRow W.heap.size 3 1 r nl (ints l) ∧ Below W.heap.size W w'))
    (K3 : Hid (∀ W, Hid (Below w.heap.size w W) → Calls Tryd.prog 13 #[] W fun e w' => e = .returned (.bool true) ∧ Below W.heap.size W w'))
    (hl : Hid (nl = l.length)) (hop : Hid (op = 14 ∧ l = [xa] ∨ op = 15 ∧ l = [xa] ∨ (op = 16 ∧ nl = n4 ∧ (n4 ≠ 0 → a4 = some ⟨b4, o4, none⟩) ∧ ∀ (j : Nat) z, l[j]? = some z → w.cell? ⟨b4, o4 + j, none⟩ = some (.int .i64 z)) ∨ (op ≠ 14 ∧ op ≠ 15 ∧ op ≠ 16 ∧ l = []))) :
    Calls Tryd.prog 5 #[.agg #[.slice a1 n1 c1, .int .i64 mn, .slice a2 n2 c2], .string nm, .string fd, .agg #[.int .u8 op, .int .i64 xa, .int .i64 xb, .int .i64 xc, .slice a4 n4 c4, .slice a5 n5 c5, .int .i64 xi, .string xn, .slice a6 n6 c6]] w fun e w' => e = .returned (.bool true) ∧ Below w.heap.size w w' := by
  obtain ⟨i0, hi, hz0, hz1, hz2⟩ := info_parts infoIntC
  obtain ⟨W0, hW⟩ : ∃ W, W = (w.alloc (.cells #[.slice a1 n1 c1, .int .i64 mn, .slice a2 n2 c2] 25)).alloc (.cells #[.int .u8 op, .int .i64 xa, .int .i64 xb, .int .i64 xc, .slice a4 n4 c4, .slice a5 n5 c5, .int .i64 xi, .string xn, .slice a6 n6 c6] 34) := ⟨_, rfl⟩
  have mB : Hid (Below w.heap.size w W0) := by rw [hW]; exact Lib.hid (box2 w _ _)
  have f0 : W0.cell? ⟨w.heap.size, 0, none⟩ = some (.slice a1 n1 c1) := by rw [hW]; go_simp
  have f1 : W0.cell? ⟨w.heap.size, 1, none⟩ = some (.int .i64 mn) := by rw [hW]; go_simp
  have f2 : W0.cell? ⟨w.heap.size, 2, none⟩ = some (.slice a2 n2 c2) := by rw [hW]; go_simp
  have i0' : W0.cell? ⟨w.heap.size + 1, 0, none⟩ = some (.int .u8 op) := by rw [hW]; go_simp
  have i1' : W0.cell? ⟨w.heap.size + 1, 1, none⟩ = some (.int .i64 xa) := by rw [hW]; go_simp
  have i2' : W0.cell? ⟨w.heap.size + 1, 2, none⟩ = some (.int .i64 xb) := by rw [hW]; go_simp
  have i3' : W0.cell? ⟨w.heap.size + 1, 3, none⟩ = some (.int .i64 xc) := by rw [hW]; go_simp
  have i4' : W0.cell? ⟨w.heap.size + 1, 4, none⟩ = some (.slice a4 n4 c4) := by rw [hW]; go_simp
  have i5' : W0.cell? ⟨w.heap.size + 1, 5, none⟩ = some (.slice a5 n5 c5) := by rw [hW]; go_simp
  have i6' : W0.cell? ⟨w.heap.size + 1, 6, none⟩ = some (.int .i64 xi) := by rw [hW]; go_simp
  have i7' : W0.cell? ⟨w.heap.size + 1, 7, none⟩ = some (.string xn) := by rw [hW]; go_simp
  have i8' : W0.cell? ⟨w.heap.size + 1, 8, none⟩ = some (.slice a6 n6 c6) := by rw [hW]; go_simp
  have hpp : (p != p) = false := by simp
  have hok : (ok != ok) = false := by cases ok <;> rfl
  have hnn : ((nl : Int) != nl) = false := by simp
  go_enter Tryd.func5, Tryd.ntmps5
  go_upto_region 1 with (fail)
  rw [← hW]
  clear hW
  go_wp2_with fail
  (with_reducible refine (K0.out _ mB).mono ?_)
  rintro e w1 ⟨q, rfl, -, b1⟩
  have H1 := hid_upC mB b1
  have f0 := cell_over f0 b1
  have f1 := cell_over f1 b1
  have f2 := cell_over f2 b1
  have i0' := cell_over i0' b1
  have i1' := cell_over i1' b1
  have i2' := cell_over i2' b1
  have i3' := cell_over i3' b1
  have i4' := cell_over i4' b1
  have i5' := cell_over i5' b1
  have i6' := cell_over i6' b1
  have i7' := cell_over i7' b1
  have i8' := cell_over i8' b1
  clear b1 mB K0
  cases q with
  | true =>
    go_wp2_with fail
    go_ret
    exact ⟨rfl, H1.out⟩
  | false =>
  go_wp2_with fail
  (with_reducible refine (KL.out _ H1).mono ?_)
  rintro e w3 ⟨q, rfl, hq, b3⟩
  have H3 := hid_upC H1 b3
  have f0 := cell_over f0 b3
  have f1 := cell_over f1 b3
  have f2 := cell_over f2 b3
  have i0' := cell_over i0' b3
  have i1' := cell_over i1' b3
  have i2' := cell_over i2' b3
  have i3' := cell_over i3' b3
  have i4' := cell_over i4' b3
  have i5' := cell_over i5' b3
  have i6' := cell_over i6' b3
  have i7' := cell_over i7' b3
  have i8' := cell_over i8' b3
  clear b3 H1 KL
  cases q with
  | true =>
    go_wp2_with fail
    go_ret
    exact ⟨rfl, H3.out⟩
  | false =>
  have h60 := hq rfl
  have KJ := KJ h60
  clear hq
  by_cases g1 : 1000 < (nm.size : Int)
  · go_wp2_with fail
    go_ret
    exact ⟨rfl, H3.out⟩
  by_cases g2 : 1000 < (fd.size : Int)
  · go_wp2_with fail
    go_ret
    exact ⟨rfl, H3.out⟩
  have d1 := decide_eq_false g1
  have d2 := decide_eq_false g2
  go_wp2_with fail
  (with_reducible refine (K1.out _ H3).mono ?_)
  rintro e w4 ⟨rfl, b4'⟩
  have H4 := hid_upC H3 b4'
  have f0 := cell_over f0 b4'
  have f1 := cell_over f1 b4'
  have f2 := cell_over f2 b4'
  have i0' := cell_over i0' b4'
  have i1' := cell_over i1' b4'
  have i2' := cell_over i2' b4'
  have i3' := cell_over i3' b4'
  have i4' := cell_over i4' b4'
  have i5' := cell_over i5' b4'
  have i6' := cell_over i6' b4'
  have i7' := cell_over i7' b4'
  have i8' := cell_over i8' b4'
  clear b4' H3 K1
  go_wp2_with fail
  (with_reducible refine (K2.out _ H4).mono ?_)
  rintro e w5 ⟨rfl, b5⟩
  have H5 := hid_upC H4 b5
  have f0 := cell_over f0 b5
  have f1 := cell_over f1 b5
  have f2 := cell_over f2 b5
  have i0' := cell_over i0' b5
  have i1' := cell_over i1' b5
  have i2' := cell_over i2' b5
  have i3' := cell_over i3' b5
  have i4' := cell_over i4' b5
  have i5' := cell_over i5' b5
  have i6' := cell_over i6' b5
  have i7' := cell_over i7' b5
  have i8' := cell_over i8' b5
  clear b5 H4 K2 g1 g2
  have HX : Hid (w.heap.size + 1 < w5.heap.size) := Lib.hid (World.block_lt_of_cell? w5 _ i0')
  rcases hop.out with hcase | hcase | hcase | hcase
  · obtain ⟨ga', gl⟩ := hcase
    subst ga'
    have gl := gl
    obtain rfl : nl = 1 := by rw [hl.out, gl]; rfl
    have HXX := Lib.hid gl
    clear gl
    go_wp2_with (first
      | (at_builtin; refine wpList_append_anyC rfl _ _ 31 rfl w5.heap.size 3 i0 (.int .i64 0) 1 8 Tryd.underlying31 hi hz0 hz1 hz2 rfl (by decide) (.slice none 0 0) 0 [] rfl (World.ownsRow_nil _ _ _ _) (some ⟨w5.heap.size, 0, none⟩) 1 1 [.int .i64 xa] rfl (fun h => by cases h) rfl (fun ad ha => by cases ha; exact one_at _ _ _) (one_oneI _ _) ?c3 ?c4 ?c5 ?_)
      | fail)
    case c3 => unfold maxLen; omega
    case c4 => omega
    case c5 => simp
    intro v' v hown hgrow
    have HV : Hid (Below w.heap.size w v) := Lib.hid ((hid_upC H5 (box1 w5 _)).out.grown hgrow (by have := H5.out.size; simp; omega) (fun k hk => by simp [Value.ownBlock] at hk))
    have HVv : Hid (Below w5.heap.size w5 v) := Lib.hid ((box1 w5 _).grown hgrow (by simp) (fun k hk => by simp [Value.ownBlock] at hk))
    obtain ⟨h, wa, wc, rfl, hw1, hw2⟩ := own_row (l := l) (by rw [HXX.out]; simpa [ints] using hown) (by unfold maxLen; omega)
    have HWc : Hid (1 ≠ 0 → wa = some ⟨h, 0, none⟩ ∧ h < v.heap.size) := Lib.hid fun h0 => ⟨(hw1 h0).1, (hw1 h0).2.1⟩
    have HWr : Hid (∀ (j : Nat) z, l[j]? = some z → v.cell? ⟨h, j, none⟩ = some (.int .i64 z)) := Lib.hid fun j z hj => (hw2 j z hj).1
    have f0 := cell_over f0 HVv.out
    have f1 := cell_over f1 HVv.out
    have f2 := cell_over f2 HVv.out
    have i0' := cell_over i0' HVv.out
    have i1' := cell_over i1' HVv.out
    have i2' := cell_over i2' HVv.out
    have i3' := cell_over i3' HVv.out
    have i4' := cell_over i4' HVv.out
    have i5' := cell_over i5' HVv.out
    have i6' := cell_over i6' HVv.out
    have i7' := cell_over i7' HVv.out
    have i8' := cell_over i8' HVv.out
    have HX : Hid (w.heap.size + 1 < v.heap.size) := Lib.hid (Nat.lt_of_lt_of_le HX.out HVv.out.size)
    clear hw1 hw2 HVv hown hgrow
    go_wp2_with fail
    (with_reducible refine (KJ.out _ HV).mono ?_)
    rintro e w6 ⟨r, rfl, ho, b6⟩
    have H6 := hid_upC HV b6
    have B6 := Lib.hid b6
    have f0 := cell_over f0 b6
    have f1 := cell_over f1 b6
    have f2 := cell_over f2 b6
    have i0' := cell_over i0' b6
    have i1' := cell_over i1' b6
    have i2' := cell_over i2' b6
    have i3' := cell_over i3' b6
    have i4' := cell_over i4' b6
    have i5' := cell_over i5' b6
    have i6' := cell_over i6' b6
    have i7' := cell_over i7' b6
    have i8' := cell_over i8' b6
    obtain ⟨g, ga, gc, rfl, hg1, hg2⟩ := own_row ho (by unfold maxLen; omega)
    have HG1 := Lib.hid hg1
    have HG2 := Lib.hid hg2
    clear b6 ho hg1 hg2
    obtain ⟨G5, hG5⟩ : ∃ G, G = v.heap.size := ⟨_, rfl⟩
    rw [← hG5] at HG1 HWc B6
    have HGw : Hid (w.heap.size ≤ G5 ∧ G5 ≤ w6.heap.size) := Lib.hid ⟨by rw [hG5]; exact HV.out.size, by rw [hG5]; exact B6.out.size⟩
    have hx5 : w.heap.size + 1 < G5 := by rw [hG5]; exact HX.out
    have HWr : Hid (∀ (j : Nat) z, l[j]? = some z → w6.cell? ⟨h, j, none⟩ = some (.int .i64 z)) := Lib.hid fun j z hj => (B6.out.cell (p := ⟨h, j, none⟩) (HWc.out (by have := some_lt hj; have := hl.out; omega)).2).trans (HWr.out j z hj)
    clear hG5 B6
    have HB8 : Hid (∀ b o v W, w6.cell? ⟨b, o, none⟩ = some v → b < G5 → Hid (Below G5 w6 W) → W.cell? ⟨b, o, none⟩ = some v) := Lib.hid fun b o v W h1 h2 h3 => (h3.out.cell (p := ⟨b, o, none⟩) h2).trans h1
    go_wp2_with fail
    go_loopw [15] (fun i wr => ∃ k : Nat, k ≤ 1 ∧ i = .int .i64 k ∧ Hid (Below G5 w6 wr) ∧ Hid (∀ (j : Nat) z, k ≤ j → l[j]? = some z → wr.cell? ⟨g, j, none⟩ = some (.int .i64 z) ∧ wr.frozen? ⟨g, j, none⟩ = false)) (fun i _ => 1 - (intOf i).toNat)
    case atStart => exact ⟨0, by omega, rfl, Lib.hid (Below.refl _ _), Lib.hid fun j z _ hj => HG2.out j z hj⟩
    case round =>
      obtain ⟨k, hk, rfl, HB, HC⟩ := hrel
      have hk0 : 0 ≤ (k : Int) := by omega
      by_cases hlt : k < 1
      · have hk1 : (k : Int) < (1 : Int) := by omega
        obtain ⟨z, hz, _⟩ := get_at (l := l) (k := k) (by rw [← hl.out]; exact hlt)
        obtain ⟨rfl, hgl, hgG⟩ := HG1.out (by omega)
        obtain ⟨rfl, hh⟩ := HWc.out (by omega)
        obtain ⟨q1, q2⟩ := HC.out k z (Nat.le_refl _) hz
        have q3 := HB8.out h k _ wr (HWr.out k z hz) hh HB
        have o1 := fun m : Over wr => cell_over q1 m.h
        have o3 := fun m : Over wr => cell_over q3 m.h
        have hgr := World.block_lt_of_cell? wr _ q1
        have hzz : (z != z) = false := by simp
        as_aux_lemma =>
          go_wp2_with fail
          refine wp_region_over (by kernel_rfl) (by kernel_rfl) ?_
          repeat (go_big_quiet_step (fail))
          refine wpQuiet_nil ?_
          rintro _ ⟨m, rfl⟩
          have c1' : m.w.cell? ⟨g, k, none⟩ = some (.int .i64 z) := cell_over q1 m.h
          have z1 : m.w.frozen? ⟨g, k, none⟩ = false := (m.h.frozen (p := ⟨g, k, none⟩) hgr).trans q2
          have HM : Hid (Below G5 w6 m.w) := Lib.hid (HB.out.trans (m.h.mono (Nat.le_trans HGw.out.2 HB.out.size)))
          have HC2 : Hid (∀ (j : Nat) z, k + 1 ≤ j → l[j]? = some z → (m.w.setCell ⟨g, k, none⟩ (.int .i64 (-7))).cell? ⟨g, j, none⟩ = some (.int .i64 z) ∧ (m.w.setCell ⟨g, k, none⟩ (.int .i64 (-7))).frozen? ⟨g, j, none⟩ = false) := Lib.hid fun j z hj hjz => by
            obtain ⟨r1, r2⟩ := HC.out j z (by omega) hjz
            have r1 := cell_over r1 m.h
            have r2 := (m.h.frozen (p := ⟨g, j, none⟩) hgr).trans r2
            refine ⟨?_, ?_⟩
            · rw [cell_set_ne _ _ _ _ _ (by omega)]; exact r1
            · rw [World.frozen?_setCell]; exact r2
          have HB2 : Hid (Below G5 w6 (m.w.setCell ⟨g, k, none⟩ (.int .i64 (-7)))) := Lib.hid (HM.out.setCell (by exact hgG) _)
          generalize m.w = mw at *
          clear o1 o3 q1 q2 q3 m
          go_wp2_with fail
          go_roundw
          case rel => exact ⟨k + 1, by omega, by go_num, HB2, HC2⟩
          case measure => simp [intOf]; omega
      · obtain rfl : k = 1 := by omega
        have hx : Hid (∀ b o v, w6.cell? ⟨b, o, none⟩ = some v → b < G5 → wr.cell? ⟨b, o, none⟩ = some v) := Lib.hid fun b o v h1 h2 => HB8.out b o v wr h1 h2 HB
        have x0 := hx.out (w.heap.size + 1) 0 _ i0' hx5
        have x4 := hx.out (w.heap.size + 1) 4 _ i4' hx5
        have HT := Lib.hid (H6.out.trans (HB.out.mono HGw.out.1))
        have HWr : Hid (∀ (j : Nat) z, l[j]? = some z → wr.cell? ⟨h, j, none⟩ = some (.int .i64 z)) := Lib.hid fun j z hj => hx.out _ _ _ (HWr.out j z hj) (HWc.out (by have := some_lt hj; have := hl.out; omega)).2
        clear HC hx hlt
        go_wp2_with fail
        obtain ⟨wo, hwo⟩ : ∃ wo : World, wo = wr := ⟨_, rfl⟩
        rw [← hwo] at x0 x4 HT HWr ⊢
        clear hwo
        go_loopw [16] (fun i w9 => ∃ k : Nat, k ≤ 1 ∧ i = .int .i64 k ∧ Hid (Below wo.heap.size wo w9)) (fun i _ => 1 - (intOf i).toNat)
        case atStart => exact ⟨0, by omega, rfl, Lib.hid (Below.refl _ _)⟩
        case round =>
          obtain ⟨k, hk, rfl, HE⟩ := hrel
          have hk0 : 0 ≤ (k : Int) := by omega
          have x0 := cell_over x0 HE.out
          have x4 := cell_over x4 HE.out
          have HF := Lib.hid (HT.out.trans (HE.out.mono HT.out.size))
          by_cases hlt : k < 1
          · have hk1 : (k : Int) < (1 : Int) := by omega
            as_aux_lemma =>
              go_wp2_with fail
              (with_reducible refine (K3.out _ HF).mono ?_)
              rintro e w10 ⟨rfl, b10⟩
              have HZ := hid_upC HF b10
              clear b10
              go_wp2_with fail
              go_ret
              exact ⟨rfl, HZ.out⟩
          · obtain rfl : k = 1 := by omega
            as_aux_lemma =>
              go_wp2_with fail
              (with_reducible refine (K3.out _ HF).mono ?_)
              rintro e w10 ⟨rfl, b10⟩
              have HZ := hid_upC HF b10
              clear b10
              go_wp2_with fail
              go_ret
              exact ⟨rfl, HZ.out⟩
  · obtain ⟨ga', gl⟩ := hcase
    subst ga'
    have gl := gl
    obtain rfl : nl = 1 := by rw [hl.out, gl]; rfl
    have HXX := Lib.hid gl
    clear gl
    go_wp2_with (first
      | (at_builtin; refine wpList_append_anyC rfl _ _ 31 rfl w5.heap.size 3 i0 (.int .i64 0) 1 8 Tryd.underlying31 hi hz0 hz1 hz2 rfl (by decide) (.slice none 0 0) 0 [] rfl (World.ownsRow_nil _ _ _ _) (some ⟨w5.heap.size, 0, none⟩) 1 1 [.int .i64 xa] rfl (fun h => by cases h) rfl (fun ad ha => by cases ha; exact one_at _ _ _) (one_oneI _ _) ?c3 ?c4 ?c5 ?_)
      | fail)
    case c3 => unfold maxLen; omega
    case c4 => omega
    case c5 => simp
    intro v' v hown hgrow
    have HV : Hid (Below w.heap.size w v) := Lib.hid ((hid_upC H5 (box1 w5 _)).out.grown hgrow (by have := H5.out.size; simp; omega) (fun k hk => by simp [Value.ownBlock] at hk))
    have HVv : Hid (Below w5.heap.size w5 v) := Lib.hid ((box1 w5 _).grown hgrow (by simp) (fun k hk => by simp [Value.ownBlock] at hk))
    obtain ⟨h, wa, wc, rfl, hw1, hw2⟩ := own_row (l := l) (by rw [HXX.out]; simpa [ints] using hown) (by unfold maxLen; omega)
    have HWc : Hid (1 ≠ 0 → wa = some ⟨h, 0, none⟩ ∧ h < v.heap.size) := Lib.hid fun h0 => ⟨(hw1 h0).1, (hw1 h0).2.1⟩
    have HWr : Hid (∀ (j : Nat) z, l[j]? = some z → v.cell? ⟨h, j, none⟩ = some (.int .i64 z)) := Lib.hid fun j z hj => (hw2 j z hj).1
    have f0 := cell_over f0 HVv.out
    have f1 := cell_over f1 HVv.out
    have f2 := cell_over f2 HVv.out
    have i0' := cell_over i0' HVv.out
    have i1' := cell_over i1' HVv.out
    have i2' := cell_over i2' HVv.out
    have i3' := cell_over i3' HVv.out
    have i4' := cell_over i4' HVv.out
    have i5' := cell_over i5' HVv.out
    have i6' := cell_over i6' HVv.out
    have i7' := cell_over i7' HVv.out
    have i8' := cell_over i8' HVv.out
    have HX : Hid (w.heap.size + 1 < v.heap.size) := Lib.hid (Nat.lt_of_lt_of_le HX.out HVv.out.size)
    clear hw1 hw2 HVv hown hgrow
    go_wp2_with fail
    (with_reducible refine (KJ.out _ HV).mono ?_)
    rintro e w6 ⟨r, rfl, ho, b6⟩
    have H6 := hid_upC HV b6
    have B6 := Lib.hid b6
    have f0 := cell_over f0 b6
    have f1 := cell_over f1 b6
    have f2 := cell_over f2 b6
    have i0' := cell_over i0' b6
    have i1' := cell_over i1' b6
    have i2' := cell_over i2' b6
    have i3' := cell_over i3' b6
    have i4' := cell_over i4' b6
    have i5' := cell_over i5' b6
    have i6' := cell_over i6' b6
    have i7' := cell_over i7' b6
    have i8' := cell_over i8' b6
    obtain ⟨g, ga, gc, rfl, hg1, hg2⟩ := own_row ho (by unfold maxLen; omega)
    have HG1 := Lib.hid hg1
    have HG2 := Lib.hid hg2
    clear b6 ho hg1 hg2
    obtain ⟨G5, hG5⟩ : ∃ G, G = v.heap.size := ⟨_, rfl⟩
    rw [← hG5] at HG1 HWc B6
    have HGw : Hid (w.heap.size ≤ G5 ∧ G5 ≤ w6.heap.size) := Lib.hid ⟨by rw [hG5]; exact HV.out.size, by rw [hG5]; exact B6.out.size⟩
    have hx5 : w.heap.size + 1 < G5 := by rw [hG5]; exact HX.out
    have HWr : Hid (∀ (j : Nat) z, l[j]? = some z → w6.cell? ⟨h, j, none⟩ = some (.int .i64 z)) := Lib.hid fun j z hj => (B6.out.cell (p := ⟨h, j, none⟩) (HWc.out (by have := some_lt hj; have := hl.out; omega)).2).trans (HWr.out j z hj)
    clear hG5 B6
    have HB8 : Hid (∀ b o v W, w6.cell? ⟨b, o, none⟩ = some v → b < G5 → Hid (Below G5 w6 W) → W.cell? ⟨b, o, none⟩ = some v) := Lib.hid fun b o v W h1 h2 h3 => (h3.out.cell (p := ⟨b, o, none⟩) h2).trans h1
    go_wp2_with fail
    go_loopw [15] (fun i wr => ∃ k : Nat, k ≤ 1 ∧ i = .int .i64 k ∧ Hid (Below G5 w6 wr) ∧ Hid (∀ (j : Nat) z, k ≤ j → l[j]? = some z → wr.cell? ⟨g, j, none⟩ = some (.int .i64 z) ∧ wr.frozen? ⟨g, j, none⟩ = false)) (fun i _ => 1 - (intOf i).toNat)
    case atStart => exact ⟨0, by omega, rfl, Lib.hid (Below.refl _ _), Lib.hid fun j z _ hj => HG2.out j z hj⟩
    case round =>
      obtain ⟨k, hk, rfl, HB, HC⟩ := hrel
      have hk0 : 0 ≤ (k : Int) := by omega
      by_cases hlt : k < 1
      · have hk1 : (k : Int) < (1 : Int) := by omega
        obtain ⟨z, hz, _⟩ := get_at (l := l) (k := k) (by rw [← hl.out]; exact hlt)
        obtain ⟨rfl, hgl, hgG⟩ := HG1.out (by omega)
        obtain ⟨rfl, hh⟩ := HWc.out (by omega)
        obtain ⟨q1, q2⟩ := HC.out k z (Nat.le_refl _) hz
        have q3 := HB8.out h k _ wr (HWr.out k z hz) hh HB
        have o1 := fun m : Over wr => cell_over q1 m.h
        have o3 := fun m : Over wr => cell_over q3 m.h
        have hgr := World.block_lt_of_cell? wr _ q1
        have hzz : (z != z) = false := by simp
        as_aux_lemma =>
          go_wp2_with fail
          refine wp_region_over (by kernel_rfl) (by kernel_rfl) ?_
          repeat (go_big_quiet_step (fail))
          refine wpQuiet_nil ?_
          rintro _ ⟨m, rfl⟩
          have c1' : m.w.cell? ⟨g, k, none⟩ = some (.int .i64 z) := cell_over q1 m.h
          have z1 : m.w.frozen? ⟨g, k, none⟩ = false := (m.h.frozen (p := ⟨g, k, none⟩) hgr).trans q2
          have HM : Hid (Below G5 w6 m.w) := Lib.hid (HB.out.trans (m.h.mono (Nat.le_trans HGw.out.2 HB.out.size)))
          have HC2 : Hid (∀ (j : Nat) z, k + 1 ≤ j → l[j]? = some z → (m.w.setCell ⟨g, k, none⟩ (.int .i64 (-7))).cell? ⟨g, j, none⟩ = some (.int .i64 z) ∧ (m.w.setCell ⟨g, k, none⟩ (.int .i64 (-7))).frozen? ⟨g, j, none⟩ = false) := Lib.hid fun j z hj hjz => by
            obtain ⟨r1, r2⟩ := HC.out j z (by omega) hjz
            have r1 := cell_over r1 m.h
            have r2 := (m.h.frozen (p := ⟨g, j, none⟩) hgr).trans r2
            refine ⟨?_, ?_⟩
            · rw [cell_set_ne _ _ _ _ _ (by omega)]; exact r1
            · rw [World.frozen?_setCell]; exact r2
          have HB2 : Hid (Below G5 w6 (m.w.setCell ⟨g, k, none⟩ (.int .i64 (-7)))) := Lib.hid (HM.out.setCell (by exact hgG) _)
          generalize m.w = mw at *
          clear o1 o3 q1 q2 q3 m
          go_wp2_with fail
          go_roundw
          case rel => exact ⟨k + 1, by omega, by go_num, HB2, HC2⟩
          case measure => simp [intOf]; omega
      · obtain rfl : k = 1 := by omega
        have hx : Hid (∀ b o v, w6.cell? ⟨b, o, none⟩ = some v → b < G5 → wr.cell? ⟨b, o, none⟩ = some v) := Lib.hid fun b o v h1 h2 => HB8.out b o v wr h1 h2 HB
        have x0 := hx.out (w.heap.size + 1) 0 _ i0' hx5
        have x4 := hx.out (w.heap.size + 1) 4 _ i4' hx5
        have HT := Lib.hid (H6.out.trans (HB.out.mono HGw.out.1))
        have HWr : Hid (∀ (j : Nat) z, l[j]? = some z → wr.cell? ⟨h, j, none⟩ = some (.int .i64 z)) := Lib.hid fun j z hj => hx.out _ _ _ (HWr.out j z hj) (HWc.out (by have := some_lt hj; have := hl.out; omega)).2
        clear HC hx hlt
        go_wp2_with fail
        obtain ⟨wo, hwo⟩ : ∃ wo : World, wo = wr := ⟨_, rfl⟩
        rw [← hwo] at x0 x4 HT HWr ⊢
        clear hwo
        go_loopw [16] (fun i w9 => ∃ k : Nat, k ≤ 1 ∧ i = .int .i64 k ∧ Hid (Below wo.heap.size wo w9)) (fun i _ => 1 - (intOf i).toNat)
        case atStart => exact ⟨0, by omega, rfl, Lib.hid (Below.refl _ _)⟩
        case round =>
          obtain ⟨k, hk, rfl, HE⟩ := hrel
          have hk0 : 0 ≤ (k : Int) := by omega
          have x0 := cell_over x0 HE.out
          have x4 := cell_over x4 HE.out
          have HF := Lib.hid (HT.out.trans (HE.out.mono HT.out.size))
          by_cases hlt : k < 1
          · have hk1 : (k : Int) < (1 : Int) := by omega
            as_aux_lemma =>
              go_wp2_with fail
              (with_reducible refine (K3.out _ HF).mono ?_)
              rintro e w10 ⟨rfl, b10⟩
              have HZ := hid_upC HF b10
              clear b10
              go_wp2_with fail
              go_ret
              exact ⟨rfl, HZ.out⟩
          · obtain rfl : k = 1 := by omega
            as_aux_lemma =>
              go_wp2_with fail
              (with_reducible refine (K3.out _ HF).mono ?_)
              rintro e w10 ⟨rfl, b10⟩
              have HZ := hid_upC HF b10
              clear b10
              go_wp2_with fail
              go_ret
              exact ⟨rfl, HZ.out⟩
  · obtain ⟨ga', gn, gc', gr⟩ := hcase
    subst ga'
    have HNL := Lib.hid gn
    have HS4 : Hid (nl ≠ 0 → a4 = some ⟨b4, o4, none⟩) := Lib.hid fun h0 => gc' (by omega)
    have HSr := Lib.hid gr
    have HLI : Hid ((ints l).length = n4 * 1) := Lib.hid (by unfold ints; rw [List.length_map, ← hl.out, Nat.mul_one]; exact gn)
    have HNW : Hid (∀ ad, a4 = some ad → ∀ j u, (ints l)[j]? = some u → w5.cell? (ad.add j) = some u) := Lib.hid fun ad ha j u hu => by
      unfold ints at hu
      rw [List.getElem?_map, Option.map_eq_some_iff] at hu
      obtain ⟨z, hz, rfl⟩ := hu
      have h0 := HS4.out (by rw [hl.out]; have := some_lt hz; omega)
      rw [h0] at ha
      cases ha
      rw [Addr.add_mid]
      exact cell_over (HSr.out j z hz) H5.out
    have HA0 : Hid (a4 = none → n4 = 0) := Lib.hid fun h => by
      by_cases h0 : n4 = 0
      · exact h0
      · have := gc' h0
        rw [h] at this
        cases this
    obtain rfl := gn
    clear gc' gr
    go_wp2_with (first
      | (at_builtin; refine wpList_append_anyC rfl _ _ 31 rfl w5.heap.size 3 i0 (.int .i64 0) 1 8 Tryd.underlying31 hi hz0 hz1 hz2 rfl (by decide) (.slice none 0 0) 0 [] rfl (World.ownsRow_nil _ _ _ _) a4 nl c4 (ints l) rfl HA0.out HLI.out HNW.out (ints_one l) ?c3 ?c4 ?c5 ?_)
      | fail)
    case c3 => unfold maxLen; omega
    case c4 => omega
    case c5 => simp
    intro v' v hown hgrow
    have HV : Hid (Below w.heap.size w v) := Lib.hid (H5.out.grown hgrow H5.out.size (fun k hk => by simp [Value.ownBlock] at hk))
    have HVv : Hid (Below w5.heap.size w5 v) := Lib.hid ((Below.refl _ w5).grown hgrow (Nat.le_refl _) (fun k hk => by simp [Value.ownBlock] at hk))
    obtain ⟨h, wa, wc, rfl, hw1, hw2⟩ := own_row (l := l) (n := nl) (by simpa using hown) (by unfold maxLen; omega)
    have HWc : Hid (nl ≠ 0 → wa = some ⟨h, 0, none⟩ ∧ h < v.heap.size) := Lib.hid fun h0 => ⟨(hw1 h0).1, (hw1 h0).2.1⟩
    have HWr : Hid (∀ (j : Nat) z, l[j]? = some z → v.cell? ⟨h, j, none⟩ = some (.int .i64 z)) := Lib.hid fun j z hj => (hw2 j z hj).1
    have f0 := cell_over f0 HVv.out
    have f1 := cell_over f1 HVv.out
    have f2 := cell_over f2 HVv.out
    have i0' := cell_over i0' HVv.out
    have i1' := cell_over i1' HVv.out
    have i2' := cell_over i2' HVv.out
    have i3' := cell_over i3' HVv.out
    have i4' := cell_over i4' HVv.out
    have i5' := cell_over i5' HVv.out
    have i6' := cell_over i6' HVv.out
    have i7' := cell_over i7' HVv.out
    have i8' := cell_over i8' HVv.out
    have HX : Hid (w.heap.size + 1 < v.heap.size) := Lib.hid (Nat.lt_of_lt_of_le HX.out HVv.out.size)
    clear hw1 hw2 HVv hown hgrow
    go_wp2_with fail
    (with_reducible refine (KJ.out _ HV).mono ?_)
    rintro e w6 ⟨r, rfl, ho, b6⟩
    have H6 := hid_upC HV b6
    have B6 := Lib.hid b6
    have f0 := cell_over f0 b6
    have f1 := cell_over f1 b6
    have f2 := cell_over f2 b6
    have i0' := cell_over i0' b6
    have i1' := cell_over i1' b6
    have i2' := cell_over i2' b6
    have i3' := cell_over i3' b6
    have i4' := cell_over i4' b6
    have i5' := cell_over i5' b6
    have i6' := cell_over i6' b6
    have i7' := cell_over i7' b6
    have i8' := cell_over i8' b6
    obtain ⟨g, ga, gc, rfl, hg1, hg2⟩ := own_row ho (by unfold maxLen; omega)
    have HG1 := Lib.hid hg1
    have HG2 := Lib.hid hg2
    clear b6 ho hg1 hg2
    obtain ⟨G5, hG5⟩ : ∃ G, G = v.heap.size := ⟨_, rfl⟩
    rw [← hG5] at HG1 HWc B6
    have HGw : Hid (w.heap.size ≤ G5 ∧ G5 ≤ w6.heap.size) := Lib.hid ⟨by rw [hG5]; exact HV.out.size, by rw [hG5]; exact B6.out.size⟩
    have hx5 : w.heap.size + 1 < G5 := by rw [hG5]; exact HX.out
    have HWr : Hid (∀ (j : Nat) z, l[j]? = some z → w6.cell? ⟨h, j, none⟩ = some (.int .i64 z)) := Lib.hid fun j z hj => (B6.out.cell (p := ⟨h, j, none⟩) (HWc.out (by have := some_lt hj; have := hl.out; omega)).2).trans (HWr.out j z hj)
    clear hG5 B6
    have HB8 : Hid (∀ b o v W, w6.cell? ⟨b, o, none⟩ = some v → b < G5 → Hid (Below G5 w6 W) → W.cell? ⟨b, o, none⟩ = some v) := Lib.hid fun b o v W h1 h2 h3 => (h3.out.cell (p := ⟨b, o, none⟩) h2).trans h1
    go_wp2_with fail
    go_loopw [15] (fun i wr => ∃ k : Nat, k ≤ nl ∧ i = .int .i64 k ∧ Hid (Below G5 w6 wr) ∧ Hid (∀ (j : Nat) z, k ≤ j → l[j]? = some z → wr.cell? ⟨g, j, none⟩ = some (.int .i64 z) ∧ wr.frozen? ⟨g, j, none⟩ = false)) (fun i _ => nl - (intOf i).toNat)
    case atStart => exact ⟨0, by omega, rfl, Lib.hid (Below.refl _ _), Lib.hid fun j z _ hj => HG2.out j z hj⟩
    case round =>
      obtain ⟨k, hk, rfl, HB, HC⟩ := hrel
      have hk0 : 0 ≤ (k : Int) := by omega
      by_cases hlt : k < nl
      · have hk1 : (k : Int) < (nl : Int) := by omega
        obtain ⟨z, hz, _⟩ := get_at (l := l) (k := k) (by rw [← hl.out]; exact hlt)
        obtain ⟨rfl, hgl, hgG⟩ := HG1.out (by omega)
        obtain ⟨rfl, hh⟩ := HWc.out (by omega)
        obtain ⟨q1, q2⟩ := HC.out k z (Nat.le_refl _) hz
        have q3 := HB8.out h k _ wr (HWr.out k z hz) hh HB
        have o1 := fun m : Over wr => cell_over q1 m.h
        have o3 := fun m : Over wr => cell_over q3 m.h
        have hgr := World.block_lt_of_cell? wr _ q1
        have hzz : (z != z) = false := by simp
        as_aux_lemma =>
          go_wp2_with fail
          refine wp_region_over (by kernel_rfl) (by kernel_rfl) ?_
          repeat (go_big_quiet_step (fail))
          refine wpQuiet_nil ?_
          rintro _ ⟨m, rfl⟩
          have c1' : m.w.cell? ⟨g, k, none⟩ = some (.int .i64 z) := cell_over q1 m.h
          have z1 : m.w.frozen? ⟨g, k, none⟩ = false := (m.h.frozen (p := ⟨g, k, none⟩) hgr).trans q2
          have HM : Hid (Below G5 w6 m.w) := Lib.hid (HB.out.trans (m.h.mono (Nat.le_trans HGw.out.2 HB.out.size)))
          have HC2 : Hid (∀ (j : Nat) z, k + 1 ≤ j → l[j]? = some z → (m.w.setCell ⟨g, k, none⟩ (.int .i64 (-7))).cell? ⟨g, j, none⟩ = some (.int .i64 z) ∧ (m.w.setCell ⟨g, k, none⟩ (.int .i64 (-7))).frozen? ⟨g, j, none⟩ = false) := Lib.hid fun j z hj hjz => by
            obtain ⟨r1, r2⟩ := HC.out j z (by omega) hjz
            have r1 := cell_over r1 m.h
            have r2 := (m.h.frozen (p := ⟨g, j, none⟩) hgr).trans r2
            refine ⟨?_, ?_⟩
            · rw [cell_set_ne _ _ _ _ _ (by omega)]; exact r1
            · rw [World.frozen?_setCell]; exact r2
          have HB2 : Hid (Below G5 w6 (m.w.setCell ⟨g, k, none⟩ (.int .i64 (-7)))) := Lib.hid (HM.out.setCell (by exact hgG) _)
          generalize m.w = mw at *
          clear o1 o3 q1 q2 q3 m
          go_wp2_with fail
          go_roundw
          case rel => exact ⟨k + 1, by omega, by go_num, HB2, HC2⟩
          case measure => simp [intOf]; omega
      · obtain rfl : nl = k := by omega
        have hx : Hid (∀ b o v, w6.cell? ⟨b, o, none⟩ = some v → b < G5 → wr.cell? ⟨b, o, none⟩ = some v) := Lib.hid fun b o v h1 h2 => HB8.out b o v wr h1 h2 HB
        have x0 := hx.out (w.heap.size + 1) 0 _ i0' hx5
        have x4 := hx.out (w.heap.size + 1) 4 _ i4' hx5
        have HT := Lib.hid (H6.out.trans (HB.out.mono HGw.out.1))
        have HWr : Hid (∀ (j : Nat) z, l[j]? = some z → wr.cell? ⟨h, j, none⟩ = some (.int .i64 z)) := Lib.hid fun j z hj => hx.out _ _ _ (HWr.out j z hj) (HWc.out (by have := some_lt hj; have := hl.out; omega)).2
        clear HC hx hlt
        go_wp2_with fail
        obtain ⟨wo, hwo⟩ : ∃ wo : World, wo = wr := ⟨_, rfl⟩
        rw [← hwo] at x0 x4 HT HWr ⊢
        clear hwo
        go_loopw [16] (fun i w9 => ∃ k : Nat, k ≤ nl ∧ i = .int .i64 k ∧ Hid (Below wo.heap.size wo w9)) (fun i _ => nl - (intOf i).toNat)
        case atStart => exact ⟨0, by omega, rfl, Lib.hid (Below.refl _ _)⟩
        case round =>
          obtain ⟨k, hk, rfl, HE⟩ := hrel
          have hk0 : 0 ≤ (k : Int) := by omega
          have x0 := cell_over x0 HE.out
          have x4 := cell_over x4 HE.out
          have HF := Lib.hid (HT.out.trans (HE.out.mono HT.out.size))
          by_cases hlt : k < nl
          · have hk1 : (k : Int) < (nl : Int) := by omega
            obtain ⟨z, hz, _⟩ := get_at (l := l) (k := k) (by rw [← hl.out]; exact hlt)
            obtain ⟨rfl, hh⟩ := HWc.out (by omega)
            have hs4 := HS4.out (by omega)
            subst hs4
            have q3 := cell_over (HWr.out k z hz) HE.out
            have q4 := cell_over (HSr.out k z hz) HF.out
            have o3 := fun m : Over wr => cell_over q3 m.h
            have o4' := fun m : Over wr => cell_over q4 m.h
            have ox := fun m : Over wr => cell_over x4 m.h
            have hzz : (z != z) = false := by simp
            as_aux_lemma =>
              go_wp2_with fail
              refine wp_region_over (by kernel_rfl) (by kernel_rfl) ?_
              repeat (go_big_quiet_step (fail))
              refine wpQuiet_nil ?_
              rintro _ ⟨m, rfl⟩
              have HM := hid_upC HE m.h
              generalize m.w = mw at *
              clear o3 o4' ox q3 q4 m
              go_wp2_with fail
              go_roundw
              case rel => exact ⟨k + 1, by omega, by go_num, HM⟩
              case measure => simp [intOf]; omega
          · obtain rfl : nl = k := by omega
            as_aux_lemma =>
              go_wp2_with fail
              (with_reducible refine (K3.out _ HF).mono ?_)
              rintro e w10 ⟨rfl, b10⟩
              have HZ := hid_upC HF b10
              clear b10
              go_wp2_with fail
              go_ret
              exact ⟨rfl, HZ.out⟩
  · obtain ⟨ga', gb', gc', gl⟩ := hcase
    have e14 : (op == 14) = false := by simpa using ga'
    have e15 : (op == 15) = false := by simpa using gb'
    have e16 : (op == 16) = false := by simpa using gc'
    obtain rfl : nl = 0 := by rw [hl.out, gl]; rfl
    clear ga' gb' gc' gl
    go_upto_region 12 with (fail)
    obtain ⟨v, hv⟩ : ∃ v, v = w5 := ⟨_, rfl⟩
    have HV : Hid (Below w.heap.size w v) := by rw [hv]; exact H5
    have HVv : Hid (Below w5.heap.size w5 v) := by rw [hv]; exact Lib.hid (Below.refl _ _)
    obtain ⟨h, -⟩ : ∃ h : Nat, True := ⟨0, trivial⟩
    have hw1 : (0 : Nat) ≠ 0 → (none : Option Addr) = some ⟨h, 0, none⟩ ∧ h < v.heap.size ∧ w5.heap.size ≤ h := fun h => absurd rfl h
    have hw2 : ∀ (j : Nat) z, l[j]? = some z → v.cell? ⟨h, j, none⟩ = some (.int .i64 z) ∧ v.frozen? ⟨h, j, none⟩ = false := fun j z hj => by
      have := some_lt hj
      have := hl.out
      omega
    rw [← hv]
    clear hv
    have HWc : Hid (0 ≠ 0 → (none : Option Addr) = some ⟨h, 0, none⟩ ∧ h < v.heap.size) := Lib.hid fun h0 => ⟨(hw1 h0).1, (hw1 h0).2.1⟩
    have HWr : Hid (∀ (j : Nat) z, l[j]? = some z → v.cell? ⟨h, j, none⟩ = some (.int .i64 z)) := Lib.hid fun j z hj => (hw2 j z hj).1
    have f0 := cell_over f0 HVv.out
    have f1 := cell_over f1 HVv.out
    have f2 := cell_over f2 HVv.out
    have i0' := cell_over i0' HVv.out
    have i1' := cell_over i1' HVv.out
    have i2' := cell_over i2' HVv.out
    have i3' := cell_over i3' HVv.out
    have i4' := cell_over i4' HVv.out
    have i5' := cell_over i5' HVv.out
    have i6' := cell_over i6' HVv.out
    have i7' := cell_over i7' HVv.out
    have i8' := cell_over i8' HVv.out
    have HX : Hid (w.heap.size + 1 < v.heap.size) := Lib.hid (Nat.lt_of_lt_of_le HX.out HVv.out.size)
    clear hw1 hw2 HVv
    go_wp2_with fail
    (with_reducible refine (KJ.out _ HV).mono ?_)
    rintro e w6 ⟨r, rfl, ho, b6⟩
    have H6 := hid_upC HV b6
    have B6 := Lib.hid b6
    have f0 := cell_over f0 b6
    have f1 := cell_over f1 b6
    have f2 := cell_over f2 b6
    have i0' := cell_over i0' b6
    have i1' := cell_over i1' b6
    have i2' := cell_over i2' b6
    have i3' := cell_over i3' b6
    have i4' := cell_over i4' b6
    have i5' := cell_over i5' b6
    have i6' := cell_over i6' b6
    have i7' := cell_over i7' b6
    have i8' := cell_over i8' b6
    obtain ⟨g, ga, gc, rfl, hg1, hg2⟩ := own_row ho (by unfold maxLen; omega)
    have HG1 := Lib.hid hg1
    have HG2 := Lib.hid hg2
    clear b6 ho hg1 hg2
    obtain ⟨G5, hG5⟩ : ∃ G, G = v.heap.size := ⟨_, rfl⟩
    rw [← hG5] at HG1 HWc B6
    have HGw : Hid (w.heap.size ≤ G5 ∧ G5 ≤ w6.heap.size) := Lib.hid ⟨by rw [hG5]; exact HV.out.size, by rw [hG5]; exact B6.out.size⟩
    have hx5 : w.heap.size + 1 < G5 := by rw [hG5]; exact HX.out
    have HWr : Hid (∀ (j : Nat) z, l[j]? = some z → w6.cell? ⟨h, j, none⟩ = some (.int .i64 z)) := Lib.hid fun j z hj => (B6.out.cell (p := ⟨h, j, none⟩) (HWc.out (by have := some_lt hj; have := hl.out; omega)).2).trans (HWr.out j z hj)
    clear hG5 B6
    have HB8 : Hid (∀ b o v W, w6.cell? ⟨b, o, none⟩ = some v → b < G5 → Hid (Below G5 w6 W) → W.cell? ⟨b, o, none⟩ = some v) := Lib.hid fun b o v W h1 h2 h3 => (h3.out.cell (p := ⟨b, o, none⟩) h2).trans h1
    go_wp2_with fail
    go_loopw [15] (fun i wr => ∃ k : Nat, k ≤ 0 ∧ i = .int .i64 k ∧ Hid (Below G5 w6 wr) ∧ Hid (∀ (j : Nat) z, k ≤ j → l[j]? = some z → wr.cell? ⟨g, j, none⟩ = some (.int .i64 z) ∧ wr.frozen? ⟨g, j, none⟩ = false)) (fun i _ => 0 - (intOf i).toNat)
    case atStart => exact ⟨0, by omega, rfl, Lib.hid (Below.refl _ _), Lib.hid fun j z _ hj => HG2.out j z hj⟩
    case round =>
      obtain ⟨k, hk, rfl, HB, HC⟩ := hrel
      have hk0 : 0 ≤ (k : Int) := by omega
      by_cases hlt : k < 0
      · omega
      · obtain rfl : k = 0 := by omega
        have hx : Hid (∀ b o v, w6.cell? ⟨b, o, none⟩ = some v → b < G5 → wr.cell? ⟨b, o, none⟩ = some v) := Lib.hid fun b o v h1 h2 => HB8.out b o v wr h1 h2 HB
        have x0 := hx.out (w.heap.size + 1) 0 _ i0' hx5
        have x4 := hx.out (w.heap.size + 1) 4 _ i4' hx5
        have HT := Lib.hid (H6.out.trans (HB.out.mono HGw.out.1))
        have HWr : Hid (∀ (j : Nat) z, l[j]? = some z → wr.cell? ⟨h, j, none⟩ = some (.int .i64 z)) := Lib.hid fun j z hj => hx.out _ _ _ (HWr.out j z hj) (HWc.out (by have := some_lt hj; have := hl.out; omega)).2
        clear HC hx hlt
        go_wp2_with fail
        obtain ⟨wo, hwo⟩ : ∃ wo : World, wo = wr := ⟨_, rfl⟩
        rw [← hwo] at x0 x4 HT HWr ⊢
        clear hwo
        go_loopw [16] (fun i w9 => ∃ k : Nat, k ≤ 0 ∧ i = .int .i64 k ∧ Hid (Below wo.heap.size wo w9)) (fun i _ => 0 - (intOf i).toNat)
        case atStart => exact ⟨0, by omega, rfl, Lib.hid (Below.refl _ _)⟩
        case round =>
          obtain ⟨k, hk, rfl, HE⟩ := hrel
          have hk0 : 0 ≤ (k : Int) := by omega
          have x0 := cell_over x0 HE.out
          have x4 := cell_over x4 HE.out
          have HF := Lib.hid (HT.out.trans (HE.out.mono HT.out.size))
          by_cases hlt : k < 0
          · have hk1 : (k : Int) < (0 : Int) := by omega
            omega
          · obtain rfl : k = 0 := by omega
            as_aux_lemma =>
              go_wp2_with fail
              (with_reducible refine (K3.out _ HF).mono ?_)
              rintro e w10 ⟨rfl, b10⟩
              have HZ := hid_upC HF b10
              clear b10
              go_wp2_with fail
              go_ret
              exact ⟨rfl, HZ.out⟩
theorem codeFields_walk (w : World) (u : UU) (vu : VU) (hu : u.In w.heap.size w vu) (nm : ByteArray) (hnm : nm.size ≤ strMax) (fd : ByteArray) (hfd : fd.size ≤ strMax) (x : JJ) (v : VJ) (hx : x.In w.heap.size w v) (hT : RTab w.heap.size w) :
    Calls Tryd.prog 5 #[u.val vu, .string nm, .string fd, x.val v] w fun e w' => e = .returned (.bool true) ∧ Below w.heap.size w w' := by
  have K0 := fun W (h : Hid (Below w.heap.size w W)) => large_calls w.heap.size u vu W h.out.size (hu.below h.out)
  have KL := fun W (h : Hid (Below w.heap.size w W)) => long_calls17 w.heap.size x v W h.out.size (hx.below h.out)
  have K1 := fun W (h : Hid (Below w.heap.size w W)) => field_calls w.heap.size u vu nm fd W h.out.size (hu.below h.out)
  have K2 := fun W (h : Hid (Below w.heap.size w W)) => refField_calls w.heap.size u vu nm fd W h.out.size (hu.below h.out)
  have KJ := fun (h4 : x.slots.length ≤ 60) W (h : Hid (Below w.heap.size w W)) => jumps_calls w.heap.size x v W h.out.size (hx.below h.out) (fun _ => by omega)
  have K3 := fun W (h : Hid (Below w.heap.size w W)) => awake_calls W (hT.up h.out)
  obtain ⟨a1, c1, a2, c2, rfl⟩ := hu.shape
  obtain ⟨b, o, ⟨hm, ao, cap, hv, hc, h4⟩, hr⟩ := hx.2.2.1
  obtain ⟨a4, c4, a5, c5, a6, c6, rfl⟩ := hx.shape
  obtain ⟨rfl, _, rfl⟩ := Value.slice.inj hv
  refine codeFields0_walk a1 a2 _ a5 a6 _ _ _ _ _ c1 c2 _ c5 c6 _ _ _ _ _ _ _ _ nm fd _ (jumpsB x) _ b o w (Lib.hid K0) (Lib.hid KL) (Lib.hid K1) (Lib.hid K2) (fun h => Lib.hid (KJ h)) (Lib.hid K3) (Lib.hid rfl) (Lib.hid ?_)
  unfold jumpsB
  by_cases h14 : x.op = 14
  · exact .inl ⟨h14, by rw [if_pos (.inl h14)]⟩
  · by_cases h15 : x.op = 15
    · exact .inr (.inl ⟨h15, by rw [if_pos (.inr h15)]⟩)
    · rw [if_neg (by omega)]
      by_cases h16 : x.op = 16
      · rw [if_pos h16]
        refine .inr (.inr (.inl ⟨h16, rfl, fun h => (h4.resolve_left h).1, fun j z hj => ?_⟩))
        have := hr j z hj
        rw [Nat.mul_one] at this
        exact this
      · rw [if_neg h16]
        exact .inr (.inr (.inr ⟨h14, h15, h16, rfl⟩))
end Go.Proofs.YtlbdoomknjiilaaDoor
