/- The laws' own Many, Alike. -/
import Derived.Test.YtaoalplglfdobaaDoorLoansRef
import Derived.Test.YtaoalplglfdobaaDoorPathsLong1
namespace Go.Proofs.YtaoalplglfdobaaDoor
open Go.RowKit
set_option linter.unusedVariables false

def manyB (L : List LN) : Bool := decide (40 < L.length) || L.any fun x => longP x.place
theorem fewB_of {L : List LN} (h : manyB L = false) : L.length ≤ 40 ∧ ∀ x, x ∈ L → Tight x.place := by
  unfold manyB at h
  rw [Bool.or_eq_false_iff, decide_eq_false_iff_not, List.any_eq_false] at h
  exact ⟨by omega, fun x hx => tight_of (by have := h.2 x hx; simpa using this)⟩
theorem manyB_yes {L : List LN} {j : Nat} {x : LN} (hx : L[j]? = some x) (h : longP x.place = true) : manyB L = true := by
  unfold manyB
  rw [Bool.or_eq_true]
  exact .inr (List.any_eq_true.2 ⟨x, List.mem_of_getElem? hx, h⟩)
theorem manyB_len {L : List LN} (h : 40 < L.length) : manyB L = true := by
  unfold manyB
  rw [decide_eq_true h]; rfl
theorem manyB_no {L : List LN} (h1 : ¬ 40 < L.length) (h3 : ∀ (j : Nat) x, L[j]? = some x → longP x.place = false) : manyB L = false := by
  unfold manyB
  rw [Bool.or_eq_false_iff, decide_eq_false_iff_not, List.any_eq_false]
  refine ⟨h1, fun s hs => ?_⟩
  obtain ⟨j, hj⟩ := List.mem_iff_getElem?.1 hs
  simpa using h3 j s hj
set_option maxHeartbeats 1000000 in
theorem manyB_calls (B : Nat) (L : List LN) (lv : Value) (w : World) (hB : B ≤ w.heap.size) (hl : NIn B w L lv) :
    Calls Tryd.prog 10 #[lv] w fun e w' => e = .returned (.bool (manyB L)) ∧ Below w.heap.size w w' := by
  obtain ⟨ao, cap, rfl⟩ := hl.shape
  obtain ⟨n, hn⟩ : ∃ n, n = L.length := ⟨_, rfl⟩
  rw [← hn] at hl ⊢
  obtain ⟨hm, b, o, h1, r1⟩ := hl.at
  unfold maxLen at hm
  have hyes := Lib.hid fun j s hs h => manyB_yes (L := L) (j := j) (x := s) hs h
  have hno := Lib.hid fun h1 h3 => manyB_no (L := L) h1 h3
  have hlen : Hid (40 < n → manyB L = true) := Lib.hid fun h => manyB_len (by rw [← hn]; exact h)
  rw [← hn] at hno
  generalize manyB L = R at *
  have Hn := Lib.hid hn
  have Hr := Lib.hid r1
  have H1 := Lib.hid h1
  clear hn r1 h1 hl
  by_cases g1 : 40 < n
  · have e1 : (n : Int) > 40 := by omega
    have HR := Lib.hid (hlen.out g1)
    go_enter Tryd.func10, Tryd.ntmps10
    go_wp2_with fail
    go_ret
    exact ⟨ret_bool HR.out.symm, Below.refl _ _⟩
  have e1 : ¬ (n : Int) > 40 := by omega
  have HN := Lib.hid (hno.out g1)
  go_enter Tryd.func10, Tryd.ntmps10
  go_wp2_with fail
  go_loopw [3] (fun i wr => ∃ k : Nat, k ≤ n ∧ i = .int .i64 k ∧ Hid (Below w.heap.size w wr) ∧ Hid (∀ (j : Nat) s, j < k → L[j]? = some s → longP s.place = false))
    (fun i _ => n - (intOf i).toNat)
  case atStart => exact ⟨0, by omega, rfl, Lib.hid (Below.refl _ _), Lib.hid fun j s h => by omega⟩
  case round =>
    obtain ⟨k, hk, rfl, hbel, HK⟩ := hrel
    have hk0 : 0 ≤ (k : Int) := by omega
    by_cases hlt : k < n
    · obtain ⟨y, hy, _⟩ := get_at (l := L) (k := k) (by rw [← Hn.out]; exact hlt)
      obtain ⟨rfl, hbb⟩ := H1.out (by omega)
      have hk1 : (k : Int) < (n : Int) := by omega
      obtain ⟨vy, cc, yi⟩ := Hr.out k y hy
      obtain ⟨y0, y1, _, _⟩ := cc.below hbb (hbel.out.mono hB)
      have HC := Lib.hid (long_calls y.place B vy wr (Nat.le_trans hB hbel.out.size) (yi.below (hbel.out.mono hB)))
      have Hy := Lib.hid hy
      clear hy cc yi
      cases hs : longP y.place
      · have HK2 : Hid (∀ (j : Nat) s, j < k + 1 → L[j]? = some s → longP s.place = false) := Lib.hid fun j s' hj hs' => by
          by_cases e : j = k
          · subst e
            have := Option.some.inj (Hy.out.symm.trans hs')
            rw [← this]; exact hs
          · exact HK.out j s' (by omega) hs'
        rw [hs] at HC
        clear hs
        go_wp2_with fail
        refine HC.out.mono ?_
        rintro e w5 ⟨rfl, b5⟩
        have Hb5 := Lib.hid (hbel.out.trans (b5.mono hbel.out.size))
        clear b5 HC
        go_wp2_with fail
        go_roundw
        case rel => exact ⟨k + 1, by omega, by go_num, Hb5, HK2⟩
        case measure => simp [intOf]; omega
      · have HR := Lib.hid (hyes.out k y Hy.out hs)
        rw [hs] at HC
        clear hs
        go_wp2_with fail
        refine HC.out.mono ?_
        rintro e w5 ⟨rfl, b5⟩
        have Hb5 := Lib.hid (hbel.out.trans (b5.mono hbel.out.size))
        clear b5 HC
        go_wp2_with fail
        go_ret
        exact ⟨ret_bool HR.out.symm, Hb5.out⟩
    · obtain rfl : n = k := by omega
      have HR := Lib.hid (HN.out fun j s hs => HK.out j s (by rw [Hn.out]; exact some_lt hs) hs)
      go_wp2_with fail
      go_ret
      exact ⟨ret_bool HR.out.symm, hbel.out⟩

/-! ### two rows alike -/
def eqB : List LN → List LN → Bool
  | [], [] => true
  | x :: xs, y :: ys => isB x y && eqB xs ys
  | [], _ :: _ => false
  | _ :: _, [] => false
theorem eqB_iff : ∀ {xs ys : List LN}, eqB xs ys = true ↔ xs = ys
  | [], [] => by simp [eqB]
  | [], _ :: _ => by simp [eqB]
  | _ :: _, [] => by simp [eqB]
  | x :: xs, y :: ys => by rw [eqB, Bool.and_eq_true, isB_iff, eqB_iff, List.cons.injEq]
theorem eqB_refl (xs : List LN) : eqB xs xs = true := eqB_iff.2 rfl
theorem eqB_len {xs ys : List LN} (h : ¬ xs.length = ys.length) : eqB xs ys = false := by
  rw [← Bool.not_eq_true, eqB_iff]
  rintro rfl; exact h rfl
theorem eqB_no {xs ys : List LN} {j : Nat} {x y : LN} (hx : xs[j]? = some x) (hy : ys[j]? = some y) (h : isB x y = false) : eqB xs ys = false := by
  rw [← Bool.not_eq_true, eqB_iff]
  rintro rfl
  rw [hx] at hy
  cases hy
  rw [isB_iff.2 rfl] at h; cases h
theorem eqB_yes {xs ys : List LN} (hl : xs.length = ys.length) (h : ∀ (j : Nat) x y, xs[j]? = some x → ys[j]? = some y → isB x y = true) : eqB xs ys = true := by
  rw [eqB_iff]
  apply List.ext_getElem?
  intro j
  by_cases hj : j < xs.length
  · have h1 : xs[j]? = some xs[j] := List.getElem?_eq_getElem hj
    have h2 : ys[j]? = some ys[j] := List.getElem?_eq_getElem (by omega)
    rw [h1, h2]
    exact congrArg some (isB_iff.1 (h j _ _ h1 h2))
  · rw [List.getElem?_eq_none (by omega), List.getElem?_eq_none (by omega)]

set_option maxRecDepth 100000 in
set_option maxHeartbeats 4000000 in
theorem alike_calls (B : Nat) (xs ys : List LN) (v1 v2 : Value) (w : World) (hB : B ≤ w.heap.size) (h1 : NIn B w xs v1) (h2 : NIn B w ys v2) :
    Calls Tryd.prog 20 #[v1, v2] w fun e w' => e = .returned (.bool (eqB xs ys)) ∧ Below w.heap.size w w' := by
  obtain ⟨ao1, cap1, rfl⟩ := h1.shape
  obtain ⟨ao2, cap2, rfl⟩ := h2.shape
  by_cases hl : xs.length = ys.length
  rotate_left
  · rw [eqB_len hl]
    generalize xs.length = n at *
    generalize ys.length = m at *
    have e1 : ((n : Int) != (m : Int)) = true := by rw [bne_iff_ne]; omega
    clear h1 h2 hl
    go_enter Tryd.func20, Tryd.ntmps20
    go_wp2
    go_ret
    exact ⟨rfl, Below.refl _ _⟩
  have hyes := Lib.hid fun h => eqB_yes hl h
  have hno := Lib.hid fun j x y h h' => eqB_no (xs := xs) (ys := ys) (j := j) (x := x) (y := y) h h'
  obtain ⟨n, hx⟩ : ∃ n, n = xs.length := ⟨_, rfl⟩
  have hy : n = ys.length := hx.trans hl
  rw [← hx] at h1 ⊢
  rw [← hy] at h2 ⊢
  generalize eqB xs ys = R at *
  obtain ⟨hm1, b1, o1, p1, r1⟩ := h1.at
  obtain ⟨hm2, b2, o2, p2, r2⟩ := h2.at
  unfold maxLen at hm1
  have Hx := Lib.hid hx
  have Hy := Lib.hid hy
  have R1 := Lib.hid r1
  have R2 := Lib.hid r2
  have P1 := Lib.hid p1
  have P2 := Lib.hid p2
  clear hx hy r1 r2 p1 p2 hl h1 h2 hm2
  go_enter Tryd.func20, Tryd.ntmps20
  go_wp2_with fail
  go_loopw [5] (fun i wr => ∃ k : Nat, k ≤ n ∧ i = .int .i64 k ∧ Hid (Below w.heap.size w wr) ∧ Hid (∀ (j : Nat) x y, j < k → xs[j]? = some x → ys[j]? = some y → isB x y = true))
    (fun i _ => n - (intOf i).toNat)
  case atStart => exact ⟨0, by omega, rfl, Lib.hid (Below.refl _ _), Lib.hid fun j x y h => by omega⟩
  case round =>
    obtain ⟨k, hk, rfl, hbel, HK⟩ := hrel
    have hk0 : 0 ≤ (k : Int) := by omega
    by_cases hlt : k < n
    · obtain ⟨x, hx, _⟩ := get_at (l := xs) (k := k) (by rw [← Hx.out]; exact hlt)
      obtain ⟨y, hy, _⟩ := get_at (l := ys) (k := k) (by rw [← Hy.out]; exact hlt)
      obtain ⟨rfl, hb1⟩ := P1.out (by omega)
      obtain ⟨rfl, hb2⟩ := P2.out (by omega)
      have hk1 : (k : Int) < (n : Int) := by omega
      obtain ⟨vx, ⟨x0, x1, x2, x3⟩, xi⟩ := R1.out k x hx
      obtain ⟨vy, ⟨y0, y1, y2, y3⟩, yi⟩ := R2.out k y hy
      have K : ∀ m : Over wr, Below w.heap.size w m.w := fun m => hbel.out.trans (m.h.mono hbel.out.size)
      have hb1w : b1 < w.heap.size := by omega
      have hb2w : b2 < w.heap.size := by omega
      have X0 : ∀ m : Over wr, m.w.cell? ⟨b1, o1 + k * 4, none⟩ = some (.string x.place.name) := fun m => ((K m).cell (p := ⟨b1, o1 + k * 4, none⟩) hb1w).trans x0
      have X1 : ∀ m : Over wr, m.w.cell? ⟨b1, o1 + k * 4 + 1, none⟩ = some vx := fun m => ((K m).cell (p := ⟨b1, o1 + k * 4 + 1, none⟩) hb1w).trans x1
      have X2 : ∀ m : Over wr, m.w.cell? ⟨b1, o1 + k * 4 + 2, none⟩ = some (.bool x.alone) := fun m => ((K m).cell (p := ⟨b1, o1 + k * 4 + 2, none⟩) hb1w).trans x2
      have X3 : ∀ m : Over wr, m.w.cell? ⟨b1, o1 + k * 4 + 3, none⟩ = some (.int .i64 x.till) := fun m => ((K m).cell (p := ⟨b1, o1 + k * 4 + 3, none⟩) hb1w).trans x3
      have Y0 : ∀ m : Over wr, m.w.cell? ⟨b2, o2 + k * 4, none⟩ = some (.string y.place.name) := fun m => ((K m).cell (p := ⟨b2, o2 + k * 4, none⟩) hb2w).trans y0
      have Y1 : ∀ m : Over wr, m.w.cell? ⟨b2, o2 + k * 4 + 1, none⟩ = some vy := fun m => ((K m).cell (p := ⟨b2, o2 + k * 4 + 1, none⟩) hb2w).trans y1
      have Y2 : ∀ m : Over wr, m.w.cell? ⟨b2, o2 + k * 4 + 2, none⟩ = some (.bool y.alone) := fun m => ((K m).cell (p := ⟨b2, o2 + k * 4 + 2, none⟩) hb2w).trans y2
      have Y3 : ∀ m : Over wr, m.w.cell? ⟨b2, o2 + k * 4 + 3, none⟩ = some (.int .i64 y.till) := fun m => ((K m).cell (p := ⟨b2, o2 + k * 4 + 3, none⟩) hb2w).trans y3
      have A1 := Lib.hid fun m : Over wr => over_calls (refSame_calls B x.place y.place vx vy m.w (Nat.le_trans hB (K m).size) (xi.below ((K m).mono hB)) (yi.below ((K m).mono hB)))
      have HK' := Lib.hid K
      have Hx' := Lib.hid hx
      have Hy' := Lib.hid hy
      have HD : Hid (isB x y = (sameP x.place y.place && (x.alone == y.alone) && decide (x.till = y.till))) := Lib.hid (by unfold isB; rfl)
      have HN : Hid (isB x y = false → R = false) := Lib.hid fun h => hno.out k x y Hx'.out Hy'.out h
      have HY : Hid (isB x y = true → ∀ (j : Nat) x y, j < k + 1 → xs[j]? = some x → ys[j]? = some y → isB x y = true) := Lib.hid fun h j x' y' hj h1 h2 => by
        by_cases e : j = k
        · subst e
          rw [Hx'.out] at h1; rw [Hy'.out] at h2
          cases h1; cases h2
          exact h
        · exact HK.out j x' y' (by omega) h1 h2
      clear K x0 x1 x2 x3 y0 y1 y2 y3 xi yi hx hy Hx' Hy'
      generalize isB x y = g at *
      generalize sameP x.place y.place = r at *
      generalize x.place.name = sx at *
      generalize x.alone = xa at *
      generalize x.till = xt at *
      generalize y.place.name = sy at *
      generalize y.alone = ya at *
      generalize y.till = yt at *
      have go : ∀ (Q : Prop), (r = false → Q) → (r = true → ¬ xa = ya → Q) → (r = true → xa = ya → ¬ xt = yt → Q) → (r = true → xa = ya → xt = yt → Q) → Q := fun Q a1 a2 a3 a4 => by
        cases r
        · exact a1 rfl
        · by_cases h1 : xa = ya
          · by_cases h2 : xt = yt
            · exact a4 rfl h1 h2
            · exact a3 rfl h1 h2
          · exact a2 rfl h1
      refine go _ ?_ ?_ ?_ ?_
      · rintro rfl
        have HR := Lib.hid (HN.out (by rw [HD.out]; rfl))
        clear go HN HY HD
        go_wp2_with fail
        refine wp_region_over (by kernel_rfl) (by kernel_rfl) ?_
        repeat (go_big_quiet_step ((go_at_call 37; exact A1.out _)))
        refine wpQuiet_nil ?_
        rintro _ ⟨m, rfl⟩
        have HB := Lib.hid (HK'.out m)
        clear X0 X1 X2 X3 Y0 Y1 Y2 Y3 A1 HK'
        generalize m.w = w6 at *
        go_wp2_with fail
        go_ret
        exact ⟨ret_bool HR.out.symm, HB.out⟩
      · rintro rfl ha
        have HR := Lib.hid (HN.out (by rw [HD.out]; simp [ha]))
        clear go HN HY HD
        cases xa <;> cases ya <;> first
          | exact absurd rfl ha
          | (clear ha
             go_wp2_with fail
             refine wp_region_over (by kernel_rfl) (by kernel_rfl) ?_
             repeat (go_big_quiet_step ((go_at_call 37; exact A1.out _)))
             refine wpQuiet_nil ?_
             rintro _ ⟨m, rfl⟩
             have HB := Lib.hid (HK'.out m)
             clear X0 X1 X2 X3 Y0 Y1 Y2 Y3 A1 HK'
             generalize m.w = w6 at *
             go_wp2_with fail
             go_ret
             exact ⟨ret_bool HR.out.symm, HB.out⟩)
      · rintro rfl rfl ht
        have HR := Lib.hid (HN.out (by rw [HD.out]; simp [ht]))
        have e1 : (xa != xa) = false := by simp
        have e2 : (xt != yt) = true := by simpa using ht
        clear go HN HY HD ht
        go_wp2_with fail
        refine wp_region_over (by kernel_rfl) (by kernel_rfl) ?_
        repeat (go_big_quiet_step ((go_at_call 37; exact A1.out _)))
        refine wpQuiet_nil ?_
        rintro _ ⟨m, rfl⟩
        have HB := Lib.hid (HK'.out m)
        clear X0 X1 X2 X3 Y0 Y1 Y2 Y3 A1 HK'
        generalize m.w = w6 at *
        go_wp2_with fail
        go_ret
        exact ⟨ret_bool HR.out.symm, HB.out⟩
      · rintro rfl rfl rfl
        have HY2 := Lib.hid (HY.out (by rw [HD.out]; simp))
        have e1 : (xa != xa) = false := by simp
        have e2 : (xt != xt) = false := by simp
        clear go HN HY HD
        go_wp2_with fail
        refine wp_region_over (by kernel_rfl) (by kernel_rfl) ?_
        repeat (go_big_quiet_step ((go_at_call 37; exact A1.out _)))
        refine wpQuiet_nil ?_
        rintro _ ⟨m, rfl⟩
        have HB := Lib.hid (HK'.out m)
        clear X0 X1 X2 X3 Y0 Y1 Y2 Y3 A1 HK'
        generalize m.w = w6 at *
        go_wp2_with fail
        go_roundw
        case rel => exact ⟨k + 1, by omega, by go_num, HB, HY2⟩
        case measure => simp [intOf]; omega
    · obtain rfl : n = k := by omega
      have HR := Lib.hid (hyes.out fun j x y h1 h2 => HK.out j x y (by rw [Hx.out]; exact some_lt h1) h1 h2)
      go_wp2_with fail
      go_ret
      exact ⟨ret_bool HR.out.symm, hbel.out⟩
end Go.Proofs.YtaoalplglfdobaaDoor
