/- The document's own Union, Same, May. -/
import Derived.Test.YtaoalplglfdobaaDoorLoansRef2
namespace Go.Proofs.YtaoalplglfdobaaDoor
open Go.RowKit
set_option linter.unusedVariables false

set_option maxRecDepth 100000 in
set_option maxHeartbeats 2000000 in
theorem refUnionB_calls (B : Nat) (xs ys : List LN) (v1 v2 : Value) (hl : xs.length + ys.length ≤ 1000) (w : World) (hB : B ≤ w.heap.size) (h1 : NIn B w xs v1) (h2 : NIn B w ys v2) :
    Calls Tryd.prog 23 #[v1, v2] w fun e w' => ∃ ao cap, e = .returned (.slice ao (unionB xs ys).length cap) ∧ NIn w'.heap.size w' (unionB xs ys) (.slice ao (unionB xs ys).length cap) ∧ Below w.heap.size w w' := by
  obtain ⟨a1, c1, rfl⟩ := h1.shape
  obtain ⟨ao, cap, rfl⟩ := h2.shape
  obtain ⟨n, hn⟩ : ∃ n, n = ys.length := ⟨_, rfl⟩
  obtain ⟨n1, hn1⟩ : ∃ n, n = xs.length := ⟨_, rfl⟩
  have HA : Hid (ys.take n = ys) := Lib.hid (by rw [hn]; exact List.take_length)
  have HU := Lib.hid fun k => unionB_len xs (ys.take k)
  rw [← hn1] at h1 hl HU ⊢
  rw [← hn] at h2 hl ⊢
  obtain ⟨hm, b, o, h3, r2⟩ := h2.at
  unfold maxLen at hm
  have Hn := Lib.hid hn
  have Hn1 := Lib.hid hn1
  have H1 := Lib.hid h1
  have H3 := Lib.hid h3
  have Hr := Lib.hid r2
  have HT := Lib.hid fun k x (hx : ys[k]? = some x) => unionB_take (a := xs) hx
  clear hn hn1 h1 h2 h3 r2
  go_enter Tryd.func23, Tryd.ntmps23
  go_wp2_with fail
  go_loopw [6, 5] (fun i u wr => ∃ (k c : Nat) (ao2 : Option Addr) (cap2 : Nat), k ≤ n ∧ i = .int .i64 k ∧ u = .slice ao2 c cap2 ∧ Hid (c = (unionB xs (ys.take k)).length) ∧ Hid (NIn wr.heap.size wr (unionB xs (ys.take k)) (.slice ao2 c cap2)) ∧ Hid (Below w.heap.size w wr))
    (fun i _ _ => n - (intOf i).toNat)
  case atStart => exact ⟨0, n1, a1, c1, by omega, rfl, rfl, Lib.hid Hn1.out, Lib.hid (H1.out.mono hB), Lib.hid (Below.refl _ _)⟩
  case round =>
    obtain ⟨k, c, ao2, cap2, hk, rfl, rfl, Hc, HN, hbel⟩ := hrel
    have hk0 : 0 ≤ (k : Int) := by omega
    by_cases hlt : k < n
    · obtain ⟨x, hx, _⟩ := get_at (l := ys) (k := k) (by rw [← Hn.out]; exact hlt)
      obtain ⟨rfl, hbb⟩ := H3.out (by omega)
      have hk1 : (k : Int) < (n : Int) := by omega
      obtain ⟨vx, cc, xi⟩ := Hr.out k x hx
      obtain ⟨y0, y1, y2, y3⟩ := cc.below hbb (hbel.out.mono hB)
      have HT2 := Lib.hid (HT.out k x hx)
      have hcl : c ≤ 1000 := by have := HU.out k; rw [← Hc.out] at this; simp at this; omega
      have HC := Lib.hid (refAdd_calls wr.heap.size (unionB xs (ys.take k)) x _ vx (by rw [← Hc.out]; exact hcl) wr (Nat.le_refl _) HN.out ((xi.below (hbel.out.mono hB)).mono (Nat.le_trans hB hbel.out.size)))
      rw [← HT2.out] at HC
      clear hx cc xi
      go_wp2_with fail
      refine HC.out.mono ?_
      rintro e w5 ⟨na, nc, rfl, hN, b5⟩
      have HN5 := Lib.hid hN
      have Hb5 := Lib.hid (hbel.out.trans (b5.mono hbel.out.size))
      clear hN b5 HC
      go_wp2_with fail
      go_roundw
      case rel => exact ⟨k + 1, _, na, nc, by omega, by go_num, rfl, Lib.hid rfl, HN5, Hb5⟩
      case measure => simp [intOf]; omega
    · obtain rfl : n = k := by omega
      rw [HA.out] at HN Hc
      have hc := Hc.out
      subst hc
      go_wp2_with fail
      go_ret
      exact ⟨_, _, rfl, HN.out, hbel.out⟩

set_option maxRecDepth 100000 in
set_option maxHeartbeats 2000000 in
theorem refSameB_calls (B : Nat) (xs ys : List LN) (v1 v2 : Value) (w : World) (hB : B ≤ w.heap.size) (h1 : NIn B w xs v1) (h2 : NIn B w ys v2) :
    Calls Tryd.prog 26 #[v1, v2] w fun e w' => e = .returned (.bool (sameB xs ys)) ∧ Below w.heap.size w w' := by
  have HC1 := Lib.hid fun (W : World) (x : LN) (v : Value) (hb : Below w.heap.size w W) (hx : x.place.In B w v) => refHas_calls B ys x v2 v W (Nat.le_trans hB hb.size) (h2.below (hb.mono hB)) (hx.below (hb.mono hB))
  have HC2 := Lib.hid fun (W : World) (x : LN) (v : Value) (hb : Below w.heap.size w W) (hx : x.place.In B w v) => refHas_calls B xs x v1 v W (Nat.le_trans hB hb.size) (h1.below (hb.mono hB)) (hx.below (hb.mono hB))
  obtain ⟨ao1, cap1, rfl⟩ := h1.shape
  obtain ⟨ao2, cap2, rfl⟩ := h2.shape
  obtain ⟨n, hn⟩ : ∃ n, n = xs.length := ⟨_, rfl⟩
  obtain ⟨m, hm⟩ : ∃ n, n = ys.length := ⟨_, rfl⟩
  have HA : Hid (xs.take n = xs) := Lib.hid (by rw [hn]; exact List.take_length)
  have HA2 : Hid (ys.take m = ys) := Lib.hid (by rw [hm]; exact List.take_length)
  rw [← hn] at h1 HC2 ⊢
  rw [← hm] at h2 HC1 ⊢
  obtain ⟨hn1, b1, o1, p1, r1⟩ := h1.at
  obtain ⟨hm1, b2, o2, p2, r2⟩ := h2.at
  unfold maxLen at hn1 hm1
  have HS : Hid (sameB xs ys = (xs.all (hasB ys) && ys.all (hasB xs))) := Lib.hid rfl
  have Hn := Lib.hid hn
  have Hm := Lib.hid hm
  have P1 := Lib.hid p1
  have P2 := Lib.hid p2
  have R1 := Lib.hid r1
  have R2 := Lib.hid r2
  generalize sameB xs ys = R at *
  have F1 := Lib.hid fun k x (hx : xs[k]? = some x) (h : hasB ys x = false) => (List.all_eq_false.2 ⟨x, List.mem_of_getElem? hx, by simp [h]⟩ : xs.all (hasB ys) = false)
  have F2 := Lib.hid fun k x (hx : ys[k]? = some x) (h : hasB xs x = false) => (List.all_eq_false.2 ⟨x, List.mem_of_getElem? hx, by simp [h]⟩ : ys.all (hasB xs) = false)
  have T1 := Lib.hid fun k x (hx : xs[k]? = some x) => all_take (p := hasB ys) hx
  have T2 := Lib.hid fun k x (hx : ys[k]? = some x) => all_take (p := hasB xs) hx
  clear hn hm h1 h2 p1 p2 r1 r2
  go_enter Tryd.func26, Tryd.ntmps26
  go_wp2_with fail
  go_loopw [5] (fun i wr => ∃ k : Nat, k ≤ n ∧ i = .int .i64 k ∧ Hid ((xs.take k).all (hasB ys) = true) ∧ Hid (Below w.heap.size w wr))
    (fun i _ => n - (intOf i).toNat)
  case atStart => exact ⟨0, by omega, rfl, Lib.hid rfl, Lib.hid (Below.refl _ _)⟩
  case round =>
    obtain ⟨k, hk, rfl, HK, hbel⟩ := hrel
    have hk0 : 0 ≤ (k : Int) := by omega
    by_cases hlt : k < n
    · obtain ⟨x, hx, _⟩ := get_at (l := xs) (k := k) (by rw [← Hn.out]; exact hlt)
      obtain ⟨rfl, hbb⟩ := P1.out (by omega)
      have hk1 : (k : Int) < (n : Int) := by omega
      obtain ⟨vx, cc, xi⟩ := R1.out k x hx
      obtain ⟨y0, y1, y2, y3⟩ := cc.below hbb (hbel.out.mono hB)
      have HC := Lib.hid (HC1.out wr x vx hbel.out xi)
      have HT2 := Lib.hid (T1.out k x hx)
      have HF2 := Lib.hid (F1.out k x hx)
      clear hx cc xi
      generalize hasB ys x = r at *
      go_wp2_with fail
      refine HC.out.mono ?_
      rintro e w5 ⟨rfl, b5⟩
      have Hb5 := Lib.hid (hbel.out.trans (b5.mono hbel.out.size))
      clear b5 HC
      cases r
      · have HR : Hid (R = false) := Lib.hid (by rw [HS.out, HF2.out rfl]; rfl)
        go_wp2_with fail
        go_ret
        exact ⟨ret_bool HR.out.symm, Hb5.out⟩
      · have HK2 : Hid ((xs.take (k + 1)).all (hasB ys) = true) := Lib.hid (by rw [HT2.out, HK.out]; rfl)
        go_wp2_with fail
        go_roundw
        case rel => exact ⟨k + 1, by omega, by go_num, HK2, Hb5⟩
        case measure => simp [intOf]; omega
    · obtain rfl : n = k := by omega
      rw [HA.out] at HK
      obtain ⟨wo, rfl⟩ : ∃ x, x = wr := ⟨_, rfl⟩
      go_wp2_with fail
      go_loopw [6] (fun i wr => ∃ k : Nat, k ≤ m ∧ i = .int .i64 k ∧ Hid ((ys.take k).all (hasB xs) = true) ∧ Hid (Below w.heap.size w wr))
        (fun i _ => m - (intOf i).toNat)
      case atStart => exact ⟨0, by omega, rfl, Lib.hid rfl, hbel⟩
      case round =>
        clear hbel wo
        obtain ⟨k, hk, rfl, HK2, hbel⟩ := hrel
        have hk0 : 0 ≤ (k : Int) := by omega
        by_cases hlt : k < m
        · obtain ⟨x, hx, _⟩ := get_at (l := ys) (k := k) (by rw [← Hm.out]; exact hlt)
          obtain ⟨rfl, hbb⟩ := P2.out (by omega)
          have hk1 : (k : Int) < (m : Int) := by omega
          obtain ⟨vx, cc, xi⟩ := R2.out k x hx
          obtain ⟨y0, y1, y2, y3⟩ := cc.below hbb (hbel.out.mono hB)
          have HC := Lib.hid (HC2.out wr x vx hbel.out xi)
          have HT2 := Lib.hid (T2.out k x hx)
          have HF2 := Lib.hid (F2.out k x hx)
          clear hx cc xi
          generalize hasB xs x = r at *
          go_wp2_with fail
          refine HC.out.mono ?_
          rintro e w5 ⟨rfl, b5⟩
          have Hb5 := Lib.hid (hbel.out.trans (b5.mono hbel.out.size))
          clear b5 HC
          cases r
          · have HR : Hid (R = false) := Lib.hid (by rw [HS.out, HF2.out rfl, Bool.and_false])
            go_wp2_with fail
            go_ret
            exact ⟨ret_bool HR.out.symm, Hb5.out⟩
          · have HK3 : Hid ((ys.take (k + 1)).all (hasB xs) = true) := Lib.hid (by rw [HT2.out, HK2.out]; rfl)
            go_wp2_with fail
            go_roundw
            case rel => exact ⟨k + 1, by omega, by go_num, HK3, Hb5⟩
            case measure => simp [intOf]; omega
        · obtain rfl : m = k := by omega
          rw [HA2.out] at HK2
          have HR : Hid (R = true) := Lib.hid (by rw [HS.out, HK.out, HK2.out]; rfl)
          go_wp2_with fail
          go_ret
          exact ⟨ret_bool HR.out.symm, hbel.out⟩
end Go.Proofs.YtaoalplglfdobaaDoor
