/- NumDigit, put together out of its walks: what a digit more does to a numeral. -/
import Derived.Test.YtkfgfjgdhdohhaaDigitWalks
namespace Go.Proofs.Ytkfgfjgdhdohhaa
open Go.RowKit
set_option linter.unusedVariables false

theorem digs_snoc (l : List UInt8) (c : UInt8) (hc : dgt c = true) (hl : ¬ l = []) : digs (l ++ [c]) = digs l := by
  cases l with
  | nil => exact absurd rfl hl
  | cons x r => simp [digs, hc]
theorem isM_snoc (l : List UInt8) (c : UInt8) (hl : ¬ l = []) : isM (l ++ [c]) = isM l := by
  cases l with
  | nil => exact absurd rfl hl
  | cons x r => rw [List.cons_append, isM_cons, isM_cons]
theorem cutm_snoc (l : List UInt8) (c : UInt8) (hl : ¬ l = []) : cutm (l ++ [c]) = cutm l ++ [c] := by
  cases l with
  | nil => exact absurd rfl hl
  | cons x r =>
    by_cases h : x = 45
    · subst h; rw [List.cons_append, cutm_m, cutm_m]
    · rw [List.cons_append, cutm_p h, cutm_p h, List.cons_append]
theorem head_snoc (l : List UInt8) (c : UInt8) (hl : ¬ l = []) : (l ++ [c]).head? = l.head? := by
  cases l with
  | nil => exact absurd rfl hl
  | cons x r => rfl
/-- behind what isn't only a sign -/
theorem okNum_snoc (l : List UInt8) (c : UInt8) (hc : dgt c = true) (hl : ¬ l = []) (hm : ¬ cutm l = []) : okNum (l ++ [c]) = okNum l := by
  unfold okNum
  rw [cutm_snoc l c hl, isM_snoc l c hl, digs_snoc _ _ hc hm, head_snoc _ _ hm]
theorem okNum_ne {l : List UInt8} (h : okNum l = true) : ¬ l = [] ∧ ¬ cutm l = [] := by
  refine ⟨fun e => ?_, fun e => ?_⟩
  · subst e; exact absurd h (by decide)
  · unfold okNum at h; rw [e] at h; exact absurd h (by simp [digs])
theorem numOf_snoc (l : List UInt8) (c : UInt8) (d : Int) (hc : (c.toNat : Int) = 48 + d) (hd : 0 ≤ d) (hl : ¬ l = []) : numOf (l ++ [c]) = numOf l * 10 + sv (isM l) d := by
  unfold numOf
  rw [cutm_snoc l c hl, isM_snoc l c hl, dval_snoc]
  cases isM l
  · rw [sv_false, sv_false, sv_false]; omega
  · rw [sv_true, sv_true, sv_true]; omega
/-- a numeral's number is on its sign's side -/
theorem numOf_side (l : List UInt8) : (isM l = true → numOf l ≤ 0) ∧ (isM l = false → 0 ≤ numOf l) := by
  unfold numOf
  refine ⟨fun h => ?_, fun h => ?_⟩
  · rw [h, sv_true]; omega
  · rw [h, sv_false]; omega
theorem isM_byte {s : ByteArray} (h : 0 < s.size) : ((s[0].toNat : Int) == 45) = isM s.data.toList := by
  obtain ⟨⟨l⟩⟩ := s
  cases l with
  | nil => exact absurd h (by decide)
  | cons x r =>
    show ((x.toNat : Int) == 45) = isM (x :: r)
    rw [isM_cons, Bool.eq_iff_iff, decide_eq_true_iff, beq_iff_eq]
    refine ⟨fun k => UInt8.toNat_inj.1 (by show x.toNat = 45; omega), fun k => ?_⟩
    subst k; rfl
theorem append_list (s : ByteArray) (c : UInt8) : (s ++ ⟨#[c]⟩).data.toList = s.data.toList ++ [c] := by simp
theorem size_ne {s : ByteArray} (h : ¬ s.data.toList = []) : 0 < s.size := by
  obtain ⟨⟨l⟩⟩ := s
  cases l with
  | nil => exact absurd rfl h
  | cons x r => show 0 < r.length + 1; omega
theorem only_sign {l : List UInt8} (hl : ¬ l = []) (h : cutm l = []) : l = [45] := by
  cases l with
  | nil => exact absurd rfl hl
  | cons x r =>
    by_cases e : x = 45
    · subst e; rw [cutm_m] at h; rw [h]
    · rw [cutm_p e] at h; exact absurd h (by simp)

set_option maxRecDepth 100000 in
set_option maxHeartbeats 1000000 in
theorem digit_far (s : ByteArray) (d : Int) (hs : s.size ≤ maxLen) (d0 : 0 ≤ d) (d1 : d ≤ 255) (h : 100 < s.size ∨ 9 < d) (w : World) :
    Calls Try.prog 8 #[.string s, .int .u8 d] w fun e w' => e = .returned (.bool true) ∧ Below w.heap.size w w' := by
  unfold maxLen at hs
  by_cases hl : 100 < s.size
  · have e1 : (100 : Int) < (s.size : Int) := by omega
    clear h hl
    go_enter Try.func8, Try.ntmps8
    go_wp2_with fail
    refine (awake_calls _).mono ?_
    rintro e w0 ⟨rfl, k0⟩
    go_wp2
    go_ret
    exact ⟨rfl, k0⟩
  · have e1 : (s.size : Int) ≤ 100 := by omega
    have e2 : 9 < d := by omega
    clear h hl
    go_enter Try.func8, Try.ntmps8
    go_wp2_with fail
    refine (awake_calls _).mono ?_
    rintro e w0 ⟨rfl, k0⟩
    go_wp2
    go_ret
    exact ⟨rfl, k0⟩

theorem numDigit_walk (s : ByteArray) (d : Int) (hs : s.size ≤ maxLen) (hd : 0 ≤ d ∧ d ≤ 255) (w : World) :
    Calls Try.prog 8 #[.string s, .int .u8 d] w fun e w' => e = .returned (.bool true) ∧ Below w.heap.size w w' := by
  obtain ⟨d0, d1⟩ := hd
  by_cases hfar : 100 < s.size ∨ 9 < d
  · exact digit_far s d hs d0 d1 hfar w
  · have s100 : s.size ≤ 100 := by omega
    have d9 : d ≤ 9 := by omega
    obtain ⟨c, hc⟩ : ∃ c : UInt8, (c.toNat : Int) = 48 + d := ⟨UInt8.ofNat (48 + d.toNat), by rw [UInt8.toNat_ofNat']; omega⟩
    have hdg : dgt c = true := (dgt_iff c).2 (by omega)
    have P1 := fun w => parse_calls s hs w
    have P2 := fun w => parse_calls (s ++ ⟨#[c]⟩) (by rw [ByteArray.size_append]; unfold maxLen; show s.size + 1 ≤ _; omega) w
    rw [append_list] at P2
    generalize hl : s.data.toList = l at P1 P2
    have hC := Lib.hid hc
    by_cases hn : l = []
    · -- no text at all
      subst hn
      rw [show pv [] = 0 from by decide, show pe [] = 2 from by decide] at P1
      have he : s.toList.isEmpty = true := by rw [ByteArray.toList_eq, hl]; rfl
      cases hf : (pe ([] ++ [c]) == 2)
      · exact digit_arg s c d _ _ _ hC s100 d0 d9 (Lib.hid P1) (Lib.hid P2) (Or.inr (Or.inl ⟨hf, he⟩)) w
      · exact digit_arg s c d _ _ _ hC s100 d0 d9 (Lib.hid P1) (Lib.hid P2) (Or.inl hf) w
    · have hne : s.toList.isEmpty = false := by
        rw [ByteArray.toList_eq, hl]
        cases l with
        | nil => exact absurd rfl hn
        | cons x r => rfl
      by_cases hm : cutm l = []
      · -- a sign alone
        have e45 := only_sign hn hm
        subst e45
        rw [show pv [45] = 0 from by decide, show pe [45] = 2 from by decide] at P1
        have h45 : (s.toList == [45]) = true := by rw [ByteArray.toList_eq, hl]; rfl
        cases hf : (pe ([45] ++ [c]) == 2)
        · have dpos : 0 < d := by
            by_cases e : d = 0
            · have : c = 48 := UInt8.toNat_inj.1 (by show c.toNat = 48; omega)
              subst this
              exact absurd hf (by decide)
            · omega
          exact digit_arg s c d _ _ _ hC s100 d0 d9 (Lib.hid P1) (Lib.hid P2) (Or.inr (Or.inr ⟨hf, hne, h45, dpos⟩)) w
        · exact digit_arg s c d _ _ _ hC s100 d0 d9 (Lib.hid P1) (Lib.hid P2) (Or.inl hf) w
      · have hok := okNum_snoc l c hdg hn hm
        have hnum := numOf_snoc l c d hc d0 hn
        have hside := numOf_side l
        unfold pv pe at P1 P2
        rw [hok, hnum] at P2
        cases ho : okNum l
        · rw [ho] at P1 P2
          exact digit_arg s c d _ _ _ hC s100 d0 d9 (Lib.hid P1) (Lib.hid P2) (Or.inl rfl) w
        · rw [ho] at P1 P2
          simp only [if_true] at P1 P2
          have h0 := size_ne (s := s) (by rw [hl]; exact hn)
          have hb := isM_byte h0
          rw [hl] at hb
          cases hM : isM l
          · rw [hM] at hb
            rw [hM, sv_false] at P2
            have hp := hside.2 hM
            by_cases hr : numOf l ≤ 9223372036854775807
            · rw [fitv_in (by omega) hr, fite_in (by omega) hr] at P1
              by_cases hr2 : numOf l * 10 ≤ 9223372036854775807
              · have P3 := fun w => mul_calls (numOf l) 10 (by omega) hr (by omega) (by omega) w
                rw [fitv_in (by omega) hr2, fite_in (by omega) hr2] at P3
                have P4 := fun w => add_calls (numOf l * 10) d (by omega) hr2 (by omega) (by omega) w
                exact digit_in_p s c d _ _ _ _ hC s100 d0 d9 (Lib.hid P1) (Lib.hid P2) (Lib.hid P3) (Lib.hid P4) h0 hb w
              · have P3 := fun w => mul_calls (numOf l) 10 (by omega) hr (by omega) (by omega) w
                rw [fitv_out (by omega), fite_out (by omega)] at P3
                rw [fitv_out (by omega), fite_out (by omega)] at P2
                exact digit_mulover s c d _ _ _ hC s100 d0 d9 (Lib.hid P1) (Lib.hid P2) (Lib.hid P3) w
            · rw [fitv_out (by omega), fite_out (by omega)] at P1 P2
              exact digit_over s c d _ _ hC s100 d0 d9 (Lib.hid P1) (Lib.hid P2) w
          · rw [hM] at hb
            rw [hM, sv_true] at P2
            have hp := hside.1 hM
            by_cases hr : -9223372036854775808 ≤ numOf l
            · rw [fitv_in hr (by omega), fite_in hr (by omega)] at P1
              by_cases hr2 : -9223372036854775808 ≤ numOf l * 10
              · have P3 := fun w => mul_calls (numOf l) 10 hr (by omega) (by omega) (by omega) w
                rw [fitv_in hr2 (by omega), fite_in hr2 (by omega)] at P3
                have P4 := fun w => add_calls (numOf l * 10) (-d) hr2 (by omega) (by omega) (by omega) w
                exact digit_in_m s c d _ _ _ _ hC s100 d0 d9 (Lib.hid P1) (Lib.hid P2) (Lib.hid P3) (Lib.hid P4) h0 hb w
              · have P3 := fun w => mul_calls (numOf l) 10 hr (by omega) (by omega) (by omega) w
                rw [fitv_out (by omega), fite_out (by omega)] at P3
                rw [fitv_out (by omega), fite_out (by omega)] at P2
                exact digit_mulover s c d _ _ _ hC s100 d0 d9 (Lib.hid P1) (Lib.hid P2) (Lib.hid P3) w
            · rw [fitv_out (by omega), fite_out (by omega)] at P1 P2
              exact digit_over s c d _ _ hC s100 d0 d9 (Lib.hid P1) (Lib.hid P2) w
end Go.Proofs.Ytkfgfjgdhdohhaa
