/- Contracts of package lex, second part: signs, names, numerals; what stands between tokens; what belongs together. -/
import Derived.Test.YtekmkepaokdbmaaLexSmall
namespace Go.Proofs.Ytekmkepaokdbmaa
open Go.RowKit
set_option linter.unusedVariables false

theorem ext_drop (s : ByteArray) (k : Nat) : (s.extract k s.size).data.toList = s.data.toList.drop k := by
  simp only [ByteArray.data_extract, Array.toList_extract, List.extract_eq_take_drop]
  exact List.take_of_length_le (by rw [List.length_drop]; exact Nat.le_refl _)
theorem ext_take (s : ByteArray) (k : Nat) (h : k ≤ s.size) : (s.extract 0 k).data.toList = s.data.toList.take k := by
  simp
theorem index_line : ∀ l : List UInt8, (Lib.indexByte l 10 = (lineL l : Int) ∧ lineL l < l.length) ∨ (Lib.indexByte l 10 = -1 ∧ lineL l = l.length)
  | [] => .inr ⟨rfl, rfl⟩
  | c :: r => by
    by_cases h : c = 10
    · subst h
      refine .inl ⟨?_, ?_⟩
      · rw [show lineL (10 :: r) = 0 from pre_cons_no (by decide)]; rfl
      · rw [show lineL (10 :: r) = 0 from pre_cons_no (by decide)]; simp
    · have hn : c.toNat ≠ 10 := fun e => h (UInt8.toNat_inj.1 e)
      have e : lineL (c :: r) = lineL r + 1 := (pre_cons_yes (by simp [hn])).trans (by unfold lineL; omega)
      have hb : (c == 10) = false := by simp [h]
      rcases index_line r with ⟨h1, h2⟩ | ⟨h1, h2⟩
      · refine .inl ⟨?_, by rw [e, List.length_cons]; omega⟩
        rw [Lib.indexByte, hb, h1, e]
        have : ((lineL r : Int) == -1) = false := by rw [beq_eq_false_iff_ne]; omega
        simp [this]
      · refine .inr ⟨?_, by rw [e, h2]; rfl⟩
        rw [Lib.indexByte, hb, h1]; rfl

theorem toList_is (s : ByteArray) (l : List UInt8) : (s.toList == l) = (s.data.toList == l) := by rw [ByteArray.toList_eq]
theorem one_of {s : ByteArray} (h : s.size = 1) : ∃ c, s = ⟨#[c]⟩ := by
  obtain ⟨⟨l⟩⟩ := s
  match l, h with
  | [c], _ => exact ⟨c, rfl⟩
theorem oneL_no {s : ByteArray} (h : ¬ s.size = 1) : oneL s.data.toList = false := by
  obtain ⟨⟨l⟩⟩ := s
  match l, h with
  | [], _ => rfl
  | [c], h => exact absurd rfl h
  | a :: b :: r, _ => rfl
theorem short_index (c : UInt8) : ∀ l : List UInt8, decide (0 ≤ Lib.indexByte l c) = l.contains c
  | [] => rfl
  | b :: l => by
    have ih := short_index c l
    have hg := Lib.indexByte_ge l c
    rw [Lib.indexByte, List.contains_cons]
    by_cases h : b = c
    · subst h; simp
    · have h1 : (b == c) = false := by simp [h]
      have h2 : (c == b) = false := by simp [Ne.symm h]
      rw [h1, h2, Bool.false_or, ← ih]
      simp only [Bool.false_eq_true, if_false]
      by_cases hi : Lib.indexByte l c = -1
      · simp [hi]
      · have : (Lib.indexByte l c == -1) = false := by simp [hi]
        rw [this]
        simp only [Bool.false_eq_true, if_false]
        exact decide_eq_decide.2 (by omega)

set_option maxHeartbeats 400000 in
theorem isSign_calls (s : ByteArray) (w : World) :
    Calls Try.prog 96 #[.string s] w fun e w' => e = .returned (.bool (signL s.data.toList)) ∧ w = w' := by
  unfold signL
  rw [← toList_is s [61, 61], ← toList_is s [61, 62], ← toList_is s [45, 62]]
  cases h1 : (s.toList == [61, 61])
  · cases h2 : (s.toList == [61, 62])
    · cases h3 : (s.toList == [45, 62])
      · by_cases hs : s.size = 1
        · obtain ⟨c, rfl⟩ := one_of hs
          have H := Lib.hid fun w => Try.strings_Contains_one ⟨#[40, 41, 123, 125, 60, 62, 44, 59, 58, 61, 38, 42, 46, 43, 45, 47, 37]⟩ c w
          clear h1 h2 h3 hs
          go_enter Try.func96, Try.ntmps96
          go_wp2_with fail
          refine (H.out _).mono ?_; rintro e w1 ⟨rfl, rfl⟩
          go_wp2
          go_ret
          exact ⟨ret_bool (short_index c _), rfl⟩
        · rw [oneL_no hs]
          have hz : ((s.size : Int) == 1) = false := by simp; omega
          have hz2 : ¬ (s.size : Int) = 1 := by omega
          clear hs
          go_enter Try.func96, Try.ntmps96
          go_wp2
          go_ret
          exact ⟨rfl, rfl⟩
      · go_enter Try.func96, Try.ntmps96
        go_wp2
        go_ret
        exact ⟨rfl, rfl⟩
    · go_enter Try.func96, Try.ntmps96
      go_wp2
      go_ret
      exact ⟨rfl, rfl⟩
  · go_enter Try.func96, Try.ntmps96
    go_wp2
    go_ret
    exact ⟨rfl, rfl⟩

theorem like_pre (l : List UInt8) : (pre nameB l = l.length) ↔ l.all nameB = true := by
  constructor
  · intro h
    have hp := List.takeWhile_prefix nameB (l := l)
    have e : l.takeWhile nameB = l := hp.eq_of_length h
    rw [← e]
    exact List.all_takeWhile
  · intro h
    exact take_pre (Nat.le_refl _) (by rw [List.take_length]; exact h) (fun c hc => by simp at hc)

set_option maxHeartbeats 400000 in
theorem isNameLike_calls (s : ByteArray) (hs : s.size ≤ maxLen) (w : World) :
    Calls Try.prog 92 #[.string s] w fun e w' => e = .returned (.bool (likeL s.data.toList)) ∧ w = w' := by
  have H := fun w => countName_calls s hs w
  have hl : s.data.toList.length = s.size := rfl
  have hp := pre_le nameB s.data.toList
  have hlp := like_pre s.data.toList
  unfold likeL
  rw [hl] at *
  cases ha : s.data.toList.all nameB
  · have hne : ¬ pre nameB s.data.toList = s.size := fun e => by rw [hlp.1 e] at ha; cases ha
    generalize pre nameB s.data.toList = n at *
    have HH := Lib.hid H
    have hz : ((n : Int) == (s.size : Int)) = false := by simp; omega
    clear H ha hlp hl
    unfold maxLen at hs
    by_cases h16 : s.size ≤ 16
    · have e1 : (s.size : Int) ≤ 16 := by omega
      go_enter Try.func92, Try.ntmps92
      go_wp2_with fail
      refine (HH.out _).mono ?_; rintro e w1 ⟨rfl, rfl⟩
      go_wp2
      go_ret
      exact ⟨ret_bool (by simp), rfl⟩
    · have e1 : 16 < (s.size : Int) := by omega
      go_enter Try.func92, Try.ntmps92
      go_wp2
      go_ret
      exact ⟨ret_bool (by simp), rfl⟩
  · have hne : pre nameB s.data.toList = s.size := hlp.2 ha
    rw [hne] at H
    have HH := Lib.hid H
    clear H ha hlp hl hne hp
    unfold maxLen at hs
    by_cases h16 : s.size ≤ 16
    · have e1 : (s.size : Int) ≤ 16 := by omega
      go_enter Try.func92, Try.ntmps92
      go_wp2_with fail
      refine (HH.out _).mono ?_; rintro e w1 ⟨rfl, rfl⟩
      go_wp2
      go_ret
      exact ⟨ret_bool (by simp [h16]), rfl⟩
    · have e1 : 16 < (s.size : Int) := by omega
      go_enter Try.func92, Try.ntmps92
      go_wp2
      go_ret
      exact ⟨rfl, rfl⟩

set_option maxHeartbeats 400000 in
theorem isNumeral_calls (s : ByteArray) (hs : s.size ≤ maxLen) (w : World) :
    Calls Try.prog 95 #[.string s] w fun e w' => e = .returned (.bool (decide (pe s.data.toList = 0))) ∧ Below w.heap.size w w' := by
  have H := Lib.hid fun w => parse_calls s hs w
  generalize pv s.data.toList = x at *
  generalize pe s.data.toList = y at *
  go_enter Try.func95, Try.ntmps95
  go_wp2_with fail
  refine (H.out _).mono ?_; rintro e w1 ⟨rfl, b1⟩
  go_wp2
  go_ret
  exact ⟨ret_bool (by rw [Bool.eq_iff_iff]; simp), b1⟩

theorem blank_index (c : UInt8) : decide (0 ≤ Lib.indexByte [32, 9, 10, 13] c) = blankB c := by
  rw [short_index, Bool.eq_iff_iff]
  simp only [List.contains_cons, List.contains_nil, Bool.or_false, Bool.or_eq_true, beq_iff_eq, blankB, decide_eq_true_eq]
  have h : ∀ d : UInt8, c = d ↔ c.toNat = d.toNat := fun d => ⟨fun e => by rw [e], fun e => UInt8.toNat_inj.1 e⟩
  rw [h 32, h 9, h 10, h 13]; rfl
theorem drop_byte {s : ByteArray} {k : Nat} (h : k < s.size) : s.data.toList.drop k = s[k] :: s.data.toList.drop (k + 1) := by
  rw [List.drop_eq_getElem_cons (by simpa using h)]; rfl
theorem slashes (l : List UInt8) : Lib.hasPrefix l [47, 47] = (headB (fun d => decide (d.toNat = 47)) l && headB (fun d => decide (d.toNat = 47)) (l.drop 1)) := by
  have h : ∀ d : UInt8, ((47 : UInt8) == d) = decide (d.toNat = 47) := fun d => by
    rw [Bool.eq_iff_iff, beq_iff_eq, decide_eq_true_eq]
    exact ⟨fun e => by rw [← e]; rfl, fun e => (UInt8.toNat_inj.1 e).symm⟩
  match l with
  | [] => rfl
  | [c] => show ((47 : UInt8) == c && false) = _; rw [h]; rfl
  | c :: d :: r => show ((47 : UInt8) == c && ((47 : UInt8) == d && true)) = _; rw [h, h, Bool.and_true]; rfl
theorem head47 {l : List UInt8} (h : headB (fun d => decide (d.toNat = 47)) l = true) : ∃ r, l = 47 :: r := by
  cases l with
  | nil => cases h
  | cons c r => exact ⟨r, by rw [show c = 47 from UInt8.toNat_inj.1 (by simpa [headB] using h)]⟩
theorem gap_remark {l : List UInt8} (h : Lib.hasPrefix l [47, 47] = true) : 2 ≤ lineL l ∧ gapF false l = lineL l + gapF false (l.drop (lineL l)) := by
  rw [slashes, Bool.and_eq_true] at h
  obtain ⟨r, rfl⟩ := head47 h.1
  obtain ⟨r, rfl⟩ := head47 (l := r) h.2
  have e : lineL (47 :: 47 :: r) = lineL r + 2 := by
    unfold lineL
    rw [pre_cons_yes (by decide), pre_cons_yes (by decide)]; omega
  rw [e, gapF_slash, gapF_line]
  exact ⟨by omega, by rw [List.drop_succ_cons, List.drop_succ_cons]; omega⟩
theorem gap_stop {s : ByteArray} {j : Nat} (hj : j < s.size) (hb : blankB s[j] = false) (h : Lib.hasPrefix (s.data.toList.drop j) [47, 47] = false) : gapF false (s.data.toList.drop j) = 0 := by
  rw [drop_byte hj] at h ⊢
  refine gapF_none hb fun h2 => ?_
  rw [slashes] at h
  rw [List.drop_succ_cons, List.drop_zero, h2.2, Bool.and_true] at h
  simp [headB, h2.1] at h

end Go.Proofs.Ytekmkepaokdbmaa
