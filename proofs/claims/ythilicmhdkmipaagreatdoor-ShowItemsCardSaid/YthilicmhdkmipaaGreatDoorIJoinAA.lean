/- Contracts of package lex, second part: signs, names, numerals; what stands between tokens; what belongs together. -/
import Derived.Test.YthilicmhdkmipaaGreatDoorIJoinAM
import Derived.Lib.IndexMore
import Derived.Lib.Hide
namespace Go.Proofs.YthilicmhdkmipaaGreatDoor
open Go.RowKit
set_option linter.unusedVariables false

theorem toList_is (s : ByteArray) (l : List UInt8) : (s.toList == l) = (s.data.toList == l) := by rw [ByteArray.toList_eq]
theorem one_of {s : ByteArray} (h : s.size = 1) : ∃ c, s = ⟨#[c]⟩ := by
  obtain ⟨⟨l⟩⟩ := s
  match l, h with
  | [c], _ => exact ⟨c, rfl⟩
theorem oneL_no {s : ByteArray} (h : ¬ s.size = 1) : oneL s.data.toList = false := by
  obtain ⟨⟨l⟩⟩ := s
  match l, h with
  | [], _ => rfl
  | [c], h => exact absurd rfl h
  | a :: b :: r, _ => rfl
theorem short_index (c : UInt8) : ∀ l : List UInt8, decide (0 ≤ Lib.indexByte l c) = l.contains c
  | [] => rfl
  | b :: l => by
    have ih := short_index c l
    have hg := Lib.indexByte_ge l c
    rw [Lib.indexByte, List.contains_cons]
    by_cases h : b = c
    · subst h; simp
    · have h1 : (b == c) = false := by simp [h]
      have h2 : (c == b) = false := by simp [Ne.symm h]
      rw [h1, h2, Bool.false_or, ← ih]
      simp only [Bool.false_eq_true, if_false]
      by_cases hi : Lib.indexByte l c = -1
      · simp [hi]
      · have : (Lib.indexByte l c == -1) = false := by simp [hi]
        rw [this]
        simp only [Bool.false_eq_true, if_false]
        exact decide_eq_decide.2 (by omega)

set_option maxHeartbeats 400000 in
theorem isSign_calls (s : ByteArray) (w : World) :
    Calls Tryz.prog 139 #[.string s] w fun e w' => e = .returned (.bool (signL s.data.toList)) ∧ w = w' := by
  unfold signL
  rw [← toList_is s [61, 61], ← toList_is s [61, 62], ← toList_is s [45, 62]]
  cases h1 : (s.toList == [61, 61])
  · cases h2 : (s.toList == [61, 62])
    · cases h3 : (s.toList == [45, 62])
      · by_cases hs : s.size = 1
        · obtain ⟨c, rfl⟩ := one_of hs
          have H := Lib.hid fun w => Tryz.strings_Contains_one ⟨#[40, 41, 123, 125, 60, 62, 44, 59, 58, 61, 38, 42, 46, 43, 45, 47, 37]⟩ c w
          clear h1 h2 h3 hs
          go_enter Tryz.func139, Tryz.ntmps139
          go_wp2_with fail
          refine (H.out _).mono ?_; rintro e w1 ⟨rfl, rfl⟩
          go_wp2
          go_ret
          exact ⟨ret_bool (short_index c _), rfl⟩
        · rw [oneL_no hs]
          have hz : ((s.size : Int) == 1) = false := by simp; omega
          have hz2 : ¬ (s.size : Int) = 1 := by omega
          clear hs
          go_enter Tryz.func139, Tryz.ntmps139
          go_wp2
          go_ret
          exact ⟨rfl, rfl⟩
      · go_enter Tryz.func139, Tryz.ntmps139
        go_wp2
        go_ret
        exact ⟨rfl, rfl⟩
    · go_enter Tryz.func139, Tryz.ntmps139
      go_wp2
      go_ret
      exact ⟨rfl, rfl⟩
  · go_enter Tryz.func139, Tryz.ntmps139
    go_wp2
    go_ret
    exact ⟨rfl, rfl⟩

theorem like_pre (l : List UInt8) : (pre nameB l = l.length) ↔ l.all nameB = true := by
  constructor
  · intro h
    have hp := List.takeWhile_prefix nameB (l := l)
    have e : l.takeWhile nameB = l := hp.eq_of_length h
    rw [← e]
    exact List.all_takeWhile
  · intro h
    exact take_pre (Nat.le_refl _) (by rw [List.take_length]; exact h) (fun c hc => by simp at hc)

set_option maxHeartbeats 400000 in
theorem isNameLike_calls (s : ByteArray) (hs : s.size ≤ maxLen) (w : World) :
    Calls Tryz.prog 140 #[.string s] w fun e w' => e = .returned (.bool (likeL s.data.toList)) ∧ w = w' := by
  have H := fun w => countName_calls s hs w
  have hl : s.data.toList.length = s.size := rfl
  have hp := pre_le nameB s.data.toList
  have hlp := like_pre s.data.toList
  unfold likeL
  rw [hl] at *
  cases ha : s.data.toList.all nameB
  · have hne : ¬ pre nameB s.data.toList = s.size := fun e => by rw [hlp.1 e] at ha; cases ha
    generalize pre nameB s.data.toList = n at *
    have HH := Lib.hid H
    have hz : ((n : Int) == (s.size : Int)) = false := by simp; omega
    clear H ha hlp hl
    unfold maxLen at hs
    by_cases h16 : s.size ≤ 16
    · have e1 : (s.size : Int) ≤ 16 := by omega
      go_enter Tryz.func140, Tryz.ntmps140
      go_wp2_with fail
      refine (HH.out _).mono ?_; rintro e w1 ⟨rfl, rfl⟩
      go_wp2
      go_ret
      exact ⟨ret_bool (by simp), rfl⟩
    · have e1 : 16 < (s.size : Int) := by omega
      go_enter Tryz.func140, Tryz.ntmps140
      go_wp2
      go_ret
      exact ⟨ret_bool (by simp), rfl⟩
  · have hne : pre nameB s.data.toList = s.size := hlp.2 ha
    rw [hne] at H
    have HH := Lib.hid H
    clear H ha hlp hl hne hp
    unfold maxLen at hs
    by_cases h16 : s.size ≤ 16
    · have e1 : (s.size : Int) ≤ 16 := by omega
      go_enter Tryz.func140, Tryz.ntmps140
      go_wp2_with fail
      refine (HH.out _).mono ?_; rintro e w1 ⟨rfl, rfl⟩
      go_wp2
      go_ret
      exact ⟨ret_bool (by simp [h16]), rfl⟩
    · have e1 : 16 < (s.size : Int) := by omega
      go_enter Tryz.func140, Tryz.ntmps140
      go_wp2
      go_ret
      exact ⟨rfl, rfl⟩

set_option maxHeartbeats 400000 in
theorem isNumeral_calls (s : ByteArray) (hs : s.size ≤ maxLen) (w : World) :
    Calls Tryz.prog 141 #[.string s] w fun e w' => e = .returned (.bool (decide (pe s.data.toList = 0))) ∧ Below w.heap.size w w' := by
  have H := Lib.hid fun w => parse_calls s hs w
  generalize pv s.data.toList = x at *
  generalize pe s.data.toList = y at *
  go_enter Tryz.func141, Tryz.ntmps141
  go_wp2_with fail
  refine (H.out _).mono ?_; rintro e w1 ⟨rfl, b1⟩
  go_wp2
  go_ret
  exact ⟨ret_bool (by rw [Bool.eq_iff_iff]; simp), b1⟩

theorem drop_byte {s : ByteArray} {k : Nat} (h : k < s.size) : s.data.toList.drop k = s[k] :: s.data.toList.drop (k + 1) := by
  rw [List.drop_eq_getElem_cons (by simpa using h)]; rfl
end Go.Proofs.YthilicmhdkmipaaGreatDoor
/- Contracts of package lex, third part: what belongs together at the beginning of a text. -/
namespace Go.Proofs.YthilicmhdkmipaaGreatDoor
open Go.RowKit
set_option linter.unusedVariables false

/-- a string of the bytes of a list -/
def bs (l : List UInt8) : ByteArray := ⟨l.toArray⟩
theorem head_byte (p : UInt8 → Bool) (s : ByteArray) (h : 0 < s.size) : headB p s.data.toList = p s[0] := by
  have := drop_byte h
  rw [List.drop_zero] at this
  rw [this]; rfl
end Go.Proofs.YthilicmhdkmipaaGreatDoor
/- Contracts of package lex, part 3b: whether a text is one of the words: looked for in the list of words, with a blank around each. -/
namespace Go.Proofs.YthilicmhdkmipaaGreatDoor
open Go.RowKit
set_option linter.unusedVariables false

def wordText : List UInt8 := [108, 101, 116, 32, 105, 102, 32, 101, 108, 115, 101, 32, 119, 104, 105, 108, 101, 32, 109, 97, 116, 99, 104, 32, 115, 99, 111, 112, 101, 32, 115, 112, 97, 119, 110, 32, 108, 111, 99, 107, 32, 97, 115, 32, 99, 104, 97, 110, 32, 100, 114, 111, 112, 32, 102, 110, 32, 115, 116, 114, 117, 99, 116, 32, 101, 110, 117, 109, 32, 116, 114, 117, 101, 32, 102, 97, 108, 115, 101, 32, 97, 110, 100, 32, 111, 114, 32, 110, 111, 116, 32, 105, 110, 116, 32, 98, 111, 111, 108, 32, 117, 110, 105, 116, 32, 109, 117, 116, 32, 98, 111, 120, 32, 117, 110, 98, 111, 120, 32, 99, 101, 108, 108, 32, 103, 101, 116, 32, 115, 101, 116, 32, 114, 99, 32, 97, 114, 99, 32, 99, 108, 111, 110, 101, 32, 109, 117, 116, 101, 120, 32, 111, 112, 101, 110, 32, 97, 116, 111, 109, 105, 99, 32, 108, 111, 97, 100, 32, 115, 116, 111, 114, 101, 32, 102, 101, 116, 99, 104, 32, 115, 101, 110, 100, 32, 114, 101, 99, 118, 32, 66, 111, 120, 32, 67, 101, 108, 108, 32, 82, 99, 32, 65, 114, 99, 32, 77, 117, 116, 101, 120, 32, 65, 116, 111, 109, 105, 99, 32, 83, 101, 110, 100, 101, 114, 32, 82, 101, 99, 101, 105, 118, 101, 114]

/-! ### between two blanks -/
theorem contains_cons (b : UInt8) (r sub : List UInt8) : Lib.contains (b :: r) sub = (sub.isPrefixOf (b :: r) || Lib.contains r sub) := by
  have hge := Lib.index_ge r sub
  unfold Lib.contains
  rw [Lib.index]
  by_cases h : sub.isPrefixOf (b :: r) = true
  · rw [if_pos h, h]; rfl
  · have h' : sub.isPrefixOf (b :: r) = false := Bool.eq_false_iff.2 h
    rw [if_neg h, h', Bool.false_or]
    by_cases h2 : Lib.index r sub = -1
    · rw [h2]; rfl
    · rw [if_neg (by simpa using h2)]
      rw [Bool.eq_iff_iff, decide_eq_true_eq, decide_eq_true_eq]; omega
/-- a text without a blank, and a blank, stand at the beginning just if they are what stands ahead of the first blank there -/
theorem prefix_blank : ∀ (l r : List UInt8), l.contains 32 = false → (l ++ [32]).isPrefixOf r = (r.contains 32 && (r.takeWhile (fun c => c != 32) == l))
  | [], [], _ => rfl
  | [], c :: r, _ => by
    by_cases h : c = 32
    · subst h; simp
    · have h2 : (32 == c) = false := by rw [beq_eq_false_iff_ne]; exact fun e => h e.symm
      simp [List.isPrefixOf, h, h2]
  | a :: l, [], _ => by simp
  | a :: l, c :: r, hl => by
    rw [List.contains_cons, Bool.or_eq_false_iff] at hl
    have ih := prefix_blank l r hl.2
    have ha : ¬ a = 32 := fun e => by subst e; simp at hl
    rw [List.cons_append, List.isPrefixOf, ih]
    by_cases h : c = 32
    · subst h
      simp [ha]
    · have h2 : (32 == c) = false := by rw [beq_eq_false_iff_ne]; exact fun e => h e.symm
      rw [List.contains_cons, h2, Bool.false_or, List.takeWhile_cons, if_pos (by simpa using h)]
      by_cases h3 : a = c
      · subst h3; simp
      · have h4 : ¬ c = a := fun e => h3 e.symm
        have h5 : (a == c) = false := by rw [beq_eq_false_iff_ne]; exact h3
        have h6 : (c == a) = false := by rw [beq_eq_false_iff_ne]; exact h4
        rw [List.cons_beq_cons, h5, h6]; simp
/-- what stands between two blanks of a text -/
def betweenL : List UInt8 → List (List UInt8)
  | [] => []
  | c :: r => if (c == 32 && r.contains 32) = true then r.takeWhile (fun c => c != 32) :: betweenL r else betweenL r
theorem contains_between (l : List UInt8) (hl : l.contains 32 = false) : ∀ s : List UInt8, Lib.contains s (32 :: (l ++ [32])) = (betweenL s).contains l
  | [] => rfl
  | c :: r => by
    rw [contains_cons, contains_between l hl r, betweenL, List.isPrefixOf, prefix_blank l r hl]
    by_cases h : c = 32
    · subst h
      by_cases h2 : r.contains 32 = true
      · rw [if_pos (by rw [h2]; rfl), h2, List.contains_cons]
        have : (List.takeWhile (fun c => c != 32) r == l) = (l == List.takeWhile (fun c => c != 32) r) := by
          rw [Bool.eq_iff_iff, beq_iff_eq, beq_iff_eq]; exact ⟨fun e => e.symm, fun e => e.symm⟩
        rw [this]; simp
      · rw [Bool.not_eq_true] at h2
        rw [if_neg (by rw [h2]; simp), h2]; simp
    · have h2 : (32 == c) = false := by rw [beq_eq_false_iff_ne]; exact fun e => h e.symm
      have h3 : (c == 32) = false := by rw [beq_eq_false_iff_ne]; exact h
      rw [if_neg (by rw [h3]; simp), h2]; simp
theorem between_words : betweenL (32 :: (wordText ++ [32])) = wordsL := by decide +kernel
theorem words_blank (l : List UInt8) (h : l.contains 32 = true) : wordsL.contains l = false := by
  have ha : wordsL.all (fun l => !l.contains 32) = true := by decide +kernel
  rw [Bool.eq_false_iff]
  intro hc
  have := List.all_eq_true.1 ha l (by simpa using hc)
  rw [h] at this; simp at this
theorem words_few (l : List UInt8) (h : 16 < l.length) : wordsL.contains l = false := by
  have ha : wordsL.all (fun l => decide (l.length ≤ 16)) = true := by decide +kernel
  rw [Bool.eq_false_iff]
  intro hc
  have := List.all_eq_true.1 ha l (by simpa using hc)
  rw [decide_eq_true_eq] at this; omega
/-! ### the walk -/
/-- the library's variable of how long a text its search takes at once holds some number -/
def MaxOk (w : World) : Prop := ∃ m : Int, w.cell? ⟨5, 0, none⟩ = some (.int .i64 m)
theorem MaxOk.below {w w' : World} (h : MaxOk w) (hb : Below w.heap.size w w') : MaxOk w' := by
  obtain ⟨m, hm⟩ := h
  exact ⟨m, (hb.cell (p := ⟨5, 0, none⟩) (World.block_lt_of_cell? _ _ hm)).trans hm⟩

theorem has_one (s : ByteArray) (w : World) :
    Calls Tryz.prog 174 #[.string s, .string ⟨#[32]⟩] w fun e w' => e = .returned (.bool (s.data.toList.contains 32)) ∧ w = w' := by
  refine (Tryz.strings_Contains_one s 32 w).mono ?_
  rintro e w' ⟨rfl, rfl⟩
  exact ⟨by rw [short_index], rfl⟩
set_option maxRecDepth 100000 in
theorem text_short : (32 :: (wordText ++ [32])).length < 4294967281 := by decide +kernel
theorem has_text (t u : ByteArray) (b : Bool) (hsz : t.size < 4294967281) (hb : Lib.contains t.data.toList u.data.toList = b) (w : World) (hm : MaxOk w) :
    Calls Tryz.prog 174 #[.string t, .string u] w fun e w' => e = .returned (.bool b) ∧ w = w' := by
  obtain ⟨m, hm⟩ := hm
  refine (Tryz.strings_Contains t u m w hsz hm).mono ?_
  rintro e w' ⟨rfl, rfl⟩
  exact ⟨by rw [hb], rfl⟩
theorem word_in (s : ByteArray) (hs : s.data.toList.contains 32 = false) : Lib.contains (32 :: (wordText ++ [32])) ((⟨#[32]⟩ ++ s ++ ⟨#[32]⟩ : ByteArray)).data.toList = wordsL.contains s.data.toList := by
  have e : ((⟨#[32]⟩ ++ s ++ ⟨#[32]⟩ : ByteArray)).data.toList = 32 :: (s.data.toList ++ [32]) := by simp [ByteArray.data_append]
  rw [e, contains_between _ hs, between_words]
theorem has_word (t s : ByteArray) (ht : t.data.toList = 32 :: (wordText ++ [32])) (hs : s.data.toList.contains 32 = false) (w : World) (hm : MaxOk w) :
    Calls Tryz.prog 174 #[.string t, .string (⟨#[32]⟩ ++ s ++ ⟨#[32]⟩)] w fun e w' => e = .returned (.bool (wordsL.contains s.data.toList)) ∧ w = w' :=
  has_text t _ _ (by rw [show t.size = t.data.toList.length from rfl, ht]; exact text_short) (by rw [ht]; exact word_in s hs) w hm

set_option maxHeartbeats 400000 in
theorem isWord_long (s : ByteArray) (h : 16 < (s.size : Int)) (w : World) :
    Calls Tryz.prog 208 #[.string s] w fun e w' => e = .returned (.bool false) ∧ w = w' := by
  go_enter Tryz.func208, Tryz.ntmps208
  go_wp2
  go_ret
  exact ⟨rfl, rfl⟩
set_option maxHeartbeats 400000 in
theorem isWord_blank (s : ByteArray) (h : (s.size : Int) ≤ 16) (w : World)
    (C : Hid (Calls Tryz.prog 174 #[.string s, .string ⟨#[32]⟩] w fun e w' => e = .returned (.bool true) ∧ w = w')) :
    Calls Tryz.prog 208 #[.string s] w fun e w' => e = .returned (.bool false) ∧ w = w' := by
  go_enter Tryz.func208, Tryz.ntmps208
  go_wp2_with fail
  refine C.out.mono ?_; rintro e w1 ⟨rfl, rfl⟩
  go_wp2
  go_ret
  exact ⟨rfl, rfl⟩
set_option maxRecDepth 100000 in
set_option maxHeartbeats 400000 in
theorem isWord_short (s : ByteArray) (h : (s.size : Int) ≤ 16) (w : World) (b : Bool)
    (C : Hid (Calls Tryz.prog 174 #[.string s, .string ⟨#[32]⟩] w fun e w' => e = .returned (.bool false) ∧ w = w'))
    (D : Hid (∀ t : ByteArray, t.data.toList = 32 :: (wordText ++ [32]) → Calls Tryz.prog 174 #[.string t, .string (⟨#[32]⟩ ++ s ++ ⟨#[32]⟩)] w fun e w' => e = .returned (.bool b) ∧ w = w')) :
    Calls Tryz.prog 208 #[.string s] w fun e w' => e = .returned (.bool b) ∧ w = w' := by
  go_enter Tryz.func208, Tryz.ntmps208
  go_wp2_with fail
  refine C.out.mono ?_; rintro e w1 ⟨rfl, rfl⟩
  go_wp2_with fail
  refine (D.out _ (by kernel_rfl)).mono ?_; rintro e w1 ⟨rfl, rfl⟩
  go_wp2
  go_ret
  exact ⟨rfl, rfl⟩
theorem isWord_calls (s : ByteArray) (hs : s.size ≤ maxLen) (w : World) (hm : MaxOk w) :
    Calls Tryz.prog 208 #[.string s] w fun e w' => e = .returned (.bool (wordsL.contains s.data.toList)) ∧ w = w' := by
  by_cases h : s.size ≤ 16
  · have A1 := has_one s w
    cases hb : s.data.toList.contains 32
    · rw [hb] at A1
      exact isWord_short s (by omega) w _ (Lib.hid A1) (Lib.hid fun t ht => has_word t s ht hb w hm)
    · rw [hb] at A1
      rw [words_blank _ hb]
      exact isWord_blank s (by omega) w (Lib.hid A1)
  · rw [words_few _ (show 16 < s.data.toList.length from Nat.lt_of_not_le h)]
    exact isWord_long s (by omega) w
end Go.Proofs.YthilicmhdkmipaaGreatDoor
