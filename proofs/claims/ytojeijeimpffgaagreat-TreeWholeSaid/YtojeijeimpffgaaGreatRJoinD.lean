/- Contracts of package lex, part 3b: whether a text is one of the words: looked for in the list of words, with a blank around each. -/
import Derived.Test.YtojeijeimpffgaaGreatRJoinC
import Derived.Lib.IndexMore
import Derived.Lib.Hide
import Derived.BigQuiet
import Derived.Below
import Derived.Laws.World
import Derived.Handed
import Derived.Stop.Joined
import Derived.Shelf.Vars
namespace Go.Proofs.YtojeijeimpffgaaGreat
open Go.RowKit
set_option linter.unusedVariables false

def wordText : List UInt8 := [108, 101, 116, 32, 105, 102, 32, 101, 108, 115, 101, 32, 119, 104, 105, 108, 101, 32, 109, 97, 116, 99, 104, 32, 115, 99, 111, 112, 101, 32, 115, 112, 97, 119, 110, 32, 108, 111, 99, 107, 32, 97, 115, 32, 99, 104, 97, 110, 32, 100, 114, 111, 112, 32, 102, 110, 32, 115, 116, 114, 117, 99, 116, 32, 101, 110, 117, 109, 32, 116, 114, 117, 101, 32, 102, 97, 108, 115, 101, 32, 97, 110, 100, 32, 111, 114, 32, 110, 111, 116, 32, 105, 110, 116, 32, 98, 111, 111, 108, 32, 117, 110, 105, 116, 32, 109, 117, 116, 32, 98, 111, 120, 32, 117, 110, 98, 111, 120, 32, 99, 101, 108, 108, 32, 103, 101, 116, 32, 115, 101, 116, 32, 114, 99, 32, 97, 114, 99, 32, 99, 108, 111, 110, 101, 32, 109, 117, 116, 101, 120, 32, 111, 112, 101, 110, 32, 97, 116, 111, 109, 105, 99, 32, 108, 111, 97, 100, 32, 115, 116, 111, 114, 101, 32, 102, 101, 116, 99, 104, 32, 115, 101, 110, 100, 32, 114, 101, 99, 118, 32, 66, 111, 120, 32, 67, 101, 108, 108, 32, 82, 99, 32, 65, 114, 99, 32, 77, 117, 116, 101, 120, 32, 65, 116, 111, 109, 105, 99, 32, 83, 101, 110, 100, 101, 114, 32, 82, 101, 99, 101, 105, 118, 101, 114]

theorem words_len : wordsL.length = 47 := by decide +kernel
/-! ### between two blanks -/
theorem contains_cons (b : UInt8) (r sub : List UInt8) : Lib.contains (b :: r) sub = (sub.isPrefixOf (b :: r) || Lib.contains r sub) := by
  have hge := Lib.index_ge r sub
  unfold Lib.contains
  rw [Lib.index]
  by_cases h : sub.isPrefixOf (b :: r) = true
  · rw [if_pos h, h]; rfl
  · have h' : sub.isPrefixOf (b :: r) = false := Bool.eq_false_iff.2 h
    rw [if_neg h, h', Bool.false_or]
    by_cases h2 : Lib.index r sub = -1
    · rw [h2]; rfl
    · rw [if_neg (by simpa using h2)]
      rw [Bool.eq_iff_iff, decide_eq_true_eq, decide_eq_true_eq]; omega
/-- a text without a blank, and a blank, stand at the beginning just if they are what stands ahead of the first blank there -/
theorem prefix_blank : ∀ (l r : List UInt8), l.contains 32 = false → (l ++ [32]).isPrefixOf r = (r.contains 32 && (r.takeWhile (fun c => c != 32) == l))
  | [], [], _ => rfl
  | [], c :: r, _ => by
    by_cases h : c = 32
    · subst h; simp
    · have h2 : (32 == c) = false := by rw [beq_eq_false_iff_ne]; exact fun e => h e.symm
      simp [List.isPrefixOf, h, h2]
  | a :: l, [], _ => by simp
  | a :: l, c :: r, hl => by
    rw [List.contains_cons, Bool.or_eq_false_iff] at hl
    have ih := prefix_blank l r hl.2
    have ha : ¬ a = 32 := fun e => by subst e; simp at hl
    rw [List.cons_append, List.isPrefixOf, ih]
    by_cases h : c = 32
    · subst h
      simp [ha]
    · have h2 : (32 == c) = false := by rw [beq_eq_false_iff_ne]; exact fun e => h e.symm
      rw [List.contains_cons, h2, Bool.false_or, List.takeWhile_cons, if_pos (by simpa using h)]
      by_cases h3 : a = c
      · subst h3; simp
      · have h4 : ¬ c = a := fun e => h3 e.symm
        have h5 : (a == c) = false := by rw [beq_eq_false_iff_ne]; exact h3
        have h6 : (c == a) = false := by rw [beq_eq_false_iff_ne]; exact h4
        rw [List.cons_beq_cons, h5, h6]; simp
/-- what stands between two blanks of a text -/
def betweenL : List UInt8 → List (List UInt8)
  | [] => []
  | c :: r => if (c == 32 && r.contains 32) = true then r.takeWhile (fun c => c != 32) :: betweenL r else betweenL r
theorem contains_between (l : List UInt8) (hl : l.contains 32 = false) : ∀ s : List UInt8, Lib.contains s (32 :: (l ++ [32])) = (betweenL s).contains l
  | [] => rfl
  | c :: r => by
    rw [contains_cons, contains_between l hl r, betweenL, List.isPrefixOf, prefix_blank l r hl]
    by_cases h : c = 32
    · subst h
      by_cases h2 : r.contains 32 = true
      · rw [if_pos (by rw [h2]; rfl), h2, List.contains_cons]
        have : (List.takeWhile (fun c => c != 32) r == l) = (l == List.takeWhile (fun c => c != 32) r) := by
          rw [Bool.eq_iff_iff, beq_iff_eq, beq_iff_eq]; exact ⟨fun e => e.symm, fun e => e.symm⟩
        rw [this]; simp
      · rw [Bool.not_eq_true] at h2
        rw [if_neg (by rw [h2]; simp), h2]; simp
    · have h2 : (32 == c) = false := by rw [beq_eq_false_iff_ne]; exact fun e => h e.symm
      have h3 : (c == 32) = false := by rw [beq_eq_false_iff_ne]; exact h
      rw [if_neg (by rw [h3]; simp), h2]; simp
theorem between_words : betweenL (32 :: (wordText ++ [32])) = wordsL := by decide +kernel
theorem words_blank (l : List UInt8) (h : l.contains 32 = true) : wordsL.contains l = false := by
  have ha : wordsL.all (fun l => !l.contains 32) = true := by decide +kernel
  rw [Bool.eq_false_iff]
  intro hc
  have := List.all_eq_true.1 ha l (by simpa using hc)
  rw [h] at this; simp at this
theorem words_few (l : List UInt8) (h : 16 < l.length) : wordsL.contains l = false := by
  have ha : wordsL.all (fun l => decide (l.length ≤ 16)) = true := by decide +kernel
  rw [Bool.eq_false_iff]
  intro hc
  have := List.all_eq_true.1 ha l (by simpa using hc)
  rw [decide_eq_true_eq] at this; omega
/-! ### the walk -/
/-- the library's variable of how long a text its search takes at once holds some number -/
def MaxOk (w : World) : Prop := ∃ m : Int, w.cell? ⟨0, 0, none⟩ = some (.int .i64 m)
theorem MaxOk.below {w w' : World} (h : MaxOk w) (hb : Below w.heap.size w w') : MaxOk w' := by
  obtain ⟨m, hm⟩ := h
  exact ⟨m, (hb.cell (p := ⟨0, 0, none⟩) (World.block_lt_of_cell? _ _ hm)).trans hm⟩

theorem has_one (s : ByteArray) (w : World) :
    Calls Tryz.prog 119 #[.string s, .string ⟨#[32]⟩] w fun e w' => e = .returned (.bool (s.data.toList.contains 32)) ∧ w = w' := by
  refine (Tryz.strings_Contains_one s 32 w).mono ?_
  rintro e w' ⟨rfl, rfl⟩
  exact ⟨by rw [short_index], rfl⟩
set_option maxRecDepth 100000 in
theorem text_short : (32 :: (wordText ++ [32])).length < 4294967281 := by decide +kernel
theorem has_text (t u : ByteArray) (b : Bool) (hsz : t.size < 4294967281) (hb : Lib.contains t.data.toList u.data.toList = b) (w : World) (hm : MaxOk w) :
    Calls Tryz.prog 119 #[.string t, .string u] w fun e w' => e = .returned (.bool b) ∧ w = w' := by
  obtain ⟨m, hm⟩ := hm
  refine (Tryz.strings_Contains t u m w hsz hm).mono ?_
  rintro e w' ⟨rfl, rfl⟩
  exact ⟨by rw [hb], rfl⟩
theorem word_in (s : ByteArray) (hs : s.data.toList.contains 32 = false) : Lib.contains (32 :: (wordText ++ [32])) ((⟨#[32]⟩ ++ s ++ ⟨#[32]⟩ : ByteArray)).data.toList = wordsL.contains s.data.toList := by
  have e : ((⟨#[32]⟩ ++ s ++ ⟨#[32]⟩ : ByteArray)).data.toList = 32 :: (s.data.toList ++ [32]) := by simp [ByteArray.data_append]
  rw [e, contains_between _ hs, between_words]
theorem has_word (t s : ByteArray) (ht : t.data.toList = 32 :: (wordText ++ [32])) (hs : s.data.toList.contains 32 = false) (w : World) (hm : MaxOk w) :
    Calls Tryz.prog 119 #[.string t, .string (⟨#[32]⟩ ++ s ++ ⟨#[32]⟩)] w fun e w' => e = .returned (.bool (wordsL.contains s.data.toList)) ∧ w = w' :=
  has_text t _ _ (by rw [show t.size = t.data.toList.length from rfl, ht]; exact text_short) (by rw [ht]; exact word_in s hs) w hm

set_option maxHeartbeats 400000 in
theorem isWord_long (s : ByteArray) (h : 16 < (s.size : Int)) (w : World) :
    Calls Tryz.prog 112 #[.string s] w fun e w' => e = .returned (.bool false) ∧ w = w' := by
  go_enter Tryz.func112, Tryz.ntmps112
  go_wp2
  go_ret
  exact ⟨rfl, rfl⟩
set_option maxHeartbeats 400000 in
theorem isWord_blank (s : ByteArray) (h : (s.size : Int) ≤ 16) (w : World)
    (C : Hid (Calls Tryz.prog 119 #[.string s, .string ⟨#[32]⟩] w fun e w' => e = .returned (.bool true) ∧ w = w')) :
    Calls Tryz.prog 112 #[.string s] w fun e w' => e = .returned (.bool false) ∧ w = w' := by
  go_enter Tryz.func112, Tryz.ntmps112
  go_wp2_with fail
  refine C.out.mono ?_; rintro e w1 ⟨rfl, rfl⟩
  go_wp2
  go_ret
  exact ⟨rfl, rfl⟩
set_option maxRecDepth 100000 in
set_option maxHeartbeats 400000 in
theorem isWord_short (s : ByteArray) (h : (s.size : Int) ≤ 16) (w : World) (b : Bool)
    (C : Hid (Calls Tryz.prog 119 #[.string s, .string ⟨#[32]⟩] w fun e w' => e = .returned (.bool false) ∧ w = w'))
    (D : Hid (∀ t : ByteArray, t.data.toList = 32 :: (wordText ++ [32]) → Calls Tryz.prog 119 #[.string t, .string (⟨#[32]⟩ ++ s ++ ⟨#[32]⟩)] w fun e w' => e = .returned (.bool b) ∧ w = w')) :
    Calls Tryz.prog 112 #[.string s] w fun e w' => e = .returned (.bool b) ∧ w = w' := by
  go_enter Tryz.func112, Tryz.ntmps112
  go_wp2_with fail
  refine C.out.mono ?_; rintro e w1 ⟨rfl, rfl⟩
  go_wp2_with fail
  refine (D.out _ (by kernel_rfl)).mono ?_; rintro e w1 ⟨rfl, rfl⟩
  go_wp2
  go_ret
  exact ⟨rfl, rfl⟩
theorem isWord_calls (s : ByteArray) (hs : s.size ≤ maxLen) (w : World) (hm : MaxOk w) :
    Calls Tryz.prog 112 #[.string s] w fun e w' => e = .returned (.bool (wordsL.contains s.data.toList)) ∧ w = w' := by
  by_cases h : s.size ≤ 16
  · have A1 := has_one s w
    cases hb : s.data.toList.contains 32
    · rw [hb] at A1
      exact isWord_short s (by omega) w _ (Lib.hid A1) (Lib.hid fun t ht => has_word t s ht hb w hm)
    · rw [hb] at A1
      rw [words_blank _ hb]
      exact isWord_blank s (by omega) w (Lib.hid A1)
  · rw [words_few _ (show 16 < s.data.toList.length from Nat.lt_of_not_le h)]
    exact isWord_long s (by omega) w
end Go.Proofs.YtojeijeimpffgaaGreat
/- Contracts of package lex, fifth part: of which kind of token the whole of a text is. -/
namespace Go.Proofs.YtojeijeimpffgaaGreat
open Go.RowKit
set_option linter.unusedVariables false

theorem kind_word {l : List UInt8} (h0 : l ≠ []) (h : wordsL.contains l = true) : kindL l = 1 := by unfold kindL; rw [if_neg h0, if_pos h]
theorem kind_small {l : List UInt8} (h0 : l ≠ []) (h : wordsL.contains l = false) (h1 : headB smallB l = true) (h2 : likeL l = true) : kindL l = 2 := by
  unfold kindL; rw [if_neg h0, if_neg (by rw [h]; simp), if_pos (by simp [h1, h2])]
theorem kind_great {l : List UInt8} (h0 : l ≠ []) (h : wordsL.contains l = false) (h1 : headB smallB l = false) (h2 : headB greatB l = true) (h3 : likeL l = true) : kindL l = 3 := by
  unfold kindL; rw [if_neg h0, if_neg (by rw [h]; simp), if_neg (by simp [h1]), if_pos (by simp [h2, h3])]
theorem kind_digit {l : List UInt8} (h0 : l ≠ []) (h : wordsL.contains l = false) (h1 : headB smallB l = false) (h2 : headB greatB l = false) (h3 : headB dgt l = true) (h4 : decide (pe l = 0) = true) : kindL l = 4 := by
  unfold kindL; rw [if_neg h0, if_neg (by rw [h]; simp), if_neg (by simp [h1]), if_neg (by simp [h2]), if_pos (by rw [h3, h4]; rfl)]
theorem kind_else {l : List UInt8} (h0 : l ≠ []) (h : wordsL.contains l = false) (h1 : (headB smallB l && likeL l) = false) (h2 : (headB greatB l && likeL l) = false) (h3 : (headB dgt l && decide (pe l = 0)) = false) : kindL l = if signL l = true then 5 else 0 := by
  unfold kindL; rw [if_neg h0, if_neg (by rw [h]; simp), if_neg (by simp [h1]), if_neg (by simp [h2]), if_neg (by rw [h3]; simp)]
theorem small_not {c : UInt8} (h : smallB c = true) : greatB c = false ∧ dgt c = false := by
  rw [smallB_iff] at h; exact ⟨greatB_no (by omega), dgt_no (by omega)⟩
theorem great_not {c : UInt8} (h : greatB c = true) : dgt c = false := by
  rw [greatB_iff] at h; exact dgt_no (by omega)
set_option maxHeartbeats 400000 in
theorem kindOf_empty (b : Bool) (w : World) : Calls Tryz.prog 111 #[.string ⟨#[]⟩, .bool b] w fun e w' => e = .returned (.int .u8 0) ∧ w = w' := by
  go_enter Tryz.func111, Tryz.ntmps111
  go_wp2
  go_ret
  exact ⟨rfl, rfl⟩

set_option maxHeartbeats 400000 in
theorem kindOf_word (s : ByteArray) (h0 : 0 < s.size) (he : s.toList.isEmpty = false) (w : World) :
    Calls Tryz.prog 111 #[.string s, .bool true] w fun e w' => e = .returned (.int .u8 1) ∧ w = w' := by
  go_enter Tryz.func111, Tryz.ntmps111
  go_wp2
  go_ret
  exact ⟨rfl, rfl⟩

set_option maxHeartbeats 1000000 in
theorem kindOf_small (s : ByteArray) (h0 : 0 < s.size) (he : s.toList.isEmpty = false)
    (CisSmall : Hid (∀ w : World, Calls Tryz.prog 113 #[.int .u8 (s[0].toNat : Int)] w fun e w' => e = .returned (.bool true) ∧ w = w'))
    (CisNameLike : Hid (∀ w : World, Calls Tryz.prog 114 #[.string s] w fun e w' => e = .returned (.bool true) ∧ w = w')) (w : World) :
    Calls Tryz.prog 111 #[.string s, .bool false] w fun e w' => e = .returned (.int .u8 2) ∧ Below w.heap.size w w' := by
  have hp : (0 : Int) < (s.size : Int) := by omega
  go_enter Tryz.func111, Tryz.ntmps111
  go_wp2_with fail
  refine (CisSmall.out _).mono ?_; rintro e w1 ⟨rfl, rfl⟩
  go_wp2_with fail
  refine (CisNameLike.out _).mono ?_; rintro e w1 ⟨rfl, rfl⟩
  go_wp2
  go_ret
  exact ⟨rfl, Below.refl _ _⟩

set_option maxHeartbeats 1000000 in
theorem kindOf_great (s : ByteArray) (h0 : 0 < s.size) (he : s.toList.isEmpty = false)
    (CisSmall : Hid (∀ w : World, Calls Tryz.prog 113 #[.int .u8 (s[0].toNat : Int)] w fun e w' => e = .returned (.bool false) ∧ w = w'))
    (CisGreat : Hid (∀ w : World, Calls Tryz.prog 115 #[.int .u8 (s[0].toNat : Int)] w fun e w' => e = .returned (.bool true) ∧ w = w'))
    (CisNameLike : Hid (∀ w : World, Calls Tryz.prog 114 #[.string s] w fun e w' => e = .returned (.bool true) ∧ w = w')) (w : World) :
    Calls Tryz.prog 111 #[.string s, .bool false] w fun e w' => e = .returned (.int .u8 3) ∧ Below w.heap.size w w' := by
  have hp : (0 : Int) < (s.size : Int) := by omega
  go_enter Tryz.func111, Tryz.ntmps111
  go_wp2_with fail
  refine (CisSmall.out _).mono ?_; rintro e w1 ⟨rfl, rfl⟩
  go_wp2_with fail
  refine (CisGreat.out _).mono ?_; rintro e w1 ⟨rfl, rfl⟩
  go_wp2_with fail
  refine (CisNameLike.out _).mono ?_; rintro e w1 ⟨rfl, rfl⟩
  go_wp2
  go_ret
  exact ⟨rfl, Below.refl _ _⟩

set_option maxHeartbeats 1000000 in
theorem kindOf_digit (s : ByteArray) (h0 : 0 < s.size) (he : s.toList.isEmpty = false)
    (CisSmall : Hid (∀ w : World, Calls Tryz.prog 113 #[.int .u8 (s[0].toNat : Int)] w fun e w' => e = .returned (.bool false) ∧ w = w'))
    (CisGreat : Hid (∀ w : World, Calls Tryz.prog 115 #[.int .u8 (s[0].toNat : Int)] w fun e w' => e = .returned (.bool false) ∧ w = w'))
    (CisDigit : Hid (∀ w : World, Calls Tryz.prog 116 #[.int .u8 (s[0].toNat : Int)] w fun e w' => e = .returned (.bool true) ∧ w = w'))
    (CisNumeral : Hid (∀ w : World, Calls Tryz.prog 117 #[.string s] w fun e w' => e = .returned (.bool true) ∧ Below w.heap.size w w')) (w : World) :
    Calls Tryz.prog 111 #[.string s, .bool false] w fun e w' => e = .returned (.int .u8 4) ∧ Below w.heap.size w w' := by
  have hp : (0 : Int) < (s.size : Int) := by omega
  go_enter Tryz.func111, Tryz.ntmps111
  go_wp2_with fail
  refine (CisSmall.out _).mono ?_; rintro e w1 ⟨rfl, rfl⟩
  go_wp2_with fail
  refine (CisGreat.out _).mono ?_; rintro e w1 ⟨rfl, rfl⟩
  go_wp2_with fail
  refine (CisDigit.out _).mono ?_; rintro e w1 ⟨rfl, rfl⟩
  go_wp2_with fail
  refine (CisNumeral.out _).mono ?_; rintro e w2 ⟨rfl, b2⟩
  go_wp2
  go_ret
  exact ⟨rfl, b2⟩

set_option maxHeartbeats 1000000 in
theorem kindOf_smallno5 (s : ByteArray) (h0 : 0 < s.size) (he : s.toList.isEmpty = false)
    (CisSmall : Hid (∀ w : World, Calls Tryz.prog 113 #[.int .u8 (s[0].toNat : Int)] w fun e w' => e = .returned (.bool true) ∧ w = w'))
    (CisGreat : Hid (∀ w : World, Calls Tryz.prog 115 #[.int .u8 (s[0].toNat : Int)] w fun e w' => e = .returned (.bool false) ∧ w = w'))
    (CisDigit : Hid (∀ w : World, Calls Tryz.prog 116 #[.int .u8 (s[0].toNat : Int)] w fun e w' => e = .returned (.bool false) ∧ w = w'))
    (CisNameLike : Hid (∀ w : World, Calls Tryz.prog 114 #[.string s] w fun e w' => e = .returned (.bool false) ∧ w = w'))
    (CisSign : Hid (∀ w : World, Calls Tryz.prog 118 #[.string s] w fun e w' => e = .returned (.bool true) ∧ w = w')) (w : World) :
    Calls Tryz.prog 111 #[.string s, .bool false] w fun e w' => e = .returned (.int .u8 5) ∧ Below w.heap.size w w' := by
  have hp : (0 : Int) < (s.size : Int) := by omega
  go_enter Tryz.func111, Tryz.ntmps111
  go_wp2_with fail
  refine (CisSmall.out _).mono ?_; rintro e w1 ⟨rfl, rfl⟩
  go_wp2_with fail
  refine (CisNameLike.out _).mono ?_; rintro e w1 ⟨rfl, rfl⟩
  go_wp2_with fail
  refine (CisGreat.out _).mono ?_; rintro e w1 ⟨rfl, rfl⟩
  go_wp2_with fail
  refine (CisDigit.out _).mono ?_; rintro e w1 ⟨rfl, rfl⟩
  go_wp2_with fail
  refine (CisSign.out _).mono ?_; rintro e w1 ⟨rfl, rfl⟩
  go_wp2
  go_ret
  exact ⟨rfl, Below.refl _ _⟩

set_option maxHeartbeats 1000000 in
theorem kindOf_greatno5 (s : ByteArray) (h0 : 0 < s.size) (he : s.toList.isEmpty = false)
    (CisSmall : Hid (∀ w : World, Calls Tryz.prog 113 #[.int .u8 (s[0].toNat : Int)] w fun e w' => e = .returned (.bool false) ∧ w = w'))
    (CisGreat : Hid (∀ w : World, Calls Tryz.prog 115 #[.int .u8 (s[0].toNat : Int)] w fun e w' => e = .returned (.bool true) ∧ w = w'))
    (CisDigit : Hid (∀ w : World, Calls Tryz.prog 116 #[.int .u8 (s[0].toNat : Int)] w fun e w' => e = .returned (.bool false) ∧ w = w'))
    (CisNameLike : Hid (∀ w : World, Calls Tryz.prog 114 #[.string s] w fun e w' => e = .returned (.bool false) ∧ w = w'))
    (CisSign : Hid (∀ w : World, Calls Tryz.prog 118 #[.string s] w fun e w' => e = .returned (.bool true) ∧ w = w')) (w : World) :
    Calls Tryz.prog 111 #[.string s, .bool false] w fun e w' => e = .returned (.int .u8 5) ∧ Below w.heap.size w w' := by
  have hp : (0 : Int) < (s.size : Int) := by omega
  go_enter Tryz.func111, Tryz.ntmps111
  go_wp2_with fail
  refine (CisSmall.out _).mono ?_; rintro e w1 ⟨rfl, rfl⟩
  go_wp2_with fail
  refine (CisGreat.out _).mono ?_; rintro e w1 ⟨rfl, rfl⟩
  go_wp2_with fail
  refine (CisNameLike.out _).mono ?_; rintro e w1 ⟨rfl, rfl⟩
  go_wp2_with fail
  refine (CisDigit.out _).mono ?_; rintro e w1 ⟨rfl, rfl⟩
  go_wp2_with fail
  refine (CisSign.out _).mono ?_; rintro e w1 ⟨rfl, rfl⟩
  go_wp2
  go_ret
  exact ⟨rfl, Below.refl _ _⟩

set_option maxHeartbeats 1000000 in
theorem kindOf_digitno5 (s : ByteArray) (h0 : 0 < s.size) (he : s.toList.isEmpty = false)
    (CisSmall : Hid (∀ w : World, Calls Tryz.prog 113 #[.int .u8 (s[0].toNat : Int)] w fun e w' => e = .returned (.bool false) ∧ w = w'))
    (CisGreat : Hid (∀ w : World, Calls Tryz.prog 115 #[.int .u8 (s[0].toNat : Int)] w fun e w' => e = .returned (.bool false) ∧ w = w'))
    (CisDigit : Hid (∀ w : World, Calls Tryz.prog 116 #[.int .u8 (s[0].toNat : Int)] w fun e w' => e = .returned (.bool true) ∧ w = w'))
    (CisNumeral : Hid (∀ w : World, Calls Tryz.prog 117 #[.string s] w fun e w' => e = .returned (.bool false) ∧ Below w.heap.size w w'))
    (CisSign : Hid (∀ w : World, Calls Tryz.prog 118 #[.string s] w fun e w' => e = .returned (.bool true) ∧ w = w')) (w : World) :
    Calls Tryz.prog 111 #[.string s, .bool false] w fun e w' => e = .returned (.int .u8 5) ∧ Below w.heap.size w w' := by
  have hp : (0 : Int) < (s.size : Int) := by omega
  go_enter Tryz.func111, Tryz.ntmps111
  go_wp2_with fail
  refine (CisSmall.out _).mono ?_; rintro e w1 ⟨rfl, rfl⟩
  go_wp2_with fail
  refine (CisGreat.out _).mono ?_; rintro e w1 ⟨rfl, rfl⟩
  go_wp2_with fail
  refine (CisDigit.out _).mono ?_; rintro e w1 ⟨rfl, rfl⟩
  go_wp2_with fail
  refine (CisNumeral.out _).mono ?_; rintro e w2 ⟨rfl, b2⟩
  go_wp2_with fail
  refine (CisSign.out _).mono ?_; rintro e w3 ⟨rfl, rfl⟩
  go_wp2
  go_ret
  exact ⟨rfl, b2⟩

set_option maxHeartbeats 1000000 in
theorem kindOf_other5 (s : ByteArray) (h0 : 0 < s.size) (he : s.toList.isEmpty = false)
    (CisSmall : Hid (∀ w : World, Calls Tryz.prog 113 #[.int .u8 (s[0].toNat : Int)] w fun e w' => e = .returned (.bool false) ∧ w = w'))
    (CisGreat : Hid (∀ w : World, Calls Tryz.prog 115 #[.int .u8 (s[0].toNat : Int)] w fun e w' => e = .returned (.bool false) ∧ w = w'))
    (CisDigit : Hid (∀ w : World, Calls Tryz.prog 116 #[.int .u8 (s[0].toNat : Int)] w fun e w' => e = .returned (.bool false) ∧ w = w'))
    (CisSign : Hid (∀ w : World, Calls Tryz.prog 118 #[.string s] w fun e w' => e = .returned (.bool true) ∧ w = w')) (w : World) :
    Calls Tryz.prog 111 #[.string s, .bool false] w fun e w' => e = .returned (.int .u8 5) ∧ Below w.heap.size w w' := by
  have hp : (0 : Int) < (s.size : Int) := by omega
  go_enter Tryz.func111, Tryz.ntmps111
  go_wp2_with fail
  refine (CisSmall.out _).mono ?_; rintro e w1 ⟨rfl, rfl⟩
  go_wp2_with fail
  refine (CisGreat.out _).mono ?_; rintro e w1 ⟨rfl, rfl⟩
  go_wp2_with fail
  refine (CisDigit.out _).mono ?_; rintro e w1 ⟨rfl, rfl⟩
  go_wp2_with fail
  refine (CisSign.out _).mono ?_; rintro e w1 ⟨rfl, rfl⟩
  go_wp2
  go_ret
  exact ⟨rfl, Below.refl _ _⟩

set_option maxHeartbeats 1000000 in
theorem kindOf_smallno0 (s : ByteArray) (h0 : 0 < s.size) (he : s.toList.isEmpty = false)
    (CisSmall : Hid (∀ w : World, Calls Tryz.prog 113 #[.int .u8 (s[0].toNat : Int)] w fun e w' => e = .returned (.bool true) ∧ w = w'))
    (CisGreat : Hid (∀ w : World, Calls Tryz.prog 115 #[.int .u8 (s[0].toNat : Int)] w fun e w' => e = .returned (.bool false) ∧ w = w'))
    (CisDigit : Hid (∀ w : World, Calls Tryz.prog 116 #[.int .u8 (s[0].toNat : Int)] w fun e w' => e = .returned (.bool false) ∧ w = w'))
    (CisNameLike : Hid (∀ w : World, Calls Tryz.prog 114 #[.string s] w fun e w' => e = .returned (.bool false) ∧ w = w'))
    (CisSign : Hid (∀ w : World, Calls Tryz.prog 118 #[.string s] w fun e w' => e = .returned (.bool false) ∧ w = w')) (w : World) :
    Calls Tryz.prog 111 #[.string s, .bool false] w fun e w' => e = .returned (.int .u8 0) ∧ Below w.heap.size w w' := by
  have hp : (0 : Int) < (s.size : Int) := by omega
  go_enter Tryz.func111, Tryz.ntmps111
  go_wp2_with fail
  refine (CisSmall.out _).mono ?_; rintro e w1 ⟨rfl, rfl⟩
  go_wp2_with fail
  refine (CisNameLike.out _).mono ?_; rintro e w1 ⟨rfl, rfl⟩
  go_wp2_with fail
  refine (CisGreat.out _).mono ?_; rintro e w1 ⟨rfl, rfl⟩
  go_wp2_with fail
  refine (CisDigit.out _).mono ?_; rintro e w1 ⟨rfl, rfl⟩
  go_wp2_with fail
  refine (CisSign.out _).mono ?_; rintro e w1 ⟨rfl, rfl⟩
  go_wp2
  go_ret
  exact ⟨rfl, Below.refl _ _⟩

set_option maxHeartbeats 1000000 in
theorem kindOf_greatno0 (s : ByteArray) (h0 : 0 < s.size) (he : s.toList.isEmpty = false)
    (CisSmall : Hid (∀ w : World, Calls Tryz.prog 113 #[.int .u8 (s[0].toNat : Int)] w fun e w' => e = .returned (.bool false) ∧ w = w'))
    (CisGreat : Hid (∀ w : World, Calls Tryz.prog 115 #[.int .u8 (s[0].toNat : Int)] w fun e w' => e = .returned (.bool true) ∧ w = w'))
    (CisDigit : Hid (∀ w : World, Calls Tryz.prog 116 #[.int .u8 (s[0].toNat : Int)] w fun e w' => e = .returned (.bool false) ∧ w = w'))
    (CisNameLike : Hid (∀ w : World, Calls Tryz.prog 114 #[.string s] w fun e w' => e = .returned (.bool false) ∧ w = w'))
    (CisSign : Hid (∀ w : World, Calls Tryz.prog 118 #[.string s] w fun e w' => e = .returned (.bool false) ∧ w = w')) (w : World) :
    Calls Tryz.prog 111 #[.string s, .bool false] w fun e w' => e = .returned (.int .u8 0) ∧ Below w.heap.size w w' := by
  have hp : (0 : Int) < (s.size : Int) := by omega
  go_enter Tryz.func111, Tryz.ntmps111
  go_wp2_with fail
  refine (CisSmall.out _).mono ?_; rintro e w1 ⟨rfl, rfl⟩
  go_wp2_with fail
  refine (CisGreat.out _).mono ?_; rintro e w1 ⟨rfl, rfl⟩
  go_wp2_with fail
  refine (CisNameLike.out _).mono ?_; rintro e w1 ⟨rfl, rfl⟩
  go_wp2_with fail
  refine (CisDigit.out _).mono ?_; rintro e w1 ⟨rfl, rfl⟩
  go_wp2_with fail
  refine (CisSign.out _).mono ?_; rintro e w1 ⟨rfl, rfl⟩
  go_wp2
  go_ret
  exact ⟨rfl, Below.refl _ _⟩

set_option maxHeartbeats 1000000 in
theorem kindOf_digitno0 (s : ByteArray) (h0 : 0 < s.size) (he : s.toList.isEmpty = false)
    (CisSmall : Hid (∀ w : World, Calls Tryz.prog 113 #[.int .u8 (s[0].toNat : Int)] w fun e w' => e = .returned (.bool false) ∧ w = w'))
    (CisGreat : Hid (∀ w : World, Calls Tryz.prog 115 #[.int .u8 (s[0].toNat : Int)] w fun e w' => e = .returned (.bool false) ∧ w = w'))
    (CisDigit : Hid (∀ w : World, Calls Tryz.prog 116 #[.int .u8 (s[0].toNat : Int)] w fun e w' => e = .returned (.bool true) ∧ w = w'))
    (CisNumeral : Hid (∀ w : World, Calls Tryz.prog 117 #[.string s] w fun e w' => e = .returned (.bool false) ∧ Below w.heap.size w w'))
    (CisSign : Hid (∀ w : World, Calls Tryz.prog 118 #[.string s] w fun e w' => e = .returned (.bool false) ∧ w = w')) (w : World) :
    Calls Tryz.prog 111 #[.string s, .bool false] w fun e w' => e = .returned (.int .u8 0) ∧ Below w.heap.size w w' := by
  have hp : (0 : Int) < (s.size : Int) := by omega
  go_enter Tryz.func111, Tryz.ntmps111
  go_wp2_with fail
  refine (CisSmall.out _).mono ?_; rintro e w1 ⟨rfl, rfl⟩
  go_wp2_with fail
  refine (CisGreat.out _).mono ?_; rintro e w1 ⟨rfl, rfl⟩
  go_wp2_with fail
  refine (CisDigit.out _).mono ?_; rintro e w1 ⟨rfl, rfl⟩
  go_wp2_with fail
  refine (CisNumeral.out _).mono ?_; rintro e w2 ⟨rfl, b2⟩
  go_wp2_with fail
  refine (CisSign.out _).mono ?_; rintro e w3 ⟨rfl, rfl⟩
  go_wp2
  go_ret
  exact ⟨rfl, b2⟩

set_option maxHeartbeats 1000000 in
theorem kindOf_other0 (s : ByteArray) (h0 : 0 < s.size) (he : s.toList.isEmpty = false)
    (CisSmall : Hid (∀ w : World, Calls Tryz.prog 113 #[.int .u8 (s[0].toNat : Int)] w fun e w' => e = .returned (.bool false) ∧ w = w'))
    (CisGreat : Hid (∀ w : World, Calls Tryz.prog 115 #[.int .u8 (s[0].toNat : Int)] w fun e w' => e = .returned (.bool false) ∧ w = w'))
    (CisDigit : Hid (∀ w : World, Calls Tryz.prog 116 #[.int .u8 (s[0].toNat : Int)] w fun e w' => e = .returned (.bool false) ∧ w = w'))
    (CisSign : Hid (∀ w : World, Calls Tryz.prog 118 #[.string s] w fun e w' => e = .returned (.bool false) ∧ w = w')) (w : World) :
    Calls Tryz.prog 111 #[.string s, .bool false] w fun e w' => e = .returned (.int .u8 0) ∧ Below w.heap.size w w' := by
  have hp : (0 : Int) < (s.size : Int) := by omega
  go_enter Tryz.func111, Tryz.ntmps111
  go_wp2_with fail
  refine (CisSmall.out _).mono ?_; rintro e w1 ⟨rfl, rfl⟩
  go_wp2_with fail
  refine (CisGreat.out _).mono ?_; rintro e w1 ⟨rfl, rfl⟩
  go_wp2_with fail
  refine (CisDigit.out _).mono ?_; rintro e w1 ⟨rfl, rfl⟩
  go_wp2_with fail
  refine (CisSign.out _).mono ?_; rintro e w1 ⟨rfl, rfl⟩
  go_wp2
  go_ret
  exact ⟨rfl, Below.refl _ _⟩

theorem kindOf_calls (s : ByteArray) (hs : s.size ≤ maxLen) (w : World) :
    Calls Tryz.prog 111 #[.string s, .bool (wordsL.contains s.data.toList)] w fun e w' => e = .returned (.int .u8 (kindL s.data.toList)) ∧ Below w.heap.size w w' := by
  by_cases h0 : 0 < s.size
  · have hne : s.data.toList ≠ [] := by
      have := drop_byte h0
      rw [List.drop_zero] at this
      rw [this]; simp
    have he : s.toList.isEmpty = false := by rw [ByteArray.toList_eq]; simpa using hne
    have A1 := fun w => isSmall_calls s[0] w
    have A2 := fun w => isGreat_calls s[0] w
    have A3 := fun w => isDigit_calls s[0] w
    have A4 := fun w => isNameLike_calls s hs w
    have A5 := fun w => isNumeral_calls s hs w
    have A6 := fun w => isSign_calls s w
    have g1 := head_byte smallB s h0
    have g2 := head_byte greatB s h0
    have g3 := head_byte dgt s h0
    cases hc : wordsL.contains s.data.toList
    · cases b1 : smallB s[0]
      · rw [b1] at A1 g1
        cases b2 : greatB s[0]
        · rw [b2] at A2 g2
          cases b3 : dgt s[0]
          · rw [b3] at A3 g3
            rw [kind_else hne hc (by simp [g1]) (by simp [g2]) (by simp [g3])]
            cases b6 : signL s.data.toList <;> rw [b6] at A6
            · exact kindOf_other0 s h0 he (Lib.hid A1) (Lib.hid A2) (Lib.hid A3) (Lib.hid A6) w
            · exact kindOf_other5 s h0 he (Lib.hid A1) (Lib.hid A2) (Lib.hid A3) (Lib.hid A6) w
          · rw [b3] at A3 g3
            cases b5 : decide (pe s.data.toList = 0)
            · rw [b5] at A5
              rw [kind_else hne hc (by simp [g1]) (by simp [g2]) (by rw [b5]; simp)]
              cases b6 : signL s.data.toList <;> rw [b6] at A6
              · exact kindOf_digitno0 s h0 he (Lib.hid A1) (Lib.hid A2) (Lib.hid A3) (Lib.hid A5) (Lib.hid A6) w
              · exact kindOf_digitno5 s h0 he (Lib.hid A1) (Lib.hid A2) (Lib.hid A3) (Lib.hid A5) (Lib.hid A6) w
            · rw [b5] at A5
              rw [kind_digit hne hc g1 g2 g3 b5]
              exact kindOf_digit s h0 he (Lib.hid A1) (Lib.hid A2) (Lib.hid A3) (Lib.hid A5) w
        · rw [b2] at A2 g2
          have b3 := great_not b2
          rw [b3] at A3 g3
          cases b4 : likeL s.data.toList
          · rw [b4] at A4
            rw [kind_else hne hc (by simp [g1]) (by simp [b4]) (by simp [g3])]
            cases b6 : signL s.data.toList <;> rw [b6] at A6
            · exact kindOf_greatno0 s h0 he (Lib.hid A1) (Lib.hid A2) (Lib.hid A3) (Lib.hid A4) (Lib.hid A6) w
            · exact kindOf_greatno5 s h0 he (Lib.hid A1) (Lib.hid A2) (Lib.hid A3) (Lib.hid A4) (Lib.hid A6) w
          · rw [b4] at A4
            rw [kind_great hne hc g1 g2 b4]
            exact kindOf_great s h0 he (Lib.hid A1) (Lib.hid A2) (Lib.hid A4) w
      · rw [b1] at A1 g1
        obtain ⟨b2, b3⟩ := small_not b1
        rw [b2] at A2 g2
        rw [b3] at A3 g3
        cases b4 : likeL s.data.toList
        · rw [b4] at A4
          rw [kind_else hne hc (by simp [b4]) (by simp [b4]) (by simp [g3])]
          cases b6 : signL s.data.toList <;> rw [b6] at A6
          · exact kindOf_smallno0 s h0 he (Lib.hid A1) (Lib.hid A2) (Lib.hid A3) (Lib.hid A4) (Lib.hid A6) w
          · exact kindOf_smallno5 s h0 he (Lib.hid A1) (Lib.hid A2) (Lib.hid A3) (Lib.hid A4) (Lib.hid A6) w
        · rw [b4] at A4
          rw [kind_small hne hc g1 b4]
          exact kindOf_small s h0 he (Lib.hid A1) (Lib.hid A4) w
    · rw [kind_word hne hc]
      refine (kindOf_word s h0 he w).mono ?_
      rintro e w' ⟨rfl, rfl⟩
      exact ⟨rfl, Below.refl _ _⟩
  · obtain ⟨⟨l⟩⟩ := s
    have : l = [] := by
      cases l with
      | nil => rfl
      | cons c r => exact absurd (show 0 < r.length + 1 by omega) h0
    subst this
    refine (kindOf_empty _ w).mono ?_
    rintro e w' ⟨rfl, rfl⟩
    exact ⟨rfl, Below.refl _ _⟩
end Go.Proofs.YtojeijeimpffgaaGreat
/- Contracts of package lex, sixth part: Word, Name, Type. -/
namespace Go.Proofs.YtojeijeimpffgaaGreat
open Go.RowKit
set_option linter.unusedVariables false

theorem kind_is (n k : Nat) : ((n : Int) == (k : Int)) = decide (n = k) := by
  rw [Bool.eq_iff_iff, beq_iff_eq, decide_eq_true_eq]; omega

set_option maxHeartbeats 400000 in
theorem name_says (s : ByteArray) (hs : s.size ≤ maxLen) (w : World) (hmax : MaxOk w) :
    Calls Tryz.prog 108 #[.string s] w fun e w' => e = .returned (.bool (decide (kindL s.data.toList = 2))) ∧ Below w.heap.size w w' := by
  have H := fun w => kindOf_calls s hs w
  have D := Lib.hid fun w h => isWord_calls s hs w h
  generalize wordsL.contains s.data.toList = c at *
  generalize kindL s.data.toList = n at *
  have C := Lib.hid H
  clear H
  go_enter Tryz.func108, Tryz.ntmps108
  go_wp2_with fail
  refine (D.out _ hmax).mono ?_; rintro e w1 ⟨rfl, rfl⟩
  go_wp2_with fail
  refine (C.out _).mono ?_; rintro e w2 ⟨rfl, b2⟩
  go_wp2
  go_ret
  exact ⟨ret_bool (kind_is n 2), b2⟩

set_option maxHeartbeats 400000 in
theorem type_says (s : ByteArray) (hs : s.size ≤ maxLen) (w : World) (hmax : MaxOk w) :
    Calls Tryz.prog 109 #[.string s] w fun e w' => e = .returned (.bool (decide (kindL s.data.toList = 3))) ∧ Below w.heap.size w w' := by
  have H := fun w => kindOf_calls s hs w
  have D := Lib.hid fun w h => isWord_calls s hs w h
  generalize wordsL.contains s.data.toList = c at *
  generalize kindL s.data.toList = n at *
  have C := Lib.hid H
  clear H
  go_enter Tryz.func109, Tryz.ntmps109
  go_wp2_with fail
  refine (D.out _ hmax).mono ?_; rintro e w1 ⟨rfl, rfl⟩
  go_wp2_with fail
  refine (C.out _).mono ?_; rintro e w2 ⟨rfl, b2⟩
  go_wp2
  go_ret
  exact ⟨ret_bool (kind_is n 3), b2⟩
end Go.Proofs.YtojeijeimpffgaaGreat
/- What fits, first part: texts, places, lists of names (made by gen_fits1.py). -/
namespace Go.Proofs.YtojeijeimpffgaaGreat
open Go.RowKit
set_option linter.unusedVariables false

theorem nul_size (s : ByteArray) : (s.toList = []) = (s.size = 0) := by
  rw [ByteArray.toList_eq]
  apply propext
  constructor
  · intro h
    obtain ⟨⟨l⟩⟩ := s
    have : l = [] := h
    subst this; rfl
  · intro h
    obtain ⟨⟨l⟩⟩ := s
    have : l = [] := by simpa [ByteArray.size] using h
    subst this; rfl
theorem MaxOk.alloc {w : World} (h : MaxOk w) (o : Obj) : MaxOk (w.alloc o) := h.below ((Below.refl _ w).alloc (Nat.le_refl _) o)
theorem MaxOk.drew {w : World} (h : MaxOk w) : MaxOk w.drew := h.below (Below.refl _ w).drew
theorem MaxOk.drewN {w : World} (h : MaxOk w) (n : Nat) : MaxOk (w.drewN n) := h.below (below_drewN w n)

set_option maxHeartbeats 1000000 in
theorem textFits_calls (x : Nat) (hx : x ≤ 3) (s : ByteArray) (hs : s.size ≤ maxLen) (w : World) (hm : MaxOk w) :
    Calls Tryz.prog 94 #[.int .u8 x, .string s] w fun e w' => e = .returned (.bool (txB x s)) ∧ Below w.heap.size w w' := by
  have C := Lib.hid fun w h => name_says s hs w h
  have D := Lib.hid fun w h => type_says s hs w h
  have hN : txB 1 s = nmB s := rfl
  have hT : txB 3 s = tyB s := rfl
  have h2 : txB 2 s = (noB s || nmB s) := rfl
  have h0 : txB 0 s = noB s := rfl
  have C2 : Hid (∀ w, MaxOk w → Calls Tryz.prog 108 #[.string s] w fun e w' => e = .returned (.bool (nmB s)) ∧ Below w.heap.size w w') := C
  have D2 : Hid (∀ w, MaxOk w → Calls Tryz.prog 109 #[.string s] w fun e w' => e = .returned (.bool (tyB s)) ∧ Below w.heap.size w w') := D
  clear C D
  have hno : noB s = decide (s.toList = []) := by unfold noB; rw [decide_eq_decide, nul_size]
  rcases (show x = 0 ∨ x = 1 ∨ x = 2 ∨ x = 3 by omega) with rfl | rfl | rfl | rfl
  · rw [h0, hno]
    show Calls Tryz.prog 94 #[.int .u8 0, .string s] w _
    go_enter Tryz.func94, Tryz.ntmps94
    go_wp2
    go_ret
    exact ⟨ret_bool (by cases s.toList <;> simp), Below.refl _ _⟩
  · rw [hN]
    show Calls Tryz.prog 94 #[.int .u8 1, .string s] w _
    go_enter Tryz.func94, Tryz.ntmps94
    go_wp2_with fail
    refine (C2.out _ hm).mono ?_; rintro e w1 ⟨rfl, b1⟩
    go_wp2
    go_ret
    exact ⟨rfl, b1⟩
  · rw [h2, hno]
    show Calls Tryz.prog 94 #[.int .u8 2, .string s] w _
    by_cases he : s.toList = []
    · go_enter Tryz.func94, Tryz.ntmps94
      go_wp2_with fail
      go_ret
      exact ⟨ret_bool (by simp [he]), Below.refl _ _⟩
    · have he2 : s.toList.isEmpty = false := by cases h : s.toList with | nil => exact absurd h he | cons a l => rfl
      go_enter Tryz.func94, Tryz.ntmps94
      go_wp2_with fail
      refine (C2.out _ hm).mono ?_; rintro e w1 ⟨rfl, b1⟩
      go_wp2
      go_ret
      exact ⟨ret_bool (by simp [he]), b1⟩
  · rw [hT]
    show Calls Tryz.prog 94 #[.int .u8 3, .string s] w _
    go_enter Tryz.func94, Tryz.ntmps94
    go_wp2_with fail
    refine (D2.out _ hm).mono ?_; rintro e w1 ⟨rfl, b1⟩
    go_wp2
    go_ret
    exact ⟨rfl, b1⟩
set_option maxHeartbeats 1000000 in
theorem isNoStep_calls (s : ByteArray) (hs : s.size ≤ maxLen) (w : World) (hm : MaxOk w) :
    Calls Tryz.prog 96 #[.string s] w fun e w' => e = .returned (.bool (!stepB s)) ∧ Below w.heap.size w w' := by
  have C2 : Hid (∀ w, MaxOk w → Calls Tryz.prog 94 #[.int .u8 1, .string s] w fun e w' => e = .returned (.bool (nmB s)) ∧ Below w.heap.size w w') := Lib.hid fun w h => textFits_calls 1 (by omega) s hs w h
  have hst : stepB s = (decide (s.toList = [42]) || nmB s) := by unfold stepB; rw [ByteArray.toList_eq]
  rw [hst]
  by_cases he : s.toList = [42]
  · go_enter Tryz.func96, Tryz.ntmps96
    go_wp2_with fail
    go_ret
    exact ⟨ret_bool (by simp [he]), Below.refl _ _⟩
  · go_enter Tryz.func96, Tryz.ntmps96
    go_wp2_with fail
    refine (C2.out _ hm).mono ?_; rintro e w1 ⟨rfl, b1⟩
    go_wp2
    go_ret
    exact ⟨ret_bool (by simp [he]), b1⟩
set_option maxHeartbeats 1000000 in
theorem notFit_calls (s : ByteArray) (hs : s.size ≤ maxLen) (g : Nat) (w : World) (hm : MaxOk w) (hg : w.cell? ⟨g, 0, none⟩ = some (.int .u8 1)) :
    Calls Tryz.prog 170 #[.string s, .pointer (some ⟨g, 0, none⟩)] w fun e w' => e = .returned (.bool (!nmB s)) ∧ Below w.heap.size w w' := by
  have C2 : Hid (∀ w, MaxOk w → Calls Tryz.prog 94 #[.int .u8 1, .string s] w fun e w' => e = .returned (.bool (nmB s)) ∧ Below w.heap.size w w') := Lib.hid fun w h => textFits_calls 1 (by omega) s hs w h
  go_enter Tryz.func170, Tryz.ntmps170
  go_wp2_with fail
  refine (C2.out _ hm).mono ?_; rintro e w1 ⟨rfl, b1⟩
  go_wp2
  go_ret
  exact ⟨ret_bool (by simp), b1⟩
theorem any_no {α : Type} {p : α → Bool} {l : List α} (h : ∀ (j : Nat) x, l[j]? = some x → p x = false) : l.any p = false := by
  rw [Bool.eq_false_iff]
  intro hc
  obtain ⟨x, hx, hp⟩ := List.any_eq_true.1 hc
  obtain ⟨j, hj⟩ := List.mem_iff_getElem?.1 hx
  rw [h j x hj] at hp; simp at hp
theorem any_yes {α : Type} {p : α → Bool} {l : List α} {k : Nat} {x : α} (h : l[k]? = some x) (hp : p x = true) : l.any p = true := List.any_eq_true.2 ⟨x, List.mem_of_getElem? h, hp⟩
set_option maxHeartbeats 2000000 in
theorem indexNoStep_calls (B : Nat) (l : List ByteArray) (b1 o1 : Nat) (v1 : Value) (w : World) (hB : B ≤ w.heap.size) (hm : MaxOk w) (s1 : SlV B v1 l.length b1 o1) (r1 : NRow w b1 o1 l) :
    Calls Tryz.prog 110 #[v1, .func (.func 96) #[] #[]] w fun e w' => (∃ r : Int, e = .returned (.int .i64 r) ∧ decide (0 ≤ r) = l.any (fun s => (!stepB s))) ∧ Below w.heap.size w w' := by
  obtain ⟨m1, ao1, cap1, rfl, h1⟩ := s1
  unfold maxLen at m1
  obtain ⟨n, hx⟩ : ∃ n, n = l.length := ⟨_, rfl⟩
  rw [← hx] at m1 h1 ⊢
  have Hx := Lib.hid hx
  have Hr := Lib.hid r1
  have H1 := Lib.hid h1
  have Hm := Lib.hid hm
  clear hx r1 h1 hm
  have hE : ∀ args w, (callFunc 96 args).run Tryz.prog w = .ok (.enter 96 args) w := enters_of Tryz.func96 (by kernel_rfl) rfl
  go_enter Tryz.func110, Tryz.ntmps110
  go_wp2_with fail
  go_loopw [8] (fun i wr => ∃ k : Nat, k ≤ n ∧ i = .int .i64 k ∧ Below w.heap.size w wr ∧ Hid (∀ (j : Nat) x, j < k → l[j]? = some x → (!stepB x) = false))
    (fun i _ => n - (intOf i).toNat)
  case atStart => exact ⟨0, by omega, rfl, Below.refl _ _, Lib.hid fun j x hj => by omega⟩
  case round =>
    obtain ⟨k, hk, rfl, hbel, HK⟩ := hrel
    have hsz := hbel.size
    have hbB := hbel.mono hB
    by_cases hlt : k < n
    · obtain ⟨a, ha, hin⟩ := get_at (l := l) (k := k) (by rw [← Hx.out]; exact hlt)
      obtain ⟨rfl, hb1⟩ := H1.out.resolve_left (by omega)
      obtain ⟨hsa, ca⟩ := NRow.get (NRow.below hb1 hbB Hr.out) ha
      have c0 : wr.cell? ⟨b1, o1 + k * 1, none⟩ = some (.string a) := ca 0 _ rfl
      rw [Nat.mul_one] at c0
      have g1 : b1 < wr.heap.size := by omega
      have hmr := Hm.out.below hbel
      have C := Lib.hid (isNoStep_calls a hsa wr hmr)
      have Ha := Lib.hid ha
      generalize hp : (!stepB a) = pa at *
      have Hp := Lib.hid hp
      clear ha ca hin hmr hp
      go_wp2_with fail
      refine C.out.mono ?_
      rintro e w2 ⟨rfl, b2⟩
      have b3 := hbel.trans (b2.mono (by omega))
      clear b2 c0
      cases pa
      · have HK2 : Hid (∀ (j : Nat) x, j < k + 1 → l[j]? = some x → (!stepB x) = false) := Lib.hid fun j x hj hx => by
          by_cases e : j = k
          · subst e
            rw [Ha.out] at hx
            cases hx
            exact Hp.out
          · exact HK.out j x (by omega) hx
        go_wp2
        go_roundw
        case rel => exact ⟨k + 1, by omega, by go_num, b3, HK2⟩
        case measure => simp [intOf]; omega
      · have hres := Lib.hid (any_yes (p := fun s => (!stepB s)) Ha.out Hp.out)
        go_wp2
        go_ret
        exact ⟨⟨k, rfl, by rw [hres.out]; simp⟩, b3⟩
    · obtain rfl : k = n := by omega
      have hres := Lib.hid (any_no (p := fun s => (!stepB s)) fun j x hx => HK.out j x (by rw [Hx.out]; exact (List.getElem?_eq_some_iff.1 hx).1) hx)
      go_wp2
      go_ret
      exact ⟨⟨-1, rfl, by rw [hres.out]; simp⟩, hbel⟩
set_option maxHeartbeats 1000000 in
theorem containsNoStep_calls (B : Nat) (l : List ByteArray) (b1 o1 : Nat) (v1 : Value) (w : World) (hB : B ≤ w.heap.size) (hm : MaxOk w) (s1 : SlV B v1 l.length b1 o1) (r1 : NRow w b1 o1 l) :
    Calls Tryz.prog 95 #[v1, .func (.func 96) #[] #[]] w fun e w' => e = .returned (.bool (l.any (fun s => (!stepB s)))) ∧ Below w.heap.size w w' := by
  have C := Lib.hid (indexNoStep_calls B l b1 o1 v1 w hB hm s1 r1)
  obtain ⟨ao1, cap1, rfl⟩ := s1.shape
  generalize l.any (fun s => (!stepB s)) = res at *
  clear r1 s1 hm
  go_enter Tryz.func95, Tryz.ntmps95
  go_wp2_with fail
  refine C.out.mono ?_
  rintro e w2 ⟨⟨r, rfl, hr⟩, b2⟩
  go_wp2
  go_ret
  exact ⟨ret_bool (by rw [← hr]), b2⟩

set_option maxHeartbeats 2000000 in
theorem indexNotFit_calls (B : Nat) (l : List ByteArray) (b1 o1 : Nat) (v1 : Value) (g : Nat) (w : World) (hB : B ≤ w.heap.size) (hm : MaxOk w) (s1 : SlV B v1 l.length b1 o1) (r1 : NRow w b1 o1 l) (hg : w.cell? ⟨g, 0, none⟩ = some (.int .u8 1)) :
    Calls Tryz.prog 110 #[v1, .func (.func 170) #[] #[.pointer (some ⟨g, 0, none⟩)]] w fun e w' => (∃ r : Int, e = .returned (.int .i64 r) ∧ decide (0 ≤ r) = l.any (fun s => (!nmB s))) ∧ Below w.heap.size w w' := by
  obtain ⟨m1, ao1, cap1, rfl, h1⟩ := s1
  unfold maxLen at m1
  obtain ⟨n, hx⟩ : ∃ n, n = l.length := ⟨_, rfl⟩
  rw [← hx] at m1 h1 ⊢
  have Hx := Lib.hid hx
  have Hr := Lib.hid r1
  have H1 := Lib.hid h1
  have Hm := Lib.hid hm
  clear hx r1 h1 hm
  have hE : ∀ args w, (callFunc 170 args).run Tryz.prog w = .ok (.enter 170 args) w := enters_of Tryz.func170 (by kernel_rfl) rfl
  go_enter Tryz.func110, Tryz.ntmps110
  go_wp2_with fail
  go_loopw [8] (fun i wr => ∃ k : Nat, k ≤ n ∧ i = .int .i64 k ∧ Below w.heap.size w wr ∧ Hid (∀ (j : Nat) x, j < k → l[j]? = some x → (!nmB x) = false))
    (fun i _ => n - (intOf i).toNat)
  case atStart => exact ⟨0, by omega, rfl, Below.refl _ _, Lib.hid fun j x hj => by omega⟩
  case round =>
    obtain ⟨k, hk, rfl, hbel, HK⟩ := hrel
    have hsz := hbel.size
    have hbB := hbel.mono hB
    by_cases hlt : k < n
    · obtain ⟨a, ha, hin⟩ := get_at (l := l) (k := k) (by rw [← Hx.out]; exact hlt)
      obtain ⟨rfl, hb1⟩ := H1.out.resolve_left (by omega)
      obtain ⟨hsa, ca⟩ := NRow.get (NRow.below hb1 hbB Hr.out) ha
      have c0 : wr.cell? ⟨b1, o1 + k * 1, none⟩ = some (.string a) := ca 0 _ rfl
      rw [Nat.mul_one] at c0
      have g1 : b1 < wr.heap.size := by omega
      have hmr := Hm.out.below hbel
      have hgr : wr.cell? ⟨g, 0, none⟩ = some (.int .u8 1) := (hbel.cell (p := ⟨g, 0, none⟩) (World.block_lt_of_cell? _ _ hg)).trans hg
      have C := Lib.hid (notFit_calls a hsa g wr hmr hgr)
      have Ha := Lib.hid ha
      generalize hp : (!nmB a) = pa at *
      have Hp := Lib.hid hp
      clear ha ca hin hmr hp
      go_wp2_with fail
      refine C.out.mono ?_
      rintro e w2 ⟨rfl, b2⟩
      have b3 := hbel.trans (b2.mono (by omega))
      clear b2 c0
      cases pa
      · have HK2 : Hid (∀ (j : Nat) x, j < k + 1 → l[j]? = some x → (!nmB x) = false) := Lib.hid fun j x hj hx => by
          by_cases e : j = k
          · subst e
            rw [Ha.out] at hx
            cases hx
            exact Hp.out
          · exact HK.out j x (by omega) hx
        go_wp2
        go_roundw
        case rel => exact ⟨k + 1, by omega, by go_num, b3, HK2⟩
        case measure => simp [intOf]; omega
      · have hres := Lib.hid (any_yes (p := fun s => (!nmB s)) Ha.out Hp.out)
        go_wp2
        go_ret
        exact ⟨⟨k, rfl, by rw [hres.out]; simp⟩, b3⟩
    · obtain rfl : k = n := by omega
      have hres := Lib.hid (any_no (p := fun s => (!nmB s)) fun j x hx => HK.out j x (by rw [Hx.out]; exact (List.getElem?_eq_some_iff.1 hx).1) hx)
      go_wp2
      go_ret
      exact ⟨⟨-1, rfl, by rw [hres.out]; simp⟩, hbel⟩
set_option maxHeartbeats 1000000 in
theorem containsNotFit_calls (B : Nat) (l : List ByteArray) (b1 o1 : Nat) (v1 : Value) (g : Nat) (w : World) (hB : B ≤ w.heap.size) (hm : MaxOk w) (s1 : SlV B v1 l.length b1 o1) (r1 : NRow w b1 o1 l) (hg : w.cell? ⟨g, 0, none⟩ = some (.int .u8 1)) :
    Calls Tryz.prog 95 #[v1, .func (.func 170) #[] #[.pointer (some ⟨g, 0, none⟩)]] w fun e w' => e = .returned (.bool (l.any (fun s => (!nmB s)))) ∧ Below w.heap.size w w' := by
  have C := Lib.hid (indexNotFit_calls B l b1 o1 v1 g w hB hm s1 r1 hg)
  obtain ⟨ao1, cap1, rfl⟩ := s1.shape
  generalize l.any (fun s => (!nmB s)) = res at *
  clear r1 s1 hm
  go_enter Tryz.func95, Tryz.ntmps95
  go_wp2_with fail
  refine C.out.mono ?_
  rintro e w2 ⟨⟨r, rfl, hr⟩, b2⟩
  go_wp2
  go_ret
  exact ⟨ret_bool (by rw [← hr]), b2⟩

theorem not_any (l : List ByteArray) (p : ByteArray → Bool) : (!(l.any fun s => !p s)) = l.all p := by
  induction l with
  | nil => rfl
  | cons a l ih => simp [List.any_cons, List.all_cons, ← ih, Bool.not_or]
set_option maxHeartbeats 1000000 in
theorem isPlace_calls (B : Nat) (x : PP) (v : Value) (w : World) (hB : B ≤ w.heap.size) (hm : MaxOk w) (hx : x.In B w v) :
    Calls Tryz.prog 64 #[.agg #[.string x.name, v]] w fun e w' => e = .returned (.bool (plB x)) ∧ Below w.heap.size w w' := by
  obtain ⟨nm, pa⟩ := x
  obtain ⟨hs, b, o, s1, r1⟩ := hx
  obtain ⟨ao, cap, rfl⟩ := s1.shape
  have C2 : Hid (∀ w, MaxOk w → Calls Tryz.prog 94 #[.int .u8 1, .string nm] w fun e w' => e = .returned (.bool (nmB nm)) ∧ Below w.heap.size w w') := Lib.hid fun w h => textFits_calls 1 (by omega) nm hs w h
  have D : Hid (∀ w', MaxOk w' → w.heap.size ≤ w'.heap.size → Below w.heap.size w w' → Calls Tryz.prog 95 #[.slice ao pa.length cap, .func (.func 96) #[] #[]] w' fun e w'' => e = .returned (.bool (pa.any (fun s => (!stepB s)))) ∧ Below w'.heap.size w' w'') :=
    Lib.hid fun w' h hw hb => containsNoStep_calls B pa b o _ w' (by omega) h s1 (by
      cases pa with
      | nil => trivial
      | cons a l => exact NRow.below (s1.lt (by simp)) (hb.mono hB) r1)
  have hres : plB ⟨nm, pa⟩ = (nmB nm && (decide (pa.length ≤ 40) && !(pa.any (fun s => !stepB s)))) := by rw [not_any]; rfl
  rw [hres]
  clear hres r1 s1
  generalize pa.any (fun s => !stepB s) = q at *
  generalize nmB nm = nb at *
  go_enter Tryz.func64, Tryz.ntmps64
  go_wp2_with fail
  refine (C2.out _ (hm.alloc _)).mono ?_; rintro e w1 ⟨rfl, b1⟩
  have hz1 : w.heap.size < w1.heap.size := by have := b1.size; simp at this; omega
  have bel1 := up_tr ((Below.refl _ w).alloc (Nat.le_refl _) _) b1
  have hm1 := hm.below bel1
  have hc1 := old_cells b1
  clear b1
  by_cases hl : pa.length ≤ 40
  · cases nb
    · go_wp2_with fail
      go_ret
      exact ⟨ret_bool (by simp), bel1⟩
    · go_wp2_with fail
      refine (D.out _ hm1 (by omega) bel1).mono ?_; rintro e w2 ⟨rfl, b2⟩
      have bel2 := up_tr bel1 b2
      go_wp2
      go_ret
      exact ⟨ret_bool (by simp [hl]), bel2⟩
  · cases nb
    · go_wp2_with fail
      go_ret
      exact ⟨ret_bool (by simp), bel1⟩
    · go_wp2_with fail
      go_ret
      exact ⟨ret_bool (by simp), bel1⟩
end Go.Proofs.YtojeijeimpffgaaGreat
/- What fits, second part: lists of names, the zero place, the shapes of types and expressions. -/
namespace Go.Proofs.YtojeijeimpffgaaGreat
open Go.RowKit
set_option linter.unusedVariables false

set_option maxHeartbeats 1000000 in
theorem fitAll_calls (B : Nat) (l : List ByteArray) (b1 o1 : Nat) (v1 : Value) (w : World) (hB : B ≤ w.heap.size) (hm : MaxOk w) (s1 : SlV B v1 l.length b1 o1) (r1 : NRow w b1 o1 l) :
    Calls Tryz.prog 168 #[.int .u8 1, v1] w fun e w' => e = .returned (.bool (decide (l.length ≤ 6) && l.all nmB)) ∧ Below w.heap.size w w' := by
  obtain ⟨ao, cap, rfl⟩ := s1.shape
  have D : Hid (∀ w', w.heap.size < w'.heap.size → MaxOk w' → Below w.heap.size w w' → w'.cell? ⟨w.heap.size, 0, none⟩ = some (.int .u8 1) → Calls Tryz.prog 95 #[.slice ao l.length cap, .func (.func 170) #[] #[.pointer (some ⟨w.heap.size, 0, none⟩)]] w' fun e w'' => e = .returned (.bool (l.any (fun s => (!nmB s)))) ∧ Below w'.heap.size w' w'') :=
    Lib.hid fun w' hw h hb hc => containsNotFit_calls B l b1 o1 _ w.heap.size w' (by omega) h s1 (by
      cases l with
      | nil => trivial
      | cons a l => exact NRow.below (s1.lt (by simp)) (hb.mono hB) r1) hc
  rw [← not_any]
  have M : Hid (MaxOk (w.alloc (.cells #[.int .u8 1] 133))) := Lib.hid (hm.alloc _)
  generalize l.any (fun s => !nmB s) = q at *
  clear s1 r1 hm
  by_cases hl : l.length ≤ 6
  · go_enter Tryz.func168, Tryz.ntmps168
    go_wp2_with fail
    refine (D.out _ (by simp) M.out ((Below.refl _ w).alloc (Nat.le_refl _) _) (by go_simp)).mono ?_; rintro e w2 ⟨rfl, b2⟩
    have bel2 := up_tr ((Below.refl _ w).alloc (Nat.le_refl _) _) b2
    go_wp2
    go_ret
    exact ⟨ret_bool (by simp [hl]), bel2⟩
  · go_enter Tryz.func168, Tryz.ntmps168
    go_wp2_with fail
    go_ret
    exact ⟨ret_bool (by simp), (Below.refl _ w).alloc (Nat.le_refl _) _⟩
theorem zeroP_in (B : Nat) (w : World) : zeroP.In B w (.slice none 0 0) := ⟨by simp [zeroP], 0, 0, ⟨by unfold maxLen; simp [zeroP], none, 0, rfl, .inl rfl⟩, trivial⟩
theorem zeroT_in (B : Nat) (w : World) : zeroT.In B w (.slice none 0 0) := ⟨⟨by unfold U8; decide, by decide⟩, 0, 0, ⟨by unfold maxLen; simp, none, 0, rfl, .inl rfl⟩, trivial⟩
theorem zeroE_in (B : Nat) (w : World) : zeroE.In B w ⟨.slice none 0 0, .slice none 0 0⟩ := ⟨⟨by unfold U8; decide, by unfold I64; decide, by unfold I64; decide, by decide, by decide⟩, zeroP_in B w, 0, 0, ⟨by unfold maxLen; simp, none, 0, rfl, .inl rfl⟩, trivial⟩
set_option maxHeartbeats 1000000 in
theorem isZeroPlace_calls (B : Nat) (x : PP) (v : Value) (w : World) (hB : B ≤ w.heap.size) (hx : x.In B w v) :
    Calls Tryz.prog 169 #[.agg #[.string x.name, v]] w fun e w' => e = .returned (.bool (samePl x zeroP)) ∧ Below w.heap.size w w' := by
  have C : Hid (∀ w', w.heap.size ≤ w'.heap.size → Below w.heap.size w w' → Calls Tryz.prog 100 #[.agg #[.string x.name, v], .agg #[.string ByteArray.empty, .slice none 0 0]] w' fun e w'' => e = .returned (.bool (samePl x zeroP)) ∧ Below w'.heap.size w' w'') :=
    Lib.hid fun w' hw hb => samePl_calls B x zeroP v _ w' (by omega) (hx.below (hb.mono hB)) (zeroP_in B w')
  obtain ⟨nm, pa⟩ := x
  obtain ⟨hs, b, o, s1, r1⟩ := hx
  obtain ⟨ao, cap, rfl⟩ := s1.shape
  generalize samePl ⟨nm, pa⟩ zeroP = q at *
  go_enter Tryz.func169, Tryz.ntmps169
  go_wp2_with fail
  refine (C.out _ (by simp) ((Below.refl _ w).alloc (Nat.le_refl _) _)).mono ?_; rintro e w2 ⟨rfl, b2⟩
  have bel2 := up_tr ((Below.refl _ w).alloc (Nat.le_refl _) _) b2
  go_wp2
  go_ret
  exact ⟨rfl, bel2⟩

/-! ### the shapes -/
theorem results_cell1 {fn : Func} {p : Tmp} {ty : TypeId} (h : fn.results = #[.cell p ty]) (tmps : Array Value) (P : Program) (w : World) :
    (results fn tmps).run P w = ((asAddr (tmps.getD p undef)).run P w).andThen fun a w₁ => (loadVar ty a).run P w₁ := by
  simp [results, h, Sem.run_bind, Result.andThen]
def TSh.cells (h : TSh) : Array Value := #[.bool h.known, .int .u8 h.name, .int .i64 h.args]
def ESh.cells (h : ESh) : Array Value := #[.bool h.known, .int .i64 h.greatest, .int .u8 h.name, .int .u8 h.second, .bool h.place, .bool h.fields, .int .i64 h.fewest, .int .i64 h.most]
theorem ne_beq {k j : Int} (h : k ≠ j) : (k == j) = false := beq_eq_false_iff_ne.2 h
theorem box1 (w : World) (o : Obj) : Below w.heap.size w (w.alloc o) := (Below.refl _ w).alloc (Nat.le_refl _) _
set_option maxHeartbeats 4000000 in
theorem typeShape_calls (k : Int) (hk : 0 ≤ k ∧ k ≤ 255) (w : World) :
    Calls Tryz.prog 159 #[.int .u8 k] w fun e w' => e = .returned (.agg (tSh k).cells) ∧ Below w.heap.size w w' := by
  rcases (show (k = 0 ∨ 14 < k) ∨ k = 1 ∨ k = 2 ∨ k = 3 ∨ k = 4 ∨ k = 5 ∨ k = 6 ∨ k = 7 ∨ k = 8 ∨ k = 9 ∨ k = 10 ∨ k = 11 ∨ k = 12 ∨ k = 13 ∨ k = 14 by omega) with h | rfl | rfl | rfl | rfl | rfl | rfl | rfl | rfl | rfl | rfl | rfl | rfl | rfl | rfl
  · have e0 : tSh k = tSh 0 := by
      rcases h with rfl | h
      · rfl
      · unfold tSh; repeat rw [if_neg (by omega)]
    rw [e0]
    have n1 : (k == 1) = false := ne_beq (by omega)
    have n2 : (k == 2) = false := ne_beq (by omega)
    have n3 : (k == 3) = false := ne_beq (by omega)
    have n4 : (k == 4) = false := ne_beq (by omega)
    have n5 : (k == 5) = false := ne_beq (by omega)
    have n6 : (k == 6) = false := ne_beq (by omega)
    have n7 : (k == 7) = false := ne_beq (by omega)
    have n8 : (k == 8) = false := ne_beq (by omega)
    have n9 : (k == 9) = false := ne_beq (by omega)
    have n10 : (k == 10) = false := ne_beq (by omega)
    have n11 : (k == 11) = false := ne_beq (by omega)
    have n12 : (k == 12) = false := ne_beq (by omega)
    have n13 : (k == 13) = false := ne_beq (by omega)
    have n14 : (k == 14) = false := ne_beq (by omega)
    clear e0 h
    go_enter Tryz.func159, Tryz.ntmps159
    go_wp2_with fail
    (try simp only [Exit.inBlock, Exit.then])
    exact bodyPost_ret (v := .agg (tSh 0).cells) (by rw [results_cell1 rfl]; go_simp; rfl) rfl ⟨rfl, box1 w _⟩
  · clear hk; go_enter Tryz.func159, Tryz.ntmps159; go_wp2_with fail; (try simp only [Exit.inBlock, Exit.then]); exact bodyPost_ret (v := .agg (tSh 1).cells) (by rw [results_cell1 rfl]; go_simp; rfl) rfl ⟨rfl, box1 w _⟩
  · clear hk; go_enter Tryz.func159, Tryz.ntmps159; go_wp2_with fail; (try simp only [Exit.inBlock, Exit.then]); exact bodyPost_ret (v := .agg (tSh 2).cells) (by rw [results_cell1 rfl]; go_simp; rfl) rfl ⟨rfl, box1 w _⟩
  · clear hk; go_enter Tryz.func159, Tryz.ntmps159; go_wp2_with fail; (try simp only [Exit.inBlock, Exit.then]); exact bodyPost_ret (v := .agg (tSh 3).cells) (by rw [results_cell1 rfl]; go_simp; rfl) rfl ⟨rfl, box1 w _⟩
  · clear hk; go_enter Tryz.func159, Tryz.ntmps159; go_wp2_with fail; (try simp only [Exit.inBlock, Exit.then]); exact bodyPost_ret (v := .agg (tSh 4).cells) (by rw [results_cell1 rfl]; go_simp; rfl) rfl ⟨rfl, box1 w _⟩
  · clear hk; go_enter Tryz.func159, Tryz.ntmps159; go_wp2_with fail; (try simp only [Exit.inBlock, Exit.then]); exact bodyPost_ret (v := .agg (tSh 5).cells) (by rw [results_cell1 rfl]; go_simp; rfl) rfl ⟨rfl, box1 w _⟩
  · clear hk; go_enter Tryz.func159, Tryz.ntmps159; go_wp2_with fail; (try simp only [Exit.inBlock, Exit.then]); exact bodyPost_ret (v := .agg (tSh 6).cells) (by rw [results_cell1 rfl]; go_simp; rfl) rfl ⟨rfl, box1 w _⟩
  · clear hk; go_enter Tryz.func159, Tryz.ntmps159; go_wp2_with fail; (try simp only [Exit.inBlock, Exit.then]); exact bodyPost_ret (v := .agg (tSh 7).cells) (by rw [results_cell1 rfl]; go_simp; rfl) rfl ⟨rfl, box1 w _⟩
  · clear hk; go_enter Tryz.func159, Tryz.ntmps159; go_wp2_with fail; (try simp only [Exit.inBlock, Exit.then]); exact bodyPost_ret (v := .agg (tSh 8).cells) (by rw [results_cell1 rfl]; go_simp; rfl) rfl ⟨rfl, box1 w _⟩
  · clear hk; go_enter Tryz.func159, Tryz.ntmps159; go_wp2_with fail; (try simp only [Exit.inBlock, Exit.then]); exact bodyPost_ret (v := .agg (tSh 9).cells) (by rw [results_cell1 rfl]; go_simp; rfl) rfl ⟨rfl, box1 w _⟩
  · clear hk; go_enter Tryz.func159, Tryz.ntmps159; go_wp2_with fail; (try simp only [Exit.inBlock, Exit.then]); exact bodyPost_ret (v := .agg (tSh 10).cells) (by rw [results_cell1 rfl]; go_simp; rfl) rfl ⟨rfl, box1 w _⟩
  · clear hk; go_enter Tryz.func159, Tryz.ntmps159; go_wp2_with fail; (try simp only [Exit.inBlock, Exit.then]); exact bodyPost_ret (v := .agg (tSh 11).cells) (by rw [results_cell1 rfl]; go_simp; rfl) rfl ⟨rfl, box1 w _⟩
  · clear hk; go_enter Tryz.func159, Tryz.ntmps159; go_wp2_with fail; (try simp only [Exit.inBlock, Exit.then]); exact bodyPost_ret (v := .agg (tSh 12).cells) (by rw [results_cell1 rfl]; go_simp; rfl) rfl ⟨rfl, box1 w _⟩
  · clear hk; go_enter Tryz.func159, Tryz.ntmps159; go_wp2_with fail; (try simp only [Exit.inBlock, Exit.then]); exact bodyPost_ret (v := .agg (tSh 13).cells) (by rw [results_cell1 rfl]; go_simp; rfl) rfl ⟨rfl, box1 w _⟩
  · clear hk; go_enter Tryz.func159, Tryz.ntmps159; go_wp2_with fail; (try simp only [Exit.inBlock, Exit.then]); exact bodyPost_ret (v := .agg (tSh 14).cells) (by rw [results_cell1 rfl]; go_simp; rfl) rfl ⟨rfl, box1 w _⟩
set_option maxHeartbeats 4000000 in
theorem exprShape_calls (k : Int) (hk : 0 ≤ k ∧ k ≤ 255) (w : World) :
    Calls Tryz.prog 163 #[.int .u8 k] w fun e w' => e = .returned (.agg (eSh k).cells) ∧ Below w.heap.size w w' := by
  rcases (show (k = 0 ∨ 36 < k) ∨ k = 1 ∨ k = 2 ∨ k = 3 ∨ k = 4 ∨ k = 5 ∨ k = 6 ∨ k = 7 ∨ k = 8 ∨ k = 9 ∨ k = 10 ∨ k = 11 ∨ k = 12 ∨ k = 13 ∨ k = 14 ∨ k = 15 ∨ k = 16 ∨ k = 17 ∨ k = 18 ∨ k = 19 ∨ k = 20 ∨ k = 21 ∨ k = 22 ∨ k = 23 ∨ k = 24 ∨ k = 25 ∨ k = 26 ∨ k = 27 ∨ k = 28 ∨ k = 29 ∨ k = 30 ∨ k = 31 ∨ k = 32 ∨ k = 33 ∨ k = 34 ∨ k = 35 ∨ k = 36 by omega) with h | rfl | rfl | rfl | rfl | rfl | rfl | rfl | rfl | rfl | rfl | rfl | rfl | rfl | rfl | rfl | rfl | rfl | rfl | rfl | rfl | rfl | rfl | rfl | rfl | rfl | rfl | rfl | rfl | rfl | rfl | rfl | rfl | rfl | rfl | rfl | rfl
  · have e0 : eSh k = eSh 0 := by
      rcases h with rfl | h
      · rfl
      · unfold eSh; repeat rw [if_neg (by omega)]
    rw [e0]
    have n1 : (k == 1) = false := ne_beq (by omega)
    have n2 : (k == 2) = false := ne_beq (by omega)
    have n3 : (k == 3) = false := ne_beq (by omega)
    have n4 : (k == 4) = false := ne_beq (by omega)
    have n5 : (k == 5) = false := ne_beq (by omega)
    have n6 : (k == 6) = false := ne_beq (by omega)
    have n7 : (k == 7) = false := ne_beq (by omega)
    have n8 : (k == 8) = false := ne_beq (by omega)
    have n9 : (k == 9) = false := ne_beq (by omega)
    have n10 : (k == 10) = false := ne_beq (by omega)
    have n11 : (k == 11) = false := ne_beq (by omega)
    have n12 : (k == 12) = false := ne_beq (by omega)
    have n13 : (k == 13) = false := ne_beq (by omega)
    have n14 : (k == 14) = false := ne_beq (by omega)
    have n15 : (k == 15) = false := ne_beq (by omega)
    have n16 : (k == 16) = false := ne_beq (by omega)
    have n17 : (k == 17) = false := ne_beq (by omega)
    have n18 : (k == 18) = false := ne_beq (by omega)
    have n19 : (k == 19) = false := ne_beq (by omega)
    have n20 : (k == 20) = false := ne_beq (by omega)
    have n21 : (k == 21) = false := ne_beq (by omega)
    have n22 : (k == 22) = false := ne_beq (by omega)
    have n23 : (k == 23) = false := ne_beq (by omega)
    have n24 : (k == 24) = false := ne_beq (by omega)
    have n25 : (k == 25) = false := ne_beq (by omega)
    have n26 : (k == 26) = false := ne_beq (by omega)
    have n27 : (k == 27) = false := ne_beq (by omega)
    have n28 : (k == 28) = false := ne_beq (by omega)
    have n29 : (k == 29) = false := ne_beq (by omega)
    have n30 : (k == 30) = false := ne_beq (by omega)
    have n31 : (k == 31) = false := ne_beq (by omega)
    have n32 : (k == 32) = false := ne_beq (by omega)
    have n33 : (k == 33) = false := ne_beq (by omega)
    have n34 : (k == 34) = false := ne_beq (by omega)
    have n35 : (k == 35) = false := ne_beq (by omega)
    have n36 : (k == 36) = false := ne_beq (by omega)
    clear e0 h
    go_enter Tryz.func163, Tryz.ntmps163
    go_wp2_with fail
    (try simp only [Exit.inBlock, Exit.then])
    exact bodyPost_ret (v := .agg (eSh 0).cells) (by rw [results_cell1 rfl]; go_simp; rfl) rfl ⟨rfl, box1 w _⟩
  · clear hk; go_enter Tryz.func163, Tryz.ntmps163; go_wp2_with fail; (try simp only [Exit.inBlock, Exit.then]); exact bodyPost_ret (v := .agg (eSh 1).cells) (by rw [results_cell1 rfl]; go_simp; rfl) rfl ⟨rfl, box1 w _⟩
  · clear hk; go_enter Tryz.func163, Tryz.ntmps163; go_wp2_with fail; (try simp only [Exit.inBlock, Exit.then]); exact bodyPost_ret (v := .agg (eSh 2).cells) (by rw [results_cell1 rfl]; go_simp; rfl) rfl ⟨rfl, box1 w _⟩
  · clear hk; go_enter Tryz.func163, Tryz.ntmps163; go_wp2_with fail; (try simp only [Exit.inBlock, Exit.then]); exact bodyPost_ret (v := .agg (eSh 3).cells) (by rw [results_cell1 rfl]; go_simp; rfl) rfl ⟨rfl, box1 w _⟩
  · clear hk; go_enter Tryz.func163, Tryz.ntmps163; go_wp2_with fail; (try simp only [Exit.inBlock, Exit.then]); exact bodyPost_ret (v := .agg (eSh 4).cells) (by rw [results_cell1 rfl]; go_simp; rfl) rfl ⟨rfl, box1 w _⟩
  · clear hk; go_enter Tryz.func163, Tryz.ntmps163; go_wp2_with fail; (try simp only [Exit.inBlock, Exit.then]); exact bodyPost_ret (v := .agg (eSh 5).cells) (by rw [results_cell1 rfl]; go_simp; rfl) rfl ⟨rfl, box1 w _⟩
  · clear hk; go_enter Tryz.func163, Tryz.ntmps163; go_wp2_with fail; (try simp only [Exit.inBlock, Exit.then]); exact bodyPost_ret (v := .agg (eSh 6).cells) (by rw [results_cell1 rfl]; go_simp; rfl) rfl ⟨rfl, box1 w _⟩
  · clear hk; go_enter Tryz.func163, Tryz.ntmps163; go_wp2_with fail; (try simp only [Exit.inBlock, Exit.then]); exact bodyPost_ret (v := .agg (eSh 7).cells) (by rw [results_cell1 rfl]; go_simp; rfl) rfl ⟨rfl, box1 w _⟩
  · clear hk; go_enter Tryz.func163, Tryz.ntmps163; go_wp2_with fail; (try simp only [Exit.inBlock, Exit.then]); exact bodyPost_ret (v := .agg (eSh 8).cells) (by rw [results_cell1 rfl]; go_simp; rfl) rfl ⟨rfl, box1 w _⟩
  · clear hk; go_enter Tryz.func163, Tryz.ntmps163; go_wp2_with fail; (try simp only [Exit.inBlock, Exit.then]); exact bodyPost_ret (v := .agg (eSh 9).cells) (by rw [results_cell1 rfl]; go_simp; rfl) rfl ⟨rfl, box1 w _⟩
  · clear hk; go_enter Tryz.func163, Tryz.ntmps163; go_wp2_with fail; (try simp only [Exit.inBlock, Exit.then]); exact bodyPost_ret (v := .agg (eSh 10).cells) (by rw [results_cell1 rfl]; go_simp; rfl) rfl ⟨rfl, box1 w _⟩
  · clear hk; go_enter Tryz.func163, Tryz.ntmps163; go_wp2_with fail; (try simp only [Exit.inBlock, Exit.then]); exact bodyPost_ret (v := .agg (eSh 11).cells) (by rw [results_cell1 rfl]; go_simp; rfl) rfl ⟨rfl, box1 w _⟩
  · clear hk; go_enter Tryz.func163, Tryz.ntmps163; go_wp2_with fail; (try simp only [Exit.inBlock, Exit.then]); exact bodyPost_ret (v := .agg (eSh 12).cells) (by rw [results_cell1 rfl]; go_simp; rfl) rfl ⟨rfl, box1 w _⟩
  · clear hk; go_enter Tryz.func163, Tryz.ntmps163; go_wp2_with fail; (try simp only [Exit.inBlock, Exit.then]); exact bodyPost_ret (v := .agg (eSh 13).cells) (by rw [results_cell1 rfl]; go_simp; rfl) rfl ⟨rfl, box1 w _⟩
  · clear hk; go_enter Tryz.func163, Tryz.ntmps163; go_wp2_with fail; (try simp only [Exit.inBlock, Exit.then]); exact bodyPost_ret (v := .agg (eSh 14).cells) (by rw [results_cell1 rfl]; go_simp; rfl) rfl ⟨rfl, box1 w _⟩
  · clear hk; go_enter Tryz.func163, Tryz.ntmps163; go_wp2_with fail; (try simp only [Exit.inBlock, Exit.then]); exact bodyPost_ret (v := .agg (eSh 15).cells) (by rw [results_cell1 rfl]; go_simp; rfl) rfl ⟨rfl, box1 w _⟩
  · clear hk; go_enter Tryz.func163, Tryz.ntmps163; go_wp2_with fail; (try simp only [Exit.inBlock, Exit.then]); exact bodyPost_ret (v := .agg (eSh 16).cells) (by rw [results_cell1 rfl]; go_simp; rfl) rfl ⟨rfl, box1 w _⟩
  · clear hk; go_enter Tryz.func163, Tryz.ntmps163; go_wp2_with fail; (try simp only [Exit.inBlock, Exit.then]); exact bodyPost_ret (v := .agg (eSh 17).cells) (by rw [results_cell1 rfl]; go_simp; rfl) rfl ⟨rfl, box1 w _⟩
  · clear hk; go_enter Tryz.func163, Tryz.ntmps163; go_wp2_with fail; (try simp only [Exit.inBlock, Exit.then]); exact bodyPost_ret (v := .agg (eSh 18).cells) (by rw [results_cell1 rfl]; go_simp; rfl) rfl ⟨rfl, box1 w _⟩
  · clear hk; go_enter Tryz.func163, Tryz.ntmps163; go_wp2_with fail; (try simp only [Exit.inBlock, Exit.then]); exact bodyPost_ret (v := .agg (eSh 19).cells) (by rw [results_cell1 rfl]; go_simp; rfl) rfl ⟨rfl, box1 w _⟩
  · clear hk; go_enter Tryz.func163, Tryz.ntmps163; go_wp2_with fail; (try simp only [Exit.inBlock, Exit.then]); exact bodyPost_ret (v := .agg (eSh 20).cells) (by rw [results_cell1 rfl]; go_simp; rfl) rfl ⟨rfl, box1 w _⟩
  · clear hk; go_enter Tryz.func163, Tryz.ntmps163; go_wp2_with fail; (try simp only [Exit.inBlock, Exit.then]); exact bodyPost_ret (v := .agg (eSh 21).cells) (by rw [results_cell1 rfl]; go_simp; rfl) rfl ⟨rfl, box1 w _⟩
  · clear hk; go_enter Tryz.func163, Tryz.ntmps163; go_wp2_with fail; (try simp only [Exit.inBlock, Exit.then]); exact bodyPost_ret (v := .agg (eSh 22).cells) (by rw [results_cell1 rfl]; go_simp; rfl) rfl ⟨rfl, box1 w _⟩
  · clear hk; go_enter Tryz.func163, Tryz.ntmps163; go_wp2_with fail; (try simp only [Exit.inBlock, Exit.then]); exact bodyPost_ret (v := .agg (eSh 23).cells) (by rw [results_cell1 rfl]; go_simp; rfl) rfl ⟨rfl, box1 w _⟩
  · clear hk; go_enter Tryz.func163, Tryz.ntmps163; go_wp2_with fail; (try simp only [Exit.inBlock, Exit.then]); exact bodyPost_ret (v := .agg (eSh 24).cells) (by rw [results_cell1 rfl]; go_simp; rfl) rfl ⟨rfl, box1 w _⟩
  · clear hk; go_enter Tryz.func163, Tryz.ntmps163; go_wp2_with fail; (try simp only [Exit.inBlock, Exit.then]); exact bodyPost_ret (v := .agg (eSh 25).cells) (by rw [results_cell1 rfl]; go_simp; rfl) rfl ⟨rfl, box1 w _⟩
  · clear hk; go_enter Tryz.func163, Tryz.ntmps163; go_wp2_with fail; (try simp only [Exit.inBlock, Exit.then]); exact bodyPost_ret (v := .agg (eSh 26).cells) (by rw [results_cell1 rfl]; go_simp; rfl) rfl ⟨rfl, box1 w _⟩
  · clear hk; go_enter Tryz.func163, Tryz.ntmps163; go_wp2_with fail; (try simp only [Exit.inBlock, Exit.then]); exact bodyPost_ret (v := .agg (eSh 27).cells) (by rw [results_cell1 rfl]; go_simp; rfl) rfl ⟨rfl, box1 w _⟩
  · clear hk; go_enter Tryz.func163, Tryz.ntmps163; go_wp2_with fail; (try simp only [Exit.inBlock, Exit.then]); exact bodyPost_ret (v := .agg (eSh 28).cells) (by rw [results_cell1 rfl]; go_simp; rfl) rfl ⟨rfl, box1 w _⟩
  · clear hk; go_enter Tryz.func163, Tryz.ntmps163; go_wp2_with fail; (try simp only [Exit.inBlock, Exit.then]); exact bodyPost_ret (v := .agg (eSh 29).cells) (by rw [results_cell1 rfl]; go_simp; rfl) rfl ⟨rfl, box1 w _⟩
  · clear hk; go_enter Tryz.func163, Tryz.ntmps163; go_wp2_with fail; (try simp only [Exit.inBlock, Exit.then]); exact bodyPost_ret (v := .agg (eSh 30).cells) (by rw [results_cell1 rfl]; go_simp; rfl) rfl ⟨rfl, box1 w _⟩
  · clear hk; go_enter Tryz.func163, Tryz.ntmps163; go_wp2_with fail; (try simp only [Exit.inBlock, Exit.then]); exact bodyPost_ret (v := .agg (eSh 31).cells) (by rw [results_cell1 rfl]; go_simp; rfl) rfl ⟨rfl, box1 w _⟩
  · clear hk; go_enter Tryz.func163, Tryz.ntmps163; go_wp2_with fail; (try simp only [Exit.inBlock, Exit.then]); exact bodyPost_ret (v := .agg (eSh 32).cells) (by rw [results_cell1 rfl]; go_simp; rfl) rfl ⟨rfl, box1 w _⟩
  · clear hk; go_enter Tryz.func163, Tryz.ntmps163; go_wp2_with fail; (try simp only [Exit.inBlock, Exit.then]); exact bodyPost_ret (v := .agg (eSh 33).cells) (by rw [results_cell1 rfl]; go_simp; rfl) rfl ⟨rfl, box1 w _⟩
  · clear hk; go_enter Tryz.func163, Tryz.ntmps163; go_wp2_with fail; (try simp only [Exit.inBlock, Exit.then]); exact bodyPost_ret (v := .agg (eSh 34).cells) (by rw [results_cell1 rfl]; go_simp; rfl) rfl ⟨rfl, box1 w _⟩
  · clear hk; go_enter Tryz.func163, Tryz.ntmps163; go_wp2_with fail; (try simp only [Exit.inBlock, Exit.then]); exact bodyPost_ret (v := .agg (eSh 35).cells) (by rw [results_cell1 rfl]; go_simp; rfl) rfl ⟨rfl, box1 w _⟩
  · clear hk; go_enter Tryz.func163, Tryz.ntmps163; go_wp2_with fail; (try simp only [Exit.inBlock, Exit.then]); exact bodyPost_ret (v := .agg (eSh 36).cells) (by rw [results_cell1 rfl]; go_simp; rfl) rfl ⟨rfl, box1 w _⟩
end Go.Proofs.YtojeijeimpffgaaGreat
/- A region that draws its order, reads old memory alone, and calls what makes memory: one walk in the order of the text, over all worlds that lie over the one it began in. -/
namespace Go.Proofs.YtojeijeimpffgaaGreat
open Go.RowKit
set_option linter.unusedVariables false

/-- a world over W0: all that was there lies as it lay -/
structure Over (W0 : World) where
  w : World
  h : Below W0.heap.size W0 w
def Over.base (W0 : World) : Over W0 := ⟨W0, Below.refl _ _⟩
def Over.next {W0 : World} (n : Over W0) {w' : World} (b : Below n.w.heap.size n.w w') : Over W0 := ⟨w', n.h.trans (b.mono n.h.size)⟩
instance overSome (W0 : World) : Nonempty (Over W0) := ⟨Over.base W0⟩
theorem Over.cells {W0 : World} : ∀ (n : Over W0) (b o : Nat), b < W0.heap.size → n.w.cell? ⟨b, o, none⟩ = W0.cell? ⟨b, o, none⟩ := fun n b o h => n.h.cell (p := ⟨b, o, none⟩) h
theorem wp_region_over {P : Program} {id : Nat} {Q : Exit → Act → World → Prop} {a : Act} {w : World} {l : List Oper} (hm : P.follows .mixedOrders = true) (hB : Region.lexB .any l.toArray = true)
    (h : wpQuiet P l.toArray (fun w' => ∃ n : Over w, w' = n.w) (fun a' => ∀ w', (∃ n : Over w, w' = n.w) → Q .normal a' w') l a) : (Code.region id l.toArray true).wp P Q a w :=
  wp_region_quiet (C := fun w' => ∃ n : Over w, w' = n.w) hm hB ⟨⟨w.drew, (Below.refl _ w).drew⟩, rfl⟩ (by simpa using h)
theorem over_calls {P : Program} {W0 : World} {n : Over W0} {f : FuncId} {args : Array Value} {v : Value}
    (h : Calls P f args n.w fun e w' => e = .returned v ∧ Below n.w.heap.size n.w w') : Calls P f args n.w fun e w'' => e = .returned v ∧ ∃ m : Over W0, w'' = m.w :=
  h.mono fun e w ⟨he, b⟩ => ⟨he, n.next b, rfl⟩
end Go.Proofs.YtojeijeimpffgaaGreat
/- What fits, third part: types. -/
namespace Go.Proofs.YtojeijeimpffgaaGreat
open Go.RowKit
set_option linter.unusedVariables false

set_option maxHeartbeats 4000000 in
theorem typedFits_calls (B : Nat) (t : PT) (st b o : Nat) (v : Value) (w : World) (hst : st ≤ 3) (hB : B ≤ w.heap.size) (hm : MaxOk w) (hb : b < w.heap.size) (hc : CellsAt w b o (t.cells v)) (ht : t.In B w v) :
    Calls Tryz.prog 156 #[.agg #[.pointer (some ⟨b, o, none⟩), .int .u8 st]] w fun e w' => e = .returned (.bool (fitT t st)) ∧ Below w.heap.size w w' := by
  have c0 : w.cell? ⟨b, o, none⟩ = some (.int .u8 t.kind) := hc 0 _ rfl
  have c1 : w.cell? ⟨b, o + 1, none⟩ = some (.string t.name) := hc 1 _ rfl
  have c2 : w.cell? ⟨b, o + 2, none⟩ = some v := hc 2 _ rfl
  have C : Hid (∀ w', Below w.heap.size w w' → Calls Tryz.prog 83 #[.agg #[.int .u8 t.kind, .string t.name, v], .agg #[.int .u8 0, .string ByteArray.empty, .slice none 0 0]] w' fun e w'' => e = .returned (.bool (sameT t zeroT)) ∧ Below w'.heap.size w' w'') :=
    Lib.hid fun w' hw => sameT_calls B t zeroT v _ w' (by have := hw.size; omega) (PT.In.below (hw.mono hB) ht) (zeroT_in B w')
  obtain ⟨hu, hs⟩ : U8 t.kind ∧ t.name.size ≤ maxLen := by
    obtain ⟨k, n, xs⟩ := t
    exact ht.1
  have D : Hid (∀ w', Calls Tryz.prog 159 #[.int .u8 t.kind] w' fun e w'' => e = .returned (.agg (tSh t.kind).cells) ∧ Below w'.heap.size w' w'') := Lib.hid fun w' => typeShape_calls t.kind (u8_lt hu) w'
  have hn3 : (tSh t.kind).name ≤ 3 := by
    unfold tSh
    split
    · simp
    · split
      · simp
      · split <;> simp
  have T : Hid (∀ w', MaxOk w' → Calls Tryz.prog 94 #[.int .u8 (tSh t.kind).name, .string t.name] w' fun e w'' => e = .returned (.bool (txB (tSh t.kind).name t.name)) ∧ Below w'.heap.size w' w'') := Lib.hid fun w' h => textFits_calls _ hn3 t.name hs w' h
  have hsh : ∃ ao cap, v = .slice ao t.args.length cap := by
    obtain ⟨k, n, xs⟩ := t
    obtain ⟨_, b', o', s, _⟩ := ht
    exact s.shape
  obtain ⟨ao, cap, rfl⟩ := hsh
  unfold fitT
  have HM := Lib.hid hm
  by_cases h3 : st = 3 ∨ (st = 2 ∧ t.kind = 0)
  · rw [if_pos h3]
    clear D T hc ht hu hs hn3
    generalize sameT t zeroT = q at *
    rcases h3 with rfl | ⟨rfl, hk⟩
    · show Calls Tryz.prog 156 #[.agg #[.pointer (some ⟨b, o, none⟩), .int .u8 3]] w _
      go_enter Tryz.func156, Tryz.ntmps156
      go_wp2_with fail
      refine (C.out _ (box1 _ _)).mono ?_; rintro e w1 ⟨rfl, b1⟩
      go_wp2
      go_ret
      exact ⟨rfl, up_tr (box1 _ _) b1⟩
    · rw [hk] at c0 C
      show Calls Tryz.prog 156 #[.agg #[.pointer (some ⟨b, o, none⟩), .int .u8 2]] w _
      go_enter Tryz.func156, Tryz.ntmps156
      go_wp2_with fail
      refine (C.out _ (box1 _ _)).mono ?_; rintro e w1 ⟨rfl, b1⟩
      go_wp2
      go_ret
      exact ⟨rfl, up_tr (box1 _ _) b1⟩
  · rw [if_neg h3]
    have n3 : ((st : Int) == 3) = false := beq_eq_false_iff_ne.2 (by omega)
    have hd : ((st : Int) == 2) = false ∨ (st = 2 ∧ (t.kind == 0) = false) := by
      by_cases h2 : st = 2
      · exact .inr ⟨h2, beq_eq_false_iff_ne.2 (by omega)⟩
      · exact .inl (beq_eq_false_iff_ne.2 (by omega))
    clear C hc ht hu hs hn3 h3
    generalize hq : txB (tSh t.kind).name t.name = q at *
    clear hq
    generalize tSh t.kind = sh at *
    obtain ⟨kn, nm, ar⟩ := sh
    simp only [TSh.cells] at *
    have W : Hid (∀ w1, Below w.heap.size w w1 → MaxOk w1) := Lib.hid fun w1 h => HM.out.below h
    clear hm HM
    generalize t.args.length = n at *
    rcases hd with n2 | ⟨rfl, n2⟩
    · go_enter Tryz.func156, Tryz.ntmps156
      go_wp2_with fail
      refine (D.out _).mono ?_; rintro e w1 ⟨rfl, b1⟩
      have hc1 := old_cells b1
      have bel1 := up_tr (box1 _ _) b1
      have hs1 : w.heap.size < w1.heap.size := by have := b1.size; simp at this; omega
      have k0 : w1.cell? ⟨w.heap.size, 0, none⟩ = some (.pointer (some ⟨b, o, none⟩)) := (hc1 _ _ (by simp)).trans (by go_simp)
      have k1 : w1.cell? ⟨b, o + 1, none⟩ = some (.string t.name) := (bel1.cell (p := ⟨b, o + 1, none⟩) hb).trans c1
      have k2 : w1.cell? ⟨b, o + 2, none⟩ = some (.slice ao n cap) := (bel1.cell (p := ⟨b, o + 2, none⟩) hb).trans c2
      clear b1
      go_wp2_with fail
      obtain ⟨W0, hW0⟩ : ∃ W0, W0 = w1.alloc (.cells #[.bool kn, .int .u8 nm, .int .i64 ar] 183) := ⟨_, rfl⟩
      rw [← hW0]
      have zz : b < w1.heap.size := by omega
      have z0 : w1.heap.size < W0.heap.size := by rw [hW0]; simp
      have z1 : w.heap.size < W0.heap.size := by omega
      have z2 : b < W0.heap.size := by omega
      have f0 : W0.cell? ⟨w1.heap.size, 0, none⟩ = some (.bool kn) := by rw [hW0]; go_simp
      have f1 : W0.cell? ⟨w1.heap.size, 1, none⟩ = some (.int .u8 nm) := by rw [hW0]; go_simp
      have f2 : W0.cell? ⟨w1.heap.size, 2, none⟩ = some (.int .i64 ar) := by rw [hW0]; go_simp
      have f3 : W0.cell? ⟨w.heap.size, 0, none⟩ = some (.pointer (some ⟨b, o, none⟩)) := by rw [hW0]; go_simp
      have f4 : W0.cell? ⟨b, o + 1, none⟩ = some (.string t.name) := by rw [hW0]; go_simp
      have f5 : W0.cell? ⟨b, o + 2, none⟩ = some (.slice ao n cap) := by rw [hW0]; go_simp
      have B0 : Below w.heap.size w W0 := by rw [hW0]; exact bel1.alloc (by omega) _
      have hF := Over.cells (W0 := W0)
      have K1 := Lib.hid (fun (n : Over W0) => (show MaxOk n.w from W.out _ (B0.trans (n.h.mono (by omega)))))
      have K4 := Lib.hid (fun (n : Over W0) => (show Below w.heap.size w n.w from B0.trans (n.h.mono (by omega))))
      clear hW0 k0 k1 k2 hc1 c0 c1 c2 bel1 B0
      have arm : Hid (∀ n' : Over W0, Calls Tryz.prog 94 #[.int .u8 nm, .string t.name] n'.w fun e w'' => e = .returned (.bool q) ∧ ∃ m : Over W0, w'' = m.w) := Lib.hid fun n' => over_calls (T.out _ (K1.out n'))
      cases kn
      · refine wp_region_over (by kernel_rfl) (by kernel_rfl) ?_
        repeat (go_big_quiet_step (fail))
        refine wpQuiet_nil ?_
        rintro _ ⟨m, rfl⟩
        have HF := Lib.hid (K4.out m)
        go_wp2
        go_ret
        exact ⟨ret_bool (by simp), HF.out⟩
      · by_cases hl : n = ar
        · have e1 : ((n : Int) == (ar : Int)) = true := by rw [beq_iff_eq]; omega
          cases q
          · refine wp_region_over (by kernel_rfl) (by kernel_rfl) ?_
            repeat (go_big_quiet_step ((go_at_call 94; exact arm.out _)))
            refine wpQuiet_nil ?_
            rintro _ ⟨m, rfl⟩
            have HF := Lib.hid (K4.out m)
            go_wp2
            go_ret
            exact ⟨ret_bool (by simp), HF.out⟩
          · refine wp_region_over (by kernel_rfl) (by kernel_rfl) ?_
            repeat (go_big_quiet_step ((go_at_call 94; exact arm.out _)))
            refine wpQuiet_nil ?_
            rintro _ ⟨m, rfl⟩
            have HF := Lib.hid (K4.out m)
            go_wp2
            go_ret
            exact ⟨ret_bool (by simp [hl]), HF.out⟩
        · have e1 : ((n : Int) == (ar : Int)) = false := by rw [beq_eq_false_iff_ne]; omega
          cases q
          · refine wp_region_over (by kernel_rfl) (by kernel_rfl) ?_
            repeat (go_big_quiet_step ((go_at_call 94; exact arm.out _)))
            refine wpQuiet_nil ?_
            rintro _ ⟨m, rfl⟩
            have HF := Lib.hid (K4.out m)
            go_wp2
            go_ret
            exact ⟨ret_bool (by simp), HF.out⟩
          · refine wp_region_over (by kernel_rfl) (by kernel_rfl) ?_
            repeat (go_big_quiet_step ((go_at_call 94; exact arm.out _)))
            refine wpQuiet_nil ?_
            rintro _ ⟨m, rfl⟩
            have HF := Lib.hid (K4.out m)
            go_wp2
            go_ret
            exact ⟨ret_bool (by simp [hl]), HF.out⟩
    · show Calls Tryz.prog 156 #[.agg #[.pointer (some ⟨b, o, none⟩), .int .u8 2]] w _
      clear n3
      go_enter Tryz.func156, Tryz.ntmps156
      go_wp2_with fail
      refine (D.out _).mono ?_; rintro e w1 ⟨rfl, b1⟩
      have hc1 := old_cells b1
      have bel1 := up_tr (box1 _ _) b1
      have hs1 : w.heap.size < w1.heap.size := by have := b1.size; simp at this; omega
      have k0 : w1.cell? ⟨w.heap.size, 0, none⟩ = some (.pointer (some ⟨b, o, none⟩)) := (hc1 _ _ (by simp)).trans (by go_simp)
      have k1 : w1.cell? ⟨b, o + 1, none⟩ = some (.string t.name) := (bel1.cell (p := ⟨b, o + 1, none⟩) hb).trans c1
      have k2 : w1.cell? ⟨b, o + 2, none⟩ = some (.slice ao n cap) := (bel1.cell (p := ⟨b, o + 2, none⟩) hb).trans c2
      clear b1
      go_wp2_with fail
      obtain ⟨W0, hW0⟩ : ∃ W0, W0 = w1.alloc (.cells #[.bool kn, .int .u8 nm, .int .i64 ar] 183) := ⟨_, rfl⟩
      rw [← hW0]
      have zz : b < w1.heap.size := by omega
      have z0 : w1.heap.size < W0.heap.size := by rw [hW0]; simp
      have z1 : w.heap.size < W0.heap.size := by omega
      have z2 : b < W0.heap.size := by omega
      have f0 : W0.cell? ⟨w1.heap.size, 0, none⟩ = some (.bool kn) := by rw [hW0]; go_simp
      have f1 : W0.cell? ⟨w1.heap.size, 1, none⟩ = some (.int .u8 nm) := by rw [hW0]; go_simp
      have f2 : W0.cell? ⟨w1.heap.size, 2, none⟩ = some (.int .i64 ar) := by rw [hW0]; go_simp
      have f3 : W0.cell? ⟨w.heap.size, 0, none⟩ = some (.pointer (some ⟨b, o, none⟩)) := by rw [hW0]; go_simp
      have f4 : W0.cell? ⟨b, o + 1, none⟩ = some (.string t.name) := by rw [hW0]; go_simp
      have f5 : W0.cell? ⟨b, o + 2, none⟩ = some (.slice ao n cap) := by rw [hW0]; go_simp
      have B0 : Below w.heap.size w W0 := by rw [hW0]; exact bel1.alloc (by omega) _
      have hF := Over.cells (W0 := W0)
      have K1 := Lib.hid (fun (n : Over W0) => (show MaxOk n.w from W.out _ (B0.trans (n.h.mono (by omega)))))
      have K4 := Lib.hid (fun (n : Over W0) => (show Below w.heap.size w n.w from B0.trans (n.h.mono (by omega))))
      clear hW0 k0 k1 k2 hc1 c0 c1 c2 bel1 B0
      have arm : Hid (∀ n' : Over W0, Calls Tryz.prog 94 #[.int .u8 nm, .string t.name] n'.w fun e w'' => e = .returned (.bool q) ∧ ∃ m : Over W0, w'' = m.w) := Lib.hid fun n' => over_calls (T.out _ (K1.out n'))
      cases kn
      · refine wp_region_over (by kernel_rfl) (by kernel_rfl) ?_
        repeat (go_big_quiet_step (fail))
        refine wpQuiet_nil ?_
        rintro _ ⟨m, rfl⟩
        have HF := Lib.hid (K4.out m)
        go_wp2
        go_ret
        exact ⟨ret_bool (by simp), HF.out⟩
      · by_cases hl : n = ar
        · have e1 : ((n : Int) == (ar : Int)) = true := by rw [beq_iff_eq]; omega
          cases q
          · refine wp_region_over (by kernel_rfl) (by kernel_rfl) ?_
            repeat (go_big_quiet_step ((go_at_call 94; exact arm.out _)))
            refine wpQuiet_nil ?_
            rintro _ ⟨m, rfl⟩
            have HF := Lib.hid (K4.out m)
            go_wp2
            go_ret
            exact ⟨ret_bool (by simp), HF.out⟩
          · refine wp_region_over (by kernel_rfl) (by kernel_rfl) ?_
            repeat (go_big_quiet_step ((go_at_call 94; exact arm.out _)))
            refine wpQuiet_nil ?_
            rintro _ ⟨m, rfl⟩
            have HF := Lib.hid (K4.out m)
            go_wp2
            go_ret
            exact ⟨ret_bool (by simp [hl]), HF.out⟩
        · have e1 : ((n : Int) == (ar : Int)) = false := by rw [beq_eq_false_iff_ne]; omega
          cases q
          · refine wp_region_over (by kernel_rfl) (by kernel_rfl) ?_
            repeat (go_big_quiet_step ((go_at_call 94; exact arm.out _)))
            refine wpQuiet_nil ?_
            rintro _ ⟨m, rfl⟩
            have HF := Lib.hid (K4.out m)
            go_wp2
            go_ret
            exact ⟨ret_bool (by simp), HF.out⟩
          · refine wp_region_over (by kernel_rfl) (by kernel_rfl) ?_
            repeat (go_big_quiet_step ((go_at_call 94; exact arm.out _)))
            refine wpQuiet_nil ?_
            rintro _ ⟨m, rfl⟩
            have HF := Lib.hid (K4.out m)
            go_wp2
            go_ret
            exact ⟨ret_bool (by simp [hl]), HF.out⟩
end Go.Proofs.YtojeijeimpffgaaGreat
/- The frame of a law whose row lists variables and whose walk needs the shape of the world as well. -/
namespace Go.Proofs.YtojeijeimpffgaaGreat
open Go.RowKit
set_option linter.unusedVariables false

/-- a world of the right shape: the variable of how long a text is searched at once holds some number -/
theorem max_of {W : World} (hsh : W.ShapedOpen Tryz.prog) : MaxOk W :=
  cell_of_shapedOpen_int (zero := #[.int .i64 0]) (t := 3) hsh (of_decide_eq_true (by kernel_rfl)) (by kernel_rfl) rfl (by kernel_rfl) (by kernel_rfl) Tryz.underlying3

end Go.Proofs.YtojeijeimpffgaaGreat
