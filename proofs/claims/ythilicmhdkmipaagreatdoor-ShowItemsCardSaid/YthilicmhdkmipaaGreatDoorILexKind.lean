/- Contracts of package lex, fifth part: of which kind of token the whole of a text is. -/
import Derived.Test.YthilicmhdkmipaaGreatDoorIJoinAA
namespace Go.Proofs.YthilicmhdkmipaaGreatDoor
open Go.RowKit
set_option linter.unusedVariables false

theorem kind_word {l : List UInt8} (h0 : l ≠ []) (h : wordsL.contains l = true) : kindL l = 1 := by unfold kindL; rw [if_neg h0, if_pos h]
theorem kind_small {l : List UInt8} (h0 : l ≠ []) (h : wordsL.contains l = false) (h1 : headB smallB l = true) (h2 : likeL l = true) : kindL l = 2 := by
  unfold kindL; rw [if_neg h0, if_neg (by rw [h]; simp), if_pos (by simp [h1, h2])]
theorem kind_great {l : List UInt8} (h0 : l ≠ []) (h : wordsL.contains l = false) (h1 : headB smallB l = false) (h2 : headB greatB l = true) (h3 : likeL l = true) : kindL l = 3 := by
  unfold kindL; rw [if_neg h0, if_neg (by rw [h]; simp), if_neg (by simp [h1]), if_pos (by simp [h2, h3])]
theorem kind_digit {l : List UInt8} (h0 : l ≠ []) (h : wordsL.contains l = false) (h1 : headB smallB l = false) (h2 : headB greatB l = false) (h3 : headB dgt l = true) (h4 : decide (pe l = 0) = true) : kindL l = 4 := by
  unfold kindL; rw [if_neg h0, if_neg (by rw [h]; simp), if_neg (by simp [h1]), if_neg (by simp [h2]), if_pos (by rw [h3, h4]; rfl)]
theorem kind_else {l : List UInt8} (h0 : l ≠ []) (h : wordsL.contains l = false) (h1 : (headB smallB l && likeL l) = false) (h2 : (headB greatB l && likeL l) = false) (h3 : (headB dgt l && decide (pe l = 0)) = false) : kindL l = if signL l = true then 5 else 0 := by
  unfold kindL; rw [if_neg h0, if_neg (by rw [h]; simp), if_neg (by simp [h1]), if_neg (by simp [h2]), if_neg (by rw [h3]; simp)]
theorem small_not {c : UInt8} (h : smallB c = true) : greatB c = false ∧ dgt c = false := by
  rw [smallB_iff] at h; exact ⟨greatB_no (by omega), dgt_no (by omega)⟩
theorem great_not {c : UInt8} (h : greatB c = true) : dgt c = false := by
  rw [greatB_iff] at h; exact dgt_no (by omega)
set_option maxHeartbeats 400000 in
theorem kindOf_empty (b : Bool) (w : World) : Calls Tryz.prog 82 #[.string ⟨#[]⟩, .bool b] w fun e w' => e = .returned (.int .u8 0) ∧ w = w' := by
  go_enter Tryz.func82, Tryz.ntmps82
  go_wp2
  go_ret
  exact ⟨rfl, rfl⟩

set_option maxHeartbeats 400000 in
theorem kindOf_word (s : ByteArray) (h0 : 0 < s.size) (he : s.toList.isEmpty = false) (w : World) :
    Calls Tryz.prog 82 #[.string s, .bool true] w fun e w' => e = .returned (.int .u8 1) ∧ w = w' := by
  go_enter Tryz.func82, Tryz.ntmps82
  go_wp2
  go_ret
  exact ⟨rfl, rfl⟩

set_option maxHeartbeats 1000000 in
theorem kindOf_small (s : ByteArray) (h0 : 0 < s.size) (he : s.toList.isEmpty = false)
    (CisSmall : Hid (∀ w : World, Calls Tryz.prog 134 #[.int .u8 (s[0].toNat : Int)] w fun e w' => e = .returned (.bool true) ∧ w = w'))
    (CisNameLike : Hid (∀ w : World, Calls Tryz.prog 140 #[.string s] w fun e w' => e = .returned (.bool true) ∧ w = w')) (w : World) :
    Calls Tryz.prog 82 #[.string s, .bool false] w fun e w' => e = .returned (.int .u8 2) ∧ Below w.heap.size w w' := by
  have hp : (0 : Int) < (s.size : Int) := by omega
  go_enter Tryz.func82, Tryz.ntmps82
  go_wp2_with fail
  refine (CisSmall.out _).mono ?_; rintro e w1 ⟨rfl, rfl⟩
  go_wp2_with fail
  refine (CisNameLike.out _).mono ?_; rintro e w1 ⟨rfl, rfl⟩
  go_wp2
  go_ret
  exact ⟨rfl, Below.refl _ _⟩

set_option maxHeartbeats 1000000 in
theorem kindOf_great (s : ByteArray) (h0 : 0 < s.size) (he : s.toList.isEmpty = false)
    (CisSmall : Hid (∀ w : World, Calls Tryz.prog 134 #[.int .u8 (s[0].toNat : Int)] w fun e w' => e = .returned (.bool false) ∧ w = w'))
    (CisGreat : Hid (∀ w : World, Calls Tryz.prog 135 #[.int .u8 (s[0].toNat : Int)] w fun e w' => e = .returned (.bool true) ∧ w = w'))
    (CisNameLike : Hid (∀ w : World, Calls Tryz.prog 140 #[.string s] w fun e w' => e = .returned (.bool true) ∧ w = w')) (w : World) :
    Calls Tryz.prog 82 #[.string s, .bool false] w fun e w' => e = .returned (.int .u8 3) ∧ Below w.heap.size w w' := by
  have hp : (0 : Int) < (s.size : Int) := by omega
  go_enter Tryz.func82, Tryz.ntmps82
  go_wp2_with fail
  refine (CisSmall.out _).mono ?_; rintro e w1 ⟨rfl, rfl⟩
  go_wp2_with fail
  refine (CisGreat.out _).mono ?_; rintro e w1 ⟨rfl, rfl⟩
  go_wp2_with fail
  refine (CisNameLike.out _).mono ?_; rintro e w1 ⟨rfl, rfl⟩
  go_wp2
  go_ret
  exact ⟨rfl, Below.refl _ _⟩

set_option maxHeartbeats 1000000 in
theorem kindOf_digit (s : ByteArray) (h0 : 0 < s.size) (he : s.toList.isEmpty = false)
    (CisSmall : Hid (∀ w : World, Calls Tryz.prog 134 #[.int .u8 (s[0].toNat : Int)] w fun e w' => e = .returned (.bool false) ∧ w = w'))
    (CisGreat : Hid (∀ w : World, Calls Tryz.prog 135 #[.int .u8 (s[0].toNat : Int)] w fun e w' => e = .returned (.bool false) ∧ w = w'))
    (CisDigit : Hid (∀ w : World, Calls Tryz.prog 138 #[.int .u8 (s[0].toNat : Int)] w fun e w' => e = .returned (.bool true) ∧ w = w'))
    (CisNumeral : Hid (∀ w : World, Calls Tryz.prog 141 #[.string s] w fun e w' => e = .returned (.bool true) ∧ Below w.heap.size w w')) (w : World) :
    Calls Tryz.prog 82 #[.string s, .bool false] w fun e w' => e = .returned (.int .u8 4) ∧ Below w.heap.size w w' := by
  have hp : (0 : Int) < (s.size : Int) := by omega
  go_enter Tryz.func82, Tryz.ntmps82
  go_wp2_with fail
  refine (CisSmall.out _).mono ?_; rintro e w1 ⟨rfl, rfl⟩
  go_wp2_with fail
  refine (CisGreat.out _).mono ?_; rintro e w1 ⟨rfl, rfl⟩
  go_wp2_with fail
  refine (CisDigit.out _).mono ?_; rintro e w1 ⟨rfl, rfl⟩
  go_wp2_with fail
  refine (CisNumeral.out _).mono ?_; rintro e w2 ⟨rfl, b2⟩
  go_wp2
  go_ret
  exact ⟨rfl, b2⟩

set_option maxHeartbeats 1000000 in
theorem kindOf_smallno5 (s : ByteArray) (h0 : 0 < s.size) (he : s.toList.isEmpty = false)
    (CisSmall : Hid (∀ w : World, Calls Tryz.prog 134 #[.int .u8 (s[0].toNat : Int)] w fun e w' => e = .returned (.bool true) ∧ w = w'))
    (CisGreat : Hid (∀ w : World, Calls Tryz.prog 135 #[.int .u8 (s[0].toNat : Int)] w fun e w' => e = .returned (.bool false) ∧ w = w'))
    (CisDigit : Hid (∀ w : World, Calls Tryz.prog 138 #[.int .u8 (s[0].toNat : Int)] w fun e w' => e = .returned (.bool false) ∧ w = w'))
    (CisNameLike : Hid (∀ w : World, Calls Tryz.prog 140 #[.string s] w fun e w' => e = .returned (.bool false) ∧ w = w'))
    (CisSign : Hid (∀ w : World, Calls Tryz.prog 139 #[.string s] w fun e w' => e = .returned (.bool true) ∧ w = w')) (w : World) :
    Calls Tryz.prog 82 #[.string s, .bool false] w fun e w' => e = .returned (.int .u8 5) ∧ Below w.heap.size w w' := by
  have hp : (0 : Int) < (s.size : Int) := by omega
  go_enter Tryz.func82, Tryz.ntmps82
  go_wp2_with fail
  refine (CisSmall.out _).mono ?_; rintro e w1 ⟨rfl, rfl⟩
  go_wp2_with fail
  refine (CisNameLike.out _).mono ?_; rintro e w1 ⟨rfl, rfl⟩
  go_wp2_with fail
  refine (CisGreat.out _).mono ?_; rintro e w1 ⟨rfl, rfl⟩
  go_wp2_with fail
  refine (CisDigit.out _).mono ?_; rintro e w1 ⟨rfl, rfl⟩
  go_wp2_with fail
  refine (CisSign.out _).mono ?_; rintro e w1 ⟨rfl, rfl⟩
  go_wp2
  go_ret
  exact ⟨rfl, Below.refl _ _⟩

set_option maxHeartbeats 1000000 in
theorem kindOf_greatno5 (s : ByteArray) (h0 : 0 < s.size) (he : s.toList.isEmpty = false)
    (CisSmall : Hid (∀ w : World, Calls Tryz.prog 134 #[.int .u8 (s[0].toNat : Int)] w fun e w' => e = .returned (.bool false) ∧ w = w'))
    (CisGreat : Hid (∀ w : World, Calls Tryz.prog 135 #[.int .u8 (s[0].toNat : Int)] w fun e w' => e = .returned (.bool true) ∧ w = w'))
    (CisDigit : Hid (∀ w : World, Calls Tryz.prog 138 #[.int .u8 (s[0].toNat : Int)] w fun e w' => e = .returned (.bool false) ∧ w = w'))
    (CisNameLike : Hid (∀ w : World, Calls Tryz.prog 140 #[.string s] w fun e w' => e = .returned (.bool false) ∧ w = w'))
    (CisSign : Hid (∀ w : World, Calls Tryz.prog 139 #[.string s] w fun e w' => e = .returned (.bool true) ∧ w = w')) (w : World) :
    Calls Tryz.prog 82 #[.string s, .bool false] w fun e w' => e = .returned (.int .u8 5) ∧ Below w.heap.size w w' := by
  have hp : (0 : Int) < (s.size : Int) := by omega
  go_enter Tryz.func82, Tryz.ntmps82
  go_wp2_with fail
  refine (CisSmall.out _).mono ?_; rintro e w1 ⟨rfl, rfl⟩
  go_wp2_with fail
  refine (CisGreat.out _).mono ?_; rintro e w1 ⟨rfl, rfl⟩
  go_wp2_with fail
  refine (CisNameLike.out _).mono ?_; rintro e w1 ⟨rfl, rfl⟩
  go_wp2_with fail
  refine (CisDigit.out _).mono ?_; rintro e w1 ⟨rfl, rfl⟩
  go_wp2_with fail
  refine (CisSign.out _).mono ?_; rintro e w1 ⟨rfl, rfl⟩
  go_wp2
  go_ret
  exact ⟨rfl, Below.refl _ _⟩

set_option maxHeartbeats 1000000 in
theorem kindOf_digitno5 (s : ByteArray) (h0 : 0 < s.size) (he : s.toList.isEmpty = false)
    (CisSmall : Hid (∀ w : World, Calls Tryz.prog 134 #[.int .u8 (s[0].toNat : Int)] w fun e w' => e = .returned (.bool false) ∧ w = w'))
    (CisGreat : Hid (∀ w : World, Calls Tryz.prog 135 #[.int .u8 (s[0].toNat : Int)] w fun e w' => e = .returned (.bool false) ∧ w = w'))
    (CisDigit : Hid (∀ w : World, Calls Tryz.prog 138 #[.int .u8 (s[0].toNat : Int)] w fun e w' => e = .returned (.bool true) ∧ w = w'))
    (CisNumeral : Hid (∀ w : World, Calls Tryz.prog 141 #[.string s] w fun e w' => e = .returned (.bool false) ∧ Below w.heap.size w w'))
    (CisSign : Hid (∀ w : World, Calls Tryz.prog 139 #[.string s] w fun e w' => e = .returned (.bool true) ∧ w = w')) (w : World) :
    Calls Tryz.prog 82 #[.string s, .bool false] w fun e w' => e = .returned (.int .u8 5) ∧ Below w.heap.size w w' := by
  have hp : (0 : Int) < (s.size : Int) := by omega
  go_enter Tryz.func82, Tryz.ntmps82
  go_wp2_with fail
  refine (CisSmall.out _).mono ?_; rintro e w1 ⟨rfl, rfl⟩
  go_wp2_with fail
  refine (CisGreat.out _).mono ?_; rintro e w1 ⟨rfl, rfl⟩
  go_wp2_with fail
  refine (CisDigit.out _).mono ?_; rintro e w1 ⟨rfl, rfl⟩
  go_wp2_with fail
  refine (CisNumeral.out _).mono ?_; rintro e w2 ⟨rfl, b2⟩
  go_wp2_with fail
  refine (CisSign.out _).mono ?_; rintro e w3 ⟨rfl, rfl⟩
  go_wp2
  go_ret
  exact ⟨rfl, b2⟩

set_option maxHeartbeats 1000000 in
theorem kindOf_other5 (s : ByteArray) (h0 : 0 < s.size) (he : s.toList.isEmpty = false)
    (CisSmall : Hid (∀ w : World, Calls Tryz.prog 134 #[.int .u8 (s[0].toNat : Int)] w fun e w' => e = .returned (.bool false) ∧ w = w'))
    (CisGreat : Hid (∀ w : World, Calls Tryz.prog 135 #[.int .u8 (s[0].toNat : Int)] w fun e w' => e = .returned (.bool false) ∧ w = w'))
    (CisDigit : Hid (∀ w : World, Calls Tryz.prog 138 #[.int .u8 (s[0].toNat : Int)] w fun e w' => e = .returned (.bool false) ∧ w = w'))
    (CisSign : Hid (∀ w : World, Calls Tryz.prog 139 #[.string s] w fun e w' => e = .returned (.bool true) ∧ w = w')) (w : World) :
    Calls Tryz.prog 82 #[.string s, .bool false] w fun e w' => e = .returned (.int .u8 5) ∧ Below w.heap.size w w' := by
  have hp : (0 : Int) < (s.size : Int) := by omega
  go_enter Tryz.func82, Tryz.ntmps82
  go_wp2_with fail
  refine (CisSmall.out _).mono ?_; rintro e w1 ⟨rfl, rfl⟩
  go_wp2_with fail
  refine (CisGreat.out _).mono ?_; rintro e w1 ⟨rfl, rfl⟩
  go_wp2_with fail
  refine (CisDigit.out _).mono ?_; rintro e w1 ⟨rfl, rfl⟩
  go_wp2_with fail
  refine (CisSign.out _).mono ?_; rintro e w1 ⟨rfl, rfl⟩
  go_wp2
  go_ret
  exact ⟨rfl, Below.refl _ _⟩

set_option maxHeartbeats 1000000 in
theorem kindOf_smallno0 (s : ByteArray) (h0 : 0 < s.size) (he : s.toList.isEmpty = false)
    (CisSmall : Hid (∀ w : World, Calls Tryz.prog 134 #[.int .u8 (s[0].toNat : Int)] w fun e w' => e = .returned (.bool true) ∧ w = w'))
    (CisGreat : Hid (∀ w : World, Calls Tryz.prog 135 #[.int .u8 (s[0].toNat : Int)] w fun e w' => e = .returned (.bool false) ∧ w = w'))
    (CisDigit : Hid (∀ w : World, Calls Tryz.prog 138 #[.int .u8 (s[0].toNat : Int)] w fun e w' => e = .returned (.bool false) ∧ w = w'))
    (CisNameLike : Hid (∀ w : World, Calls Tryz.prog 140 #[.string s] w fun e w' => e = .returned (.bool false) ∧ w = w'))
    (CisSign : Hid (∀ w : World, Calls Tryz.prog 139 #[.string s] w fun e w' => e = .returned (.bool false) ∧ w = w')) (w : World) :
    Calls Tryz.prog 82 #[.string s, .bool false] w fun e w' => e = .returned (.int .u8 0) ∧ Below w.heap.size w w' := by
  have hp : (0 : Int) < (s.size : Int) := by omega
  go_enter Tryz.func82, Tryz.ntmps82
  go_wp2_with fail
  refine (CisSmall.out _).mono ?_; rintro e w1 ⟨rfl, rfl⟩
  go_wp2_with fail
  refine (CisNameLike.out _).mono ?_; rintro e w1 ⟨rfl, rfl⟩
  go_wp2_with fail
  refine (CisGreat.out _).mono ?_; rintro e w1 ⟨rfl, rfl⟩
  go_wp2_with fail
  refine (CisDigit.out _).mono ?_; rintro e w1 ⟨rfl, rfl⟩
  go_wp2_with fail
  refine (CisSign.out _).mono ?_; rintro e w1 ⟨rfl, rfl⟩
  go_wp2
  go_ret
  exact ⟨rfl, Below.refl _ _⟩

set_option maxHeartbeats 1000000 in
theorem kindOf_greatno0 (s : ByteArray) (h0 : 0 < s.size) (he : s.toList.isEmpty = false)
    (CisSmall : Hid (∀ w : World, Calls Tryz.prog 134 #[.int .u8 (s[0].toNat : Int)] w fun e w' => e = .returned (.bool false) ∧ w = w'))
    (CisGreat : Hid (∀ w : World, Calls Tryz.prog 135 #[.int .u8 (s[0].toNat : Int)] w fun e w' => e = .returned (.bool true) ∧ w = w'))
    (CisDigit : Hid (∀ w : World, Calls Tryz.prog 138 #[.int .u8 (s[0].toNat : Int)] w fun e w' => e = .returned (.bool false) ∧ w = w'))
    (CisNameLike : Hid (∀ w : World, Calls Tryz.prog 140 #[.string s] w fun e w' => e = .returned (.bool false) ∧ w = w'))
    (CisSign : Hid (∀ w : World, Calls Tryz.prog 139 #[.string s] w fun e w' => e = .returned (.bool false) ∧ w = w')) (w : World) :
    Calls Tryz.prog 82 #[.string s, .bool false] w fun e w' => e = .returned (.int .u8 0) ∧ Below w.heap.size w w' := by
  have hp : (0 : Int) < (s.size : Int) := by omega
  go_enter Tryz.func82, Tryz.ntmps82
  go_wp2_with fail
  refine (CisSmall.out _).mono ?_; rintro e w1 ⟨rfl, rfl⟩
  go_wp2_with fail
  refine (CisGreat.out _).mono ?_; rintro e w1 ⟨rfl, rfl⟩
  go_wp2_with fail
  refine (CisNameLike.out _).mono ?_; rintro e w1 ⟨rfl, rfl⟩
  go_wp2_with fail
  refine (CisDigit.out _).mono ?_; rintro e w1 ⟨rfl, rfl⟩
  go_wp2_with fail
  refine (CisSign.out _).mono ?_; rintro e w1 ⟨rfl, rfl⟩
  go_wp2
  go_ret
  exact ⟨rfl, Below.refl _ _⟩

set_option maxHeartbeats 1000000 in
theorem kindOf_digitno0 (s : ByteArray) (h0 : 0 < s.size) (he : s.toList.isEmpty = false)
    (CisSmall : Hid (∀ w : World, Calls Tryz.prog 134 #[.int .u8 (s[0].toNat : Int)] w fun e w' => e = .returned (.bool false) ∧ w = w'))
    (CisGreat : Hid (∀ w : World, Calls Tryz.prog 135 #[.int .u8 (s[0].toNat : Int)] w fun e w' => e = .returned (.bool false) ∧ w = w'))
    (CisDigit : Hid (∀ w : World, Calls Tryz.prog 138 #[.int .u8 (s[0].toNat : Int)] w fun e w' => e = .returned (.bool true) ∧ w = w'))
    (CisNumeral : Hid (∀ w : World, Calls Tryz.prog 141 #[.string s] w fun e w' => e = .returned (.bool false) ∧ Below w.heap.size w w'))
    (CisSign : Hid (∀ w : World, Calls Tryz.prog 139 #[.string s] w fun e w' => e = .returned (.bool false) ∧ w = w')) (w : World) :
    Calls Tryz.prog 82 #[.string s, .bool false] w fun e w' => e = .returned (.int .u8 0) ∧ Below w.heap.size w w' := by
  have hp : (0 : Int) < (s.size : Int) := by omega
  go_enter Tryz.func82, Tryz.ntmps82
  go_wp2_with fail
  refine (CisSmall.out _).mono ?_; rintro e w1 ⟨rfl, rfl⟩
  go_wp2_with fail
  refine (CisGreat.out _).mono ?_; rintro e w1 ⟨rfl, rfl⟩
  go_wp2_with fail
  refine (CisDigit.out _).mono ?_; rintro e w1 ⟨rfl, rfl⟩
  go_wp2_with fail
  refine (CisNumeral.out _).mono ?_; rintro e w2 ⟨rfl, b2⟩
  go_wp2_with fail
  refine (CisSign.out _).mono ?_; rintro e w3 ⟨rfl, rfl⟩
  go_wp2
  go_ret
  exact ⟨rfl, b2⟩

set_option maxHeartbeats 1000000 in
theorem kindOf_other0 (s : ByteArray) (h0 : 0 < s.size) (he : s.toList.isEmpty = false)
    (CisSmall : Hid (∀ w : World, Calls Tryz.prog 134 #[.int .u8 (s[0].toNat : Int)] w fun e w' => e = .returned (.bool false) ∧ w = w'))
    (CisGreat : Hid (∀ w : World, Calls Tryz.prog 135 #[.int .u8 (s[0].toNat : Int)] w fun e w' => e = .returned (.bool false) ∧ w = w'))
    (CisDigit : Hid (∀ w : World, Calls Tryz.prog 138 #[.int .u8 (s[0].toNat : Int)] w fun e w' => e = .returned (.bool false) ∧ w = w'))
    (CisSign : Hid (∀ w : World, Calls Tryz.prog 139 #[.string s] w fun e w' => e = .returned (.bool false) ∧ w = w')) (w : World) :
    Calls Tryz.prog 82 #[.string s, .bool false] w fun e w' => e = .returned (.int .u8 0) ∧ Below w.heap.size w w' := by
  have hp : (0 : Int) < (s.size : Int) := by omega
  go_enter Tryz.func82, Tryz.ntmps82
  go_wp2_with fail
  refine (CisSmall.out _).mono ?_; rintro e w1 ⟨rfl, rfl⟩
  go_wp2_with fail
  refine (CisGreat.out _).mono ?_; rintro e w1 ⟨rfl, rfl⟩
  go_wp2_with fail
  refine (CisDigit.out _).mono ?_; rintro e w1 ⟨rfl, rfl⟩
  go_wp2_with fail
  refine (CisSign.out _).mono ?_; rintro e w1 ⟨rfl, rfl⟩
  go_wp2
  go_ret
  exact ⟨rfl, Below.refl _ _⟩

theorem kindOf_calls (s : ByteArray) (hs : s.size ≤ maxLen) (w : World) :
    Calls Tryz.prog 82 #[.string s, .bool (wordsL.contains s.data.toList)] w fun e w' => e = .returned (.int .u8 (kindL s.data.toList)) ∧ Below w.heap.size w w' := by
  by_cases h0 : 0 < s.size
  · have hne : s.data.toList ≠ [] := by
      have := drop_byte h0
      rw [List.drop_zero] at this
      rw [this]; simp
    have he : s.toList.isEmpty = false := by rw [ByteArray.toList_eq]; simpa using hne
    have A1 := fun w => isSmall_calls s[0] w
    have A2 := fun w => isGreat_calls s[0] w
    have A3 := fun w => isDigit_calls s[0] w
    have A4 := fun w => isNameLike_calls s hs w
    have A5 := fun w => isNumeral_calls s hs w
    have A6 := fun w => isSign_calls s w
    have g1 := head_byte smallB s h0
    have g2 := head_byte greatB s h0
    have g3 := head_byte dgt s h0
    cases hc : wordsL.contains s.data.toList
    · cases b1 : smallB s[0]
      · rw [b1] at A1 g1
        cases b2 : greatB s[0]
        · rw [b2] at A2 g2
          cases b3 : dgt s[0]
          · rw [b3] at A3 g3
            rw [kind_else hne hc (by simp [g1]) (by simp [g2]) (by simp [g3])]
            cases b6 : signL s.data.toList <;> rw [b6] at A6
            · exact kindOf_other0 s h0 he (Lib.hid A1) (Lib.hid A2) (Lib.hid A3) (Lib.hid A6) w
            · exact kindOf_other5 s h0 he (Lib.hid A1) (Lib.hid A2) (Lib.hid A3) (Lib.hid A6) w
          · rw [b3] at A3 g3
            cases b5 : decide (pe s.data.toList = 0)
            · rw [b5] at A5
              rw [kind_else hne hc (by simp [g1]) (by simp [g2]) (by rw [b5]; simp)]
              cases b6 : signL s.data.toList <;> rw [b6] at A6
              · exact kindOf_digitno0 s h0 he (Lib.hid A1) (Lib.hid A2) (Lib.hid A3) (Lib.hid A5) (Lib.hid A6) w
              · exact kindOf_digitno5 s h0 he (Lib.hid A1) (Lib.hid A2) (Lib.hid A3) (Lib.hid A5) (Lib.hid A6) w
            · rw [b5] at A5
              rw [kind_digit hne hc g1 g2 g3 b5]
              exact kindOf_digit s h0 he (Lib.hid A1) (Lib.hid A2) (Lib.hid A3) (Lib.hid A5) w
        · rw [b2] at A2 g2
          have b3 := great_not b2
          rw [b3] at A3 g3
          cases b4 : likeL s.data.toList
          · rw [b4] at A4
            rw [kind_else hne hc (by simp [g1]) (by simp [b4]) (by simp [g3])]
            cases b6 : signL s.data.toList <;> rw [b6] at A6
            · exact kindOf_greatno0 s h0 he (Lib.hid A1) (Lib.hid A2) (Lib.hid A3) (Lib.hid A4) (Lib.hid A6) w
            · exact kindOf_greatno5 s h0 he (Lib.hid A1) (Lib.hid A2) (Lib.hid A3) (Lib.hid A4) (Lib.hid A6) w
          · rw [b4] at A4
            rw [kind_great hne hc g1 g2 b4]
            exact kindOf_great s h0 he (Lib.hid A1) (Lib.hid A2) (Lib.hid A4) w
      · rw [b1] at A1 g1
        obtain ⟨b2, b3⟩ := small_not b1
        rw [b2] at A2 g2
        rw [b3] at A3 g3
        cases b4 : likeL s.data.toList
        · rw [b4] at A4
          rw [kind_else hne hc (by simp [b4]) (by simp [b4]) (by simp [g3])]
          cases b6 : signL s.data.toList <;> rw [b6] at A6
          · exact kindOf_smallno0 s h0 he (Lib.hid A1) (Lib.hid A2) (Lib.hid A3) (Lib.hid A4) (Lib.hid A6) w
          · exact kindOf_smallno5 s h0 he (Lib.hid A1) (Lib.hid A2) (Lib.hid A3) (Lib.hid A4) (Lib.hid A6) w
        · rw [b4] at A4
          rw [kind_small hne hc g1 b4]
          exact kindOf_small s h0 he (Lib.hid A1) (Lib.hid A4) w
    · rw [kind_word hne hc]
      refine (kindOf_word s h0 he w).mono ?_
      rintro e w' ⟨rfl, rfl⟩
      exact ⟨rfl, Below.refl _ _⟩
  · obtain ⟨⟨l⟩⟩ := s
    have : l = [] := by
      cases l with
      | nil => rfl
      | cons c r => exact absurd (show 0 < r.length + 1 by omega) h0
    subst this
    refine (kindOf_empty _ w).mono ?_
    rintro e w' ⟨rfl, rfl⟩
    exact ⟨rfl, Below.refl _ _⟩
end Go.Proofs.YthilicmhdkmipaaGreatDoor

