/- Contracts of package lex, third part: what belongs together at the beginning of a text. -/
import Derived.Test.YtekmkepaokdbmaaLexPiece
namespace Go.Proofs.Ytekmkepaokdbmaa
open Go.RowKit
set_option linter.unusedVariables false

/-- a string of the bytes of a list -/
def bs (l : List UInt8) : ByteArray := ⟨l.toArray⟩
theorem bs_list (l : List UInt8) : (bs l).data.toList = l := rfl
theorem bs_size (l : List UInt8) : (bs l).size = l.length := rfl
theorem bs_of (s : ByteArray) : bs s.data.toList = s := rfl
theorem ext_bs (s : ByteArray) (k : Nat) (h : k ≤ s.size) : s.extract 0 k = bs (s.data.toList.take k) := by
  rw [← ext_take s k h]; rfl
theorem ret_str {a b : ByteArray} (h : a = b) : Ending.returned (.string a) = .returned (.string b) := by rw [h]
theorem head_byte (p : UInt8 → Bool) (s : ByteArray) (h : 0 < s.size) : headB p s.data.toList = p s[0] := by
  have := drop_byte h
  rw [List.drop_zero] at this
  rw [this]; rfl
theorem togL_letter {l : List UInt8} (h : headB smallB l = true ∨ headB greatB l = true) : togL l = pre nameB l := by
  unfold togL; rw [if_pos (by rw [Bool.or_eq_true]; exact h)]
theorem togL_digit {l : List UInt8} (h1 : headB smallB l = false) (h2 : headB greatB l = false) (h3 : headB dgt l = true) : togL l = pre dgt l := by
  unfold togL; rw [if_neg (by simp [h1, h2]), if_pos h3]
theorem togL_two {l : List UInt8} (h1 : headB smallB l = false) (h2 : headB greatB l = false) (h3 : headB dgt l = false) (h4 : 1 < l.length) (h5 : signL (l.take 2) = true) : togL l = 2 := by
  unfold togL; rw [if_neg (by simp [h1, h2]), if_neg (by simp [h3]), if_pos (by simp [h4, h5])]
theorem togL_one {l : List UInt8} (h1 : headB smallB l = false) (h2 : headB greatB l = false) (h3 : headB dgt l = false) (h4 : ¬ 1 < l.length ∨ signL (l.take 2) = false) : togL l = 1 := by
  unfold togL; rw [if_neg (by simp [h1, h2]), if_neg (by simp [h3]), if_neg (by rcases h4 with h4 | h4 <;> simp [h4])]

end Go.Proofs.Ytekmkepaokdbmaa
