/- The plain part beneath the document's own Parse (weftwayref01): digits behind a place. -/
import Derived.Test.YtekmkepaokdbmaaSays
namespace Go.Proofs.Ytekmkepaokdbmaa
open Go.RowKit
set_option linter.unusedVariables false

/-- what the digits from place a up to place k say -/
def upto (l : List UInt8) (a k : Nat) : Nat := dval ((l.take k).drop a)

theorem upto_start (l : List UInt8) (a : Nat) : upto l a a = 0 := by
  unfold upto; rw [List.drop_eq_nil_of_le (List.length_take_le _ _)]; rfl
theorem upto_step (s : ByteArray) (a k : Nat) (ha : a ≤ k) (h : k < s.size) (h48 : 48 ≤ s[k].toNat) :
    (upto s.data.toList a (k + 1) : Int) = (upto s.data.toList a k : Int) * 10 + ((s[k].toNat : Int) - 48) := by
  have hl : a ≤ (s.data.toList.take k).length := by
    have e : s.data.toList.length = s.size := by simp
    rw [List.length_take]
    omega
  unfold upto
  rw [take_snoc s k h, List.drop_append_of_le_length hl, dval_snoc]
  omega
theorem upto_end (s : ByteArray) (a : Nat) : upto s.data.toList a s.size = dval (s.data.toList.drop a) := by unfold upto; rw [take_all]
theorem upto_le (l : List UInt8) (a k : Nat) : upto l a k ≤ dval (l.drop a) := by
  unfold upto
  rw [List.drop_take]
  exact dval_prefix _ _
theorem first_byte (s : ByteArray) (h : 0 < s.size) : s.data.toList = s[0] :: s.data.toList.drop 1 := by
  obtain ⟨⟨l⟩⟩ := s
  cases l with
  | nil => exact absurd h (by decide)
  | cons c r => rfl
theorem sign_no (s : ByteArray) (h : 0 < s.size) (hc : ¬ s[0] = 45) : cutm s.data.toList = s.data.toList.drop 0 ∧ isM s.data.toList = false := by
  have e := first_byte s h
  rw [List.drop_zero]
  constructor
  · rw [e, cutm_p hc]
  · rw [e, isM_cons]; simp [hc]
theorem sign_yes (s : ByteArray) (h : 0 < s.size) (hc : s[0] = 45) : cutm s.data.toList = s.data.toList.drop 1 ∧ isM s.data.toList = true := by
  have e := first_byte s h
  rw [hc] at e
  constructor
  · rw [e, cutm_m]; rfl
  · rw [e, isM_cons]; rfl
theorem byte_drop (s : ByteArray) (a k : Nat) (ha : a ≤ k) (h : k < s.size) : s[k] ∈ s.data.toList.drop a := by
  have hl : s.data.toList.length = s.size := by simp
  have : (s.data.toList.drop a)[k - a]? = some s[k] := by
    rw [List.getElem?_drop, show a + (k - a) = k from by omega, List.getElem?_eq_getElem (by omega)]
    rfl
  exact List.mem_of_getElem? this
theorem digs_drop_no (s : ByteArray) (a k : Nat) (ha : a ≤ k) (h : k < s.size) (hd : dgt s[k] = false) : digs (s.data.toList.drop a) = false := by
  unfold digs
  rw [Bool.and_eq_false_iff]
  right
  rw [List.all_eq_false]
  exact ⟨s[k], byte_drop s a k ha h, by rw [hd]; simp⟩
theorem digs_drop_yes (s : ByteArray) (a : Nat) (ha : a < s.size) (hd : ∀ j, a ≤ j → (h : j < s.size) → dgt s[j] = true) : digs (s.data.toList.drop a) = true := by
  have hl : s.data.toList.length = s.size := by simp
  unfold digs
  rw [Bool.and_eq_true, List.all_eq_true]
  constructor
  · cases e : s.data.toList.drop a with
    | nil => rw [List.drop_eq_nil_iff] at e; omega
    | cons x r => rfl
  · intro x hx
    obtain ⟨i, hi, rfl⟩ := List.mem_iff_getElem.1 hx
    rw [List.length_drop] at hi
    rw [List.getElem_drop]
    exact hd (a + i) (by omega) (by omega)
theorem head_drop (s : ByteArray) (h : 1 < s.size) : (s.data.toList.drop 1).head? = some s[1] := by
  have hl : s.data.toList.length = s.size := by simp
  rw [List.head?_drop, List.getElem?_eq_getElem (by omega)]
  rfl
end Go.Proofs.Ytekmkepaokdbmaa
