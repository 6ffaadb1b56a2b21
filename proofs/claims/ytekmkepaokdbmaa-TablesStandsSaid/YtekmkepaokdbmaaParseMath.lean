/- The plain part beneath num.Parse: what digits say. -/
import Derived.Test.YtekmkepaokdbmaaNumMath
import Derived.Lib.Hide
namespace Go.Proofs.Ytekmkepaokdbmaa
open Go.RowKit
set_option linter.unusedVariables false

/-- is a byte a digit? -/
def dgt (c : UInt8) : Bool := decide (48 ≤ c.toNat ∧ c.toNat ≤ 57)
/-- one or more digits? -/
def digs (l : List UInt8) : Bool := !l.isEmpty && l.all dgt
/-- what digits say -/
def dval (l : List UInt8) : Nat := l.foldl (fun n c => n * 10 + (c.toNat - 48)) 0

theorem take_snoc (s : ByteArray) (k : Nat) (h : k < s.size) : s.data.toList.take (k + 1) = s.data.toList.take k ++ [s[k]] := by
  rw [List.take_succ_eq_append_getElem (by simpa using h)]; rfl
theorem take_all (s : ByteArray) : s.data.toList.take s.size = s.data.toList := List.take_of_length_le (by simp)
theorem dval_snoc (l : List UInt8) (c : UInt8) : dval (l ++ [c]) = dval l * 10 + (c.toNat - 48) := by simp [dval, List.foldl_append]
theorem dval_nil : dval [] = 0 := rfl
theorem dgt_iff (c : UInt8) : dgt c = true ↔ 48 ≤ c.toNat ∧ c.toNat ≤ 57 := by simp [dgt]
theorem dgt_no {c : UInt8} (h : c.toNat < 48 ∨ 57 < c.toNat) : dgt c = false := by
  simp only [dgt, decide_eq_false_iff_not]; omega

theorem byte_mem (s : ByteArray) (k : Nat) (h : k < s.size) : s[k] ∈ s.data.toList := by
  have : s[k] = s.data[k]'h := rfl
  rw [this, Array.mem_toList_iff]
  exact Array.getElem_mem h
theorem digs_no (s : ByteArray) (k : Nat) (h : k < s.size) (hd : dgt s[k] = false) : digs s.data.toList = false := by
  unfold digs
  rw [Bool.and_eq_false_iff]
  right
  rw [List.all_eq_false]
  exact ⟨s[k], byte_mem s k h, by rw [hd]; simp⟩
theorem all_snoc {s : ByteArray} {k : Nat} (h : k < s.size) (ha : (s.data.toList.take k).all dgt = true) (hd : dgt s[k] = true) : (s.data.toList.take (k + 1)).all dgt = true := by
  rw [take_snoc s k h, List.all_append, ha]; simp [hd]
theorem digs_end {s : ByteArray} (ha : (s.data.toList.take s.size).all dgt = true) : digs s.data.toList = !s.data.toList.isEmpty := by
  rw [take_all] at ha; unfold digs; rw [ha, Bool.and_true]
theorem all_at {s : ByteArray} (h : digs s.data.toList = true) (k : Nat) (hk : k < s.size) : 48 ≤ s[k].toNat ∧ s[k].toNat ≤ 57 := by
  unfold digs at h
  rw [Bool.and_eq_true, List.all_eq_true] at h
  exact (dgt_iff _).1 (h.2 s[k] (byte_mem s k hk))
theorem dval_le_append (l r : List UInt8) : dval l ≤ dval (l ++ r) := by
  induction r generalizing l with
  | nil => simp
  | cons c r ih =>
    have := ih (l ++ [c])
    rw [dval_snoc, List.append_assoc] at this
    simp only [List.singleton_append] at this
    omega
theorem dval_prefix (l : List UInt8) (k : Nat) : dval (l.take k) ≤ dval l := by
  have := dval_le_append (l.take k) (l.drop k)
  rw [List.take_append_drop] at this
  exact this
/-- once the digits ahead of one say too much, all of them do -/
theorem dval_over (s : ByteArray) (k : Nat) (h : k < s.size) (ho : 922337203685477580 < dval (s.data.toList.take k)) : 9223372036854775809 < dval s.data.toList := by
  have h1 := dval_prefix s.data.toList (k + 1)
  rw [take_snoc s k h, dval_snoc] at h1
  omega
/-- the size that digits say, if a number may have it; the error beside it -/
def szv (l : List UInt8) : Int := if dval l ≤ 9223372036854775809 then (dval l : Int) else 0
def sze (l : List UInt8) : Int := if dval l ≤ 9223372036854775809 then 0 else 10
theorem szv_in {l : List UInt8} (h : dval l ≤ 9223372036854775809) : szv l = (dval l : Int) := by unfold szv; rw [if_pos h]
theorem sze_in {l : List UInt8} (h : dval l ≤ 9223372036854775809) : sze l = 0 := by unfold sze; rw [if_pos h]
theorem szv_out {l : List UInt8} (h : 9223372036854775809 < dval l) : szv l = 0 := by unfold szv; rw [if_neg (by omega)]
theorem sze_out {l : List UInt8} (h : 9223372036854775809 < dval l) : sze l = 10 := by unfold sze; rw [if_neg (by omega)]
theorem dval_step (s : ByteArray) (k : Nat) (h : k < s.size) (h48 : 48 ≤ s[k].toNat) : (dval (s.data.toList.take (k + 1)) : Int) = (dval (s.data.toList.take k) : Int) * 10 + ((s[k].toNat : Int) - 48) := by
  rw [take_snoc s k h, dval_snoc]; omega
theorem ret_bool {a b : Bool} (h : a = b) : Ending.returned (.bool a) = .returned (.bool b) := by rw [h]
end Go.Proofs.Ytekmkepaokdbmaa
