/- Contracts of package num, fifth part: Parse and what it calls. -/
import Derived.Test.YtekmkepaokdbmaaNum
import Derived.Test.YtekmkepaokdbmaaShelf
import Derived.Test.YtekmkepaokdbmaaParseMath
namespace Go.Proofs.Ytekmkepaokdbmaa
open Go.RowKit
set_option linter.unusedVariables false

set_option maxHeartbeats 400000 in
theorem allDigits_calls (s : ByteArray) (hs : s.size ≤ maxLen) (w : World) :
    Calls Try.prog 103 #[.string s] w fun e w' => e = .returned (.bool (digs s.data.toList)) ∧ w = w' := by
  unfold maxLen at hs
  go_enter Try.func103, Try.ntmps103
  go_wp2
  go_loop [6] (fun i => ∃ k : Nat, k ≤ s.size ∧ i = .int .i64 k ∧ Hid ((s.data.toList.take k).all dgt = true)) (fun i => s.size - (intOf i).toNat)
  case atStart => exact ⟨0, Nat.zero_le _, rfl, Lib.hid (by simp)⟩
  case round =>
    obtain ⟨k, hk, rfl, ha⟩ := hrel
    by_cases hlt : k < s.size
    · by_cases hd : dgt s[k] = true
      · obtain ⟨d1, d2⟩ := (dgt_iff _).1 hd
        have Hd := Lib.hid hd
        clear hd
        have e1 : (48 : Int) ≤ (s[k].toNat : Int) := by omega
        have e2 : (s[k].toNat : Int) ≤ 57 := by omega
        go_wp2
        go_round
        case rel => exact ⟨k + 1, by omega, by go_num, Lib.hid (all_snoc hlt ha.out Hd.out)⟩
        case measure => simp [intOf]; omega
      · have hd' : dgt s[k] = false := by simpa using hd
        have Hn := Lib.hid (digs_no s k hlt hd')
        have hcase : s[k].toNat < 48 ∨ 57 < s[k].toNat := by
          have h := mt (dgt_iff s[k]).2 hd
          omega
        clear hd hd'
        rcases hcase with hcase | hcase
        · have e1 : (s[k].toNat : Int) < 48 := by omega
          go_wp2
          go_ret
          exact ⟨ret_bool Hn.out.symm, rfl⟩
        · have e1 : (57 : Int) < (s[k].toNat : Int) := by omega
          go_wp2
          go_ret
          exact ⟨ret_bool Hn.out.symm, rfl⟩
    · obtain rfl : k = s.size := by omega
      go_wp2
      go_ret
      exact ⟨ret_bool (by rw [digs_end ha.out, ByteArray.toList_eq]), rfl⟩

set_option maxHeartbeats 400000 in
theorem sizeOf_calls (s : ByteArray) (hs : s.size ≤ maxLen) (hd : Hid (digs s.data.toList = true)) (w : World) :
    Calls Try.prog 104 #[.string s] w fun e w' => e = .returned (.tuple #[.int .u64 (szv s.data.toList), .int .i64 (sze s.data.toList)]) ∧ w = w' := by
  unfold maxLen at hs
  go_enter Try.func104, Try.ntmps104
  go_wp2
  go_loop [4, 8] (fun n i => ∃ k : Nat, k ≤ s.size ∧ i = .int .i64 k ∧ n = .int .u64 (dval (s.data.toList.take k)) ∧ dval (s.data.toList.take k) ≤ 9223372036854775809) (fun _ i => s.size - (intOf i).toNat)
  case atStart => exact ⟨0, Nat.zero_le _, rfl, rfl, by simp [dval_nil]⟩
  case round =>
    obtain ⟨k, hk, rfl, rfl, hb⟩ := hrel
    by_cases hlt : k < s.size
    · obtain ⟨d1, d2⟩ := all_at hd.out k hlt
      have hst := Lib.hid (dval_step s k hlt d1)
      have hov := Lib.hid (dval_over s k hlt)
      generalize hn : dval (s.data.toList.take k) = n at *
      clear hn
      have e1 : (48 : Int) ≤ (s[k].toNat : Int) := by omega
      have e2 : (s[k].toNat : Int) ≤ 57 := by omega
      by_cases ho : 922337203685477580 < n
      · have Ho := Lib.hid (hov.out ho)
        have eo : (922337203685477580 : Int) < (n : Int) := by omega
        go_wp2
        go_ret2
        exact ⟨ret_two (szv_out Ho.out).symm (sze_out Ho.out).symm, rfl⟩
      · have eo : (n : Int) ≤ 922337203685477580 := by omega
        go_wp2
        go_round
        case rel => exact ⟨k + 1, by omega, by go_num, by rw [hst.out], by have := hst.out; omega⟩
        case measure => simp [intOf]; omega
    · obtain rfl : k = s.size := by omega
      rw [take_all] at hb
      have Hb := Lib.hid hb
      rw [take_all]
      go_wp2
      go_ret2
      exact ⟨ret_two (szv_in Hb.out).symm (sze_in Hb.out).symm, rfl⟩

/-- a text without the sign in front; whether it has one -/
def cutm (l : List UInt8) : List UInt8 := Lib.trimPrefix l [45]
def isM (l : List UInt8) : Bool := Lib.hasPrefix l [45]

set_option maxHeartbeats 400000 in
theorem parse_none (s t : ByteArray) (m : Bool) (hs : t.size ≤ maxLen) (hd : Hid ((⟨(cutm s.data.toList).toArray⟩ : ByteArray) = t)) (hm : Hid (isM s.data.toList = m)) (hn : Hid (digs t.data.toList = false)) (w : World) :
    Calls Try.prog 100 #[.string s] w fun e w' => e = .returned (.tuple #[.int .i64 0, .int .i64 2]) ∧ Below w.heap.size w w' := by
  go_enter Try.func100, Try.ntmps100
  go_wp2_with fail
  refine (Try.strings_CutPrefix s ⟨#[45]⟩ _).mono ?_
  rw [show (⟨(Lib.trimPrefix s.data.toList (⟨#[45]⟩ : ByteArray).data.toList).toArray⟩ : ByteArray) = t from hd.out, show Lib.hasPrefix s.data.toList (⟨#[45]⟩ : ByteArray).data.toList = m from hm.out]
  rintro e w1 ⟨rfl, rfl⟩
  go_wp2_with fail
  refine (allDigits_calls t hs _).mono ?_
  rw [hn.out]
  rintro e w2 ⟨rfl, rfl⟩
  go_wp2
  go_ret2
  exact ⟨rfl, Below.refl _ _⟩

set_option maxHeartbeats 400000 in
theorem parse_nought (s t : ByteArray) (hs : t.size ≤ maxLen) (hd : Hid ((⟨(cutm s.data.toList).toArray⟩ : ByteArray) = t)) (hm : Hid (isM s.data.toList = true)) (hn : Hid (digs t.data.toList = true)) (h0 : 0 < t.size) (hc : ((t[0].toNat : Int) == 48) = true) (w : World) :
    Calls Try.prog 100 #[.string s] w fun e w' => e = .returned (.tuple #[.int .i64 0, .int .i64 2]) ∧ Below w.heap.size w w' := by
  go_enter Try.func100, Try.ntmps100
  go_wp2_with fail
  refine (Try.strings_CutPrefix s ⟨#[45]⟩ _).mono ?_
  rw [show (⟨(Lib.trimPrefix s.data.toList (⟨#[45]⟩ : ByteArray).data.toList).toArray⟩ : ByteArray) = t from hd.out, show Lib.hasPrefix s.data.toList (⟨#[45]⟩ : ByteArray).data.toList = true from hm.out]
  rintro e w1 ⟨rfl, rfl⟩
  go_wp2_with fail
  refine (allDigits_calls t hs _).mono ?_
  rw [hn.out]
  rintro e w2 ⟨rfl, rfl⟩
  go_wp2
  go_ret2
  exact ⟨rfl, Below.refl _ _⟩

set_option maxHeartbeats 400000 in
theorem parse_over_m (s t : ByteArray) (hs : t.size ≤ maxLen) (hd : Hid ((⟨(cutm s.data.toList).toArray⟩ : ByteArray) = t)) (hm : Hid (isM s.data.toList = true)) (hn : Hid (digs t.data.toList = true)) (h0 : 0 < t.size) (hc : ((t[0].toNat : Int) == 48) = false) (ho : Hid (9223372036854775809 < dval t.data.toList)) (w : World) :
    Calls Try.prog 100 #[.string s] w fun e w' => e = .returned (.tuple #[.int .i64 0, .int .i64 10]) ∧ Below w.heap.size w w' := by
  go_enter Try.func100, Try.ntmps100
  go_wp2_with fail
  refine (Try.strings_CutPrefix s ⟨#[45]⟩ _).mono ?_
  rw [show (⟨(Lib.trimPrefix s.data.toList (⟨#[45]⟩ : ByteArray).data.toList).toArray⟩ : ByteArray) = t from hd.out, show Lib.hasPrefix s.data.toList (⟨#[45]⟩ : ByteArray).data.toList = true from hm.out]
  rintro e w1 ⟨rfl, rfl⟩
  go_wp2_with fail
  refine (allDigits_calls t hs _).mono ?_
  rw [hn.out]
  rintro e w2 ⟨rfl, rfl⟩
  go_wp2_with fail
  refine (sizeOf_calls t hs hn _).mono ?_
  rw [szv_out ho.out, sze_out ho.out]
  rintro e w3 ⟨rfl, rfl⟩
  go_wp2
  go_ret2
  exact ⟨rfl, Below.refl _ _⟩

set_option maxHeartbeats 400000 in
theorem parse_over_p (s t : ByteArray) (hs : t.size ≤ maxLen) (hd : Hid ((⟨(cutm s.data.toList).toArray⟩ : ByteArray) = t)) (hm : Hid (isM s.data.toList = false)) (hn : Hid (digs t.data.toList = true)) (ho : Hid (9223372036854775809 < dval t.data.toList)) (w : World) :
    Calls Try.prog 100 #[.string s] w fun e w' => e = .returned (.tuple #[.int .i64 0, .int .i64 10]) ∧ Below w.heap.size w w' := by
  go_enter Try.func100, Try.ntmps100
  go_wp2_with fail
  refine (Try.strings_CutPrefix s ⟨#[45]⟩ _).mono ?_
  rw [show (⟨(Lib.trimPrefix s.data.toList (⟨#[45]⟩ : ByteArray).data.toList).toArray⟩ : ByteArray) = t from hd.out, show Lib.hasPrefix s.data.toList (⟨#[45]⟩ : ByteArray).data.toList = false from hm.out]
  rintro e w1 ⟨rfl, rfl⟩
  go_wp2_with fail
  refine (allDigits_calls t hs _).mono ?_
  rw [hn.out]
  rintro e w2 ⟨rfl, rfl⟩
  go_wp2_with fail
  refine (sizeOf_calls t hs hn _).mono ?_
  rw [szv_out ho.out, sze_out ho.out]
  rintro e w3 ⟨rfl, rfl⟩
  go_wp2
  go_ret2
  exact ⟨rfl, Below.refl _ _⟩

set_option maxHeartbeats 400000 in
theorem parse_in_m (s t : ByteArray) (hs : t.size ≤ maxLen) (hd : Hid ((⟨(cutm s.data.toList).toArray⟩ : ByteArray) = t)) (hm : Hid (isM s.data.toList = true)) (hn : Hid (digs t.data.toList = true)) (h0 : 0 < t.size) (hc : ((t[0].toNat : Int) == 48) = false) (ho : Hid (dval t.data.toList ≤ 9223372036854775809)) (w : World) :
    Calls Try.prog 100 #[.string s] w fun e w' => e = .returned (.tuple #[.int .i64 (fitv (sv true (dval t.data.toList))), .int .i64 (fite (sv true (dval t.data.toList)))]) ∧ Below w.heap.size w w' := by
  go_enter Try.func100, Try.ntmps100
  go_wp2_with fail
  refine (Try.strings_CutPrefix s ⟨#[45]⟩ _).mono ?_
  rw [show (⟨(Lib.trimPrefix s.data.toList (⟨#[45]⟩ : ByteArray).data.toList).toArray⟩ : ByteArray) = t from hd.out, show Lib.hasPrefix s.data.toList (⟨#[45]⟩ : ByteArray).data.toList = true from hm.out]
  rintro e w1 ⟨rfl, rfl⟩
  go_wp2_with fail
  refine (allDigits_calls t hs _).mono ?_
  rw [hn.out]
  rintro e w2 ⟨rfl, rfl⟩
  go_wp2_with fail
  refine (sizeOf_calls t hs hn _).mono ?_
  rw [szv_in ho.out, sze_in ho.out]
  rintro e w3 ⟨rfl, rfl⟩
  have hx : (0 : Int) ≤ (dval t.data.toList : Int) := by omega
  have hy : (dval t.data.toList : Int) < 18446744073709551616 := by have := ho.out; omega
  go_wp2_with fail
  refine (side_calls true _ hx hy _).mono ?_
  rintro e w4 ⟨rfl, b4⟩
  go_wp2_with fail
  refine (number_calls _ _).mono ?_
  rintro e w5 ⟨rfl, b5⟩
  go_wp2
  go_ret2
  exact ⟨rfl, b4.trans (b5.mono b4.size)⟩

set_option maxHeartbeats 400000 in
theorem parse_in_p (s t : ByteArray) (hs : t.size ≤ maxLen) (hd : Hid ((⟨(cutm s.data.toList).toArray⟩ : ByteArray) = t)) (hm : Hid (isM s.data.toList = false)) (hn : Hid (digs t.data.toList = true)) (ho : Hid (dval t.data.toList ≤ 9223372036854775809)) (w : World) :
    Calls Try.prog 100 #[.string s] w fun e w' => e = .returned (.tuple #[.int .i64 (fitv (sv false (dval t.data.toList))), .int .i64 (fite (sv false (dval t.data.toList)))]) ∧ Below w.heap.size w w' := by
  go_enter Try.func100, Try.ntmps100
  go_wp2_with fail
  refine (Try.strings_CutPrefix s ⟨#[45]⟩ _).mono ?_
  rw [show (⟨(Lib.trimPrefix s.data.toList (⟨#[45]⟩ : ByteArray).data.toList).toArray⟩ : ByteArray) = t from hd.out, show Lib.hasPrefix s.data.toList (⟨#[45]⟩ : ByteArray).data.toList = false from hm.out]
  rintro e w1 ⟨rfl, rfl⟩
  go_wp2_with fail
  refine (allDigits_calls t hs _).mono ?_
  rw [hn.out]
  rintro e w2 ⟨rfl, rfl⟩
  go_wp2_with fail
  refine (sizeOf_calls t hs hn _).mono ?_
  rw [szv_in ho.out, sze_in ho.out]
  rintro e w3 ⟨rfl, rfl⟩
  have hx : (0 : Int) ≤ (dval t.data.toList : Int) := by omega
  have hy : (dval t.data.toList : Int) < 18446744073709551616 := by have := ho.out; omega
  go_wp2_with fail
  refine (side_calls false _ hx hy _).mono ?_
  rintro e w4 ⟨rfl, b4⟩
  go_wp2_with fail
  refine (number_calls _ _).mono ?_
  rintro e w5 ⟨rfl, b5⟩
  go_wp2
  go_ret2
  exact ⟨rfl, b4.trans (b5.mono b4.size)⟩

end Go.Proofs.Ytekmkepaokdbmaa
