/- Contracts of package num, fifth part: Parse and what it calls. -/
import Derived.Test.YthilicmhdkmipaaGreatDoorIJoinAL
import Derived.Test.YthilicmhdkmipaaGreatDoorShelf
import Derived.Lib.Bytealg
import Derived.Lib.Fields
import Derived.Test.YthilicmhdkmipaaGreatDoorChecked
import Derived.Shelf.Abstract
import Derived.Outline
import Derived.IntWalk
namespace Go.Proofs.YthilicmhdkmipaaGreatDoor
open Go.RowKit
set_option linter.unusedVariables false

set_option maxHeartbeats 400000 in
theorem allDigits_calls (s : ByteArray) (hs : s.size ≤ maxLen) (w : World) :
    Calls Tryz.prog 194 #[.string s] w fun e w' => e = .returned (.bool (digs s.data.toList)) ∧ w = w' := by
  unfold maxLen at hs
  go_enter Tryz.func194, Tryz.ntmps194
  go_wp2
  go_loop [6] (fun i => ∃ k : Nat, k ≤ s.size ∧ i = .int .i64 k ∧ Hid ((s.data.toList.take k).all dgt = true)) (fun i => s.size - (intOf i).toNat)
  case atStart => exact ⟨0, Nat.zero_le _, rfl, Lib.hid (by simp)⟩
  case round =>
    obtain ⟨k, hk, rfl, ha⟩ := hrel
    by_cases hlt : k < s.size
    · by_cases hd : dgt s[k] = true
      · obtain ⟨d1, d2⟩ := (dgt_iff _).1 hd
        have Hd := Lib.hid hd
        clear hd
        have e1 : (48 : Int) ≤ (s[k].toNat : Int) := by omega
        have e2 : (s[k].toNat : Int) ≤ 57 := by omega
        go_wp2
        go_round
        case rel => exact ⟨k + 1, by omega, by go_num, Lib.hid (all_snoc hlt ha.out Hd.out)⟩
        case measure => simp [intOf]; omega
      · have hd' : dgt s[k] = false := by simpa using hd
        have Hn := Lib.hid (digs_no s k hlt hd')
        have hcase : s[k].toNat < 48 ∨ 57 < s[k].toNat := by
          have h := mt (dgt_iff s[k]).2 hd
          omega
        clear hd hd'
        rcases hcase with hcase | hcase
        · have e1 : (s[k].toNat : Int) < 48 := by omega
          go_wp2
          go_ret
          exact ⟨ret_bool Hn.out.symm, rfl⟩
        · have e1 : (57 : Int) < (s[k].toNat : Int) := by omega
          go_wp2
          go_ret
          exact ⟨ret_bool Hn.out.symm, rfl⟩
    · obtain rfl : k = s.size := by omega
      go_wp2
      go_ret
      exact ⟨ret_bool (by rw [digs_end ha.out, ByteArray.toList_eq]), rfl⟩

set_option maxHeartbeats 400000 in
theorem sizeOf_calls (s : ByteArray) (hs : s.size ≤ maxLen) (hd : Hid (digs s.data.toList = true)) (w : World) :
    Calls Tryz.prog 195 #[.string s] w fun e w' => e = .returned (.tuple #[.int .u64 (szv s.data.toList), .int .i64 (sze s.data.toList)]) ∧ w = w' := by
  unfold maxLen at hs
  go_enter Tryz.func195, Tryz.ntmps195
  go_wp2
  go_loop [4, 8] (fun n i => ∃ k : Nat, k ≤ s.size ∧ i = .int .i64 k ∧ n = .int .u64 (dval (s.data.toList.take k)) ∧ dval (s.data.toList.take k) ≤ 9223372036854775809) (fun _ i => s.size - (intOf i).toNat)
  case atStart => exact ⟨0, Nat.zero_le _, rfl, rfl, by simp [dval_nil]⟩
  case round =>
    obtain ⟨k, hk, rfl, rfl, hb⟩ := hrel
    by_cases hlt : k < s.size
    · obtain ⟨d1, d2⟩ := all_at hd.out k hlt
      have hst := Lib.hid (dval_step s k hlt d1)
      have hov := Lib.hid (dval_over s k hlt)
      generalize hn : dval (s.data.toList.take k) = n at *
      clear hn
      have e1 : (48 : Int) ≤ (s[k].toNat : Int) := by omega
      have e2 : (s[k].toNat : Int) ≤ 57 := by omega
      by_cases ho : 922337203685477580 < n
      · have Ho := Lib.hid (hov.out ho)
        have eo : (922337203685477580 : Int) < (n : Int) := by omega
        go_wp2
        go_ret2
        exact ⟨ret_two (szv_out Ho.out).symm (sze_out Ho.out).symm, rfl⟩
      · have eo : (n : Int) ≤ 922337203685477580 := by omega
        go_wp2
        go_round
        case rel => exact ⟨k + 1, by omega, by go_num, by rw [hst.out], by have := hst.out; omega⟩
        case measure => simp [intOf]; omega
    · obtain rfl : k = s.size := by omega
      rw [take_all] at hb
      have Hb := Lib.hid hb
      rw [take_all]
      go_wp2
      go_ret2
      exact ⟨ret_two (szv_in Hb.out).symm (sze_in Hb.out).symm, rfl⟩

/-- a text without the sign in front; whether it has one -/
def cutm (l : List UInt8) : List UInt8 := Lib.trimPrefix l [45]
def isM (l : List UInt8) : Bool := Lib.hasPrefix l [45]

set_option maxHeartbeats 400000 in
theorem parse_none (s t : ByteArray) (m : Bool) (hs : t.size ≤ maxLen) (hd : Hid ((⟨(cutm s.data.toList).toArray⟩ : ByteArray) = t)) (hm : Hid (isM s.data.toList = m)) (hn : Hid (digs t.data.toList = false)) (w : World) :
    Calls Tryz.prog 175 #[.string s] w fun e w' => e = .returned (.tuple #[.int .i64 0, .int .i64 2]) ∧ Below w.heap.size w w' := by
  go_enter Tryz.func175, Tryz.ntmps175
  go_wp2_with fail
  refine (Tryz.strings_CutPrefix s ⟨#[45]⟩ _).mono ?_
  rw [show (⟨(Lib.trimPrefix s.data.toList (⟨#[45]⟩ : ByteArray).data.toList).toArray⟩ : ByteArray) = t from hd.out, show Lib.hasPrefix s.data.toList (⟨#[45]⟩ : ByteArray).data.toList = m from hm.out]
  rintro e w1 ⟨rfl, rfl⟩
  go_wp2_with fail
  refine (allDigits_calls t hs _).mono ?_
  rw [hn.out]
  rintro e w2 ⟨rfl, rfl⟩
  go_wp2
  go_ret2
  exact ⟨rfl, Below.refl _ _⟩

set_option maxHeartbeats 400000 in
theorem parse_nought (s t : ByteArray) (hs : t.size ≤ maxLen) (hd : Hid ((⟨(cutm s.data.toList).toArray⟩ : ByteArray) = t)) (hm : Hid (isM s.data.toList = true)) (hn : Hid (digs t.data.toList = true)) (h0 : 0 < t.size) (hc : ((t[0].toNat : Int) == 48) = true) (w : World) :
    Calls Tryz.prog 175 #[.string s] w fun e w' => e = .returned (.tuple #[.int .i64 0, .int .i64 2]) ∧ Below w.heap.size w w' := by
  go_enter Tryz.func175, Tryz.ntmps175
  go_wp2_with fail
  refine (Tryz.strings_CutPrefix s ⟨#[45]⟩ _).mono ?_
  rw [show (⟨(Lib.trimPrefix s.data.toList (⟨#[45]⟩ : ByteArray).data.toList).toArray⟩ : ByteArray) = t from hd.out, show Lib.hasPrefix s.data.toList (⟨#[45]⟩ : ByteArray).data.toList = true from hm.out]
  rintro e w1 ⟨rfl, rfl⟩
  go_wp2_with fail
  refine (allDigits_calls t hs _).mono ?_
  rw [hn.out]
  rintro e w2 ⟨rfl, rfl⟩
  go_wp2
  go_ret2
  exact ⟨rfl, Below.refl _ _⟩

set_option maxHeartbeats 400000 in
theorem parse_over_m (s t : ByteArray) (hs : t.size ≤ maxLen) (hd : Hid ((⟨(cutm s.data.toList).toArray⟩ : ByteArray) = t)) (hm : Hid (isM s.data.toList = true)) (hn : Hid (digs t.data.toList = true)) (h0 : 0 < t.size) (hc : ((t[0].toNat : Int) == 48) = false) (ho : Hid (9223372036854775809 < dval t.data.toList)) (w : World) :
    Calls Tryz.prog 175 #[.string s] w fun e w' => e = .returned (.tuple #[.int .i64 0, .int .i64 10]) ∧ Below w.heap.size w w' := by
  go_enter Tryz.func175, Tryz.ntmps175
  go_wp2_with fail
  refine (Tryz.strings_CutPrefix s ⟨#[45]⟩ _).mono ?_
  rw [show (⟨(Lib.trimPrefix s.data.toList (⟨#[45]⟩ : ByteArray).data.toList).toArray⟩ : ByteArray) = t from hd.out, show Lib.hasPrefix s.data.toList (⟨#[45]⟩ : ByteArray).data.toList = true from hm.out]
  rintro e w1 ⟨rfl, rfl⟩
  go_wp2_with fail
  refine (allDigits_calls t hs _).mono ?_
  rw [hn.out]
  rintro e w2 ⟨rfl, rfl⟩
  go_wp2_with fail
  refine (sizeOf_calls t hs hn _).mono ?_
  rw [szv_out ho.out, sze_out ho.out]
  rintro e w3 ⟨rfl, rfl⟩
  go_wp2
  go_ret2
  exact ⟨rfl, Below.refl _ _⟩

set_option maxHeartbeats 400000 in
theorem parse_over_p (s t : ByteArray) (hs : t.size ≤ maxLen) (hd : Hid ((⟨(cutm s.data.toList).toArray⟩ : ByteArray) = t)) (hm : Hid (isM s.data.toList = false)) (hn : Hid (digs t.data.toList = true)) (ho : Hid (9223372036854775809 < dval t.data.toList)) (w : World) :
    Calls Tryz.prog 175 #[.string s] w fun e w' => e = .returned (.tuple #[.int .i64 0, .int .i64 10]) ∧ Below w.heap.size w w' := by
  go_enter Tryz.func175, Tryz.ntmps175
  go_wp2_with fail
  refine (Tryz.strings_CutPrefix s ⟨#[45]⟩ _).mono ?_
  rw [show (⟨(Lib.trimPrefix s.data.toList (⟨#[45]⟩ : ByteArray).data.toList).toArray⟩ : ByteArray) = t from hd.out, show Lib.hasPrefix s.data.toList (⟨#[45]⟩ : ByteArray).data.toList = false from hm.out]
  rintro e w1 ⟨rfl, rfl⟩
  go_wp2_with fail
  refine (allDigits_calls t hs _).mono ?_
  rw [hn.out]
  rintro e w2 ⟨rfl, rfl⟩
  go_wp2_with fail
  refine (sizeOf_calls t hs hn _).mono ?_
  rw [szv_out ho.out, sze_out ho.out]
  rintro e w3 ⟨rfl, rfl⟩
  go_wp2
  go_ret2
  exact ⟨rfl, Below.refl _ _⟩

set_option maxHeartbeats 400000 in
theorem parse_in_m (s t : ByteArray) (hs : t.size ≤ maxLen) (hd : Hid ((⟨(cutm s.data.toList).toArray⟩ : ByteArray) = t)) (hm : Hid (isM s.data.toList = true)) (hn : Hid (digs t.data.toList = true)) (h0 : 0 < t.size) (hc : ((t[0].toNat : Int) == 48) = false) (ho : Hid (dval t.data.toList ≤ 9223372036854775809)) (w : World) :
    Calls Tryz.prog 175 #[.string s] w fun e w' => e = .returned (.tuple #[.int .i64 (fitv (sv true (dval t.data.toList))), .int .i64 (fite (sv true (dval t.data.toList)))]) ∧ Below w.heap.size w w' := by
  go_enter Tryz.func175, Tryz.ntmps175
  go_wp2_with fail
  refine (Tryz.strings_CutPrefix s ⟨#[45]⟩ _).mono ?_
  rw [show (⟨(Lib.trimPrefix s.data.toList (⟨#[45]⟩ : ByteArray).data.toList).toArray⟩ : ByteArray) = t from hd.out, show Lib.hasPrefix s.data.toList (⟨#[45]⟩ : ByteArray).data.toList = true from hm.out]
  rintro e w1 ⟨rfl, rfl⟩
  go_wp2_with fail
  refine (allDigits_calls t hs _).mono ?_
  rw [hn.out]
  rintro e w2 ⟨rfl, rfl⟩
  go_wp2_with fail
  refine (sizeOf_calls t hs hn _).mono ?_
  rw [szv_in ho.out, sze_in ho.out]
  rintro e w3 ⟨rfl, rfl⟩
  have hx : (0 : Int) ≤ (dval t.data.toList : Int) := by omega
  have hy : (dval t.data.toList : Int) < 18446744073709551616 := by have := ho.out; omega
  go_wp2_with fail
  refine (side_calls true _ hx hy _).mono ?_
  rintro e w4 ⟨rfl, b4⟩
  go_wp2_with fail
  refine (number_calls _ _).mono ?_
  rintro e w5 ⟨rfl, b5⟩
  go_wp2
  go_ret2
  exact ⟨rfl, b4.trans (b5.mono b4.size)⟩

set_option maxHeartbeats 400000 in
theorem parse_in_p (s t : ByteArray) (hs : t.size ≤ maxLen) (hd : Hid ((⟨(cutm s.data.toList).toArray⟩ : ByteArray) = t)) (hm : Hid (isM s.data.toList = false)) (hn : Hid (digs t.data.toList = true)) (ho : Hid (dval t.data.toList ≤ 9223372036854775809)) (w : World) :
    Calls Tryz.prog 175 #[.string s] w fun e w' => e = .returned (.tuple #[.int .i64 (fitv (sv false (dval t.data.toList))), .int .i64 (fite (sv false (dval t.data.toList)))]) ∧ Below w.heap.size w w' := by
  go_enter Tryz.func175, Tryz.ntmps175
  go_wp2_with fail
  refine (Tryz.strings_CutPrefix s ⟨#[45]⟩ _).mono ?_
  rw [show (⟨(Lib.trimPrefix s.data.toList (⟨#[45]⟩ : ByteArray).data.toList).toArray⟩ : ByteArray) = t from hd.out, show Lib.hasPrefix s.data.toList (⟨#[45]⟩ : ByteArray).data.toList = false from hm.out]
  rintro e w1 ⟨rfl, rfl⟩
  go_wp2_with fail
  refine (allDigits_calls t hs _).mono ?_
  rw [hn.out]
  rintro e w2 ⟨rfl, rfl⟩
  go_wp2_with fail
  refine (sizeOf_calls t hs hn _).mono ?_
  rw [szv_in ho.out, sze_in ho.out]
  rintro e w3 ⟨rfl, rfl⟩
  have hx : (0 : Int) ≤ (dval t.data.toList : Int) := by omega
  have hy : (dval t.data.toList : Int) < 18446744073709551616 := by have := ho.out; omega
  go_wp2_with fail
  refine (side_calls false _ hx hy _).mono ?_
  rintro e w4 ⟨rfl, b4⟩
  go_wp2_with fail
  refine (number_calls _ _).mono ?_
  rintro e w5 ⟨rfl, b5⟩
  go_wp2
  go_ret2
  exact ⟨rfl, b4.trans (b5.mono b4.size)⟩

end Go.Proofs.YthilicmhdkmipaaGreatDoor
/- Contracts of package num, sixth part: Parse whole; the law's own says. -/
namespace Go.Proofs.YthilicmhdkmipaaGreatDoor
open Go.RowKit
set_option linter.unusedVariables false

/-- is a text a numeral? what it says -/
def okNum (l : List UInt8) : Bool := digs (cutm l) && !(isM l && decide ((cutm l).head? = some 48))
def numOf (l : List UInt8) : Int := sv (isM l) (dval (cutm l))
def pv (l : List UInt8) : Int := if okNum l = true then fitv (numOf l) else 0
def pe (l : List UInt8) : Int := if okNum l = true then fite (numOf l) else 2

theorem cutm_len (l : List UInt8) : (cutm l).length ≤ l.length := by
  unfold cutm Lib.trimPrefix; split <;> simp
theorem head_zero {t : ByteArray} (h : 0 < t.size) : t.data.toList.head? = some t[0] := by
  obtain ⟨⟨l⟩⟩ := t
  cases l with
  | nil => exact absurd h (by decide)
  | cons c r => rfl
theorem digs_ne {t : ByteArray} (h : digs t.data.toList = true) : 0 < t.size := by
  obtain ⟨⟨l⟩⟩ := t
  cases l with
  | nil => exact absurd h (by decide)
  | cons c r => show 0 < r.length + 1; omega
theorem byte48 (c : UInt8) : ((c.toNat : Int) == 48) = decide (c = 48) := by
  rw [Bool.eq_iff_iff]; simp
  constructor
  · intro h; exact UInt8.toNat_inj.1 (by show c.toNat = 48; omega)
  · intro h; subst h; rfl

theorem parse_calls (s : ByteArray) (hs : s.size ≤ maxLen) (w : World) :
    Calls Tryz.prog 175 #[.string s] w fun e w' => e = .returned (.tuple #[.int .i64 (pv s.data.toList), .int .i64 (pe s.data.toList)]) ∧ Below w.heap.size w w' := by
  have hl : (⟨(cutm s.data.toList).toArray⟩ : ByteArray).size ≤ maxLen := Nat.le_trans (cutm_len s.data.toList) (by simpa using hs)
  obtain ⟨t, ht⟩ : ∃ t : ByteArray, (⟨(cutm s.data.toList).toArray⟩ : ByteArray) = t := ⟨_, rfl⟩
  have hc : cutm s.data.toList = t.data.toList := by rw [← ht]
  rw [ht] at hl
  have hd := Lib.hid ht
  unfold pv pe okNum numOf
  rw [hc]
  cases hn : digs t.data.toList
  · exact parse_none s t _ hl hd (Lib.hid rfl) (Lib.hid hn) w
  · have h0 := digs_ne hn
    rw [head_zero h0]
    cases hm : isM s.data.toList
    · simp only [Bool.false_and, Bool.not_false, Bool.and_self, if_true]
      by_cases ho : dval t.data.toList ≤ 9223372036854775809
      · exact parse_in_p s t hl hd (Lib.hid hm) (Lib.hid hn) (Lib.hid ho) w
      · rw [sv_false, fitv_out (by omega), fite_out (by omega)]
        exact parse_over_p s t hl hd (Lib.hid hm) (Lib.hid hn) (Lib.hid (by omega)) w
    · by_cases h48 : t[0] = 48
      · have e : ((t[0].toNat : Int) == 48) = true := by rw [byte48]; simp [h48]
        simp only [h48, decide_true, Bool.true_and, Bool.not_true, Bool.and_false, Bool.false_eq_true, if_false]
        exact parse_nought s t hl hd (Lib.hid hm) (Lib.hid hn) h0 e w
      · have e : ((t[0].toNat : Int) == 48) = false := by rw [byte48]; simp [h48]
        simp only [Option.some.injEq, h48, decide_false, Bool.and_false, Bool.not_false, Bool.and_self, if_true]
        by_cases ho : dval t.data.toList ≤ 9223372036854775809
        · exact parse_in_m s t hl hd (Lib.hid hm) (Lib.hid hn) h0 e (Lib.hid ho) w
        · rw [sv_true, fitv_out (by omega), fite_out (by omega)]
          exact parse_over_m s t hl hd (Lib.hid hm) (Lib.hid hn) h0 e (Lib.hid (by omega)) w

end Go.Proofs.YthilicmhdkmipaaGreatDoor
/- The plain part beneath layer 2: what a text's tokens are, over its bytes. -/
namespace Go.Proofs.YthilicmhdkmipaaGreatDoor
open Go.RowKit
set_option linter.unusedVariables false

def smallB (c : UInt8) : Bool := decide (97 ≤ c.toNat ∧ c.toNat ≤ 122)
def greatB (c : UInt8) : Bool := decide (65 ≤ c.toNat ∧ c.toNat ≤ 90)
def nameB (c : UInt8) : Bool := smallB c || greatB c || dgt c || decide (c.toNat = 95)
def blankB (c : UInt8) : Bool := decide (c.toNat = 32 ∨ c.toNat = 9 ∨ c.toNat = 10 ∨ c.toNat = 13)
/-- the words, as the chapter lists them -/
def wordsL : List (List UInt8) := [
  [108, 101, 116], [105, 102], [101, 108, 115, 101], [119, 104, 105, 108, 101], [109, 97, 116, 99, 104], [115, 99, 111, 112, 101],
  [115, 112, 97, 119, 110], [108, 111, 99, 107], [97, 115], [99, 104, 97, 110], [100, 114, 111, 112], [102, 110],
  [115, 116, 114, 117, 99, 116], [101, 110, 117, 109], [116, 114, 117, 101], [102, 97, 108, 115, 101], [97, 110, 100], [111, 114],
  [110, 111, 116], [105, 110, 116], [98, 111, 111, 108], [117, 110, 105, 116], [109, 117, 116], [98, 111, 120],
  [117, 110, 98, 111, 120], [99, 101, 108, 108], [103, 101, 116], [115, 101, 116], [114, 99], [97, 114, 99],
  [99, 108, 111, 110, 101], [109, 117, 116, 101, 120], [111, 112, 101, 110], [97, 116, 111, 109, 105, 99], [108, 111, 97, 100], [115, 116, 111, 114, 101],
  [102, 101, 116, 99, 104], [115, 101, 110, 100], [114, 101, 99, 118], [66, 111, 120], [67, 101, 108, 108], [82, 99],
  [65, 114, 99], [77, 117, 116, 101, 120], [65, 116, 111, 109, 105, 99], [83, 101, 110, 100, 101, 114], [82, 101, 99, 101, 105, 118, 101, 114]]
/-- the signs of one byte -/
def shortL : List UInt8 := [40, 41, 123, 125, 60, 62, 44, 59, 58, 61, 38, 42, 46, 43, 45, 47, 37]
def headB (p : UInt8 → Bool) : List UInt8 → Bool
  | [] => false
  | c :: _ => p c
def likeL (l : List UInt8) : Bool := decide (l.length ≤ 16) && l.all nameB
def oneL : List UInt8 → Bool
  | [c] => shortL.contains c
  | _ => false
def signL (l : List UInt8) : Bool := l == [61, 61] || l == [61, 62] || l == [45, 62] || oneL l
/-- of which kind of token the whole of a text is: 0, if it is none -/
def kindL (l : List UInt8) : Nat :=
  if l = [] then 0 else if wordsL.contains l = true then 1
  else if (headB smallB l && likeL l) = true then 2 else if (headB greatB l && likeL l) = true then 3
  else if (headB dgt l && decide (pe l = 0)) = true then 4 else if signL l = true then 5 else 0
def pre (p : UInt8 → Bool) (l : List UInt8) : Nat := (l.takeWhile p).length
/-- how many bytes at the beginning of a text belong together -/
def togL (l : List UInt8) : Nat :=
  if (headB smallB l || headB greatB l) = true then pre nameB l else if headB dgt l = true then pre dgt l
  else if (decide (1 < l.length) && signL (l.take 2)) = true then 2 else 1
/-- how many bytes of blanks and remarks stand at the beginning of a text; whether one is in a remark there -/
def gapF : Bool → List UInt8 → Nat
  | _, [] => 0
  | true, c :: r => 1 + gapF (decide (c.toNat ≠ 10)) r
  | false, c :: r => if blankB c = true then 1 + gapF false r else if c.toNat = 47 ∧ headB (fun d => decide (d.toNat = 47)) r = true then 1 + gapF true r else 0
abbrev Tok := Nat × List UInt8 × Nat
/-- the tokens of a text, and where it is none: at most n of them -/
def lexF : Nat → List UInt8 → Nat → List Tok × Option Nat
  | 0, _, _ => ([], none)
  | n + 1, l, p =>
    if l.drop (gapF false l) = [] then ([], none)
    else if kindL ((l.drop (gapF false l)).take (togL (l.drop (gapF false l)))) = 0 then ([], some (p + gapF false l))
    else ((kindL ((l.drop (gapF false l)).take (togL (l.drop (gapF false l)))), (l.drop (gapF false l)).take (togL (l.drop (gapF false l))), p + gapF false l) ::
        (lexF n ((l.drop (gapF false l)).drop (togL (l.drop (gapF false l)))) (p + gapF false l + togL (l.drop (gapF false l)))).1,
      (lexF n ((l.drop (gapF false l)).drop (togL (l.drop (gapF false l)))) (p + gapF false l + togL (l.drop (gapF false l)))).2)
def lexL (l : List UInt8) (p : Nat) : List Tok × Option Nat := lexF l.length l p

/-! ### what belongs together -/
theorem pre_le (p : UInt8 → Bool) (l : List UInt8) : pre p l ≤ l.length := List.IsPrefix.length_le (List.takeWhile_prefix p)
theorem pre_cons_yes {p : UInt8 → Bool} {c : UInt8} {r : List UInt8} (h : p c = true) : pre p (c :: r) = 1 + pre p r := by
  unfold pre; rw [List.takeWhile_cons, if_pos h, List.length_cons]; omega
theorem pre_cons_no {p : UInt8 → Bool} {c : UInt8} {r : List UInt8} (h : p c = false) : pre p (c :: r) = 0 := by
  unfold pre; rw [List.takeWhile_cons, if_neg (by rw [h]; simp)]; rfl
/-! ### what stands between -/
/-- the end of a line -/
def lineL (l : List UInt8) : Nat := pre (fun c => decide (c.toNat ≠ 10)) l
/-! ### the tokens -/
end Go.Proofs.YthilicmhdkmipaaGreatDoor
/- Contracts of package lex, first part: bytes, and how many of them belong together. -/
namespace Go.Proofs.YthilicmhdkmipaaGreatDoor
open Go.RowKit
set_option linter.unusedVariables false

theorem smallB_iff (c : UInt8) : smallB c = true ↔ 97 ≤ c.toNat ∧ c.toNat ≤ 122 := by simp [smallB]
theorem greatB_iff (c : UInt8) : greatB c = true ↔ 65 ≤ c.toNat ∧ c.toNat ≤ 90 := by simp [greatB]
theorem smallB_no {c : UInt8} (h : c.toNat < 97 ∨ 122 < c.toNat) : smallB c = false := by simp only [smallB, decide_eq_false_iff_not]; omega
theorem greatB_no {c : UInt8} (h : c.toNat < 65 ∨ 90 < c.toNat) : greatB c = false := by simp only [greatB, decide_eq_false_iff_not]; omega

set_option maxHeartbeats 400000 in
theorem isSmall_calls (c : UInt8) (w : World) :
    Calls Tryz.prog 134 #[.int .u8 (c.toNat : Int)] w fun e w' => e = .returned (.bool (smallB c)) ∧ w = w' := by
  have hb := (c.toNat_lt : c.toNat < 256)
  generalize hx : (c.toNat : Int) = x
  rcases (show x < 97 ∨ (97 ≤ x ∧ x ≤ 122) ∨ 122 < x by omega) with h | ⟨h1, h2⟩ | h
  · rw [smallB_no (by omega)]; clear hx hb
    go_enter Tryz.func134, Tryz.ntmps134
    go_wp2; go_ret; exact ⟨rfl, rfl⟩
  · rw [(smallB_iff c).2 (by omega)]; clear hx hb
    go_enter Tryz.func134, Tryz.ntmps134
    go_wp2; go_ret; exact ⟨ret_bool (by simp), rfl⟩
  · rw [smallB_no (by omega)]; clear hx hb
    go_enter Tryz.func134, Tryz.ntmps134
    go_wp2; go_ret; exact ⟨ret_bool (by simp; omega), rfl⟩

set_option maxHeartbeats 400000 in
theorem isGreat_calls (c : UInt8) (w : World) :
    Calls Tryz.prog 135 #[.int .u8 (c.toNat : Int)] w fun e w' => e = .returned (.bool (greatB c)) ∧ w = w' := by
  have hb := (c.toNat_lt : c.toNat < 256)
  generalize hx : (c.toNat : Int) = x
  rcases (show x < 65 ∨ (65 ≤ x ∧ x ≤ 90) ∨ 90 < x by omega) with h | ⟨h1, h2⟩ | h
  · rw [greatB_no (by omega)]; clear hx hb
    go_enter Tryz.func135, Tryz.ntmps135
    go_wp2; go_ret; exact ⟨rfl, rfl⟩
  · rw [(greatB_iff c).2 (by omega)]; clear hx hb
    go_enter Tryz.func135, Tryz.ntmps135
    go_wp2; go_ret; exact ⟨ret_bool (by simp), rfl⟩
  · rw [greatB_no (by omega)]; clear hx hb
    go_enter Tryz.func135, Tryz.ntmps135
    go_wp2; go_ret; exact ⟨ret_bool (by simp; omega), rfl⟩

set_option maxHeartbeats 400000 in
theorem isDigit_calls (c : UInt8) (w : World) :
    Calls Tryz.prog 138 #[.int .u8 (c.toNat : Int)] w fun e w' => e = .returned (.bool (dgt c)) ∧ w = w' := by
  have hb := (c.toNat_lt : c.toNat < 256)
  generalize hx : (c.toNat : Int) = x
  rcases (show x < 48 ∨ (48 ≤ x ∧ x ≤ 57) ∨ 57 < x by omega) with h | ⟨h1, h2⟩ | h
  · rw [dgt_no (by omega)]; clear hx hb
    go_enter Tryz.func138, Tryz.ntmps138
    go_wp2; go_ret; exact ⟨rfl, rfl⟩
  · rw [(dgt_iff c).2 (by omega)]; clear hx hb
    go_enter Tryz.func138, Tryz.ntmps138
    go_wp2; go_ret; exact ⟨ret_bool (by simp), rfl⟩
  · rw [dgt_no (by omega)]; clear hx hb
    go_enter Tryz.func138, Tryz.ntmps138
    go_wp2; go_ret; exact ⟨ret_bool (by simp; omega), rfl⟩

theorem byte95 (c : UInt8) : ((c.toNat : Int) == 95) = decide (c.toNat = 95) := by
  rw [Bool.eq_iff_iff]; simp; omega

set_option maxHeartbeats 400000 in
theorem isNameByte_calls (c : UInt8) (w : World) :
    Calls Tryz.prog 137 #[.int .u8 (c.toNat : Int)] w fun e w' => e = .returned (.bool (nameB c)) ∧ w = w' := by
  have h1 := Lib.hid (fun w => isSmall_calls c w)
  have h2 := Lib.hid (fun w => isGreat_calls c w)
  have h3 := Lib.hid (fun w => isDigit_calls c w)
  have h4 := byte95 c
  unfold nameB
  generalize smallB c = b1 at *
  generalize greatB c = b2 at *
  generalize dgt c = b3 at *
  generalize decide (c.toNat = 95) = b4 at *
  generalize (c.toNat : Int) = x at *
  cases b1
  · cases b2
    · cases b3
      · go_enter Tryz.func137, Tryz.ntmps137
        go_wp2_with fail
        refine (h1.out _).mono ?_; rintro e w1 ⟨rfl, rfl⟩
        go_wp2_with fail
        refine (h2.out _).mono ?_; rintro e w1 ⟨rfl, rfl⟩
        go_wp2_with fail
        refine (h3.out _).mono ?_; rintro e w1 ⟨rfl, rfl⟩
        go_wp2; go_ret; exact ⟨ret_bool (by simp), rfl⟩
      · go_enter Tryz.func137, Tryz.ntmps137
        go_wp2_with fail
        refine (h1.out _).mono ?_; rintro e w1 ⟨rfl, rfl⟩
        go_wp2_with fail
        refine (h2.out _).mono ?_; rintro e w1 ⟨rfl, rfl⟩
        go_wp2_with fail
        refine (h3.out _).mono ?_; rintro e w1 ⟨rfl, rfl⟩
        go_wp2; go_ret; exact ⟨rfl, rfl⟩
    · go_enter Tryz.func137, Tryz.ntmps137
      go_wp2_with fail
      refine (h1.out _).mono ?_; rintro e w1 ⟨rfl, rfl⟩
      go_wp2_with fail
      refine (h2.out _).mono ?_; rintro e w1 ⟨rfl, rfl⟩
      go_wp2; go_ret; exact ⟨rfl, rfl⟩
  · go_enter Tryz.func137, Tryz.ntmps137
    go_wp2_with fail
    refine (h1.out _).mono ?_; rintro e w1 ⟨rfl, rfl⟩
    go_wp2; go_ret; exact ⟨rfl, rfl⟩

theorem take_pre {p : UInt8 → Bool} : ∀ {l : List UInt8} {k : Nat}, k ≤ l.length → (l.take k).all p = true → (∀ c, l[k]? = some c → p c = false) → pre p l = k
  | [], k, hk, _, _ => by simp at hk; subst hk; rfl
  | c :: r, 0, _, _, h => pre_cons_no (h c rfl)
  | c :: r, k + 1, hk, ha, h => by
    simp only [List.take_succ_cons, List.all_cons, Bool.and_eq_true] at ha
    rw [pre_cons_yes ha.1, take_pre (by simpa using hk) ha.2 (fun d hd => h d (by simpa using hd))]; omega
theorem all_snoc' {p : UInt8 → Bool} {s : ByteArray} {k : Nat} (h : k < s.size) (ha : (s.data.toList.take k).all p = true) (hd : p s[k] = true) : (s.data.toList.take (k + 1)).all p = true := by
  rw [take_snoc s k h, List.all_append, ha]; simp [hd]
theorem at_byte {s : ByteArray} {k : Nat} (h : k < s.size) : s.data.toList[k]? = some s[k] := by
  rw [List.getElem?_eq_getElem (by simpa using h)]; rfl
theorem ret_int {a b : Int} (h : a = b) : Ending.returned (.int .i64 a) = .returned (.int .i64 b) := by rw [h]

set_option maxHeartbeats 1000000 in
theorem countFront_calls (K : Nat) (p : UInt8 → Bool) (s : ByteArray) (hs : s.size ≤ maxLen)
    (hE : Hid (∀ args w, (callFunc K args).run Tryz.prog w = .ok (.enter K args) w))
    (hdo : Hid (∀ (c : UInt8) (w : World), Calls Tryz.prog K #[.int .u8 (c.toNat : Int)] w fun e w' => e = .returned (.bool (p c)) ∧ w = w')) (w : World) :
    Calls Tryz.prog 136 #[.string s, .func (.func K) #[] #[]] w fun e w' => e = .returned (.int .i64 (pre p s.data.toList)) ∧ w = w' := by
  unfold maxLen at hs
  have hE' := hE.out
  go_enter Tryz.func136, Tryz.ntmps136
  go_wp2
  go_loop [5] (fun i => ∃ k : Nat, k ≤ s.size ∧ i = .int .i64 k ∧ Hid ((s.data.toList.take k).all p = true)) (fun i => s.size - (intOf i).toNat)
  case atStart => exact ⟨0, Nat.zero_le _, rfl, Lib.hid (by simp)⟩
  case round =>
    obtain ⟨k, hk, rfl, ha⟩ := hrel
    by_cases hlt : k < s.size
    · have hd := fun w => hdo.out s[k] w
      cases hp : p s[k]
      · rw [hp] at hd
        have Hp := Lib.hid hp
        clear hp
        have Hd := Lib.hid hd
        clear hd
        go_wp2_with fail
        refine (Hd.out _).mono ?_; rintro e w1 ⟨rfl, rfl⟩
        go_wp2
        go_ret
        exact ⟨ret_int (by rw [take_pre (by simpa using hk) ha.out (fun c hc => by rw [at_byte hlt] at hc; cases hc; exact Hp.out)]), rfl⟩
      · rw [hp] at hd
        have Hp := Lib.hid hp
        clear hp
        have Hd := Lib.hid hd
        clear hd
        go_wp2_with fail
        refine (Hd.out _).mono ?_; rintro e w1 ⟨rfl, rfl⟩
        go_wp2
        go_round
        case rel => exact ⟨k + 1, by omega, by go_num, Lib.hid (all_snoc' hlt ha.out Hp.out)⟩
        case measure => simp [intOf]; omega
    · obtain rfl : k = s.size := by omega
      go_wp2
      go_ret
      exact ⟨ret_int (by rw [take_pre (by simp) ha.out (fun c hc => by simp at hc)]), rfl⟩

theorem countName_calls (s : ByteArray) (hs : s.size ≤ maxLen) (w : World) :
    Calls Tryz.prog 136 #[.string s, .func (.func 137) #[] #[]] w fun e w' => e = .returned (.int .i64 (pre nameB s.data.toList)) ∧ w = w' :=
  countFront_calls _ nameB s hs (Lib.hid (enters_of Tryz.func137 (by kernel_rfl) rfl)) (Lib.hid isNameByte_calls) w
end Go.Proofs.YthilicmhdkmipaaGreatDoor
/- The plain part beneath the document's own Parse (weftwayref01): digits behind a place. -/
namespace Go.Proofs.YthilicmhdkmipaaGreatDoor
open Go.RowKit
set_option linter.unusedVariables false

/-- what the digits from place a up to place k say -/
def upto (l : List UInt8) (a k : Nat) : Nat := dval ((l.take k).drop a)

end Go.Proofs.YthilicmhdkmipaaGreatDoor
/- What the document's own Parse (weftwayref01) comes to: what a text says, as Parse says it. -/
namespace Go.Proofs.YthilicmhdkmipaaGreatDoor
open Go.RowKit
set_option linter.unusedVariables false

end Go.Proofs.YthilicmhdkmipaaGreatDoor
