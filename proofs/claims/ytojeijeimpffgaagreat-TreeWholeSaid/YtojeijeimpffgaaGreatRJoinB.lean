/- The plain arithmetic beneath the walks of package num: a number as a side of 0 and a size; what fits 64 bits. -/
import Derived.WalkKit
import Derived.Test.YtojeijeimpffgaaGreatChecked
import Derived.Outline
import Derived.Lib.Hide
import Derived.Laws.Externs
import Derived.Test.YtojeijeimpffgaaGreatShelf
import Derived.Lib.Bytealg
import Derived.Lib.Fields
import Derived.IntWalk
namespace Go.Proofs.YtojeijeimpffgaaGreat
open Go.RowKit
set_option linter.unusedVariables false

/-- is it below 0? -/
def sgn (n : Int) : Bool := decide (n < 0)
/-- how far from 0 it is -/
def mag (n : Int) : Int := if n < 0 then -n else n
/-- the number of a side and a size -/
def sv (b : Bool) (x : Int) : Int := if b = true then -x else x
/-- a number, if it fits -/
def fitv (n : Int) : Int := if -9223372036854775808 ≤ n ∧ n ≤ 9223372036854775807 then n else 0
/-- the error beside it -/
def fite (n : Int) : Int := if -9223372036854775808 ≤ n ∧ n ≤ 9223372036854775807 then 0 else 10
/-- a number whose size fits 64 bits; the error beside it -/
def wdv (n : Int) : Int := if -18446744073709551616 < n ∧ n < 18446744073709551616 then n else 0
def wde (n : Int) : Int := if -18446744073709551616 < n ∧ n < 18446744073709551616 then 0 else 10

theorem sv_true (x : Int) : sv true x = -x := rfl
theorem sv_false (x : Int) : sv false x = x := rfl
theorem sgn_true {n : Int} (h : n < 0) : sgn n = true := by simp [sgn, h]
theorem sgn_false {n : Int} (h : 0 ≤ n) : sgn n = false := by simp [sgn]; omega
theorem mag_neg {n : Int} (h : n < 0) : mag n = -n := by unfold mag; rw [if_pos h]
theorem mag_pos {n : Int} (h : 0 ≤ n) : mag n = n := by unfold mag; rw [if_neg (by omega)]
/-- each size on each side is a number's -/
theorem sgn_sv (b : Bool) (x : Int) (h : 0 ≤ x) : sgn (sv b x) = (b && x != 0) := by
  cases b
  · rw [sv_false, sgn_false h]; rfl
  · by_cases e : x = 0
    · subst e; rfl
    · rw [sv_true, sgn_true (by omega)]; simp [e]
theorem mag_sv (b : Bool) (x : Int) (h : 0 ≤ x) : mag (sv b x) = x := by
  cases b
  · rw [sv_false, mag_pos h]
  · by_cases e : x = 0
    · subst e; rfl
    · rw [sv_true, mag_neg (by omega)]; omega
theorem fitv_in {n : Int} (h : -9223372036854775808 ≤ n) (k : n ≤ 9223372036854775807) : fitv n = n := by unfold fitv; rw [if_pos ⟨h, k⟩]
theorem fite_in {n : Int} (h : -9223372036854775808 ≤ n) (k : n ≤ 9223372036854775807) : fite n = 0 := by unfold fite; rw [if_pos ⟨h, k⟩]
theorem fitv_out {n : Int} (h : n < -9223372036854775808 ∨ 9223372036854775807 < n) : fitv n = 0 := by unfold fitv; rw [if_neg (by omega)]
theorem fite_out {n : Int} (h : n < -9223372036854775808 ∨ 9223372036854775807 < n) : fite n = 10 := by unfold fite; rw [if_neg (by omega)]

/-- the error by 0 -/
def zeroe (m : Int) : Int := if m = 0 then 11 else 0
/-- what is left, 0 by 0 -/
def remv (n m : Int) : Int := if m = 0 then 0 else n.tmod m
/-- the error beside a quotient -/
def dive (n m : Int) : Int := if m = 0 then 11 else fite (n.tdiv m)
theorem ret_two {k j : IntKind} {a b c d : Int} (h : a = b) (h' : c = d) : Ending.returned (.tuple #[.int k a, .int j c]) = .returned (.tuple #[.int k b, .int j d]) := by rw [h, h']
theorem ret_sd {a b : Bool} {x y : Int} (h : a = b) (h' : x = y) : Ending.returned (.agg #[.bool a, .int .u64 x]) = .returned (.agg #[.bool b, .int .u64 y]) := by rw [h, h']
end Go.Proofs.YtojeijeimpffgaaGreat
/- More plain arithmetic: what a quotient may come to. -/
namespace Go.Proofs.YtojeijeimpffgaaGreat

end Go.Proofs.YtojeijeimpffgaaGreat
/- Contracts of package num: what each function of it returns, whatever its arguments. -/
namespace Go.Proofs.YtojeijeimpffgaaGreat
open Go.RowKit
set_option linter.unusedVariables false

set_option maxHeartbeats 400000 in
theorem side_calls (b : Bool) (x : Int) (h0 : 0 ≤ x) (h1 : x < 18446744073709551616) (w : World) :
    Calls Tryz.prog 127 #[.bool b, .int .u64 x] w fun e w' => e = .returned (.agg #[.bool (sgn (sv b x)), .int .u64 (mag (sv b x))]) ∧ Below w.heap.size w w' := by
  have e1 := Lib.hid (sgn_sv b x h0)
  have e2 := Lib.hid (mag_sv b x h0)
  cases b
  · go_enter Tryz.func127, Tryz.ntmps127
    go_wp2
    exact bodyPost_ret (v := .agg #[.bool false, .int .u64 x]) (by simp [results, Tryz.results127, go_sem]) rfl ⟨ret_sd (by rw [e1.out]; rfl) e2.out.symm, (Below.refl _ _).alloc (Nat.le_refl _) _⟩
  · go_enter Tryz.func127, Tryz.ntmps127
    go_wp2
    exact bodyPost_ret (v := .agg #[.bool (x != 0), .int .u64 x]) (by simp [results, Tryz.results127, go_sem]) rfl ⟨ret_sd (by rw [e1.out]; rfl) e2.out.symm, (Below.refl _ _).alloc (Nat.le_refl _) _⟩

set_option maxHeartbeats 400000 in
theorem number_pos (x : Int) (h0 : 0 ≤ x) (h1 : x < 9223372036854775808) (w : World) :
    Calls Tryz.prog 128 #[.agg #[.bool false, .int .u64 x]] w fun e w' => e = .returned (.tuple #[.int .i64 x, .int .i64 0]) ∧ Below w.heap.size w w' := by
  go_enter Tryz.func128, Tryz.ntmps128
  go_wp2
  go_ret2
  exact ⟨rfl, (Below.refl _ _).alloc (Nat.le_refl _) _⟩
set_option maxHeartbeats 400000 in
theorem number_neg (x : Int) (h0 : 0 ≤ x) (h1 : x < 9223372036854775808) (hq : (x == 9223372036854775808) = false) (w : World) :
    Calls Tryz.prog 128 #[.agg #[.bool true, .int .u64 x]] w fun e w' => e = .returned (.tuple #[.int .i64 (-x), .int .i64 0]) ∧ Below w.heap.size w w' := by
  go_enter Tryz.func128, Tryz.ntmps128
  go_wp2
  go_ret2
  exact ⟨rfl, (Below.refl _ _).alloc (Nat.le_refl _) _⟩
set_option maxHeartbeats 400000 in
theorem number_least (x : Int) (h0 : 0 ≤ x) (hq : (x == 9223372036854775808) = true) (w : World) :
    Calls Tryz.prog 128 #[.agg #[.bool true, .int .u64 x]] w fun e w' => e = .returned (.tuple #[.int .i64 (-9223372036854775808), .int .i64 0]) ∧ Below w.heap.size w w' := by
  go_enter Tryz.func128, Tryz.ntmps128
  go_wp2
  go_ret2
  exact ⟨rfl, (Below.refl _ _).alloc (Nat.le_refl _) _⟩
set_option maxHeartbeats 400000 in
theorem number_over (b : Bool) (x : Int) (h0 : 9223372036854775808 ≤ x) (hq : b = true → (x == 9223372036854775808) = false) (w : World) :
    Calls Tryz.prog 128 #[.agg #[.bool b, .int .u64 x]] w fun e w' => e = .returned (.tuple #[.int .i64 0, .int .i64 10]) ∧ Below w.heap.size w w' := by
  cases b
  · clear hq
    go_enter Tryz.func128, Tryz.ntmps128
    go_wp2
    go_ret2
    exact ⟨rfl, (Below.refl _ _).alloc (Nat.le_refl _) _⟩
  · replace hq := hq rfl
    go_enter Tryz.func128, Tryz.ntmps128
    go_wp2
    go_ret2
    exact ⟨rfl, (Below.refl _ _).alloc (Nat.le_refl _) _⟩

theorem number_calls (n : Int) (w : World) :
    Calls Tryz.prog 128 #[.agg #[.bool (sgn n), .int .u64 (mag n)]] w fun e w' => e = .returned (.tuple #[.int .i64 (fitv n), .int .i64 (fite n)]) ∧ Below w.heap.size w w' := by
  by_cases h : n < 0
  · rw [sgn_true h, mag_neg h]
    by_cases k : n = -9223372036854775808
    · subst k
      exact number_least _ (by omega) (by decide) w
    · by_cases l : n < -9223372036854775808
      · rw [fitv_out (Or.inl l), fite_out (Or.inl l)]
        exact number_over true (-n) (by omega) (fun _ => beq_eq_false_iff_ne.2 (by omega)) w
      · rw [fitv_in (by omega) (by omega), fite_in (by omega) (by omega)]
        have := number_neg (-n) (by omega) (by omega) (beq_eq_false_iff_ne.2 (by omega)) w
        rw [Int.neg_neg] at this
        exact this
  · rw [sgn_false (by omega), mag_pos (by omega)]
    by_cases l : n < 9223372036854775808
    · rw [fitv_in (by omega) (by omega), fite_in (by omega) (by omega)]
      exact number_pos n (by omega) l w
    · rw [fitv_out (by omega), fite_out (by omega)]
      exact number_over false n (by omega) (fun h => by cases h) w
end Go.Proofs.YtojeijeimpffgaaGreat
/- The plain part beneath num.Parse: what digits say. -/
namespace Go.Proofs.YtojeijeimpffgaaGreat
open Go.RowKit
set_option linter.unusedVariables false

/-- is a byte a digit? -/
def dgt (c : UInt8) : Bool := decide (48 ≤ c.toNat ∧ c.toNat ≤ 57)
/-- one or more digits? -/
def digs (l : List UInt8) : Bool := !l.isEmpty && l.all dgt
/-- what digits say -/
def dval (l : List UInt8) : Nat := l.foldl (fun n c => n * 10 + (c.toNat - 48)) 0

theorem take_snoc (s : ByteArray) (k : Nat) (h : k < s.size) : s.data.toList.take (k + 1) = s.data.toList.take k ++ [s[k]] := by
  rw [List.take_succ_eq_append_getElem (by simpa using h)]; rfl
theorem take_all (s : ByteArray) : s.data.toList.take s.size = s.data.toList := List.take_of_length_le (by simp)
theorem dval_snoc (l : List UInt8) (c : UInt8) : dval (l ++ [c]) = dval l * 10 + (c.toNat - 48) := by simp [dval, List.foldl_append]
theorem dval_nil : dval [] = 0 := rfl
theorem dgt_iff (c : UInt8) : dgt c = true ↔ 48 ≤ c.toNat ∧ c.toNat ≤ 57 := by simp [dgt]
theorem dgt_no {c : UInt8} (h : c.toNat < 48 ∨ 57 < c.toNat) : dgt c = false := by
  simp only [dgt, decide_eq_false_iff_not]; omega

theorem byte_mem (s : ByteArray) (k : Nat) (h : k < s.size) : s[k] ∈ s.data.toList := by
  have : s[k] = s.data[k]'h := rfl
  rw [this, Array.mem_toList_iff]
  exact Array.getElem_mem h
theorem digs_no (s : ByteArray) (k : Nat) (h : k < s.size) (hd : dgt s[k] = false) : digs s.data.toList = false := by
  unfold digs
  rw [Bool.and_eq_false_iff]
  right
  rw [List.all_eq_false]
  exact ⟨s[k], byte_mem s k h, by rw [hd]; simp⟩
theorem all_snoc {s : ByteArray} {k : Nat} (h : k < s.size) (ha : (s.data.toList.take k).all dgt = true) (hd : dgt s[k] = true) : (s.data.toList.take (k + 1)).all dgt = true := by
  rw [take_snoc s k h, List.all_append, ha]; simp [hd]
theorem digs_end {s : ByteArray} (ha : (s.data.toList.take s.size).all dgt = true) : digs s.data.toList = !s.data.toList.isEmpty := by
  rw [take_all] at ha; unfold digs; rw [ha, Bool.and_true]
theorem all_at {s : ByteArray} (h : digs s.data.toList = true) (k : Nat) (hk : k < s.size) : 48 ≤ s[k].toNat ∧ s[k].toNat ≤ 57 := by
  unfold digs at h
  rw [Bool.and_eq_true, List.all_eq_true] at h
  exact (dgt_iff _).1 (h.2 s[k] (byte_mem s k hk))
theorem dval_le_append (l r : List UInt8) : dval l ≤ dval (l ++ r) := by
  induction r generalizing l with
  | nil => simp
  | cons c r ih =>
    have := ih (l ++ [c])
    rw [dval_snoc, List.append_assoc] at this
    simp only [List.singleton_append] at this
    omega
theorem dval_prefix (l : List UInt8) (k : Nat) : dval (l.take k) ≤ dval l := by
  have := dval_le_append (l.take k) (l.drop k)
  rw [List.take_append_drop] at this
  exact this
/-- once the digits ahead of one say too much, all of them do -/
theorem dval_over (s : ByteArray) (k : Nat) (h : k < s.size) (ho : 922337203685477580 < dval (s.data.toList.take k)) : 9223372036854775809 < dval s.data.toList := by
  have h1 := dval_prefix s.data.toList (k + 1)
  rw [take_snoc s k h, dval_snoc] at h1
  omega
/-- the size that digits say, if a number may have it; the error beside it -/
def szv (l : List UInt8) : Int := if dval l ≤ 9223372036854775809 then (dval l : Int) else 0
def sze (l : List UInt8) : Int := if dval l ≤ 9223372036854775809 then 0 else 10
theorem szv_in {l : List UInt8} (h : dval l ≤ 9223372036854775809) : szv l = (dval l : Int) := by unfold szv; rw [if_pos h]
theorem sze_in {l : List UInt8} (h : dval l ≤ 9223372036854775809) : sze l = 0 := by unfold sze; rw [if_pos h]
theorem szv_out {l : List UInt8} (h : 9223372036854775809 < dval l) : szv l = 0 := by unfold szv; rw [if_neg (by omega)]
theorem sze_out {l : List UInt8} (h : 9223372036854775809 < dval l) : sze l = 10 := by unfold sze; rw [if_neg (by omega)]
theorem dval_step (s : ByteArray) (k : Nat) (h : k < s.size) (h48 : 48 ≤ s[k].toNat) : (dval (s.data.toList.take (k + 1)) : Int) = (dval (s.data.toList.take k) : Int) * 10 + ((s[k].toNat : Int) - 48) := by
  rw [take_snoc s k h, dval_snoc]; omega
theorem ret_bool {a b : Bool} (h : a = b) : Ending.returned (.bool a) = .returned (.bool b) := by rw [h]
end Go.Proofs.YtojeijeimpffgaaGreat
/- Contracts of package num, fifth part: Parse and what it calls. -/
namespace Go.Proofs.YtojeijeimpffgaaGreat
open Go.RowKit
set_option linter.unusedVariables false

set_option maxHeartbeats 400000 in
theorem allDigits_calls (s : ByteArray) (hs : s.size ≤ maxLen) (w : World) :
    Calls Tryz.prog 125 #[.string s] w fun e w' => e = .returned (.bool (digs s.data.toList)) ∧ w = w' := by
  unfold maxLen at hs
  go_enter Tryz.func125, Tryz.ntmps125
  go_wp2
  go_loop [6] (fun i => ∃ k : Nat, k ≤ s.size ∧ i = .int .i64 k ∧ Hid ((s.data.toList.take k).all dgt = true)) (fun i => s.size - (intOf i).toNat)
  case atStart => exact ⟨0, Nat.zero_le _, rfl, Lib.hid (by simp)⟩
  case round =>
    obtain ⟨k, hk, rfl, ha⟩ := hrel
    by_cases hlt : k < s.size
    · by_cases hd : dgt s[k] = true
      · obtain ⟨d1, d2⟩ := (dgt_iff _).1 hd
        have Hd := Lib.hid hd
        clear hd
        have e1 : (48 : Int) ≤ (s[k].toNat : Int) := by omega
        have e2 : (s[k].toNat : Int) ≤ 57 := by omega
        go_wp2
        go_round
        case rel => exact ⟨k + 1, by omega, by go_num, Lib.hid (all_snoc hlt ha.out Hd.out)⟩
        case measure => simp [intOf]; omega
      · have hd' : dgt s[k] = false := by simpa using hd
        have Hn := Lib.hid (digs_no s k hlt hd')
        have hcase : s[k].toNat < 48 ∨ 57 < s[k].toNat := by
          have h := mt (dgt_iff s[k]).2 hd
          omega
        clear hd hd'
        rcases hcase with hcase | hcase
        · have e1 : (s[k].toNat : Int) < 48 := by omega
          go_wp2
          go_ret
          exact ⟨ret_bool Hn.out.symm, rfl⟩
        · have e1 : (57 : Int) < (s[k].toNat : Int) := by omega
          go_wp2
          go_ret
          exact ⟨ret_bool Hn.out.symm, rfl⟩
    · obtain rfl : k = s.size := by omega
      go_wp2
      go_ret
      exact ⟨ret_bool (by rw [digs_end ha.out, ByteArray.toList_eq]), rfl⟩

set_option maxHeartbeats 400000 in
theorem sizeOf_calls (s : ByteArray) (hs : s.size ≤ maxLen) (hd : Hid (digs s.data.toList = true)) (w : World) :
    Calls Tryz.prog 126 #[.string s] w fun e w' => e = .returned (.tuple #[.int .u64 (szv s.data.toList), .int .i64 (sze s.data.toList)]) ∧ w = w' := by
  unfold maxLen at hs
  go_enter Tryz.func126, Tryz.ntmps126
  go_wp2
  go_loop [4, 8] (fun n i => ∃ k : Nat, k ≤ s.size ∧ i = .int .i64 k ∧ n = .int .u64 (dval (s.data.toList.take k)) ∧ dval (s.data.toList.take k) ≤ 9223372036854775809) (fun _ i => s.size - (intOf i).toNat)
  case atStart => exact ⟨0, Nat.zero_le _, rfl, rfl, by simp [dval_nil]⟩
  case round =>
    obtain ⟨k, hk, rfl, rfl, hb⟩ := hrel
    by_cases hlt : k < s.size
    · obtain ⟨d1, d2⟩ := all_at hd.out k hlt
      have hst := Lib.hid (dval_step s k hlt d1)
      have hov := Lib.hid (dval_over s k hlt)
      generalize hn : dval (s.data.toList.take k) = n at *
      clear hn
      have e1 : (48 : Int) ≤ (s[k].toNat : Int) := by omega
      have e2 : (s[k].toNat : Int) ≤ 57 := by omega
      by_cases ho : 922337203685477580 < n
      · have Ho := Lib.hid (hov.out ho)
        have eo : (922337203685477580 : Int) < (n : Int) := by omega
        go_wp2
        go_ret2
        exact ⟨ret_two (szv_out Ho.out).symm (sze_out Ho.out).symm, rfl⟩
      · have eo : (n : Int) ≤ 922337203685477580 := by omega
        go_wp2
        go_round
        case rel => exact ⟨k + 1, by omega, by go_num, by rw [hst.out], by have := hst.out; omega⟩
        case measure => simp [intOf]; omega
    · obtain rfl : k = s.size := by omega
      rw [take_all] at hb
      have Hb := Lib.hid hb
      rw [take_all]
      go_wp2
      go_ret2
      exact ⟨ret_two (szv_in Hb.out).symm (sze_in Hb.out).symm, rfl⟩

/-- a text without the sign in front; whether it has one -/
def cutm (l : List UInt8) : List UInt8 := Lib.trimPrefix l [45]
def isM (l : List UInt8) : Bool := Lib.hasPrefix l [45]

set_option maxHeartbeats 400000 in
theorem parse_none (s t : ByteArray) (m : Bool) (hs : t.size ≤ maxLen) (hd : Hid ((⟨(cutm s.data.toList).toArray⟩ : ByteArray) = t)) (hm : Hid (isM s.data.toList = m)) (hn : Hid (digs t.data.toList = false)) (w : World) :
    Calls Tryz.prog 122 #[.string s] w fun e w' => e = .returned (.tuple #[.int .i64 0, .int .i64 2]) ∧ Below w.heap.size w w' := by
  go_enter Tryz.func122, Tryz.ntmps122
  go_wp2_with fail
  refine (Tryz.strings_CutPrefix s ⟨#[45]⟩ _).mono ?_
  rw [show (⟨(Lib.trimPrefix s.data.toList (⟨#[45]⟩ : ByteArray).data.toList).toArray⟩ : ByteArray) = t from hd.out, show Lib.hasPrefix s.data.toList (⟨#[45]⟩ : ByteArray).data.toList = m from hm.out]
  rintro e w1 ⟨rfl, rfl⟩
  go_wp2_with fail
  refine (allDigits_calls t hs _).mono ?_
  rw [hn.out]
  rintro e w2 ⟨rfl, rfl⟩
  go_wp2
  go_ret2
  exact ⟨rfl, Below.refl _ _⟩

set_option maxHeartbeats 400000 in
theorem parse_nought (s t : ByteArray) (hs : t.size ≤ maxLen) (hd : Hid ((⟨(cutm s.data.toList).toArray⟩ : ByteArray) = t)) (hm : Hid (isM s.data.toList = true)) (hn : Hid (digs t.data.toList = true)) (h0 : 0 < t.size) (hc : ((t[0].toNat : Int) == 48) = true) (w : World) :
    Calls Tryz.prog 122 #[.string s] w fun e w' => e = .returned (.tuple #[.int .i64 0, .int .i64 2]) ∧ Below w.heap.size w w' := by
  go_enter Tryz.func122, Tryz.ntmps122
  go_wp2_with fail
  refine (Tryz.strings_CutPrefix s ⟨#[45]⟩ _).mono ?_
  rw [show (⟨(Lib.trimPrefix s.data.toList (⟨#[45]⟩ : ByteArray).data.toList).toArray⟩ : ByteArray) = t from hd.out, show Lib.hasPrefix s.data.toList (⟨#[45]⟩ : ByteArray).data.toList = true from hm.out]
  rintro e w1 ⟨rfl, rfl⟩
  go_wp2_with fail
  refine (allDigits_calls t hs _).mono ?_
  rw [hn.out]
  rintro e w2 ⟨rfl, rfl⟩
  go_wp2
  go_ret2
  exact ⟨rfl, Below.refl _ _⟩

set_option maxHeartbeats 400000 in
theorem parse_over_m (s t : ByteArray) (hs : t.size ≤ maxLen) (hd : Hid ((⟨(cutm s.data.toList).toArray⟩ : ByteArray) = t)) (hm : Hid (isM s.data.toList = true)) (hn : Hid (digs t.data.toList = true)) (h0 : 0 < t.size) (hc : ((t[0].toNat : Int) == 48) = false) (ho : Hid (9223372036854775809 < dval t.data.toList)) (w : World) :
    Calls Tryz.prog 122 #[.string s] w fun e w' => e = .returned (.tuple #[.int .i64 0, .int .i64 10]) ∧ Below w.heap.size w w' := by
  go_enter Tryz.func122, Tryz.ntmps122
  go_wp2_with fail
  refine (Tryz.strings_CutPrefix s ⟨#[45]⟩ _).mono ?_
  rw [show (⟨(Lib.trimPrefix s.data.toList (⟨#[45]⟩ : ByteArray).data.toList).toArray⟩ : ByteArray) = t from hd.out, show Lib.hasPrefix s.data.toList (⟨#[45]⟩ : ByteArray).data.toList = true from hm.out]
  rintro e w1 ⟨rfl, rfl⟩
  go_wp2_with fail
  refine (allDigits_calls t hs _).mono ?_
  rw [hn.out]
  rintro e w2 ⟨rfl, rfl⟩
  go_wp2_with fail
  refine (sizeOf_calls t hs hn _).mono ?_
  rw [szv_out ho.out, sze_out ho.out]
  rintro e w3 ⟨rfl, rfl⟩
  go_wp2
  go_ret2
  exact ⟨rfl, Below.refl _ _⟩

set_option maxHeartbeats 400000 in
theorem parse_over_p (s t : ByteArray) (hs : t.size ≤ maxLen) (hd : Hid ((⟨(cutm s.data.toList).toArray⟩ : ByteArray) = t)) (hm : Hid (isM s.data.toList = false)) (hn : Hid (digs t.data.toList = true)) (ho : Hid (9223372036854775809 < dval t.data.toList)) (w : World) :
    Calls Tryz.prog 122 #[.string s] w fun e w' => e = .returned (.tuple #[.int .i64 0, .int .i64 10]) ∧ Below w.heap.size w w' := by
  go_enter Tryz.func122, Tryz.ntmps122
  go_wp2_with fail
  refine (Tryz.strings_CutPrefix s ⟨#[45]⟩ _).mono ?_
  rw [show (⟨(Lib.trimPrefix s.data.toList (⟨#[45]⟩ : ByteArray).data.toList).toArray⟩ : ByteArray) = t from hd.out, show Lib.hasPrefix s.data.toList (⟨#[45]⟩ : ByteArray).data.toList = false from hm.out]
  rintro e w1 ⟨rfl, rfl⟩
  go_wp2_with fail
  refine (allDigits_calls t hs _).mono ?_
  rw [hn.out]
  rintro e w2 ⟨rfl, rfl⟩
  go_wp2_with fail
  refine (sizeOf_calls t hs hn _).mono ?_
  rw [szv_out ho.out, sze_out ho.out]
  rintro e w3 ⟨rfl, rfl⟩
  go_wp2
  go_ret2
  exact ⟨rfl, Below.refl _ _⟩

set_option maxHeartbeats 400000 in
theorem parse_in_m (s t : ByteArray) (hs : t.size ≤ maxLen) (hd : Hid ((⟨(cutm s.data.toList).toArray⟩ : ByteArray) = t)) (hm : Hid (isM s.data.toList = true)) (hn : Hid (digs t.data.toList = true)) (h0 : 0 < t.size) (hc : ((t[0].toNat : Int) == 48) = false) (ho : Hid (dval t.data.toList ≤ 9223372036854775809)) (w : World) :
    Calls Tryz.prog 122 #[.string s] w fun e w' => e = .returned (.tuple #[.int .i64 (fitv (sv true (dval t.data.toList))), .int .i64 (fite (sv true (dval t.data.toList)))]) ∧ Below w.heap.size w w' := by
  go_enter Tryz.func122, Tryz.ntmps122
  go_wp2_with fail
  refine (Tryz.strings_CutPrefix s ⟨#[45]⟩ _).mono ?_
  rw [show (⟨(Lib.trimPrefix s.data.toList (⟨#[45]⟩ : ByteArray).data.toList).toArray⟩ : ByteArray) = t from hd.out, show Lib.hasPrefix s.data.toList (⟨#[45]⟩ : ByteArray).data.toList = true from hm.out]
  rintro e w1 ⟨rfl, rfl⟩
  go_wp2_with fail
  refine (allDigits_calls t hs _).mono ?_
  rw [hn.out]
  rintro e w2 ⟨rfl, rfl⟩
  go_wp2_with fail
  refine (sizeOf_calls t hs hn _).mono ?_
  rw [szv_in ho.out, sze_in ho.out]
  rintro e w3 ⟨rfl, rfl⟩
  have hx : (0 : Int) ≤ (dval t.data.toList : Int) := by omega
  have hy : (dval t.data.toList : Int) < 18446744073709551616 := by have := ho.out; omega
  go_wp2_with fail
  refine (side_calls true _ hx hy _).mono ?_
  rintro e w4 ⟨rfl, b4⟩
  go_wp2_with fail
  refine (number_calls _ _).mono ?_
  rintro e w5 ⟨rfl, b5⟩
  go_wp2
  go_ret2
  exact ⟨rfl, b4.trans (b5.mono b4.size)⟩

set_option maxHeartbeats 400000 in
theorem parse_in_p (s t : ByteArray) (hs : t.size ≤ maxLen) (hd : Hid ((⟨(cutm s.data.toList).toArray⟩ : ByteArray) = t)) (hm : Hid (isM s.data.toList = false)) (hn : Hid (digs t.data.toList = true)) (ho : Hid (dval t.data.toList ≤ 9223372036854775809)) (w : World) :
    Calls Tryz.prog 122 #[.string s] w fun e w' => e = .returned (.tuple #[.int .i64 (fitv (sv false (dval t.data.toList))), .int .i64 (fite (sv false (dval t.data.toList)))]) ∧ Below w.heap.size w w' := by
  go_enter Tryz.func122, Tryz.ntmps122
  go_wp2_with fail
  refine (Tryz.strings_CutPrefix s ⟨#[45]⟩ _).mono ?_
  rw [show (⟨(Lib.trimPrefix s.data.toList (⟨#[45]⟩ : ByteArray).data.toList).toArray⟩ : ByteArray) = t from hd.out, show Lib.hasPrefix s.data.toList (⟨#[45]⟩ : ByteArray).data.toList = false from hm.out]
  rintro e w1 ⟨rfl, rfl⟩
  go_wp2_with fail
  refine (allDigits_calls t hs _).mono ?_
  rw [hn.out]
  rintro e w2 ⟨rfl, rfl⟩
  go_wp2_with fail
  refine (sizeOf_calls t hs hn _).mono ?_
  rw [szv_in ho.out, sze_in ho.out]
  rintro e w3 ⟨rfl, rfl⟩
  have hx : (0 : Int) ≤ (dval t.data.toList : Int) := by omega
  have hy : (dval t.data.toList : Int) < 18446744073709551616 := by have := ho.out; omega
  go_wp2_with fail
  refine (side_calls false _ hx hy _).mono ?_
  rintro e w4 ⟨rfl, b4⟩
  go_wp2_with fail
  refine (number_calls _ _).mono ?_
  rintro e w5 ⟨rfl, b5⟩
  go_wp2
  go_ret2
  exact ⟨rfl, b4.trans (b5.mono b4.size)⟩

end Go.Proofs.YtojeijeimpffgaaGreat
/- Contracts of package num, sixth part: Parse whole; the law's own says. -/
namespace Go.Proofs.YtojeijeimpffgaaGreat
open Go.RowKit
set_option linter.unusedVariables false

/-- is a text a numeral? what it says -/
def okNum (l : List UInt8) : Bool := digs (cutm l) && !(isM l && decide ((cutm l).head? = some 48))
def numOf (l : List UInt8) : Int := sv (isM l) (dval (cutm l))
def pv (l : List UInt8) : Int := if okNum l = true then fitv (numOf l) else 0
def pe (l : List UInt8) : Int := if okNum l = true then fite (numOf l) else 2

theorem cutm_len (l : List UInt8) : (cutm l).length ≤ l.length := by
  unfold cutm Lib.trimPrefix; split <;> simp
theorem head_zero {t : ByteArray} (h : 0 < t.size) : t.data.toList.head? = some t[0] := by
  obtain ⟨⟨l⟩⟩ := t
  cases l with
  | nil => exact absurd h (by decide)
  | cons c r => rfl
theorem digs_ne {t : ByteArray} (h : digs t.data.toList = true) : 0 < t.size := by
  obtain ⟨⟨l⟩⟩ := t
  cases l with
  | nil => exact absurd h (by decide)
  | cons c r => show 0 < r.length + 1; omega
theorem byte48 (c : UInt8) : ((c.toNat : Int) == 48) = decide (c = 48) := by
  rw [Bool.eq_iff_iff]; simp
  constructor
  · intro h; exact UInt8.toNat_inj.1 (by show c.toNat = 48; omega)
  · intro h; subst h; rfl

theorem parse_calls (s : ByteArray) (hs : s.size ≤ maxLen) (w : World) :
    Calls Tryz.prog 122 #[.string s] w fun e w' => e = .returned (.tuple #[.int .i64 (pv s.data.toList), .int .i64 (pe s.data.toList)]) ∧ Below w.heap.size w w' := by
  have hl : (⟨(cutm s.data.toList).toArray⟩ : ByteArray).size ≤ maxLen := Nat.le_trans (cutm_len s.data.toList) (by simpa using hs)
  obtain ⟨t, ht⟩ : ∃ t : ByteArray, (⟨(cutm s.data.toList).toArray⟩ : ByteArray) = t := ⟨_, rfl⟩
  have hc : cutm s.data.toList = t.data.toList := by rw [← ht]
  rw [ht] at hl
  have hd := Lib.hid ht
  unfold pv pe okNum numOf
  rw [hc]
  cases hn : digs t.data.toList
  · exact parse_none s t _ hl hd (Lib.hid rfl) (Lib.hid hn) w
  · have h0 := digs_ne hn
    rw [head_zero h0]
    cases hm : isM s.data.toList
    · simp only [Bool.false_and, Bool.not_false, Bool.and_self, if_true]
      by_cases ho : dval t.data.toList ≤ 9223372036854775809
      · exact parse_in_p s t hl hd (Lib.hid hm) (Lib.hid hn) (Lib.hid ho) w
      · rw [sv_false, fitv_out (by omega), fite_out (by omega)]
        exact parse_over_p s t hl hd (Lib.hid hm) (Lib.hid hn) (Lib.hid (by omega)) w
    · by_cases h48 : t[0] = 48
      · have e : ((t[0].toNat : Int) == 48) = true := by rw [byte48]; simp [h48]
        simp only [h48, decide_true, Bool.true_and, Bool.not_true, Bool.and_false, Bool.false_eq_true, if_false]
        exact parse_nought s t hl hd (Lib.hid hm) (Lib.hid hn) h0 e w
      · have e : ((t[0].toNat : Int) == 48) = false := by rw [byte48]; simp [h48]
        simp only [Option.some.injEq, h48, decide_false, Bool.and_false, Bool.not_false, Bool.and_self, if_true]
        by_cases ho : dval t.data.toList ≤ 9223372036854775809
        · exact parse_in_m s t hl hd (Lib.hid hm) (Lib.hid hn) h0 e (Lib.hid ho) w
        · rw [sv_true, fitv_out (by omega), fite_out (by omega)]
          exact parse_over_m s t hl hd (Lib.hid hm) (Lib.hid hn) h0 e (Lib.hid (by omega)) w

end Go.Proofs.YtojeijeimpffgaaGreat
/- The plain part beneath layer 2: what a text's tokens are, over its bytes. -/
namespace Go.Proofs.YtojeijeimpffgaaGreat
open Go.RowKit
set_option linter.unusedVariables false

def smallB (c : UInt8) : Bool := decide (97 ≤ c.toNat ∧ c.toNat ≤ 122)
def greatB (c : UInt8) : Bool := decide (65 ≤ c.toNat ∧ c.toNat ≤ 90)
def nameB (c : UInt8) : Bool := smallB c || greatB c || dgt c || decide (c.toNat = 95)
def blankB (c : UInt8) : Bool := decide (c.toNat = 32 ∨ c.toNat = 9 ∨ c.toNat = 10 ∨ c.toNat = 13)
/-- the words, as the chapter lists them -/
def wordsL : List (List UInt8) := [
  [108, 101, 116], [105, 102], [101, 108, 115, 101], [119, 104, 105, 108, 101], [109, 97, 116, 99, 104], [115, 99, 111, 112, 101],
  [115, 112, 97, 119, 110], [108, 111, 99, 107], [97, 115], [99, 104, 97, 110], [100, 114, 111, 112], [102, 110],
  [115, 116, 114, 117, 99, 116], [101, 110, 117, 109], [116, 114, 117, 101], [102, 97, 108, 115, 101], [97, 110, 100], [111, 114],
  [110, 111, 116], [105, 110, 116], [98, 111, 111, 108], [117, 110, 105, 116], [109, 117, 116], [98, 111, 120],
  [117, 110, 98, 111, 120], [99, 101, 108, 108], [103, 101, 116], [115, 101, 116], [114, 99], [97, 114, 99],
  [99, 108, 111, 110, 101], [109, 117, 116, 101, 120], [111, 112, 101, 110], [97, 116, 111, 109, 105, 99], [108, 111, 97, 100], [115, 116, 111, 114, 101],
  [102, 101, 116, 99, 104], [115, 101, 110, 100], [114, 101, 99, 118], [66, 111, 120], [67, 101, 108, 108], [82, 99],
  [65, 114, 99], [77, 117, 116, 101, 120], [65, 116, 111, 109, 105, 99], [83, 101, 110, 100, 101, 114], [82, 101, 99, 101, 105, 118, 101, 114]]
/-- the signs of one byte -/
def shortL : List UInt8 := [40, 41, 123, 125, 60, 62, 44, 59, 58, 61, 38, 42, 46, 43, 45, 47, 37]
def headB (p : UInt8 → Bool) : List UInt8 → Bool
  | [] => false
  | c :: _ => p c
def likeL (l : List UInt8) : Bool := decide (l.length ≤ 16) && l.all nameB
def oneL : List UInt8 → Bool
  | [c] => shortL.contains c
  | _ => false
def signL (l : List UInt8) : Bool := l == [61, 61] || l == [61, 62] || l == [45, 62] || oneL l
/-- of which kind of token the whole of a text is: 0, if it is none -/
def kindL (l : List UInt8) : Nat :=
  if l = [] then 0 else if wordsL.contains l = true then 1
  else if (headB smallB l && likeL l) = true then 2 else if (headB greatB l && likeL l) = true then 3
  else if (headB dgt l && decide (pe l = 0)) = true then 4 else if signL l = true then 5 else 0
def pre (p : UInt8 → Bool) (l : List UInt8) : Nat := (l.takeWhile p).length
/-- how many bytes at the beginning of a text belong together -/
def togL (l : List UInt8) : Nat :=
  if (headB smallB l || headB greatB l) = true then pre nameB l else if headB dgt l = true then pre dgt l
  else if (decide (1 < l.length) && signL (l.take 2)) = true then 2 else 1
/-- how many bytes of blanks and remarks stand at the beginning of a text; whether one is in a remark there -/
def gapF : Bool → List UInt8 → Nat
  | _, [] => 0
  | true, c :: r => 1 + gapF (decide (c.toNat ≠ 10)) r
  | false, c :: r => if blankB c = true then 1 + gapF false r else if c.toNat = 47 ∧ headB (fun d => decide (d.toNat = 47)) r = true then 1 + gapF true r else 0
abbrev Tok := Nat × List UInt8 × Nat
/-- the tokens of a text, and where it is none: at most n of them -/
def lexF : Nat → List UInt8 → Nat → List Tok × Option Nat
  | 0, _, _ => ([], none)
  | n + 1, l, p =>
    if l.drop (gapF false l) = [] then ([], none)
    else if kindL ((l.drop (gapF false l)).take (togL (l.drop (gapF false l)))) = 0 then ([], some (p + gapF false l))
    else ((kindL ((l.drop (gapF false l)).take (togL (l.drop (gapF false l)))), (l.drop (gapF false l)).take (togL (l.drop (gapF false l))), p + gapF false l) ::
        (lexF n ((l.drop (gapF false l)).drop (togL (l.drop (gapF false l)))) (p + gapF false l + togL (l.drop (gapF false l)))).1,
      (lexF n ((l.drop (gapF false l)).drop (togL (l.drop (gapF false l)))) (p + gapF false l + togL (l.drop (gapF false l)))).2)
def lexL (l : List UInt8) (p : Nat) : List Tok × Option Nat := lexF l.length l p

/-! ### what belongs together -/
theorem pre_le (p : UInt8 → Bool) (l : List UInt8) : pre p l ≤ l.length := List.IsPrefix.length_le (List.takeWhile_prefix p)
theorem pre_cons_yes {p : UInt8 → Bool} {c : UInt8} {r : List UInt8} (h : p c = true) : pre p (c :: r) = 1 + pre p r := by
  unfold pre; rw [List.takeWhile_cons, if_pos h, List.length_cons]; omega
theorem pre_cons_no {p : UInt8 → Bool} {c : UInt8} {r : List UInt8} (h : p c = false) : pre p (c :: r) = 0 := by
  unfold pre; rw [List.takeWhile_cons, if_neg (by rw [h]; simp)]; rfl
/-! ### what stands between -/
/-- the end of a line -/
def lineL (l : List UInt8) : Nat := pre (fun c => decide (c.toNat ≠ 10)) l
/-! ### the tokens -/
end Go.Proofs.YtojeijeimpffgaaGreat
/- What the document's own answers of layer 1 (weftwayref01) come to. -/
namespace Go.Proofs.YtojeijeimpffgaaGreat
open Go.RowKit
set_option linter.unusedVariables false


end Go.Proofs.YtojeijeimpffgaaGreat
/- What the document's own Mul of layer 1 (weftwayref01) comes to. -/
namespace Go.Proofs.YtojeijeimpffgaaGreat
open Go.RowKit
set_option linter.unusedVariables false

end Go.Proofs.YtojeijeimpffgaaGreat
/- The plain part beneath the document's own Parse (weftwayref01): digits behind a place. -/
namespace Go.Proofs.YtojeijeimpffgaaGreat
open Go.RowKit
set_option linter.unusedVariables false

/-- what the digits from place a up to place k say -/
def upto (l : List UInt8) (a k : Nat) : Nat := dval ((l.take k).drop a)

end Go.Proofs.YtojeijeimpffgaaGreat
/- What the document's own Parse (weftwayref01) comes to: what a text says, as Parse says it. -/
namespace Go.Proofs.YtojeijeimpffgaaGreat
open Go.RowKit
set_option linter.unusedVariables false

end Go.Proofs.YtojeijeimpffgaaGreat
