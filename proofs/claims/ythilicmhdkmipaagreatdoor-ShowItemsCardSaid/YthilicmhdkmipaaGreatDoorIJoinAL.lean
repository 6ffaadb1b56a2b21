/- The plain arithmetic beneath the walks of package num: a number as a side of 0 and a size; what fits 64 bits. -/
import Derived.WalkKit
import Derived.Test.YthilicmhdkmipaaGreatDoorChecked
import Derived.Outline
import Derived.Lib.Hide
import Derived.Laws.Externs
import Derived.BigQuiet
import Derived.Below
import Derived.Laws.World
import Derived.IntWalk
namespace Go.Proofs.YthilicmhdkmipaaGreatDoor
open Go.RowKit
set_option linter.unusedVariables false

/-- is it below 0? -/
def sgn (n : Int) : Bool := decide (n < 0)
/-- how far from 0 it is -/
def mag (n : Int) : Int := if n < 0 then -n else n
/-- the number of a side and a size -/
def sv (b : Bool) (x : Int) : Int := if b = true then -x else x
/-- a number, if it fits -/
def fitv (n : Int) : Int := if -9223372036854775808 ≤ n ∧ n ≤ 9223372036854775807 then n else 0
/-- the error beside it -/
def fite (n : Int) : Int := if -9223372036854775808 ≤ n ∧ n ≤ 9223372036854775807 then 0 else 10
/-- a number whose size fits 64 bits; the error beside it -/
def wdv (n : Int) : Int := if -18446744073709551616 < n ∧ n < 18446744073709551616 then n else 0
def wde (n : Int) : Int := if -18446744073709551616 < n ∧ n < 18446744073709551616 then 0 else 10

theorem sv_true (x : Int) : sv true x = -x := rfl
theorem sv_false (x : Int) : sv false x = x := rfl
theorem sgn_true {n : Int} (h : n < 0) : sgn n = true := by simp [sgn, h]
theorem sgn_false {n : Int} (h : 0 ≤ n) : sgn n = false := by simp [sgn]; omega
theorem mag_neg {n : Int} (h : n < 0) : mag n = -n := by unfold mag; rw [if_pos h]
theorem mag_pos {n : Int} (h : 0 ≤ n) : mag n = n := by unfold mag; rw [if_neg (by omega)]
/-- each size on each side is a number's -/
theorem sgn_sv (b : Bool) (x : Int) (h : 0 ≤ x) : sgn (sv b x) = (b && x != 0) := by
  cases b
  · rw [sv_false, sgn_false h]; rfl
  · by_cases e : x = 0
    · subst e; rfl
    · rw [sv_true, sgn_true (by omega)]; simp [e]
theorem mag_sv (b : Bool) (x : Int) (h : 0 ≤ x) : mag (sv b x) = x := by
  cases b
  · rw [sv_false, mag_pos h]
  · by_cases e : x = 0
    · subst e; rfl
    · rw [sv_true, mag_neg (by omega)]; omega
theorem fitv_in {n : Int} (h : -9223372036854775808 ≤ n) (k : n ≤ 9223372036854775807) : fitv n = n := by unfold fitv; rw [if_pos ⟨h, k⟩]
theorem fite_in {n : Int} (h : -9223372036854775808 ≤ n) (k : n ≤ 9223372036854775807) : fite n = 0 := by unfold fite; rw [if_pos ⟨h, k⟩]
theorem fitv_out {n : Int} (h : n < -9223372036854775808 ∨ 9223372036854775807 < n) : fitv n = 0 := by unfold fitv; rw [if_neg (by omega)]
theorem fite_out {n : Int} (h : n < -9223372036854775808 ∨ 9223372036854775807 < n) : fite n = 10 := by unfold fite; rw [if_neg (by omega)]

/-- the error by 0 -/
def zeroe (m : Int) : Int := if m = 0 then 11 else 0
/-- what is left, 0 by 0 -/
def remv (n m : Int) : Int := if m = 0 then 0 else n.tmod m
/-- the error beside a quotient -/
def dive (n m : Int) : Int := if m = 0 then 11 else fite (n.tdiv m)
theorem ret_two {k j : IntKind} {a b c d : Int} (h : a = b) (h' : c = d) : Ending.returned (.tuple #[.int k a, .int j c]) = .returned (.tuple #[.int k b, .int j d]) := by rw [h, h']
theorem ret_sd {a b : Bool} {x y : Int} (h : a = b) (h' : x = y) : Ending.returned (.agg #[.bool a, .int .u64 x]) = .returned (.agg #[.bool b, .int .u64 y]) := by rw [h, h']
end Go.Proofs.YthilicmhdkmipaaGreatDoor
/- Contracts of package num: what each function of it returns, whatever its arguments. -/
namespace Go.Proofs.YthilicmhdkmipaaGreatDoor
open Go.RowKit
set_option linter.unusedVariables false

set_option maxHeartbeats 400000 in
theorem side_calls (b : Bool) (x : Int) (h0 : 0 ≤ x) (h1 : x < 18446744073709551616) (w : World) :
    Calls Tryz.prog 196 #[.bool b, .int .u64 x] w fun e w' => e = .returned (.agg #[.bool (sgn (sv b x)), .int .u64 (mag (sv b x))]) ∧ Below w.heap.size w w' := by
  have e1 := Lib.hid (sgn_sv b x h0)
  have e2 := Lib.hid (mag_sv b x h0)
  cases b
  · go_enter Tryz.func196, Tryz.ntmps196
    go_wp2
    exact bodyPost_ret (v := .agg #[.bool false, .int .u64 x]) (by simp [results, Tryz.results196, go_sem]) rfl ⟨ret_sd (by rw [e1.out]; rfl) e2.out.symm, (Below.refl _ _).alloc (Nat.le_refl _) _⟩
  · go_enter Tryz.func196, Tryz.ntmps196
    go_wp2
    exact bodyPost_ret (v := .agg #[.bool (x != 0), .int .u64 x]) (by simp [results, Tryz.results196, go_sem]) rfl ⟨ret_sd (by rw [e1.out]; rfl) e2.out.symm, (Below.refl _ _).alloc (Nat.le_refl _) _⟩

set_option maxHeartbeats 400000 in
theorem number_pos (x : Int) (h0 : 0 ≤ x) (h1 : x < 9223372036854775808) (w : World) :
    Calls Tryz.prog 197 #[.agg #[.bool false, .int .u64 x]] w fun e w' => e = .returned (.tuple #[.int .i64 x, .int .i64 0]) ∧ Below w.heap.size w w' := by
  go_enter Tryz.func197, Tryz.ntmps197
  go_wp2
  go_ret2
  exact ⟨rfl, (Below.refl _ _).alloc (Nat.le_refl _) _⟩
set_option maxHeartbeats 400000 in
theorem number_neg (x : Int) (h0 : 0 ≤ x) (h1 : x < 9223372036854775808) (hq : (x == 9223372036854775808) = false) (w : World) :
    Calls Tryz.prog 197 #[.agg #[.bool true, .int .u64 x]] w fun e w' => e = .returned (.tuple #[.int .i64 (-x), .int .i64 0]) ∧ Below w.heap.size w w' := by
  go_enter Tryz.func197, Tryz.ntmps197
  go_wp2
  go_ret2
  exact ⟨rfl, (Below.refl _ _).alloc (Nat.le_refl _) _⟩
set_option maxHeartbeats 400000 in
theorem number_least (x : Int) (h0 : 0 ≤ x) (hq : (x == 9223372036854775808) = true) (w : World) :
    Calls Tryz.prog 197 #[.agg #[.bool true, .int .u64 x]] w fun e w' => e = .returned (.tuple #[.int .i64 (-9223372036854775808), .int .i64 0]) ∧ Below w.heap.size w w' := by
  go_enter Tryz.func197, Tryz.ntmps197
  go_wp2
  go_ret2
  exact ⟨rfl, (Below.refl _ _).alloc (Nat.le_refl _) _⟩
set_option maxHeartbeats 400000 in
theorem number_over (b : Bool) (x : Int) (h0 : 9223372036854775808 ≤ x) (hq : b = true → (x == 9223372036854775808) = false) (w : World) :
    Calls Tryz.prog 197 #[.agg #[.bool b, .int .u64 x]] w fun e w' => e = .returned (.tuple #[.int .i64 0, .int .i64 10]) ∧ Below w.heap.size w w' := by
  cases b
  · clear hq
    go_enter Tryz.func197, Tryz.ntmps197
    go_wp2
    go_ret2
    exact ⟨rfl, (Below.refl _ _).alloc (Nat.le_refl _) _⟩
  · replace hq := hq rfl
    go_enter Tryz.func197, Tryz.ntmps197
    go_wp2
    go_ret2
    exact ⟨rfl, (Below.refl _ _).alloc (Nat.le_refl _) _⟩

theorem number_calls (n : Int) (w : World) :
    Calls Tryz.prog 197 #[.agg #[.bool (sgn n), .int .u64 (mag n)]] w fun e w' => e = .returned (.tuple #[.int .i64 (fitv n), .int .i64 (fite n)]) ∧ Below w.heap.size w w' := by
  by_cases h : n < 0
  · rw [sgn_true h, mag_neg h]
    by_cases k : n = -9223372036854775808
    · subst k
      exact number_least _ (by omega) (by decide) w
    · by_cases l : n < -9223372036854775808
      · rw [fitv_out (Or.inl l), fite_out (Or.inl l)]
        exact number_over true (-n) (by omega) (fun _ => beq_eq_false_iff_ne.2 (by omega)) w
      · rw [fitv_in (by omega) (by omega), fite_in (by omega) (by omega)]
        have := number_neg (-n) (by omega) (by omega) (beq_eq_false_iff_ne.2 (by omega)) w
        rw [Int.neg_neg] at this
        exact this
  · rw [sgn_false (by omega), mag_pos (by omega)]
    by_cases l : n < 9223372036854775808
    · rw [fitv_in (by omega) (by omega), fite_in (by omega) (by omega)]
      exact number_pos n (by omega) l w
    · rw [fitv_out (by omega), fite_out (by omega)]
      exact number_over false n (by omega) (fun h => by cases h) w
end Go.Proofs.YthilicmhdkmipaaGreatDoor
/- The plain part beneath num.Parse: what digits say. -/
namespace Go.Proofs.YthilicmhdkmipaaGreatDoor
open Go.RowKit
set_option linter.unusedVariables false

/-- is a byte a digit? -/
def dgt (c : UInt8) : Bool := decide (48 ≤ c.toNat ∧ c.toNat ≤ 57)
/-- one or more digits? -/
def digs (l : List UInt8) : Bool := !l.isEmpty && l.all dgt
/-- what digits say -/
def dval (l : List UInt8) : Nat := l.foldl (fun n c => n * 10 + (c.toNat - 48)) 0

theorem take_snoc (s : ByteArray) (k : Nat) (h : k < s.size) : s.data.toList.take (k + 1) = s.data.toList.take k ++ [s[k]] := by
  rw [List.take_succ_eq_append_getElem (by simpa using h)]; rfl
theorem take_all (s : ByteArray) : s.data.toList.take s.size = s.data.toList := List.take_of_length_le (by simp)
theorem dval_snoc (l : List UInt8) (c : UInt8) : dval (l ++ [c]) = dval l * 10 + (c.toNat - 48) := by simp [dval, List.foldl_append]
theorem dval_nil : dval [] = 0 := rfl
theorem dgt_iff (c : UInt8) : dgt c = true ↔ 48 ≤ c.toNat ∧ c.toNat ≤ 57 := by simp [dgt]
theorem dgt_no {c : UInt8} (h : c.toNat < 48 ∨ 57 < c.toNat) : dgt c = false := by
  simp only [dgt, decide_eq_false_iff_not]; omega

theorem byte_mem (s : ByteArray) (k : Nat) (h : k < s.size) : s[k] ∈ s.data.toList := by
  have : s[k] = s.data[k]'h := rfl
  rw [this, Array.mem_toList_iff]
  exact Array.getElem_mem h
theorem digs_no (s : ByteArray) (k : Nat) (h : k < s.size) (hd : dgt s[k] = false) : digs s.data.toList = false := by
  unfold digs
  rw [Bool.and_eq_false_iff]
  right
  rw [List.all_eq_false]
  exact ⟨s[k], byte_mem s k h, by rw [hd]; simp⟩
theorem all_snoc {s : ByteArray} {k : Nat} (h : k < s.size) (ha : (s.data.toList.take k).all dgt = true) (hd : dgt s[k] = true) : (s.data.toList.take (k + 1)).all dgt = true := by
  rw [take_snoc s k h, List.all_append, ha]; simp [hd]
theorem digs_end {s : ByteArray} (ha : (s.data.toList.take s.size).all dgt = true) : digs s.data.toList = !s.data.toList.isEmpty := by
  rw [take_all] at ha; unfold digs; rw [ha, Bool.and_true]
theorem all_at {s : ByteArray} (h : digs s.data.toList = true) (k : Nat) (hk : k < s.size) : 48 ≤ s[k].toNat ∧ s[k].toNat ≤ 57 := by
  unfold digs at h
  rw [Bool.and_eq_true, List.all_eq_true] at h
  exact (dgt_iff _).1 (h.2 s[k] (byte_mem s k hk))
theorem dval_le_append (l r : List UInt8) : dval l ≤ dval (l ++ r) := by
  induction r generalizing l with
  | nil => simp
  | cons c r ih =>
    have := ih (l ++ [c])
    rw [dval_snoc, List.append_assoc] at this
    simp only [List.singleton_append] at this
    omega
theorem dval_prefix (l : List UInt8) (k : Nat) : dval (l.take k) ≤ dval l := by
  have := dval_le_append (l.take k) (l.drop k)
  rw [List.take_append_drop] at this
  exact this
/-- once the digits ahead of one say too much, all of them do -/
theorem dval_over (s : ByteArray) (k : Nat) (h : k < s.size) (ho : 922337203685477580 < dval (s.data.toList.take k)) : 9223372036854775809 < dval s.data.toList := by
  have h1 := dval_prefix s.data.toList (k + 1)
  rw [take_snoc s k h, dval_snoc] at h1
  omega
/-- the size that digits say, if a number may have it; the error beside it -/
def szv (l : List UInt8) : Int := if dval l ≤ 9223372036854775809 then (dval l : Int) else 0
def sze (l : List UInt8) : Int := if dval l ≤ 9223372036854775809 then 0 else 10
theorem szv_in {l : List UInt8} (h : dval l ≤ 9223372036854775809) : szv l = (dval l : Int) := by unfold szv; rw [if_pos h]
theorem sze_in {l : List UInt8} (h : dval l ≤ 9223372036854775809) : sze l = 0 := by unfold sze; rw [if_pos h]
theorem szv_out {l : List UInt8} (h : 9223372036854775809 < dval l) : szv l = 0 := by unfold szv; rw [if_neg (by omega)]
theorem sze_out {l : List UInt8} (h : 9223372036854775809 < dval l) : sze l = 10 := by unfold sze; rw [if_neg (by omega)]
theorem dval_step (s : ByteArray) (k : Nat) (h : k < s.size) (h48 : 48 ≤ s[k].toNat) : (dval (s.data.toList.take (k + 1)) : Int) = (dval (s.data.toList.take k) : Int) * 10 + ((s[k].toNat : Int) - 48) := by
  rw [take_snoc s k h, dval_snoc]; omega
theorem ret_bool {a b : Bool} (h : a = b) : Ending.returned (.bool a) = .returned (.bool b) := by rw [h]
end Go.Proofs.YthilicmhdkmipaaGreatDoor
/- A region that draws its order, reads old memory alone, and calls what makes memory: one walk in the order of the text, over all worlds that lie over the one it began in. -/
namespace Go.Proofs.YthilicmhdkmipaaGreatDoor
open Go.RowKit
set_option linter.unusedVariables false

/-- a world over W0: all that was there lies as it lay -/
structure Over (W0 : World) where
  w : World
  h : Below W0.heap.size W0 w
def Over.base (W0 : World) : Over W0 := ⟨W0, Below.refl _ _⟩
def Over.next {W0 : World} (n : Over W0) {w' : World} (b : Below n.w.heap.size n.w w') : Over W0 := ⟨w', n.h.trans (b.mono n.h.size)⟩
instance overSome (W0 : World) : Nonempty (Over W0) := ⟨Over.base W0⟩
theorem Over.cells {W0 : World} : ∀ (n : Over W0) (b o : Nat), b < W0.heap.size → n.w.cell? ⟨b, o, none⟩ = W0.cell? ⟨b, o, none⟩ := fun n b o h => n.h.cell (p := ⟨b, o, none⟩) h
theorem wp_region_over {P : Program} {id : Nat} {Q : Exit → Act → World → Prop} {a : Act} {w : World} {l : List Oper} (hm : P.follows .mixedOrders = true) (hB : Region.lexB .any l.toArray = true)
    (h : wpQuiet P l.toArray (fun w' => ∃ n : Over w, w' = n.w) (fun a' => ∀ w', (∃ n : Over w, w' = n.w) → Q .normal a' w') l a) : (Code.region id l.toArray true).wp P Q a w :=
  wp_region_quiet (C := fun w' => ∃ n : Over w, w' = n.w) hm hB ⟨⟨w.drew, (Below.refl _ w).drew⟩, rfl⟩ (by simpa using h)
theorem over_calls {P : Program} {W0 : World} {n : Over W0} {f : FuncId} {args : Array Value} {v : Value}
    (h : Calls P f args n.w fun e w' => e = .returned v ∧ Below n.w.heap.size n.w w') : Calls P f args n.w fun e w'' => e = .returned v ∧ ∃ m : Over W0, w'' = m.w :=
  h.mono fun e w ⟨he, b⟩ => ⟨he, n.next b, rfl⟩
end Go.Proofs.YthilicmhdkmipaaGreatDoor
/- More plain arithmetic: what a quotient may come to. -/
namespace Go.Proofs.YthilicmhdkmipaaGreatDoor

end Go.Proofs.YthilicmhdkmipaaGreatDoor
/- What the document's own answers of layer 1 (weftwayref01) come to. -/
namespace Go.Proofs.YthilicmhdkmipaaGreatDoor
open Go.RowKit
set_option linter.unusedVariables false


end Go.Proofs.YthilicmhdkmipaaGreatDoor
/- What the document's own Mul of layer 1 (weftwayref01) comes to. -/
namespace Go.Proofs.YthilicmhdkmipaaGreatDoor
open Go.RowKit
set_option linter.unusedVariables false

end Go.Proofs.YthilicmhdkmipaaGreatDoor
