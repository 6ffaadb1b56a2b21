/- The plain arithmetic beneath the walks of package num: a number as a side of 0 and a size; what fits 64 bits. -/
import Derived.WalkKit
import Derived.Test.YthilicmhdkmipaaGreatDoorChecked
import Derived.Outline
import Derived.Lib.Hide
import Derived.Laws.Externs
import Derived.BigQuiet
import Derived.Below
import Derived.Laws.World
import Derived.Test.YthilicmhdkmipaaGreatDoorWTreeMath
import Derived.Lib.ItoaMem
namespace Go.Proofs.YthilicmhdkmipaaGreatDoor
open Go.RowKit
set_option linter.unusedVariables false

/-- is it below 0? -/
def sgn (n : Int) : Bool := decide (n < 0)
/-- how far from 0 it is -/
def mag (n : Int) : Int := if n < 0 then -n else n
/-- the number of a side and a size -/
def sv (b : Bool) (x : Int) : Int := if b = true then -x else x
/-- a number, if it fits -/
def fitv (n : Int) : Int := if -9223372036854775808 ≤ n ∧ n ≤ 9223372036854775807 then n else 0
/-- the error beside it -/
def fite (n : Int) : Int := if -9223372036854775808 ≤ n ∧ n ≤ 9223372036854775807 then 0 else 10
/-- a number whose size fits 64 bits; the error beside it -/
def wdv (n : Int) : Int := if -18446744073709551616 < n ∧ n < 18446744073709551616 then n else 0
def wde (n : Int) : Int := if -18446744073709551616 < n ∧ n < 18446744073709551616 then 0 else 10

theorem sv_true (x : Int) : sv true x = -x := rfl
theorem sv_false (x : Int) : sv false x = x := rfl
theorem sgn_true {n : Int} (h : n < 0) : sgn n = true := by simp [sgn, h]
theorem sgn_false {n : Int} (h : 0 ≤ n) : sgn n = false := by simp [sgn]; omega
theorem mag_neg {n : Int} (h : n < 0) : mag n = -n := by unfold mag; rw [if_pos h]
theorem mag_pos {n : Int} (h : 0 ≤ n) : mag n = n := by unfold mag; rw [if_neg (by omega)]
/-- each size on each side is a number's -/
theorem sgn_sv (b : Bool) (x : Int) (h : 0 ≤ x) : sgn (sv b x) = (b && x != 0) := by
  cases b
  · rw [sv_false, sgn_false h]; rfl
  · by_cases e : x = 0
    · subst e; rfl
    · rw [sv_true, sgn_true (by omega)]; simp [e]
theorem mag_sv (b : Bool) (x : Int) (h : 0 ≤ x) : mag (sv b x) = x := by
  cases b
  · rw [sv_false, mag_pos h]
  · by_cases e : x = 0
    · subst e; rfl
    · rw [sv_true, mag_neg (by omega)]; omega
theorem fitv_in {n : Int} (h : -9223372036854775808 ≤ n) (k : n ≤ 9223372036854775807) : fitv n = n := by unfold fitv; rw [if_pos ⟨h, k⟩]
theorem fite_in {n : Int} (h : -9223372036854775808 ≤ n) (k : n ≤ 9223372036854775807) : fite n = 0 := by unfold fite; rw [if_pos ⟨h, k⟩]
theorem fitv_out {n : Int} (h : n < -9223372036854775808 ∨ 9223372036854775807 < n) : fitv n = 0 := by unfold fitv; rw [if_neg (by omega)]
theorem fite_out {n : Int} (h : n < -9223372036854775808 ∨ 9223372036854775807 < n) : fite n = 10 := by unfold fite; rw [if_neg (by omega)]

/-- the error by 0 -/
def zeroe (m : Int) : Int := if m = 0 then 11 else 0
/-- what is left, 0 by 0 -/
def remv (n m : Int) : Int := if m = 0 then 0 else n.tmod m
/-- the error beside a quotient -/
def dive (n m : Int) : Int := if m = 0 then 11 else fite (n.tdiv m)
theorem ret_two {k j : IntKind} {a b c d : Int} (h : a = b) (h' : c = d) : Ending.returned (.tuple #[.int k a, .int j c]) = .returned (.tuple #[.int k b, .int j d]) := by rw [h, h']
theorem ret_sd {a b : Bool} {x y : Int} (h : a = b) (h' : x = y) : Ending.returned (.agg #[.bool a, .int .u64 x]) = .returned (.agg #[.bool b, .int .u64 y]) := by rw [h, h']
end Go.Proofs.YthilicmhdkmipaaGreatDoor
/- Contracts of package num: what each function of it returns, whatever its arguments. -/
namespace Go.Proofs.YthilicmhdkmipaaGreatDoor
open Go.RowKit
set_option linter.unusedVariables false

set_option maxHeartbeats 400000 in
theorem side_calls (b : Bool) (x : Int) (h0 : 0 ≤ x) (h1 : x < 18446744073709551616) (w : World) :
    Calls Tryz.prog 196 #[.bool b, .int .u64 x] w fun e w' => e = .returned (.agg #[.bool (sgn (sv b x)), .int .u64 (mag (sv b x))]) ∧ Below w.heap.size w w' := by
  have e1 := Lib.hid (sgn_sv b x h0)
  have e2 := Lib.hid (mag_sv b x h0)
  cases b
  · go_enter Tryz.func196, Tryz.ntmps196
    go_wp2
    exact bodyPost_ret (v := .agg #[.bool false, .int .u64 x]) (by simp [results, Tryz.results196, go_sem]) rfl ⟨ret_sd (by rw [e1.out]; rfl) e2.out.symm, (Below.refl _ _).alloc (Nat.le_refl _) _⟩
  · go_enter Tryz.func196, Tryz.ntmps196
    go_wp2
    exact bodyPost_ret (v := .agg #[.bool (x != 0), .int .u64 x]) (by simp [results, Tryz.results196, go_sem]) rfl ⟨ret_sd (by rw [e1.out]; rfl) e2.out.symm, (Below.refl _ _).alloc (Nat.le_refl _) _⟩

set_option maxHeartbeats 400000 in
theorem number_pos (x : Int) (h0 : 0 ≤ x) (h1 : x < 9223372036854775808) (w : World) :
    Calls Tryz.prog 197 #[.agg #[.bool false, .int .u64 x]] w fun e w' => e = .returned (.tuple #[.int .i64 x, .int .i64 0]) ∧ Below w.heap.size w w' := by
  go_enter Tryz.func197, Tryz.ntmps197
  go_wp2
  go_ret2
  exact ⟨rfl, (Below.refl _ _).alloc (Nat.le_refl _) _⟩
set_option maxHeartbeats 400000 in
theorem number_neg (x : Int) (h0 : 0 ≤ x) (h1 : x < 9223372036854775808) (hq : (x == 9223372036854775808) = false) (w : World) :
    Calls Tryz.prog 197 #[.agg #[.bool true, .int .u64 x]] w fun e w' => e = .returned (.tuple #[.int .i64 (-x), .int .i64 0]) ∧ Below w.heap.size w w' := by
  go_enter Tryz.func197, Tryz.ntmps197
  go_wp2
  go_ret2
  exact ⟨rfl, (Below.refl _ _).alloc (Nat.le_refl _) _⟩
set_option maxHeartbeats 400000 in
theorem number_least (x : Int) (h0 : 0 ≤ x) (hq : (x == 9223372036854775808) = true) (w : World) :
    Calls Tryz.prog 197 #[.agg #[.bool true, .int .u64 x]] w fun e w' => e = .returned (.tuple #[.int .i64 (-9223372036854775808), .int .i64 0]) ∧ Below w.heap.size w w' := by
  go_enter Tryz.func197, Tryz.ntmps197
  go_wp2
  go_ret2
  exact ⟨rfl, (Below.refl _ _).alloc (Nat.le_refl _) _⟩
set_option maxHeartbeats 400000 in
theorem number_over (b : Bool) (x : Int) (h0 : 9223372036854775808 ≤ x) (hq : b = true → (x == 9223372036854775808) = false) (w : World) :
    Calls Tryz.prog 197 #[.agg #[.bool b, .int .u64 x]] w fun e w' => e = .returned (.tuple #[.int .i64 0, .int .i64 10]) ∧ Below w.heap.size w w' := by
  cases b
  · clear hq
    go_enter Tryz.func197, Tryz.ntmps197
    go_wp2
    go_ret2
    exact ⟨rfl, (Below.refl _ _).alloc (Nat.le_refl _) _⟩
  · replace hq := hq rfl
    go_enter Tryz.func197, Tryz.ntmps197
    go_wp2
    go_ret2
    exact ⟨rfl, (Below.refl _ _).alloc (Nat.le_refl _) _⟩

theorem number_calls (n : Int) (w : World) :
    Calls Tryz.prog 197 #[.agg #[.bool (sgn n), .int .u64 (mag n)]] w fun e w' => e = .returned (.tuple #[.int .i64 (fitv n), .int .i64 (fite n)]) ∧ Below w.heap.size w w' := by
  by_cases h : n < 0
  · rw [sgn_true h, mag_neg h]
    by_cases k : n = -9223372036854775808
    · subst k
      exact number_least _ (by omega) (by decide) w
    · by_cases l : n < -9223372036854775808
      · rw [fitv_out (Or.inl l), fite_out (Or.inl l)]
        exact number_over true (-n) (by omega) (fun _ => beq_eq_false_iff_ne.2 (by omega)) w
      · rw [fitv_in (by omega) (by omega), fite_in (by omega) (by omega)]
        have := number_neg (-n) (by omega) (by omega) (beq_eq_false_iff_ne.2 (by omega)) w
        rw [Int.neg_neg] at this
        exact this
  · rw [sgn_false (by omega), mag_pos (by omega)]
    by_cases l : n < 9223372036854775808
    · rw [fitv_in (by omega) (by omega), fite_in (by omega) (by omega)]
      exact number_pos n (by omega) l w
    · rw [fitv_out (by omega), fite_out (by omega)]
      exact number_over false n (by omega) (fun h => by cases h) w
end Go.Proofs.YthilicmhdkmipaaGreatDoor
/- The plain part beneath num.Parse: what digits say. -/
namespace Go.Proofs.YthilicmhdkmipaaGreatDoor
open Go.RowKit
set_option linter.unusedVariables false

/-- is a byte a digit? -/
def dgt (c : UInt8) : Bool := decide (48 ≤ c.toNat ∧ c.toNat ≤ 57)
/-- one or more digits? -/
def digs (l : List UInt8) : Bool := !l.isEmpty && l.all dgt
/-- what digits say -/
def dval (l : List UInt8) : Nat := l.foldl (fun n c => n * 10 + (c.toNat - 48)) 0

theorem take_snoc (s : ByteArray) (k : Nat) (h : k < s.size) : s.data.toList.take (k + 1) = s.data.toList.take k ++ [s[k]] := by
  rw [List.take_succ_eq_append_getElem (by simpa using h)]; rfl
theorem take_all (s : ByteArray) : s.data.toList.take s.size = s.data.toList := List.take_of_length_le (by simp)
theorem dval_snoc (l : List UInt8) (c : UInt8) : dval (l ++ [c]) = dval l * 10 + (c.toNat - 48) := by simp [dval, List.foldl_append]
theorem dval_nil : dval [] = 0 := rfl
theorem dgt_iff (c : UInt8) : dgt c = true ↔ 48 ≤ c.toNat ∧ c.toNat ≤ 57 := by simp [dgt]
theorem dgt_no {c : UInt8} (h : c.toNat < 48 ∨ 57 < c.toNat) : dgt c = false := by
  simp only [dgt, decide_eq_false_iff_not]; omega

theorem byte_mem (s : ByteArray) (k : Nat) (h : k < s.size) : s[k] ∈ s.data.toList := by
  have : s[k] = s.data[k]'h := rfl
  rw [this, Array.mem_toList_iff]
  exact Array.getElem_mem h
theorem digs_no (s : ByteArray) (k : Nat) (h : k < s.size) (hd : dgt s[k] = false) : digs s.data.toList = false := by
  unfold digs
  rw [Bool.and_eq_false_iff]
  right
  rw [List.all_eq_false]
  exact ⟨s[k], byte_mem s k h, by rw [hd]; simp⟩
theorem all_snoc {s : ByteArray} {k : Nat} (h : k < s.size) (ha : (s.data.toList.take k).all dgt = true) (hd : dgt s[k] = true) : (s.data.toList.take (k + 1)).all dgt = true := by
  rw [take_snoc s k h, List.all_append, ha]; simp [hd]
theorem digs_end {s : ByteArray} (ha : (s.data.toList.take s.size).all dgt = true) : digs s.data.toList = !s.data.toList.isEmpty := by
  rw [take_all] at ha; unfold digs; rw [ha, Bool.and_true]
theorem all_at {s : ByteArray} (h : digs s.data.toList = true) (k : Nat) (hk : k < s.size) : 48 ≤ s[k].toNat ∧ s[k].toNat ≤ 57 := by
  unfold digs at h
  rw [Bool.and_eq_true, List.all_eq_true] at h
  exact (dgt_iff _).1 (h.2 s[k] (byte_mem s k hk))
theorem dval_le_append (l r : List UInt8) : dval l ≤ dval (l ++ r) := by
  induction r generalizing l with
  | nil => simp
  | cons c r ih =>
    have := ih (l ++ [c])
    rw [dval_snoc, List.append_assoc] at this
    simp only [List.singleton_append] at this
    omega
theorem dval_prefix (l : List UInt8) (k : Nat) : dval (l.take k) ≤ dval l := by
  have := dval_le_append (l.take k) (l.drop k)
  rw [List.take_append_drop] at this
  exact this
/-- once the digits ahead of one say too much, all of them do -/
theorem dval_over (s : ByteArray) (k : Nat) (h : k < s.size) (ho : 922337203685477580 < dval (s.data.toList.take k)) : 9223372036854775809 < dval s.data.toList := by
  have h1 := dval_prefix s.data.toList (k + 1)
  rw [take_snoc s k h, dval_snoc] at h1
  omega
/-- the size that digits say, if a number may have it; the error beside it -/
def szv (l : List UInt8) : Int := if dval l ≤ 9223372036854775809 then (dval l : Int) else 0
def sze (l : List UInt8) : Int := if dval l ≤ 9223372036854775809 then 0 else 10
theorem szv_in {l : List UInt8} (h : dval l ≤ 9223372036854775809) : szv l = (dval l : Int) := by unfold szv; rw [if_pos h]
theorem sze_in {l : List UInt8} (h : dval l ≤ 9223372036854775809) : sze l = 0 := by unfold sze; rw [if_pos h]
theorem szv_out {l : List UInt8} (h : 9223372036854775809 < dval l) : szv l = 0 := by unfold szv; rw [if_neg (by omega)]
theorem sze_out {l : List UInt8} (h : 9223372036854775809 < dval l) : sze l = 10 := by unfold sze; rw [if_neg (by omega)]
theorem dval_step (s : ByteArray) (k : Nat) (h : k < s.size) (h48 : 48 ≤ s[k].toNat) : (dval (s.data.toList.take (k + 1)) : Int) = (dval (s.data.toList.take k) : Int) * 10 + ((s[k].toNat : Int) - 48) := by
  rw [take_snoc s k h, dval_snoc]; omega
theorem ret_bool {a b : Bool} (h : a = b) : Ending.returned (.bool a) = .returned (.bool b) := by rw [h]
end Go.Proofs.YthilicmhdkmipaaGreatDoor
/- A region that draws its order, reads old memory alone, and calls what makes memory: one walk in the order of the text, over all worlds that lie over the one it began in. -/
namespace Go.Proofs.YthilicmhdkmipaaGreatDoor
open Go.RowKit
set_option linter.unusedVariables false

/-- a world over W0: all that was there lies as it lay -/
structure Over (W0 : World) where
  w : World
  h : Below W0.heap.size W0 w
def Over.base (W0 : World) : Over W0 := ⟨W0, Below.refl _ _⟩
def Over.next {W0 : World} (n : Over W0) {w' : World} (b : Below n.w.heap.size n.w w') : Over W0 := ⟨w', n.h.trans (b.mono n.h.size)⟩
instance overSome (W0 : World) : Nonempty (Over W0) := ⟨Over.base W0⟩
theorem Over.cells {W0 : World} : ∀ (n : Over W0) (b o : Nat), b < W0.heap.size → n.w.cell? ⟨b, o, none⟩ = W0.cell? ⟨b, o, none⟩ := fun n b o h => n.h.cell (p := ⟨b, o, none⟩) h
theorem wp_region_over {P : Program} {id : Nat} {Q : Exit → Act → World → Prop} {a : Act} {w : World} {l : List Oper} (hm : P.follows .mixedOrders = true) (hB : Region.lexB .any l.toArray = true)
    (h : wpQuiet P l.toArray (fun w' => ∃ n : Over w, w' = n.w) (fun a' => ∀ w', (∃ n : Over w, w' = n.w) → Q .normal a' w') l a) : (Code.region id l.toArray true).wp P Q a w :=
  wp_region_quiet (C := fun w' => ∃ n : Over w, w' = n.w) hm hB ⟨⟨w.drew, (Below.refl _ w).drew⟩, rfl⟩ (by simpa using h)
theorem over_calls {P : Program} {W0 : World} {n : Over W0} {f : FuncId} {args : Array Value} {v : Value}
    (h : Calls P f args n.w fun e w' => e = .returned v ∧ Below n.w.heap.size n.w w') : Calls P f args n.w fun e w'' => e = .returned v ∧ ∃ m : Over W0, w'' = m.w :=
  h.mono fun e w ⟨he, b⟩ => ⟨he, n.next b, rfl⟩
end Go.Proofs.YthilicmhdkmipaaGreatDoor
/- More plain arithmetic: what a quotient may come to. -/
namespace Go.Proofs.YthilicmhdkmipaaGreatDoor

end Go.Proofs.YthilicmhdkmipaaGreatDoor
/- The plain part beneath the laws of layer 3: how much room a tree takes; and worlds in which one block alone was written. -/
namespace Go.Proofs.YthilicmhdkmipaaGreatDoor
open Go.RowKit
set_option linter.unusedVariables false

def nameR (m : Int) (n : Nat) : Int := if m < 5 ∨ m - 5 < (n : Int) then -1 else m - 5 - n
def listR {α : Type} (f : α → Int → Int) : List α → Int → Int
  | [], m => m
  | x :: l, m => if m < 0 then m else listR f l (f x m)
def namesR (l : List ByteArray) (m : Int) : Int := listR (fun s m => nameR m s.size) l (m - 5)
mutual
def typeR : PT → Int → Int
  | .mk _ n ts, m => typesR ts (nameR m n.size)
def typesR : List PT → Int → Int
  | [], m => m
  | t :: l, m => if m < 0 then m else typesR l (typeR t m)
end
def placeR (x : PP) (m : Int) : Int := namesR x.path (nameR m x.name.size)
mutual
def exprR : PE → Int → Int
  | .mk _ _ n s p ts _, m => exprsR ts (placeR p (nameR (nameR m n.size) s.size))
def exprsR : List PE → Int → Int
  | [], m => m
  | t :: l, m => if m < 0 then m else exprsR l (exprR t m)
end
mutual
def stmtR : PS → Int → Int
  | .mk _ n s ns t _ p es bo el ar _, m => armsR ar (stmtsR el (stmtsR bo (exprsR es (placeR p (typeR t (namesR ns (nameR (nameR m n.size) s.size)))))))
def armR : PA → Int → Int
  | .mk v n bo, m => stmtsR bo (nameR (nameR m v.size) n.size)
def stmtsR : List PS → Int → Int
  | [], m => m
  | t :: l, m => if m < 0 then m else stmtsR l (stmtR t m)
def armsR : List PA → Int → Int
  | [], m => m
  | t :: l, m => if m < 0 then m else armsR l (armR t m)
end
def fieldR (f : PF) (m : Int) : Int := typeR f.type (nameR m f.name.size)
def fieldsR (l : List PF) (m : Int) : Int := listR fieldR l m
def itemR (x : PI) (m : Int) : Int := exprR x.ret (stmtsR x.body (typeR x.result (fieldsR x.fields (nameR m x.name.size))))
def progR (p : List PI) (m : Int) : Int := listR itemR p m
theorem typesR_list : ∀ l m, typesR l m = listR typeR l m
  | [], _ => by rw [typesR, listR]
  | t :: l, m => by rw [typesR, listR, typesR_list]
theorem exprsR_list : ∀ l m, exprsR l m = listR exprR l m
  | [], _ => by rw [exprsR, listR]
  | t :: l, m => by rw [exprsR, listR, exprsR_list]
theorem listR_neg {α : Type} {f : α → Int → Int} : ∀ {l : List α} {m : Int}, m < 0 → listR f l m = m
  | [], _, _ => rfl
  | _ :: _, _, h => by rw [listR, if_pos h]
theorem listR_cons {α : Type} {f : α → Int → Int} {x : α} {l : List α} {m : Int} (h : 0 ≤ m) : listR f (x :: l) m = listR f l (f x m) := by
  rw [listR, if_neg (by omega)]

/-! ### what is left stays within bounds -/
/-- what a number may be that says how much room is left -/
def RB (m : Int) : Prop := -6 ≤ m ∧ m ≤ 20000
theorem nameR_b {m : Int} (h : RB m) (n : Nat) : -1 ≤ nameR m n ∧ nameR m n ≤ 20000 := by
  obtain ⟨h1, h2⟩ := h
  unfold nameR
  split <;> constructor <;> omega
theorem nameR_rb {m : Int} (h : RB m) (n : Nat) : RB (nameR m n) := ⟨by have := nameR_b h n; omega, (nameR_b h n).2⟩
theorem listR_rb {α : Type} {f : α → Int → Int} : ∀ {l : List α} {m : Int}, (∀ x ∈ l, ∀ m, RB m → RB (f x m)) → RB m → RB (listR f l m)
  | [], _, _, h => h
  | x :: l, m, H, h => by
    rw [listR]
    split
    · exact h
    · exact listR_rb (fun y hy => H y (List.mem_cons_of_mem _ hy)) (H x (List.mem_cons_self ..) m h)
theorem namesR_rb {l : List ByteArray} {m : Int} (h1 : -1 ≤ m) (h2 : m ≤ 20000) : RB (namesR l m) := listR_rb (fun x _ m h => nameR_rb h _) ⟨by omega, by omega⟩
theorem placeR_rb (x : PP) {m : Int} (h : RB m) : RB (placeR x m) := namesR_rb (nameR_b h _).1 (nameR_b h _).2
mutual
theorem typeR_rb : ∀ (t : PT) (m : Int), RB m → RB (typeR t m)
  | .mk _ n ts, m, h => by rw [typeR]; exact typesR_rb ts _ (nameR_rb h _)
theorem typesR_rb : ∀ (l : List PT) (m : Int), RB m → RB (typesR l m)
  | [], m, h => by rw [typesR]; exact h
  | t :: l, m, h => by
    rw [typesR]
    split
    · exact h
    · exact typesR_rb l _ (typeR_rb t m h)
end
mutual
theorem exprR_rb : ∀ (t : PE) (m : Int), RB m → RB (exprR t m)
  | .mk _ _ n s p ts _, m, h => by rw [exprR]; exact exprsR_rb ts _ (placeR_rb p (nameR_rb (nameR_rb h _) _))
theorem exprsR_rb : ∀ (l : List PE) (m : Int), RB m → RB (exprsR l m)
  | [], m, h => by rw [exprsR]; exact h
  | t :: l, m, h => by
    rw [exprsR]
    split
    · exact h
    · exact exprsR_rb l _ (exprR_rb t m h)
end
/-! ### one block alone was written -/
structure But (R : Nat) (w w' : World) : Prop where
  os : w'.os = w.os
  tape : w'.tape = w.tape
  output : w'.output = w.output
  size : w.heap.size ≤ w'.heap.size
  block : ∀ k, k < w.heap.size → k ≠ R → w'.heap[k]? = w.heap[k]?
theorem But.refl (R : Nat) (w : World) : But R w w := ⟨rfl, rfl, rfl, Nat.le_refl _, fun _ _ _ => rfl⟩
theorem But.trans {R : Nat} {a b c : World} (h : But R a b) (k : But R b c) : But R a c :=
  ⟨k.os.trans h.os, k.tape.trans h.tape, k.output.trans h.output, Nat.le_trans h.size k.size, fun j hj hn => (k.block j (Nat.lt_of_lt_of_le hj h.size) hn).trans (h.block j hj hn)⟩
theorem But.of {R : Nat} {w w' : World} (h : Below w.heap.size w w') : But R w w' := ⟨h.os, h.tape, h.output, h.size, fun k hk _ => h.block k hk⟩
theorem But.alloc {R : Nat} (w : World) (o : Obj) : But R w (w.alloc o) := .of ((Below.refl _ w).alloc (Nat.le_refl _) o)
theorem But.set {R : Nat} (w : World) (v : Value) : But R w (w.setCell ⟨R, 0, none⟩ v) :=
  have h := (Below.refl 0 w).setCell (p := ⟨R, 0, none⟩) (Nat.zero_le _) v
  ⟨h.os, h.tape, h.output, h.size, fun k hk hn => Below.heap_setCell w ⟨R, 0, none⟩ v k hn⟩
theorem But.below {R B : Nat} {w w' : World} (h : But R w w') (hR : B ≤ R) (hB : B ≤ w.heap.size) : Below B w w' :=
  ⟨h.os, h.tape, h.output, h.size, fun k hk => h.block k (Nat.lt_of_lt_of_le hk hB) (by omega)⟩
theorem But.cell {R : Nat} {w w' : World} (h : But R w w') : ∀ b o, b < w.heap.size → b ≠ R → w'.cell? ⟨b, o, none⟩ = w.cell? ⟨b, o, none⟩ :=
  fun b o hb hn => World.cell?_of_block (w := w) (a := ⟨b, o, none⟩) (h.block b hb hn)
/-- block R has the number of how much room is left -/
def RoomAt (B R : Nat) (w : World) (m : Int) : Prop := B ≤ R ∧ R < w.heap.size ∧ w.cell? ⟨R, 0, none⟩ = some (.int .i64 m) ∧ w.frozen? ⟨R, 0, none⟩ = false
theorem RoomAt.below {B R : Nat} {w w' : World} {m : Int} (h : RoomAt B R w m) (k : Below w.heap.size w w') : RoomAt B R w' m :=
  ⟨h.1, Nat.lt_of_lt_of_le h.2.1 k.size, (k.cell (p := ⟨R, 0, none⟩) h.2.1).trans h.2.2.1, (k.frozen (p := ⟨R, 0, none⟩) h.2.1).trans h.2.2.2⟩
theorem RoomAt.set {B R : Nat} {w : World} {m : Int} (h : RoomAt B R w m) (m' : Int) : RoomAt B R (w.setCell ⟨R, 0, none⟩ (.int .i64 m')) m' := by
  obtain ⟨h1, h2, h3, h4⟩ := h
  exact ⟨h1, Nat.lt_of_lt_of_le h2 (But.set (R := R) w _).size, World.cell?_setCell_same _ _ _ h3, by rw [World.frozen?_setCell]; exact h4⟩
theorem nameR_no {m : Int} {n : Nat} (h : m < 5 ∨ m - 5 < (n : Int)) : nameR m n = -1 := by unfold nameR; rw [if_pos h]
theorem nameR_yes {m : Int} {n : Nat} (h1 : 5 ≤ m) (h2 : (n : Int) ≤ m - 5) : nameR m n = m - 5 - n := by unfold nameR; rw [if_neg (by omega)]
theorem drop_at {α : Type} {l : List α} {k : Nat} {a : α} (h : l[k]? = some a) : l.drop k = a :: l.drop (k + 1) := by
  obtain ⟨hk, rfl⟩ := List.getElem?_eq_some_iff.1 h
  exact List.drop_eq_getElem_cons hk
end Go.Proofs.YthilicmhdkmipaaGreatDoor
/- The plain part of layer 4: the tokens of trees, and the text of a row of tokens. -/
namespace Go.Proofs.YthilicmhdkmipaaGreatDoor
open Go.RowKit
set_option linter.unusedVariables false

abbrev TkB := List UInt8
/-- what a row of tokens leaves behind a text: g stands ahead of the first one, a blank ahead of each other one -/
def puts (g : TkB) : List TkB → TkB
  | [] => []
  | t :: l => g ++ t ++ puts [32] l
/-- what stands ahead of the next one -/
def gapA (g : TkB) : List TkB → TkB
  | [] => g
  | _ :: _ => [32]
theorem puts_append (g : TkB) : ∀ a b : List TkB, puts g (a ++ b) = puts g a ++ puts (gapA g a) b
  | [], b => rfl
  | t :: a, b => by
    rw [List.cons_append, puts, puts, puts_append [32] a b]
    cases a <;> simp [gapA]
theorem gapA_append (g : TkB) : ∀ a b : List TkB, gapA g (a ++ b) = gapA (gapA g a) b
  | [], b => rfl
  | t :: a, [] => by simp [gapA]
  | t :: a, u :: b => rfl
/-- tokens with one blank between any two -/
def lineT (l : List TkB) : TkB := puts [] l

/-! ### words -/
def kT (s : ByteArray) : TkB := s.data.toList
def wOpen : TkB := [40]
def wEnd : TkB := [41]
def wComma : TkB := [44]
def wDot : TkB := [46]
def wColon : TkB := [58]
def wSemi : TkB := [59]
def wLess : TkB := [60]
def wGives : TkB := [61]
def wMore : TkB := [62]
def wLeft : TkB := [123]
def wRight : TkB := [125]
def wAmp : TkB := [38]
def wMut : TkB := [109, 117, 116]
def typeWord (k : Int) : TkB :=
  [[], [105, 110, 116], [98, 111, 111, 108], [117, 110, 105, 116], [], [66, 111, 120], [67, 101, 108, 108], [82, 99], [65, 114, 99], [77, 117, 116, 101, 120], [65, 116, 111, 109, 105, 99], [83, 101, 110, 100, 101, 114], [82, 101, 99, 101, 105, 118, 101, 114]].getD k.toNat []
/-- lists of tokens with commas between -/
def joinT : List (List TkB) → List TkB
  | [] => []
  | [a] => a
  | a :: b :: l => a ++ wComma :: joinT (b :: l)
/-- the same, as a list goes on: k of them are written -/
def restT : List (List TkB) → List TkB
  | [] => []
  | a :: l => wComma :: a ++ restT l
theorem joinT_cons (a : List TkB) (l : List (List TkB)) : joinT (a :: l) = a ++ restT l := by
  induction l generalizing a with
  | nil => simp [joinT, restT]
  | cons b l ih => rw [joinT, ih b, restT]; simp

/-! ### types, places -/
mutual
def tokT : PT → List TkB
  | .mk k n l => if k = 4 then [kT n] else if k = 1 ∨ k = 2 ∨ k = 3 ∨ k = 10 then [typeWord k] else if k = 13 then wAmp :: tokTs l else if k = 14 then wAmp :: wMut :: tokTs l
      else typeWord k :: wLess :: (tokTs l ++ [wMore])
def tokTs : List PT → List TkB
  | [] => []
  | t :: _ => tokT t
end
def stepsT : List ByteArray → List TkB
  | [] => []
  | s :: l => wDot :: kT s :: stepsT l
def tokP (x : PP) : List TkB := kT x.name :: stepsT x.path

/-! ### expressions -/
def strongB (op : Int) : Nat := if op = 17 then 0 else if op = 16 then 1 else if op = 8 then 2 else if op = 14 ∨ op = 15 then 3 else if op = 9 ∨ op = 10 then 4 else if op = 11 ∨ op = 12 ∨ op = 13 then 5 else if op = 7 then 6 else 7
def exprWord (k : Int) : TkB :=
  [[], [], [], [], [], [], [], [45], [110, 111, 116], [43], [45], [42], [47], [37], [60], [61, 61], [97, 110, 100], [111, 114], [], [], [], [98, 111, 120], [117, 110, 98, 111, 120], [99, 101, 108, 108], [103, 101, 116], [115, 101, 116], [114, 99], [97, 114, 99], [99, 108, 111, 110, 101], [109, 117, 116, 101, 120], [111, 112, 101, 110], [97, 116, 111, 109, 105, 99], [108, 111, 97, 100], [115, 116, 111, 114, 101], [102, 101, 116, 99, 104], [115, 101, 110, 100], [114, 101, 99, 118]].getD k.toNat []
def opAt (l : List PE) (j : Nat) : Int := (l[j]?.map PE.op).getD 0
/-- what stands beside a sign -/
def sideT (k : Nat) (op : Int) (ts : List TkB) : List TkB := if k ≤ strongB op then ts else wOpen :: (ts ++ [wEnd])
def leftB (op : Int) : Nat := if strongB op = 3 then 4 else strongB op
/-- names, and what they are given -/
def pairsT : List ByteArray → List (List TkB) → List (List TkB)
  | n :: ns, t :: ts => (kT n :: wGives :: t) :: pairsT ns ts
  | _, _ => []
def boolWord (i : Int) : TkB := if i = 1 then [116, 114, 117, 101] else [102, 97, 108, 115, 101]
def enumT (ts : List (List TkB)) : List TkB := match ts with
  | [] => []
  | t :: _ => wOpen :: (t ++ [wEnd])
def placeT (p : PP) (l : List (List TkB)) : List TkB := if kT p.name = [] then joinT l else tokP p ++ (match l with | [] => [] | a :: r => wComma :: joinT (a :: r))
mutual
def tokE : PE → List TkB
  | .mk op i n s p l _ =>
    if op = 1 then [Lib.itoa i] else if op = 2 then [boolWord i] else if op = 3 then [wOpen, wEnd] else if op = 4 then tokP p else if op = 5 then wAmp :: tokP p else if op = 6 then wAmp :: wMut :: tokP p
    else if op = 18 then kT n :: wOpen :: (joinT (tokEs l) ++ [wEnd]) else if op = 19 then kT n :: wLeft :: (joinT (pairsT p.path (tokEs l)) ++ [wRight])
    else if op = 20 then kT n :: wDot :: kT s :: enumT (tokEs l)
    else if op = 7 ∨ op = 8 then exprWord op :: sideT (strongB op) (opAt l 0) ((tokEs l).getD 0 [])
    else if 9 ≤ op ∧ op ≤ 17 then sideT (leftB op) (opAt l 0) ((tokEs l).getD 0 []) ++ exprWord op :: sideT (strongB op + 1) (opAt l 1) ((tokEs l).getD 1 [])
    else exprWord op :: wOpen :: (placeT p (tokEs l) ++ [wEnd])
def tokEs : List PE → List (List TkB)
  | [] => []
  | e :: l => tokE e :: tokEs l
end
/-! ### statements -/
def wLet : TkB := [108, 101, 116]
def wDrop : TkB := [100, 114, 111, 112]
def wChan : TkB := [99, 104, 97, 110]
def wAs : TkB := [97, 115]
def wIf : TkB := [105, 102]
def wElse : TkB := [101, 108, 115, 101]
def wWhile : TkB := [119, 104, 105, 108, 101]
def wMatch : TkB := [109, 97, 116, 99, 104]
def wScope : TkB := [115, 99, 111, 112, 101]
def wSpawn : TkB := [115, 112, 97, 119, 110]
def wLock : TkB := [108, 111, 99, 107]
def wThen : TkB := [61, 62]
def wInto : TkB := [45, 62]
def endT (es : List PE) : List TkB := (tokEs es).getD 0 [] ++ [wSemi]
def blockT (ts : List TkB) : List TkB := wLeft :: (ts ++ [wRight])
def elseT (b : Bool) (ts : List TkB) : List TkB := if b then [] else wElse :: blockT ts
mutual
def tokS : PS → List TkB
  | .mk op n s ns t i p es bo el ar _ =>
    if op = 1 then wLet :: kT n :: wGives :: endT es else if op = 2 then wLet :: kT n :: wLeft :: (joinT (ns.map fun x => [kT x]) ++ wRight :: wGives :: endT es)
    else if op = 3 then tokP p ++ wGives :: endT es else if op = 4 then endT es else if op = 5 then [wDrop, kT n, wSemi]
    else if op = 12 then wChan :: wLess :: (tokT t ++ [wMore, wOpen, Lib.itoa i, wEnd, wAs, kT n, wComma, kT s, wSemi])
    else if op = 6 then wIf :: ((tokEs es).getD 0 [] ++ (blockT (tokSs bo) ++ elseT el.isEmpty (tokSs el)))
    else if op = 7 then wWhile :: ((tokEs es).getD 0 [] ++ blockT (tokSs bo))
    else if op = 8 then wMatch :: kT n :: wColon :: kT s :: wLeft :: (tokAs ar ++ [wRight])
    else if op = 9 then wScope :: blockT (tokSs bo)
    else if op = 10 then wSpawn :: wOpen :: (joinT (pairsT ns (tokEs es)) ++ wEnd :: blockT (tokSs bo))
    else if op = 11 then wLock :: (tokP p ++ wAs :: kT n :: blockT (tokSs bo))
    else if op = 13 then blockT (tokSs bo)
    else []
def tokA : PA → List TkB
  | .mk v n bo => kT v :: ((if kT n = [] then [] else [wOpen, kT n, wEnd]) ++ wThen :: blockT (tokSs bo))
def tokSs : List PS → List TkB
  | [] => []
  | s :: l => tokS s ++ tokSs l
def tokAs : List PA → List TkB
  | [] => []
  | a :: l => tokA a ++ tokAs l
end
/-! ### items -/
def wStruct : TkB := [115, 116, 114, 117, 99, 116]
def wEnum : TkB := [101, 110, 117, 109]
def wFn : TkB := [102, 110]
def fieldT (f : PF) : List TkB := kT f.name :: wColon :: tokT f.type
def variantT (f : PF) : List TkB := kT f.name :: (if f.type.kind = 0 then [] else wOpen :: (tokT f.type ++ [wEnd]))
def tokI (x : PI) : List TkB :=
  if x.kind = 1 then wStruct :: kT x.name :: wLeft :: (joinT (x.fields.map fieldT) ++ [wRight])
  else if x.kind = 2 then wEnum :: kT x.name :: wLeft :: (joinT (x.fields.map variantT) ++ [wRight])
  else if x.kind = 3 then wFn :: kT x.name :: wOpen :: (joinT (x.fields.map fieldT) ++ wEnd :: wInto :: (tokT x.result ++ wLeft :: (tokSs x.body ++ (tokE x.ret ++ [wRight]))))
  else []
/-- a program's text -/
def textP : List PI → TkB
  | [] => []
  | x :: l => lineT (tokI x) ++ [10] ++ textP l
end Go.Proofs.YthilicmhdkmipaaGreatDoor
