/- The plain arithmetic beneath the walks of package num: a number as a side of 0 and a size; what fits 64 bits. -/
import Derived.WalkKit
namespace Go.Proofs.Ytekmkepaokdbmaa
open Go.RowKit
set_option linter.unusedVariables false

/-- is it below 0? -/
def sgn (n : Int) : Bool := decide (n < 0)
/-- how far from 0 it is -/
def mag (n : Int) : Int := if n < 0 then -n else n
/-- the number of a side and a size -/
def sv (b : Bool) (x : Int) : Int := if b = true then -x else x
/-- a number, if it fits -/
def fitv (n : Int) : Int := if -9223372036854775808 ≤ n ∧ n ≤ 9223372036854775807 then n else 0
/-- the error beside it -/
def fite (n : Int) : Int := if -9223372036854775808 ≤ n ∧ n ≤ 9223372036854775807 then 0 else 10
/-- a number whose size fits 64 bits; the error beside it -/
def wdv (n : Int) : Int := if -18446744073709551616 < n ∧ n < 18446744073709551616 then n else 0
def wde (n : Int) : Int := if -18446744073709551616 < n ∧ n < 18446744073709551616 then 0 else 10

theorem sv_true (x : Int) : sv true x = -x := rfl
theorem sv_false (x : Int) : sv false x = x := rfl
theorem sgn_true {n : Int} (h : n < 0) : sgn n = true := by simp [sgn, h]
theorem sgn_false {n : Int} (h : 0 ≤ n) : sgn n = false := by simp [sgn]; omega
theorem mag_neg {n : Int} (h : n < 0) : mag n = -n := by unfold mag; rw [if_pos h]
theorem mag_pos {n : Int} (h : 0 ≤ n) : mag n = n := by unfold mag; rw [if_neg (by omega)]
theorem mag_nonneg (n : Int) : 0 ≤ mag n := by unfold mag; split <;> omega
theorem sgn_zero : sgn 0 = false := rfl
theorem mag_zero : mag 0 = 0 := rfl
theorem wdv_in {n : Int} (h : -18446744073709551616 < n) (k : n < 18446744073709551616) : wdv n = n := by unfold wdv; rw [if_pos ⟨h, k⟩]
theorem wde_in {n : Int} (h : -18446744073709551616 < n) (k : n < 18446744073709551616) : wde n = 0 := by unfold wde; rw [if_pos ⟨h, k⟩]
theorem wdv_out {n : Int} (h : n ≤ -18446744073709551616 ∨ 18446744073709551616 ≤ n) : wdv n = 0 := by unfold wdv; rw [if_neg (by omega)]
theorem wde_out {n : Int} (h : n ≤ -18446744073709551616 ∨ 18446744073709551616 ≤ n) : wde n = 10 := by unfold wde; rw [if_neg (by omega)]
/-- each size on each side is a number's -/
theorem sgn_sv (b : Bool) (x : Int) (h : 0 ≤ x) : sgn (sv b x) = (b && x != 0) := by
  cases b
  · rw [sv_false, sgn_false h]; rfl
  · by_cases e : x = 0
    · subst e; rfl
    · rw [sv_true, sgn_true (by omega)]; simp [e]
theorem mag_sv (b : Bool) (x : Int) (h : 0 ≤ x) : mag (sv b x) = x := by
  cases b
  · rw [sv_false, mag_pos h]
  · by_cases e : x = 0
    · subst e; rfl
    · rw [sv_true, mag_neg (by omega)]; omega
theorem fitv_in {n : Int} (h : -9223372036854775808 ≤ n) (k : n ≤ 9223372036854775807) : fitv n = n := by unfold fitv; rw [if_pos ⟨h, k⟩]
theorem fite_in {n : Int} (h : -9223372036854775808 ≤ n) (k : n ≤ 9223372036854775807) : fite n = 0 := by unfold fite; rw [if_pos ⟨h, k⟩]
theorem fitv_out {n : Int} (h : n < -9223372036854775808 ∨ 9223372036854775807 < n) : fitv n = 0 := by unfold fitv; rw [if_neg (by omega)]
theorem fite_out {n : Int} (h : n < -9223372036854775808 ∨ 9223372036854775807 < n) : fite n = 10 := by unfold fite; rw [if_neg (by omega)]

theorem mag_lt {n : Int} (h0 : -18446744073709551616 < n) (h1 : n < 18446744073709551616) : mag n < 18446744073709551616 := by unfold mag; split <;> omega
theorem sv_turned (n : Int) : sv (!sgn n) (mag n) = -n := by
  by_cases h : n < 0
  · rw [sgn_true h, mag_neg h]; rfl
  · rw [sgn_false (by omega), mag_pos (by omega)]; rfl
theorem wrap_turned {a : Int} (h0 : a < 0) (h1 : -9223372036854775808 ≤ a) : IntKind.u64.wrap (-IntKind.u64.wrap a) = -a := by rw [IntKind.wrap_u64, IntKind.wrap_u64]; omega

theorem mag_nat {n : Int} (h0 : -18446744073709551616 < n) (h1 : n < 18446744073709551616) : ∃ x : Nat, mag n = x ∧ x < 18446744073709551616 :=
  ⟨n.natAbs, by unfold mag; split <;> omega, by omega⟩
/-- a product by its sides and sizes -/
theorem sv_mul (n m : Int) : sv (!(sgn n == sgn m)) (mag n * mag m) = n * m := by
  by_cases hn : n < 0
  · rw [sgn_true hn, mag_neg hn]
    by_cases hm : m < 0
    · rw [sgn_true hm, mag_neg hm, Int.neg_mul_neg]; rfl
    · rw [sgn_false (by omega), mag_pos (by omega), Int.neg_mul]; show - -(n * m) = n * m; omega
  · rw [sgn_false (by omega), mag_pos (by omega)]
    by_cases hm : m < 0
    · rw [sgn_true hm, mag_neg hm, Int.mul_neg]; show - -(n * m) = n * m; omega
    · rw [sgn_false (by omega), mag_pos (by omega)]; rfl
/-- the error by 0 -/
def zeroe (m : Int) : Int := if m = 0 then 11 else 0
theorem zeroe_no {m : Int} (h : ¬ m = 0) : zeroe m = 0 := by unfold zeroe; rw [if_neg h]
theorem zeroe_yes : zeroe 0 = 11 := rfl
/-- what is left, 0 by 0 -/
def remv (n m : Int) : Int := if m = 0 then 0 else n.tmod m
/-- the error beside a quotient -/
def dive (n m : Int) : Int := if m = 0 then 11 else fite (n.tdiv m)
theorem dive_no {n m : Int} (h : ¬ m = 0) : dive n m = fite (n.tdiv m) := by unfold dive; rw [if_neg h]
theorem remv_bounds (a b : Int) (h0 : -9223372036854775808 ≤ a) (h1 : a ≤ 9223372036854775807) : -9223372036854775808 ≤ remv a b ∧ remv a b ≤ 9223372036854775807 := by
  unfold remv
  split
  · omega
  · have hl : (a.tmod b).natAbs ≤ a.natAbs := by rw [Int.natAbs_tmod]; exact Nat.mod_le _ _
    have hs : 0 ≤ a → 0 ≤ a.tmod b := fun h => Int.tmod_nonneg _ h
    have hn : a ≤ 0 → a.tmod b ≤ 0 := fun h => by
      have k := Int.tmod_nonneg b (show 0 ≤ -a by omega)
      rw [Int.neg_tmod] at k
      omega
    omega
theorem sv_quo (n m : Int) (h : ¬ m = 0) : sv (!(sgn n == sgn m)) (mag n / mag m) = n.tdiv m := by
  by_cases hn : n < 0
  · rw [sgn_true hn, mag_neg hn]
    have e : n.tdiv m = -((-n).tdiv m) := by rw [Int.neg_tdiv, Int.neg_neg]
    by_cases hm : m < 0
    · rw [sgn_true hm, mag_neg hm]
      have e2 : m = -(-m) := by omega
      rw [e, e2, Int.tdiv_neg, Int.neg_neg, Int.neg_neg, Int.tdiv_eq_ediv_of_nonneg (by omega)]; rfl
    · rw [sgn_false (by omega), mag_pos (by omega), e, Int.tdiv_eq_ediv_of_nonneg (by omega)]; rfl
  · rw [sgn_false (by omega), mag_pos (by omega)]
    by_cases hm : m < 0
    · rw [sgn_true hm, mag_neg hm]
      have e2 : n.tdiv m = -(n.tdiv (-m)) := by rw [Int.tdiv_neg, Int.neg_neg]
      rw [e2, Int.tdiv_eq_ediv_of_nonneg (by omega)]; rfl
    · rw [sgn_false (by omega), mag_pos (by omega), Int.tdiv_eq_ediv_of_nonneg (by omega)]; rfl
theorem sv_rem (n m : Int) (h : ¬ m = 0) : sv (sgn n) (mag n % mag m) = remv n m := by
  unfold remv
  rw [if_neg h]
  have hm : n.tmod m = n.tmod (mag m) := by
    unfold mag; split
    · rw [Int.tmod_neg]
    · rfl
  rw [hm]
  by_cases hn : n < 0
  · rw [sgn_true hn, mag_neg hn]
    have e : n.tmod (mag m) = -((-n).tmod (mag m)) := by rw [Int.neg_tmod, Int.neg_neg]
    rw [e, Int.tmod_eq_emod_of_nonneg (by omega)]; rfl
  · rw [sgn_false (by omega), mag_pos (by omega : 0 ≤ n), Int.tmod_eq_emod_of_nonneg (by omega)]; rfl

theorem bcell {W w1 : World} (hb : Below W.heap.size W w1) : (∀ b o, b < W.heap.size → w1.cell? ⟨b, o, none⟩ = W.cell? ⟨b, o, none⟩) ∧ (∀ b o, b < W.heap.size → w1.frozen? ⟨b, o, none⟩ = W.frozen? ⟨b, o, none⟩) :=
  ⟨fun b o h => hb.cell (p := ⟨b, o, none⟩) h, fun b o h => hb.frozen (p := ⟨b, o, none⟩) h⟩

theorem ret_two {k j : IntKind} {a b c d : Int} (h : a = b) (h' : c = d) : Ending.returned (.tuple #[.int k a, .int j c]) = .returned (.tuple #[.int k b, .int j d]) := by rw [h, h']
theorem ret_sd2 {a b : Bool} {x y c d : Int} (h : a = b) (h' : x = y) (h2 : c = d) : Ending.returned (.tuple #[.agg #[.bool a, .int .u64 x], .int .i64 c]) = .returned (.tuple #[.agg #[.bool b, .int .u64 y], .int .i64 d]) := by rw [h, h', h2]
theorem ret_sd {a b : Bool} {x y : Int} (h : a = b) (h' : x = y) : Ending.returned (.agg #[.bool a, .int .u64 x]) = .returned (.agg #[.bool b, .int .u64 y]) := by rw [h, h']
end Go.Proofs.Ytekmkepaokdbmaa
