/- Contracts of package num: what each function of it returns, whatever its arguments. -/
import Derived.Test.YtekmkepaokdbmaaChecked
import Derived.Test.YtekmkepaokdbmaaNumMath
import Derived.WalkKit
import Derived.Outline
import Derived.Lib.Hide
import Derived.Laws.Externs
namespace Go.Proofs.Ytekmkepaokdbmaa
open Go.RowKit
set_option linter.unusedVariables false

set_option maxHeartbeats 400000 in
theorem side_calls (b : Bool) (x : Int) (h0 : 0 ≤ x) (h1 : x < 18446744073709551616) (w : World) :
    Calls Try.prog 105 #[.bool b, .int .u64 x] w fun e w' => e = .returned (.agg #[.bool (sgn (sv b x)), .int .u64 (mag (sv b x))]) ∧ Below w.heap.size w w' := by
  have e1 := Lib.hid (sgn_sv b x h0)
  have e2 := Lib.hid (mag_sv b x h0)
  cases b
  · go_enter Try.func105, Try.ntmps105
    go_wp2
    exact bodyPost_ret (v := .agg #[.bool false, .int .u64 x]) (by simp [results, Try.results105, go_sem]) rfl ⟨ret_sd (by rw [e1.out]; rfl) e2.out.symm, (Below.refl _ _).alloc (Nat.le_refl _) _⟩
  · go_enter Try.func105, Try.ntmps105
    go_wp2
    exact bodyPost_ret (v := .agg #[.bool (x != 0), .int .u64 x]) (by simp [results, Try.results105, go_sem]) rfl ⟨ret_sd (by rw [e1.out]; rfl) e2.out.symm, (Below.refl _ _).alloc (Nat.le_refl _) _⟩

set_option maxHeartbeats 400000 in
theorem number_pos (x : Int) (h0 : 0 ≤ x) (h1 : x < 9223372036854775808) (w : World) :
    Calls Try.prog 106 #[.agg #[.bool false, .int .u64 x]] w fun e w' => e = .returned (.tuple #[.int .i64 x, .int .i64 0]) ∧ Below w.heap.size w w' := by
  go_enter Try.func106, Try.ntmps106
  go_wp2
  go_ret2
  exact ⟨rfl, (Below.refl _ _).alloc (Nat.le_refl _) _⟩
set_option maxHeartbeats 400000 in
theorem number_neg (x : Int) (h0 : 0 ≤ x) (h1 : x < 9223372036854775808) (hq : (x == 9223372036854775808) = false) (w : World) :
    Calls Try.prog 106 #[.agg #[.bool true, .int .u64 x]] w fun e w' => e = .returned (.tuple #[.int .i64 (-x), .int .i64 0]) ∧ Below w.heap.size w w' := by
  go_enter Try.func106, Try.ntmps106
  go_wp2
  go_ret2
  exact ⟨rfl, (Below.refl _ _).alloc (Nat.le_refl _) _⟩
set_option maxHeartbeats 400000 in
theorem number_least (x : Int) (h0 : 0 ≤ x) (hq : (x == 9223372036854775808) = true) (w : World) :
    Calls Try.prog 106 #[.agg #[.bool true, .int .u64 x]] w fun e w' => e = .returned (.tuple #[.int .i64 (-9223372036854775808), .int .i64 0]) ∧ Below w.heap.size w w' := by
  go_enter Try.func106, Try.ntmps106
  go_wp2
  go_ret2
  exact ⟨rfl, (Below.refl _ _).alloc (Nat.le_refl _) _⟩
set_option maxHeartbeats 400000 in
theorem number_over (b : Bool) (x : Int) (h0 : 9223372036854775808 ≤ x) (hq : b = true → (x == 9223372036854775808) = false) (w : World) :
    Calls Try.prog 106 #[.agg #[.bool b, .int .u64 x]] w fun e w' => e = .returned (.tuple #[.int .i64 0, .int .i64 10]) ∧ Below w.heap.size w w' := by
  cases b
  · clear hq
    go_enter Try.func106, Try.ntmps106
    go_wp2
    go_ret2
    exact ⟨rfl, (Below.refl _ _).alloc (Nat.le_refl _) _⟩
  · replace hq := hq rfl
    go_enter Try.func106, Try.ntmps106
    go_wp2
    go_ret2
    exact ⟨rfl, (Below.refl _ _).alloc (Nat.le_refl _) _⟩

theorem number_calls (n : Int) (w : World) :
    Calls Try.prog 106 #[.agg #[.bool (sgn n), .int .u64 (mag n)]] w fun e w' => e = .returned (.tuple #[.int .i64 (fitv n), .int .i64 (fite n)]) ∧ Below w.heap.size w w' := by
  by_cases h : n < 0
  · rw [sgn_true h, mag_neg h]
    by_cases k : n = -9223372036854775808
    · subst k
      exact number_least _ (by omega) (by decide) w
    · by_cases l : n < -9223372036854775808
      · rw [fitv_out (Or.inl l), fite_out (Or.inl l)]
        exact number_over true (-n) (by omega) (fun _ => beq_eq_false_iff_ne.2 (by omega)) w
      · rw [fitv_in (by omega) (by omega), fite_in (by omega) (by omega)]
        have := number_neg (-n) (by omega) (by omega) (beq_eq_false_iff_ne.2 (by omega)) w
        rw [Int.neg_neg] at this
        exact this
  · rw [sgn_false (by omega), mag_pos (by omega)]
    by_cases l : n < 9223372036854775808
    · rw [fitv_in (by omega) (by omega), fite_in (by omega) (by omega)]
      exact number_pos n (by omega) l w
    · rw [fitv_out (by omega), fite_out (by omega)]
      exact number_over false n (by omega) (fun h => by cases h) w
end Go.Proofs.Ytekmkepaokdbmaa
