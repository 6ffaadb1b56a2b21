/- Contracts of package num, fourth part: count, and the functions that the chapter lists. -/
import Derived.Test.YtkfgfjgdhdohhaaDoorNumOps2
import Derived.Shelf.Abstract
namespace Go.Proofs.YtkfgfjgdhdohhaaDoor
open Go.RowKit
set_option linter.unusedVariables false

set_option maxHeartbeats 1000000 in
/-- count, whose third argument comes to a number whose size fits, without an error -/
theorem count_ok (K : Nat) (a b r : Int) (h0 : -9223372036854775808 ≤ a) (h1 : a ≤ 9223372036854775807) (h2 : -9223372036854775808 ≤ b) (h3 : b ≤ 9223372036854775807)
    (hE : Hid (∀ args w, (callFunc K args).run Tryd.prog w = .ok (.enter K args) w))
    (hdo : Hid (∀ w : World, Calls Tryd.prog K #[.agg #[.bool (sgn a), .int .u64 (mag a)], .agg #[.bool (sgn b), .int .u64 (mag b)]] w fun e w' => e = .returned (.tuple #[.agg #[.bool (sgn r), .int .u64 (mag r)], .int .i64 0]) ∧ Below w.heap.size w w')) (w : World) :
    Calls Tryd.prog 30 #[.int .i64 a, .int .i64 b, .func (.func K) #[] #[]] w fun e w' => e = .returned (.tuple #[.int .i64 (fitv r), .int .i64 (fite r)]) ∧ Below w.heap.size w w' := by
  have hE' := hE.out
  go_enter Tryd.func30, Tryd.ntmps30
  go_wp2_with fail
  refine (apart_calls a h0 h1 _).mono ?_
  rintro e w1 ⟨rfl, b1⟩
  go_wp2_with fail
  refine (apart_calls b h2 h3 _).mono ?_
  rintro e w2 ⟨rfl, b2⟩
  go_wp2_with fail
  refine (hdo.out _).mono ?_
  rintro e w3 ⟨rfl, b3⟩
  go_wp2_with fail
  refine (number_calls r _).mono ?_
  rintro e w4 ⟨rfl, b4⟩
  go_wp2
  go_ret2
  exact ⟨rfl, (((b1.trans (b2.mono b1.size)).trans (b3.mono (Nat.le_trans b1.size b2.size))).alloc (Nat.le_trans b1.size (Nat.le_trans b2.size b3.size)) _).trans (b4.mono (by simp; exact Nat.le_trans (Nat.le_trans b1.size (Nat.le_trans b2.size b3.size)) (Nat.le_succ _)))⟩

set_option maxHeartbeats 1000000 in
/-- count, whose third argument comes to an error -/
theorem count_err (K : Nat) (a b r er : Int) (he : (er == 0) = false) (h0 : -9223372036854775808 ≤ a) (h1 : a ≤ 9223372036854775807) (h2 : -9223372036854775808 ≤ b) (h3 : b ≤ 9223372036854775807)
    (hE : Hid (∀ args w, (callFunc K args).run Tryd.prog w = .ok (.enter K args) w))
    (hdo : Hid (∀ w : World, Calls Tryd.prog K #[.agg #[.bool (sgn a), .int .u64 (mag a)], .agg #[.bool (sgn b), .int .u64 (mag b)]] w fun e w' => e = .returned (.tuple #[.agg #[.bool (sgn r), .int .u64 (mag r)], .int .i64 er]) ∧ Below w.heap.size w w')) (w : World) :
    Calls Tryd.prog 30 #[.int .i64 a, .int .i64 b, .func (.func K) #[] #[]] w fun e w' => e = .returned (.tuple #[.int .i64 0, .int .i64 er]) ∧ Below w.heap.size w w' := by
  have hE' := hE.out
  go_enter Tryd.func30, Tryd.ntmps30
  go_wp2_with fail
  refine (apart_calls a h0 h1 _).mono ?_
  rintro e w1 ⟨rfl, b1⟩
  go_wp2_with fail
  refine (apart_calls b h2 h3 _).mono ?_
  rintro e w2 ⟨rfl, b2⟩
  go_wp2_with fail
  refine (hdo.out _).mono ?_
  rintro e w3 ⟨rfl, b3⟩
  go_wp2
  go_ret2
  exact ⟨rfl, (((b1.trans (b2.mono b1.size)).trans (b3.mono (Nat.le_trans b1.size b2.size))).alloc (Nat.le_trans b1.size (Nat.le_trans b2.size b3.size)) _)⟩

/-- Add: P1.1 -/
theorem add_count (a b : Int) (h0 : -9223372036854775808 ≤ a) (h1 : a ≤ 9223372036854775807) (h2 : -9223372036854775808 ≤ b) (h3 : b ≤ 9223372036854775807) (w : World) :
    Calls Tryd.prog 30 #[.int .i64 a, .int .i64 b, .func (.func 31) #[] #[]] w fun e w' => e = .returned (.tuple #[.int .i64 (fitv (a + b)), .int .i64 (fite (a + b))]) ∧ Below w.heap.size w w' := by
  have key := fun w => plus_calls a b (by omega) (by omega) (by omega) (by omega) w
  by_cases h : -18446744073709551616 < a + b
  · rw [wdv_in h (by omega), wde_in h (by omega)] at key
    exact count_ok 31 a b (a + b) h0 h1 h2 h3 (Lib.hid (enters_of Tryd.func31 (by kernel_rfl) rfl)) (Lib.hid key) w
  · rw [wdv_out (by omega), wde_out (by omega)] at key
    rw [fitv_out (by omega), fite_out (by omega)]
    exact count_err 31 a b 0 10 (by decide) h0 h1 h2 h3 (Lib.hid (enters_of Tryd.func31 (by kernel_rfl) rfl)) (Lib.hid key) w

theorem sub_count (a b : Int) (h0 : -9223372036854775808 ≤ a) (h1 : a ≤ 9223372036854775807) (h2 : -9223372036854775808 ≤ b) (h3 : b ≤ 9223372036854775807) (w : World) :
    Calls Tryd.prog 30 #[.int .i64 a, .int .i64 b, .func (.func 32) #[] #[]] w fun e w' => e = .returned (.tuple #[.int .i64 (fitv (a - b)), .int .i64 (fite (a - b))]) ∧ Below w.heap.size w w' := by
  refine count_ok 32 a b (a - b) h0 h1 h2 h3 (Lib.hid (enters_of Tryd.func32 (by kernel_rfl) rfl)) (Lib.hid fun w => ?_) w
  have := less_calls a b (by omega) (by omega) (by omega) (by omega) w
  rw [wdv_in (by omega) (by omega), wde_in (by omega) (by omega)] at this
  exact this

theorem mul_count (a b : Int) (h0 : -9223372036854775808 ≤ a) (h1 : a ≤ 9223372036854775807) (h2 : -9223372036854775808 ≤ b) (h3 : b ≤ 9223372036854775807) (w : World) :
    Calls Tryd.prog 30 #[.int .i64 a, .int .i64 b, .func (.func 33) #[] #[]] w fun e w' => e = .returned (.tuple #[.int .i64 (fitv (a * b)), .int .i64 (fite (a * b))]) ∧ Below w.heap.size w w' := by
  have key := fun w => times_calls a b (by omega) (by omega) (by omega) (by omega) w
  by_cases h : -18446744073709551616 < a * b ∧ a * b < 18446744073709551616
  · rw [wdv_in h.1 h.2, wde_in h.1 h.2] at key
    exact count_ok 33 a b (a * b) h0 h1 h2 h3 (Lib.hid (enters_of Tryd.func33 (by kernel_rfl) rfl)) (Lib.hid key) w
  · rw [wdv_out (by omega), wde_out (by omega)] at key
    rw [fitv_out (by omega), fite_out (by omega)]
    exact count_err 33 a b 0 10 (by decide) h0 h1 h2 h3 (Lib.hid (enters_of Tryd.func33 (by kernel_rfl) rfl)) (Lib.hid key) w

theorem div_count (a b : Int) (h0 : -9223372036854775808 ≤ a) (h1 : a ≤ 9223372036854775807) (h2 : -9223372036854775808 ≤ b) (h3 : b ≤ 9223372036854775807) (w : World) :
    Calls Tryd.prog 30 #[.int .i64 a, .int .i64 b, .func (.func 34) #[] #[]] w fun e w' => e = .returned (.tuple #[.int .i64 (fitv (a.tdiv b)), .int .i64 (dive a b)]) ∧ Below w.heap.size w w' := by
  have key := fun w => by_calls a b (by omega) (by omega) (by omega) (by omega) w
  by_cases h : b = 0
  · subst h
    have e1 : dive a 0 = 11 := by unfold dive; rw [if_pos rfl]
    rw [zeroe_yes, Int.tdiv_zero] at key
    rw [Int.tdiv_zero, fitv_in (by omega) (by omega), e1]
    exact count_err 34 a 0 0 11 (by decide) h0 h1 h2 h3 (Lib.hid (enters_of Tryd.func34 (by kernel_rfl) rfl)) (Lib.hid key) w
  · rw [zeroe_no h] at key
    rw [dive_no h]
    exact count_ok 34 a b (a.tdiv b) h0 h1 h2 h3 (Lib.hid (enters_of Tryd.func34 (by kernel_rfl) rfl)) (Lib.hid key) w

theorem mod_count (a b : Int) (h0 : -9223372036854775808 ≤ a) (h1 : a ≤ 9223372036854775807) (h2 : -9223372036854775808 ≤ b) (h3 : b ≤ 9223372036854775807) (w : World) :
    Calls Tryd.prog 30 #[.int .i64 a, .int .i64 b, .func (.func 35) #[] #[]] w fun e w' => e = .returned (.tuple #[.int .i64 (remv a b), .int .i64 (zeroe b)]) ∧ Below w.heap.size w w' := by
  have key := fun w => rest_calls a b (by omega) (by omega) (by omega) (by omega) w
  by_cases h : b = 0
  · subst h
    rw [zeroe_yes] at key ⊢
    exact count_err 35 a 0 0 11 (by decide) h0 h1 h2 h3 (Lib.hid (enters_of Tryd.func35 (by kernel_rfl) rfl)) (Lib.hid key) w
  · have hb := remv_bounds a b h0 h1
    rw [zeroe_no h] at key ⊢
    have := count_ok 35 a b (remv a b) h0 h1 h2 h3 (Lib.hid (enters_of Tryd.func35 (by kernel_rfl) rfl)) (Lib.hid key) w
    rw [fitv_in hb.1 hb.2, fite_in hb.1 hb.2] at this
    exact this

set_option maxHeartbeats 400000 in
theorem add_calls (a b : Int) (h0 : -9223372036854775808 ≤ a) (h1 : a ≤ 9223372036854775807) (h2 : -9223372036854775808 ≤ b) (h3 : b ≤ 9223372036854775807) (w : World) :
    Calls Tryd.prog 21 #[.int .i64 a, .int .i64 b] w fun e w' => e = .returned (.tuple #[.int .i64 (fitv (a + b)), .int .i64 (fite (a + b))]) ∧ Below w.heap.size w w' := by
  go_enter Tryd.func21, Tryd.ntmps21
  go_wp2_with fail
  refine (add_count a b h0 h1 h2 h3 _).mono ?_
  rintro e w1 ⟨rfl, hb⟩
  go_wp2
  go_ret2
  exact ⟨rfl, hb⟩

set_option maxHeartbeats 400000 in
theorem sub_calls (a b : Int) (h0 : -9223372036854775808 ≤ a) (h1 : a ≤ 9223372036854775807) (h2 : -9223372036854775808 ≤ b) (h3 : b ≤ 9223372036854775807) (w : World) :
    Calls Tryd.prog 22 #[.int .i64 a, .int .i64 b] w fun e w' => e = .returned (.tuple #[.int .i64 (fitv (a - b)), .int .i64 (fite (a - b))]) ∧ Below w.heap.size w w' := by
  go_enter Tryd.func22, Tryd.ntmps22
  go_wp2_with fail
  refine (sub_count a b h0 h1 h2 h3 _).mono ?_
  rintro e w1 ⟨rfl, hb⟩
  go_wp2
  go_ret2
  exact ⟨rfl, hb⟩

set_option maxHeartbeats 400000 in
theorem mul_calls (a b : Int) (h0 : -9223372036854775808 ≤ a) (h1 : a ≤ 9223372036854775807) (h2 : -9223372036854775808 ≤ b) (h3 : b ≤ 9223372036854775807) (w : World) :
    Calls Tryd.prog 24 #[.int .i64 a, .int .i64 b] w fun e w' => e = .returned (.tuple #[.int .i64 (fitv (a * b)), .int .i64 (fite (a * b))]) ∧ Below w.heap.size w w' := by
  go_enter Tryd.func24, Tryd.ntmps24
  go_wp2_with fail
  refine (mul_count a b h0 h1 h2 h3 _).mono ?_
  rintro e w1 ⟨rfl, hb⟩
  go_wp2
  go_ret2
  exact ⟨rfl, hb⟩

set_option maxHeartbeats 400000 in
theorem div_calls (a b : Int) (h0 : -9223372036854775808 ≤ a) (h1 : a ≤ 9223372036854775807) (h2 : -9223372036854775808 ≤ b) (h3 : b ≤ 9223372036854775807) (w : World) :
    Calls Tryd.prog 25 #[.int .i64 a, .int .i64 b] w fun e w' => e = .returned (.tuple #[.int .i64 (fitv (a.tdiv b)), .int .i64 (dive a b)]) ∧ Below w.heap.size w w' := by
  go_enter Tryd.func25, Tryd.ntmps25
  go_wp2_with fail
  refine (div_count a b h0 h1 h2 h3 _).mono ?_
  rintro e w1 ⟨rfl, hb⟩
  go_wp2
  go_ret2
  exact ⟨rfl, hb⟩

set_option maxHeartbeats 400000 in
theorem mod_calls (a b : Int) (h0 : -9223372036854775808 ≤ a) (h1 : a ≤ 9223372036854775807) (h2 : -9223372036854775808 ≤ b) (h3 : b ≤ 9223372036854775807) (w : World) :
    Calls Tryd.prog 26 #[.int .i64 a, .int .i64 b] w fun e w' => e = .returned (.tuple #[.int .i64 (remv a b), .int .i64 (zeroe b)]) ∧ Below w.heap.size w w' := by
  go_enter Tryd.func26, Tryd.ntmps26
  go_wp2_with fail
  refine (mod_count a b h0 h1 h2 h3 _).mono ?_
  rintro e w1 ⟨rfl, hb⟩
  go_wp2
  go_ret2
  exact ⟨rfl, hb⟩

set_option maxHeartbeats 400000 in
theorem neg_calls (a : Int) (h0 : -9223372036854775808 ≤ a) (h1 : a ≤ 9223372036854775807) (w : World) :
    Calls Tryd.prog 23 #[.int .i64 a] w fun e w' => e = .returned (.tuple #[.int .i64 (fitv (-a)), .int .i64 (fite (-a))]) ∧ Below w.heap.size w w' := by
  have e0 := Lib.hid (Int.zero_sub a)
  go_enter Tryd.func23, Tryd.ntmps23
  go_wp2_with fail
  refine (sub_calls 0 a (by omega) (by omega) h0 h1 _).mono ?_
  rw [e0.out]
  rintro e w1 ⟨rfl, hb⟩
  go_wp2
  go_ret2
  exact ⟨rfl, hb⟩
end Go.Proofs.YtkfgfjgdhdohhaaDoor
