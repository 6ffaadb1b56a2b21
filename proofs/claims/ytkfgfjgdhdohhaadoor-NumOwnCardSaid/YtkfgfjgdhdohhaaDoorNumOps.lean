/- Contracts of package num, second part: two numbers taken apart, added, multiplied, shared out. -/
import Derived.Test.YtkfgfjgdhdohhaaDoorNum
namespace Go.Proofs.YtkfgfjgdhdohhaaDoor
open Go.RowKit
set_option linter.unusedVariables false

theorem add64_run (x y : Int) (h0 : 0 ≤ x) (h1 : 0 ≤ y) (w : World) :
    (callFunc 42 #[.int .u64 x, .int .u64 y, .int .u64 0]).run Tryd.prog w =
      .ok (.value (.tuple #[.int .u64 ((x + y) % 18446744073709551616), .int .u64 ((x + y) / 18446744073709551616)])) w := by
  rw [run_callFunc_extern Tryd.func42 (by kernel_rfl) (by kernel_rfl) (by kernel_rfl) (e := add64Entry) (by kernel_rfl), run_add64 x y 0 h0 h1 (by omega) (by omega)]
  simp only [Result.andThen, Int.add_zero]

theorem add64_in (x y : Int) (h0 : 0 ≤ x) (h1 : 0 ≤ y) (h : x + y < 18446744073709551616) (w : World) :
    (callFunc 42 #[.int .u64 x, .int .u64 y, .int .u64 0]).run Tryd.prog w =
      .ok (.value (.tuple #[.int .u64 (x + y), .int .u64 0])) w := by
  rw [add64_run x y h0 h1, show (x + y) % 18446744073709551616 = x + y from by omega, show (x + y) / 18446744073709551616 = 0 from by omega]

theorem add64_over (x y : Int) (h0 : 0 ≤ x) (h1 : 0 ≤ y) (h2 : x < 18446744073709551616) (h3 : y < 18446744073709551616) (h : 18446744073709551616 ≤ x + y) (w : World) :
    (callFunc 42 #[.int .u64 x, .int .u64 y, .int .u64 0]).run Tryd.prog w =
      .ok (.value (.tuple #[.int .u64 (x + y - 18446744073709551616), .int .u64 1])) w := by
  rw [add64_run x y h0 h1, show (x + y) % 18446744073709551616 = x + y - 18446744073709551616 from by omega, show (x + y) / 18446744073709551616 = 1 from by omega]

set_option maxHeartbeats 400000 in
theorem plus_same (b : Bool) (x y : Int) (h0 : 0 ≤ x) (h1 : 0 ≤ y) (h : x + y < 18446744073709551616) (w : World) :
    Calls Tryd.prog 31 #[.agg #[.bool b, .int .u64 x], .agg #[.bool b, .int .u64 y]] w fun e w' => e = .returned (.tuple #[.agg #[.bool (sgn (sv b (x + y))), .int .u64 (mag (sv b (x + y)))], .int .i64 0]) ∧ Below w.heap.size w w' := by
  have ha := add64_in x y h0 h1 h
  cases b
  · go_enter Tryd.func31, Tryd.ntmps31
    go_wp2_with fail
    refine (side_calls _ (x + y) (by omega) h _).mono ?_
    rintro e w1 ⟨rfl, hb⟩
    obtain ⟨hc, hf⟩ := bcell hb
    go_wp2
    refine bodyPost_ret (v := .tuple #[.agg #[.bool (sgn (sv false (x + y))), .int .u64 (mag (sv false (x + y)))], .int .i64 0]) (by simp [results, Tryd.results31, go_sem, hc]) rfl ⟨rfl, ?_⟩
    exact ((((((Below.refl _ _).alloc (Nat.le_refl _) _).alloc (by simp) _).alloc (by simp; omega) _).trans (hb.mono (by simp; omega))).setCell (by simp; omega) _).setCell (by simp; omega) _
  · go_enter Tryd.func31, Tryd.ntmps31
    go_wp2_with fail
    refine (side_calls _ (x + y) (by omega) h _).mono ?_
    rintro e w1 ⟨rfl, hb⟩
    obtain ⟨hc, hf⟩ := bcell hb
    go_wp2
    refine bodyPost_ret (v := .tuple #[.agg #[.bool (sgn (sv true (x + y))), .int .u64 (mag (sv true (x + y)))], .int .i64 0]) (by simp [results, Tryd.results31, go_sem, hc]) rfl ⟨rfl, ?_⟩
    exact ((((((Below.refl _ _).alloc (Nat.le_refl _) _).alloc (by simp) _).alloc (by simp; omega) _).trans (hb.mono (by simp; omega))).setCell (by simp; omega) _).setCell (by simp; omega) _

set_option maxHeartbeats 400000 in
theorem plus_over (b : Bool) (x y : Int) (h0 : 0 ≤ x) (h1 : 0 ≤ y) (h2 : x < 18446744073709551616) (h3 : y < 18446744073709551616) (h : 18446744073709551616 ≤ x + y) (w : World) :
    Calls Tryd.prog 31 #[.agg #[.bool b, .int .u64 x], .agg #[.bool b, .int .u64 y]] w fun e w' => e = .returned (.tuple #[.agg #[.bool false, .int .u64 0], .int .i64 10]) ∧ Below w.heap.size w w' := by
  have ha := add64_over x y h0 h1 h2 h3 h
  cases b
  · go_enter Tryd.func31, Tryd.ntmps31
    go_wp2
    refine bodyPost_ret (v := .tuple #[.agg #[.bool false, .int .u64 0], .int .i64 10]) (by simp [results, Tryd.results31, go_sem]) rfl ⟨rfl, ?_⟩
    exact (((Below.refl _ _).alloc (Nat.le_refl _) _).alloc (by simp) _).alloc (by simp; omega) _
  · go_enter Tryd.func31, Tryd.ntmps31
    go_wp2
    refine bodyPost_ret (v := .tuple #[.agg #[.bool false, .int .u64 0], .int .i64 10]) (by simp [results, Tryd.results31, go_sem]) rfl ⟨rfl, ?_⟩
    exact (((Below.refl _ _).alloc (Nat.le_refl _) _).alloc (by simp) _).alloc (by simp; omega) _

set_option maxHeartbeats 400000 in
theorem plus_less (b : Bool) (x y : Int) (h0 : 0 ≤ x) (h : x < y) (h2 : y < 18446744073709551616) (w : World) :
    Calls Tryd.prog 31 #[.agg #[.bool b, .int .u64 x], .agg #[.bool (!b), .int .u64 y]] w fun e w' => e = .returned (.tuple #[.agg #[.bool (sgn (sv (!b) (y - x))), .int .u64 (mag (sv (!b) (y - x)))], .int .i64 0]) ∧ Below w.heap.size w w' := by
  cases b
  · rw [Bool.not_false]
    go_enter Tryd.func31, Tryd.ntmps31
    go_wp2_with fail
    refine (side_calls _ (y - x) (by omega) (by omega) _).mono ?_
    rintro e w1 ⟨rfl, hb⟩
    obtain ⟨hc, hf⟩ := bcell hb
    go_wp2
    refine bodyPost_ret (v := .tuple #[.agg #[.bool (sgn (sv true (y - x))), .int .u64 (mag (sv true (y - x)))], .int .i64 0]) (by simp [results, Tryd.results31, go_sem, hc]) rfl ⟨rfl, ?_⟩
    exact ((((((Below.refl _ _).alloc (Nat.le_refl _) _).alloc (by simp) _).alloc (by simp; omega) _).trans (hb.mono (by simp; omega))).setCell (by simp; omega) _).setCell (by simp; omega) _
  · rw [Bool.not_true]
    go_enter Tryd.func31, Tryd.ntmps31
    go_wp2_with fail
    refine (side_calls _ (y - x) (by omega) (by omega) _).mono ?_
    rintro e w1 ⟨rfl, hb⟩
    obtain ⟨hc, hf⟩ := bcell hb
    go_wp2
    refine bodyPost_ret (v := .tuple #[.agg #[.bool (sgn (sv false (y - x))), .int .u64 (mag (sv false (y - x)))], .int .i64 0]) (by simp [results, Tryd.results31, go_sem, hc]) rfl ⟨rfl, ?_⟩
    exact ((((((Below.refl _ _).alloc (Nat.le_refl _) _).alloc (by simp) _).alloc (by simp; omega) _).trans (hb.mono (by simp; omega))).setCell (by simp; omega) _).setCell (by simp; omega) _

set_option maxHeartbeats 400000 in
theorem plus_more (b : Bool) (x y : Int) (h0 : 0 ≤ y) (h : y ≤ x) (h2 : x < 18446744073709551616) (w : World) :
    Calls Tryd.prog 31 #[.agg #[.bool b, .int .u64 x], .agg #[.bool (!b), .int .u64 y]] w fun e w' => e = .returned (.tuple #[.agg #[.bool (sgn (sv b (x - y))), .int .u64 (mag (sv b (x - y)))], .int .i64 0]) ∧ Below w.heap.size w w' := by
  cases b
  · rw [Bool.not_false]
    go_enter Tryd.func31, Tryd.ntmps31
    go_wp2_with fail
    refine (side_calls _ (x - y) (by omega) (by omega) _).mono ?_
    rintro e w1 ⟨rfl, hb⟩
    obtain ⟨hc, hf⟩ := bcell hb
    go_wp2
    refine bodyPost_ret (v := .tuple #[.agg #[.bool (sgn (sv false (x - y))), .int .u64 (mag (sv false (x - y)))], .int .i64 0]) (by simp [results, Tryd.results31, go_sem, hc]) rfl ⟨rfl, ?_⟩
    exact ((((((Below.refl _ _).alloc (Nat.le_refl _) _).alloc (by simp) _).alloc (by simp; omega) _).trans (hb.mono (by simp; omega))).setCell (by simp; omega) _).setCell (by simp; omega) _
  · rw [Bool.not_true]
    go_enter Tryd.func31, Tryd.ntmps31
    go_wp2_with fail
    refine (side_calls _ (x - y) (by omega) (by omega) _).mono ?_
    rintro e w1 ⟨rfl, hb⟩
    obtain ⟨hc, hf⟩ := bcell hb
    go_wp2
    refine bodyPost_ret (v := .tuple #[.agg #[.bool (sgn (sv true (x - y))), .int .u64 (mag (sv true (x - y)))], .int .i64 0]) (by simp [results, Tryd.results31, go_sem, hc]) rfl ⟨rfl, ?_⟩
    exact ((((((Below.refl _ _).alloc (Nat.le_refl _) _).alloc (by simp) _).alloc (by simp; omega) _).trans (hb.mono (by simp; omega))).setCell (by simp; omega) _).setCell (by simp; omega) _

theorem plus_calls (n m : Int) (h0 : -18446744073709551616 < n) (h1 : n < 18446744073709551616) (h2 : -18446744073709551616 < m) (h3 : m < 18446744073709551616) (w : World) :
    Calls Tryd.prog 31 #[.agg #[.bool (sgn n), .int .u64 (mag n)], .agg #[.bool (sgn m), .int .u64 (mag m)]] w fun e w' => e = .returned (.tuple #[.agg #[.bool (sgn (wdv (n + m))), .int .u64 (mag (wdv (n + m)))], .int .i64 (wde (n + m))]) ∧ Below w.heap.size w w' := by
  by_cases hn : n < 0
  · rw [sgn_true hn, mag_neg hn]
    by_cases hm : m < 0
    · rw [sgn_true hm, mag_neg hm]
      by_cases h : -18446744073709551616 < n + m
      · rw [wdv_in h (by omega), wde_in h (by omega)]
        have := plus_same true (-n) (-m) (by omega) (by omega) (by omega) w
        rw [sv_true, show -(-n + -m) = n + m from by omega] at this
        exact this
      · rw [wdv_out (by omega), wde_out (by omega)]
        exact plus_over true (-n) (-m) (by omega) (by omega) (by omega) (by omega) (by omega) w
    · rw [sgn_false (by omega), mag_pos (by omega), wdv_in (by omega) (by omega), wde_in (by omega) (by omega)]
      by_cases h : -n < m
      · have := plus_less true (-n) m (by omega) h (by omega) w
        rw [Bool.not_true, sv_false, show m - -n = n + m from by omega] at this
        exact this
      · have := plus_more true (-n) m (by omega) (by omega) (by omega) w
        rw [Bool.not_true, sv_true, show -(-n - m) = n + m from by omega] at this
        exact this
  · rw [sgn_false (by omega), mag_pos (by omega)]
    by_cases hm : m < 0
    · rw [sgn_true hm, mag_neg hm, wdv_in (by omega) (by omega), wde_in (by omega) (by omega)]
      by_cases h : n < -m
      · have := plus_less false n (-m) (by omega) h (by omega) w
        rw [Bool.not_false, sv_true, show -(-m - n) = n + m from by omega] at this
        exact this
      · have := plus_more false n (-m) (by omega) (by omega) (by omega) w
        rw [Bool.not_false, sv_false, show n - -m = n + m from by omega] at this
        exact this
    · rw [sgn_false (by omega), mag_pos (by omega)]
      by_cases h : n + m < 18446744073709551616
      · rw [wdv_in (by omega) h, wde_in (by omega) h]
        have := plus_same false n m (by omega) (by omega) (by omega) w
        rw [sv_false] at this
        exact this
      · rw [wdv_out (by omega), wde_out (by omega)]
        exact plus_over false n m (by omega) (by omega) (by omega) (by omega) (by omega) w

end Go.Proofs.YtkfgfjgdhdohhaaDoor
