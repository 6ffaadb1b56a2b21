/- The walk of NumShare: a number is as many times another one as Div says, and what is left. -/
import Derived.Test.YtkfgfjgdhdohhaaAwake
import Derived.Test.YtkfgfjgdhdohhaaNumMath2
namespace Go.Proofs.Ytkfgfjgdhdohhaa
open Go.RowKit
set_option linter.unusedVariables false

/-- what a call that answers a number and an error comes to -/
def Two (v e : Int) (w : World) (x : Ending) (w' : World) : Prop := x = .returned (.tuple #[.int .i64 v, .int .i64 e]) ∧ Below w.heap.size w w'

set_option maxRecDepth 100000 in
set_option maxHeartbeats 4000000 in
theorem share_walk (a b q r p : Int) (hb0 : (b == 0) = false)
    (A1 : Hid (∀ w, Calls Try.prog 15 #[.int .i64 a, .int .i64 b] w (Two q 0 w)))
    (A2 : Hid (∀ w, Calls Try.prog 17 #[.int .i64 a, .int .i64 b] w (Two r 0 w)))
    (A3 : Hid (∀ w, Calls Try.prog 13 #[.int .i64 b, .int .i64 q] w (Two p 0 w)))
    (A4 : Hid (∀ w, Calls Try.prog 9 #[.int .i64 p, .int .i64 r] w (Two a 0 w)))
    (hl : (a == -9223372036854775808) = false ∨ (a == -9223372036854775808) = true ∧ (b == -1) = false)
    (hs : (0 ≤ a → 0 ≤ r) ∧ (a ≤ 0 → r ≤ 0)) (h1 : 0 < b → r < b ∧ -b < r) (h2 : b < 0 → r < -b ∧ b < r)
    (a0 : -9223372036854775808 ≤ a) (a1 : a ≤ 9223372036854775807) (b0 : -9223372036854775808 ≤ b) (b1 : b ≤ 9223372036854775807) (w : World) :
    Calls Try.prog 7 #[.int .i64 a, .int .i64 b] w fun e w' => e = .returned (.bool true) ∧ Below w.heap.size w w' := by
  have hc : (0 < a ∧ 0 < r) ∨ (0 < a ∧ r = 0) ∨ (a = 0 ∧ r = 0) ∨ (a < 0 ∧ r < 0) ∨ (a < 0 ∧ r = 0) := by omega
  have hbn : ¬ b = 0 := by simpa using hb0
  have hd : (0 < b ∧ r < b ∧ -b < r) ∨ (b < 0 ∧ r < -b ∧ b < r) := by omega
  clear hs h1 h2 hbn
  rcases hl with hl | ⟨hl, hl2⟩ <;> rcases hd with ⟨d1, d2, d3⟩ | ⟨d1, d2, d3⟩ <;> rcases hc with ⟨c1, c2⟩ | ⟨c1, rfl⟩ | ⟨rfl, rfl⟩ | ⟨c1, c2⟩ | ⟨c1, rfl⟩
  any_goals (exfalso; simp only [beq_iff_eq] at hl; omega)
  all_goals
    go_enter Try.func7, Try.ntmps7
    go_wp2_with fail
    refine (awake_calls _).mono ?_
    rintro e w0 ⟨rfl, k0⟩
    go_wp2_with fail
    refine (A1.out _).mono ?_
    rintro e w1 ⟨rfl, k1⟩
    go_wp2_with fail
    refine (A2.out _).mono ?_
    rintro e w2 ⟨rfl, k2⟩
    go_wp2_with fail
    refine (A3.out _).mono ?_
    rintro e w3 ⟨rfl, k3⟩
    go_wp2_with fail
    refine (A4.out _).mono ?_
    rintro e w4 ⟨rfl, k4⟩
    go_wp2
    go_ret
    refine ⟨ret_bool ?_, up_trans (up_trans (up_trans (up_trans k0 k1) k2) k3) k4⟩
    first | rfl | (rw [decide_eq_true_iff]; omega)

set_option maxRecDepth 100000 in
set_option maxHeartbeats 1000000 in
theorem share_zero (a b : Int) (hb0 : (b == 0) = true)
    (A1 : Hid (∀ w, Calls Try.prog 15 #[.int .i64 a, .int .i64 b] w (Two 0 11 w)))
    (A2 : Hid (∀ w, Calls Try.prog 17 #[.int .i64 a, .int .i64 b] w (Two 0 11 w))) (w : World) :
    Calls Try.prog 7 #[.int .i64 a, .int .i64 b] w fun e w' => e = .returned (.bool true) ∧ Below w.heap.size w w' := by
  go_enter Try.func7, Try.ntmps7
  go_wp2_with fail
  refine (awake_calls _).mono ?_
  rintro e w0 ⟨rfl, k0⟩
  go_wp2_with fail
  refine (A1.out _).mono ?_
  rintro e w1 ⟨rfl, k1⟩
  go_wp2_with fail
  refine (A2.out _).mono ?_
  rintro e w2 ⟨rfl, k2⟩
  go_wp2
  go_ret
  exact ⟨rfl, up_trans (up_trans k0 k1) k2⟩

set_option maxRecDepth 100000 in
set_option maxHeartbeats 1000000 in
theorem share_over (a b : Int) (hb0 : (b == 0) = false) (hb1 : (b == -1) = true) (hl : (a == -9223372036854775808) = true)
    (A1 : Hid (∀ w, Calls Try.prog 15 #[.int .i64 a, .int .i64 b] w (Two 0 10 w)))
    (A2 : Hid (∀ w, Calls Try.prog 17 #[.int .i64 a, .int .i64 b] w (Two 0 0 w))) (w : World) :
    Calls Try.prog 7 #[.int .i64 a, .int .i64 b] w fun e w' => e = .returned (.bool true) ∧ Below w.heap.size w w' := by
  go_enter Try.func7, Try.ntmps7
  go_wp2_with fail
  refine (awake_calls _).mono ?_
  rintro e w0 ⟨rfl, k0⟩
  go_wp2_with fail
  refine (A1.out _).mono ?_
  rintro e w1 ⟨rfl, k1⟩
  go_wp2_with fail
  refine (A2.out _).mono ?_
  rintro e w2 ⟨rfl, k2⟩
  go_wp2
  go_ret
  exact ⟨rfl, up_trans (up_trans k0 k1) k2⟩

theorem numShare_walk (a b : Int) (ha : -9223372036854775808 ≤ a ∧ a ≤ 9223372036854775807) (hb : -9223372036854775808 ≤ b ∧ b ≤ 9223372036854775807) (w : World) :
    Calls Try.prog 7 #[.int .i64 a, .int .i64 b] w fun e w' => e = .returned (.bool true) ∧ Below w.heap.size w w' := by
  obtain ⟨a0, a1⟩ := ha
  obtain ⟨b0, b1⟩ := hb
  have H1 := fun w => div_calls a b a0 a1 b0 b1 w
  have H2 := fun w => mod_calls a b a0 a1 b0 b1 w
  by_cases hz : b = 0
  · subst hz
    have e1 : dive a 0 = 11 := by unfold dive; rw [if_pos rfl]
    have e2 : remv a 0 = 0 := by unfold remv; rw [if_pos rfl]
    rw [Int.tdiv_zero, fitv_in (by omega) (by omega), e1] at H1
    rw [e2, zeroe_yes] at H2
    exact share_zero a 0 rfl (Lib.hid H1) (Lib.hid H2) w
  · rw [dive_no hz] at H1
    rw [zeroe_no hz] at H2
    by_cases ho : a = -9223372036854775808 ∧ b = -1
    · obtain ⟨rfl, rfl⟩ := ho
      rw [show fitv (Int.tdiv (-9223372036854775808) (-1)) = 0 from by decide, show fite (Int.tdiv (-9223372036854775808) (-1)) = 10 from by decide] at H1
      rw [show remv (-9223372036854775808) (-1) = 0 from by decide] at H2
      exact share_over _ _ rfl rfl rfl (Lib.hid H1) (Lib.hid H2) w
    · obtain ⟨q0, q1⟩ := tdiv_bounds a b a0 a1 ho
      rw [fitv_in q0 q1, fite_in q0 q1] at H1
      obtain ⟨s1, s2, s3, s4, s5, s6, s7⟩ := share_parts a b hz
      have H3 := fun w => mul_calls b (a.tdiv b) b0 b1 q0 q1 w
      have r0 := remv_bounds a b a0 a1
      generalize hr : remv a b = r at *
      generalize hp : b * a.tdiv b = p at *
      rw [fitv_in (by omega) (by omega), fite_in (by omega) (by omega)] at H3
      have H4 := fun w => add_calls p r (by omega) (by omega) (by omega) (by omega) w
      rw [s3, fitv_in a0 a1, fite_in a0 a1] at H4
      refine share_walk a b (a.tdiv b) r p (beq_eq_false_iff_ne.2 hz) (Lib.hid H1) (Lib.hid H2) (Lib.hid H3) (Lib.hid H4) ?_ ⟨s1, s2⟩ s4 s5 a0 a1 b0 b1 w
      by_cases e : a = -9223372036854775808
      · exact Or.inr ⟨by simp [e], beq_eq_false_iff_ne.2 fun k => ho ⟨e, k⟩⟩
      · exact Or.inl (beq_eq_false_iff_ne.2 e)
end Go.Proofs.Ytkfgfjgdhdohhaa
