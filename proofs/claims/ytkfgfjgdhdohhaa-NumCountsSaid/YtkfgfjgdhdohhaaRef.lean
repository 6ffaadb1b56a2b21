/- What the document's own answers of layer 1 (weftwayref01) come to. -/
import Derived.Test.YtkfgfjgdhdohhaaNumMath2
import Derived.IntWalk
import Derived.Test.YtkfgfjgdhdohhaaChecked
import Derived.WalkKit
import Derived.Outline
import Derived.Lib.Hide
namespace Go.Proofs.Ytkfgfjgdhdohhaa
open Go.RowKit
set_option linter.unusedVariables false

set_option maxHeartbeats 400000 in
theorem refAdd_calls (a b : Int) (a0 : -9223372036854775808 ≤ a) (a1 : a ≤ 9223372036854775807) (b0 : -9223372036854775808 ≤ b) (b1 : b ≤ 9223372036854775807) (w : World) :
    Calls Try.prog 10 #[.int .i64 a, .int .i64 b] w fun z w' => z = .returned (.tuple #[.int .i64 (fitv (a + b)), .int .i64 (fite (a + b))]) ∧ w = w' := by
  have h : (0 ≤ b ∧ a ≤ 9223372036854775807 - b) ∨ (0 ≤ b ∧ 9223372036854775807 - b < a) ∨ (b < 0 ∧ -9223372036854775808 - b ≤ a) ∨ (b < 0 ∧ a < -9223372036854775808 - b) := by omega
  rcases h with ⟨h, k⟩ | ⟨h, k⟩ | ⟨h, k⟩ | ⟨h, k⟩
  all_goals
    first | rw [fitv_in (by omega) (by omega), fite_in (by omega) (by omega)] | rw [fitv_out (by omega), fite_out (by omega)]
    go_enter Try.func10, Try.ntmps10
    go_wp2
    go_ret2
    exact ⟨rfl, rfl⟩

set_option maxHeartbeats 400000 in
theorem refSub_calls (a b : Int) (a0 : -9223372036854775808 ≤ a) (a1 : a ≤ 9223372036854775807) (b0 : -9223372036854775808 ≤ b) (b1 : b ≤ 9223372036854775807) (w : World) :
    Calls Try.prog 12 #[.int .i64 a, .int .i64 b] w fun z w' => z = .returned (.tuple #[.int .i64 (fitv (a - b)), .int .i64 (fite (a - b))]) ∧ w = w' := by
  have h : (0 ≤ b ∧ -9223372036854775808 + b ≤ a) ∨ (0 ≤ b ∧ a < -9223372036854775808 + b) ∨ (b < 0 ∧ a ≤ 9223372036854775807 + b) ∨ (b < 0 ∧ 9223372036854775807 + b < a) := by omega
  rcases h with ⟨h, k⟩ | ⟨h, k⟩ | ⟨h, k⟩ | ⟨h, k⟩
  all_goals
    first | rw [fitv_in (by omega) (by omega), fite_in (by omega) (by omega)] | rw [fitv_out (by omega), fite_out (by omega)]
    go_enter Try.func12, Try.ntmps12
    go_wp2
    go_ret2
    exact ⟨rfl, rfl⟩

set_option maxHeartbeats 400000 in
theorem refNeg_calls (a : Int) (a0 : -9223372036854775808 ≤ a) (a1 : a ≤ 9223372036854775807) (w : World) :
    Calls Try.prog 20 #[.int .i64 a] w fun z w' => z = .returned (.tuple #[.int .i64 (fitv (-a)), .int .i64 (fite (-a))]) ∧ w = w' := by
  have e0 := Lib.hid (Int.zero_sub a)
  go_enter Try.func20, Try.ntmps20
  go_wp2_with fail
  refine (refSub_calls 0 a (by omega) (by omega) a0 a1 _).mono ?_
  rw [e0.out]
  rintro e w1 ⟨rfl, rfl⟩
  go_wp2
  go_ret2
  exact ⟨rfl, rfl⟩

set_option maxHeartbeats 400000 in
theorem refBelow_calls (a : Int) (a0 : -9223372036854775808 ≤ a) (a1 : a ≤ 9223372036854775807) (w : World) :
    Calls Try.prog 28 #[.int .i64 a] w fun z w' => z = .returned (.int .i64 (-mag a)) ∧ w = w' := by
  by_cases h : 0 < a
  · rw [mag_pos (by omega)]
    go_enter Try.func28, Try.ntmps28
    go_wp2
    go_ret
    exact ⟨rfl, rfl⟩
  · have e : -mag a = a := by unfold mag; split <;> omega
    rw [e]
    clear e
    go_enter Try.func28, Try.ntmps28
    go_wp2
    go_ret
    exact ⟨rfl, rfl⟩

set_option maxHeartbeats 400000 in
theorem refDiv_calls (a b : Int) (a0 : -9223372036854775808 ≤ a) (a1 : a ≤ 9223372036854775807) (b0 : -9223372036854775808 ≤ b) (b1 : b ≤ 9223372036854775807) (w : World) :
    Calls Try.prog 16 #[.int .i64 a, .int .i64 b] w fun z w' => z = .returned (.tuple #[.int .i64 (fitv (a.tdiv b)), .int .i64 (dive a b)]) ∧ w = w' := by
  by_cases hz : b = 0
  · subst hz
    have e1 : dive a 0 = 11 := by unfold dive; rw [if_pos rfl]
    rw [Int.tdiv_zero, fitv_in (by omega) (by omega), e1]
    clear e1
    go_enter Try.func16, Try.ntmps16
    go_wp2
    go_ret2
    exact ⟨rfl, rfl⟩
  · have h0 : (b == 0) = false := beq_eq_false_iff_ne.2 hz
    rw [dive_no hz]
    by_cases ho : a = -9223372036854775808 ∧ b = -1
    · have h1 : (a == -9223372036854775808) = true := by simp [ho.1]
      have h2 : (b == -1) = true := by simp [ho.2]
      have hv : fitv (a.tdiv b) = 0 ∧ fite (a.tdiv b) = 10 := by rw [ho.1, ho.2]; decide
      rw [hv.1, hv.2]
      clear ho hv hz
      go_enter Try.func16, Try.ntmps16
      go_wp2
      go_ret2
      exact ⟨rfl, rfl⟩
    · obtain ⟨q0, q1⟩ := tdiv_bounds a b a0 a1 ho
      rw [fitv_in q0 q1, fite_in q0 q1]
      have hw : IntKind.i64.wrap (a.tdiv b) = a.tdiv b := IntWalk.i64_in _ ⟨q0, q1⟩
      have hc : (a == -9223372036854775808) = false ∨ (a == -9223372036854775808) = true ∧ (b == -1) = false := by
        by_cases e : a = -9223372036854775808
        · exact Or.inr ⟨by simp [e], beq_eq_false_iff_ne.2 fun k => ho ⟨e, k⟩⟩
        · exact Or.inl (beq_eq_false_iff_ne.2 e)
      clear ho
      rcases hc with h1 | ⟨h1, h2⟩
      all_goals
        go_enter Try.func16, Try.ntmps16
        go_wp2
        go_ret2
        exact ⟨ret_two (by first | rfl | exact hw) rfl, rfl⟩
set_option maxHeartbeats 400000 in
theorem refMod_calls (a b : Int) (a0 : -9223372036854775808 ≤ a) (a1 : a ≤ 9223372036854775807) (b0 : -9223372036854775808 ≤ b) (b1 : b ≤ 9223372036854775807) (w : World) :
    Calls Try.prog 18 #[.int .i64 a, .int .i64 b] w fun z w' => z = .returned (.tuple #[.int .i64 (remv a b), .int .i64 (zeroe b)]) ∧ w = w' := by
  have H := fun w => refDiv_calls a b a0 a1 b0 b1 w
  by_cases hz : b = 0
  · subst hz
    have e1 : dive a 0 = 11 := by unfold dive; rw [if_pos rfl]
    have e2 : remv a 0 = 0 := by unfold remv; rw [if_pos rfl]
    rw [Int.tdiv_zero, fitv_in (by omega) (by omega), e1] at H
    rw [e2, zeroe_yes]
    have K := Lib.hid H
    clear H e1 e2
    go_enter Try.func18, Try.ntmps18
    go_wp2_with fail
    refine (K.out _).mono ?_
    rintro e w1 ⟨rfl, rfl⟩
    go_wp2
    go_ret2
    exact ⟨rfl, rfl⟩
  · rw [dive_no hz] at H
    rw [zeroe_no hz]
    by_cases ho : a = -9223372036854775808 ∧ b = -1
    · obtain ⟨rfl, rfl⟩ := ho
      rw [show fitv (Int.tdiv (-9223372036854775808) (-1)) = 0 from by decide, show fite (Int.tdiv (-9223372036854775808) (-1)) = 10 from by decide] at H
      rw [show remv (-9223372036854775808) (-1) = 0 from by decide]
      have K := Lib.hid H
      clear H
      go_enter Try.func18, Try.ntmps18
      go_wp2_with fail
      refine (K.out _).mono ?_
      rintro e w1 ⟨rfl, rfl⟩
      go_wp2
      go_ret2
      exact ⟨rfl, rfl⟩
    · obtain ⟨q0, q1⟩ := tdiv_bounds a b a0 a1 ho
      rw [fitv_in q0 q1, fite_in q0 q1] at H
      obtain ⟨s1, s2, s3, s4, s5, s6, s7⟩ := share_parts a b hz
      have r0 := remv_bounds a b a0 a1
      have K := Lib.hid H
      generalize hq : a.tdiv b = q at *
      generalize hp : b * q = p at *
      generalize hr : remv a b = r at *
      have p0 : -9223372036854775808 ≤ p := by omega
      have p1 : p ≤ 9223372036854775807 := by omega
      have he : Hid (a - p = r) := Lib.hid (by omega)
      have d0 : -9223372036854775808 ≤ a - p := by omega
      have d1 : a - p ≤ 9223372036854775807 := by omega
      clear H s1 s2 s3 s4 s5 s6 s7 r0 hq hr ho
      go_enter Try.func18, Try.ntmps18
      go_wp2_with fail
      refine (K.out _).mono ?_
      rintro e w1 ⟨rfl, rfl⟩
      go_wp2
      go_ret2
      exact ⟨ret_two he.out rfl, rfl⟩
end Go.Proofs.Ytkfgfjgdhdohhaa
