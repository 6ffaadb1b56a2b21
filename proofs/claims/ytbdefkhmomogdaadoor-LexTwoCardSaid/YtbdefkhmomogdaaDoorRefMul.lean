/- What the document's own Mul of layer 1 (weftwayref01) comes to. -/
import Derived.Test.YtbdefkhmomogdaaDoorRef
namespace Go.Proofs.YtbdefkhmomogdaaDoor
open Go.RowKit
set_option linter.unusedVariables false

set_option maxHeartbeats 800000 in
theorem refMul_opp_in (a b A B Q P : Int) (hs : a < 0 ∧ 0 < b ∨ 0 < a ∧ b < 0) (hA : Hid (mag a = A)) (hB : Hid (mag b = B))
    (a0 : -9223372036854775808 ≤ a) (a1 : a ≤ 9223372036854775807) (b0 : -9223372036854775808 ≤ b) (b1 : b ≤ 9223372036854775807)
    (A1 : 1 ≤ A) (A2 : A ≤ 9223372036854775808) (B1 : 1 ≤ B) (B2 : B < 9223372036854775808) (hB0 : ¬ B = 0) (hn : (-B == -9223372036854775808) = false)
    (hQ : Int.tdiv 9223372036854775808 B = Q) (Q0 : 0 ≤ Q) (Q1 : Q ≤ 9223372036854775808) (hlt : A ≤ Q) (hP : -A * B = P) (P0 : -9223372036854775808 ≤ P) (P1 : P ≤ 9223372036854775807) (w : World) :
    Calls Tryd.prog 44 #[.int .i64 a, .int .i64 b] w fun z w' => z = .returned (.tuple #[.int .i64 P, .int .i64 0]) ∧ w = w' := by
  have z1 : (a == 0) = false := beq_eq_false_iff_ne.2 (by omega)
  have z2 : (b == 0) = false := beq_eq_false_iff_ne.2 (by omega)
  rcases hs with ⟨s1, s2⟩ | ⟨s1, s2⟩
  · have z3 : decide (a < 0) = true := by simpa using s1
    have z4 : decide (b < 0) = false := by simp; omega
    go_enter Tryd.func44, Tryd.ntmps44
    go_wp2_with fail
    refine (refBelow_calls a a0 a1 _).mono ?_
    rw [hA.out]
    rintro e w1 ⟨rfl, rfl⟩
    go_wp2_with fail
    refine (refBelow_calls b b0 b1 _).mono ?_
    rw [hB.out]
    rintro e w1 ⟨rfl, rfl⟩
    go_wp2
    go_ret2
    exact ⟨rfl, rfl⟩
  · have z3 : decide (a < 0) = false := by simp; omega
    have z4 : decide (b < 0) = true := by simpa using s2
    go_enter Tryd.func44, Tryd.ntmps44
    go_wp2_with fail
    refine (refBelow_calls a a0 a1 _).mono ?_
    rw [hA.out]
    rintro e w1 ⟨rfl, rfl⟩
    go_wp2_with fail
    refine (refBelow_calls b b0 b1 _).mono ?_
    rw [hB.out]
    rintro e w1 ⟨rfl, rfl⟩
    go_wp2
    go_ret2
    exact ⟨rfl, rfl⟩

set_option maxHeartbeats 800000 in
theorem refMul_opp_out (a b A B Q : Int) (hs : a < 0 ∧ 0 < b ∨ 0 < a ∧ b < 0) (hA : Hid (mag a = A)) (hB : Hid (mag b = B))
    (a0 : -9223372036854775808 ≤ a) (a1 : a ≤ 9223372036854775807) (b0 : -9223372036854775808 ≤ b) (b1 : b ≤ 9223372036854775807)
    (A1 : 1 ≤ A) (A2 : A ≤ 9223372036854775808) (B1 : 1 ≤ B) (B2 : B < 9223372036854775808) (hB0 : ¬ B = 0) (hn : (-B == -9223372036854775808) = false)
    (hQ : Int.tdiv 9223372036854775808 B = Q) (Q0 : 0 ≤ Q) (Q1 : Q ≤ 9223372036854775808) (hlt : Q < A) (w : World) :
    Calls Tryd.prog 44 #[.int .i64 a, .int .i64 b] w fun z w' => z = .returned (.tuple #[.int .i64 0, .int .i64 10]) ∧ w = w' := by
  have z1 : (a == 0) = false := beq_eq_false_iff_ne.2 (by omega)
  have z2 : (b == 0) = false := beq_eq_false_iff_ne.2 (by omega)
  rcases hs with ⟨s1, s2⟩ | ⟨s1, s2⟩
  · have z3 : decide (a < 0) = true := by simpa using s1
    have z4 : decide (b < 0) = false := by simp; omega
    go_enter Tryd.func44, Tryd.ntmps44
    go_wp2_with fail
    refine (refBelow_calls a a0 a1 _).mono ?_
    rw [hA.out]
    rintro e w1 ⟨rfl, rfl⟩
    go_wp2_with fail
    refine (refBelow_calls b b0 b1 _).mono ?_
    rw [hB.out]
    rintro e w1 ⟨rfl, rfl⟩
    go_wp2
    go_ret2
    exact ⟨rfl, rfl⟩
  · have z3 : decide (a < 0) = false := by simp; omega
    have z4 : decide (b < 0) = true := by simpa using s2
    go_enter Tryd.func44, Tryd.ntmps44
    go_wp2_with fail
    refine (refBelow_calls a a0 a1 _).mono ?_
    rw [hA.out]
    rintro e w1 ⟨rfl, rfl⟩
    go_wp2_with fail
    refine (refBelow_calls b b0 b1 _).mono ?_
    rw [hB.out]
    rintro e w1 ⟨rfl, rfl⟩
    go_wp2
    go_ret2
    exact ⟨rfl, rfl⟩

set_option maxHeartbeats 800000 in
theorem refMul_least_in (a b : Int) (s1 : 0 < a) (s2 : b < 0) (hA : Hid (mag a = 1)) (hB : Hid (mag b = 9223372036854775808))
    (a0 : -9223372036854775808 ≤ a) (a1 : a ≤ 9223372036854775807) (b0 : -9223372036854775808 ≤ b) (b1 : b ≤ 9223372036854775807) (w : World) :
    Calls Tryd.prog 44 #[.int .i64 a, .int .i64 b] w fun z w' => z = .returned (.tuple #[.int .i64 (-9223372036854775808), .int .i64 0]) ∧ w = w' := by
  have z1 : (a == 0) = false := beq_eq_false_iff_ne.2 (by omega)
  have z2 : (b == 0) = false := beq_eq_false_iff_ne.2 (by omega)
  have z3 : decide (a < 0) = false := by simp; omega
  have z4 : decide (b < 0) = true := by simpa using s2
  go_enter Tryd.func44, Tryd.ntmps44
  go_wp2_with fail
  refine (refBelow_calls a a0 a1 _).mono ?_
  rw [hA.out]
  rintro e w1 ⟨rfl, rfl⟩
  go_wp2_with fail
  refine (refBelow_calls b b0 b1 _).mono ?_
  rw [hB.out]
  rintro e w1 ⟨rfl, rfl⟩
  go_wp2
  go_ret2
  exact ⟨rfl, rfl⟩

set_option maxHeartbeats 800000 in
theorem refMul_least_out (a b A : Int) (s1 : 0 < a) (s2 : b < 0) (hA : Hid (mag a = A)) (hA1 : (-A != -1) = true) (hB : Hid (mag b = 9223372036854775808))
    (a0 : -9223372036854775808 ≤ a) (a1 : a ≤ 9223372036854775807) (b0 : -9223372036854775808 ≤ b) (b1 : b ≤ 9223372036854775807) (w : World) :
    Calls Tryd.prog 44 #[.int .i64 a, .int .i64 b] w fun z w' => z = .returned (.tuple #[.int .i64 0, .int .i64 10]) ∧ w = w' := by
  have z1 : (a == 0) = false := beq_eq_false_iff_ne.2 (by omega)
  have z2 : (b == 0) = false := beq_eq_false_iff_ne.2 (by omega)
  have z3 : decide (a < 0) = false := by simp; omega
  have z4 : decide (b < 0) = true := by simpa using s2
  go_enter Tryd.func44, Tryd.ntmps44
  go_wp2_with fail
  refine (refBelow_calls a a0 a1 _).mono ?_
  rw [hA.out]
  rintro e w1 ⟨rfl, rfl⟩
  go_wp2_with fail
  refine (refBelow_calls b b0 b1 _).mono ?_
  rw [hB.out]
  rintro e w1 ⟨rfl, rfl⟩
  go_wp2
  go_ret2
  exact ⟨rfl, rfl⟩

set_option maxHeartbeats 800000 in
theorem refMul_zero (a b : Int) (h : a = 0 ∨ b = 0) (w : World) :
    Calls Tryd.prog 44 #[.int .i64 a, .int .i64 b] w fun z w' => z = .returned (.tuple #[.int .i64 0, .int .i64 0]) ∧ w = w' := by
  by_cases h1 : a = 0
  · subst h1
    clear h
    go_enter Tryd.func44, Tryd.ntmps44
    go_wp2
    go_ret2
    exact ⟨rfl, rfl⟩
  · have h2 : b = 0 := by omega
    have z1 : (a == 0) = false := beq_eq_false_iff_ne.2 h1
    subst h2
    clear h h1
    go_enter Tryd.func44, Tryd.ntmps44
    go_wp2
    go_ret2
    exact ⟨rfl, rfl⟩

set_option maxHeartbeats 800000 in
theorem refMul_same (a b A B Q P R E : Int) (hs : a < 0 ∧ b < 0 ∨ 0 < a ∧ 0 < b) (hA : Hid (mag a = A)) (hB : Hid (mag b = B))
    (a0 : -9223372036854775808 ≤ a) (a1 : a ≤ 9223372036854775807) (b0 : -9223372036854775808 ≤ b) (b1 : b ≤ 9223372036854775807)
    (A1 : 1 ≤ A) (A2 : A ≤ 9223372036854775808) (B1 : 1 ≤ B) (B2 : B ≤ 9223372036854775808) (hB0 : ¬ B = 0)
    (hQ : Int.tdiv 9223372036854775807 B = Q) (Q0 : 0 ≤ Q) (Q1 : Q ≤ 9223372036854775807)
    (hR : A ≤ Q ∧ P ≤ 9223372036854775807 ∧ R = P ∧ E = 0 ∨ Q < A ∧ R = 0 ∧ E = 10) (hP : A * B = P) (hP2 : -A * -B = P) (P0 : 0 ≤ P) (w : World) :
    Calls Tryd.prog 44 #[.int .i64 a, .int .i64 b] w fun z w' => z = .returned (.tuple #[.int .i64 R, .int .i64 E]) ∧ w = w' := by
  have z1 : (a == 0) = false := beq_eq_false_iff_ne.2 (by omega)
  have z2 : (b == 0) = false := beq_eq_false_iff_ne.2 (by omega)
  rcases hs with ⟨s1, s2⟩ | ⟨s1, s2⟩
  · have z3 : decide (a < 0) = true := by simpa using s1
    have z4 : decide (b < 0) = true := by simpa using s2
    rcases hR with ⟨r1, r2, rfl, rfl⟩ | ⟨r1, rfl, rfl⟩
    all_goals
      go_enter Tryd.func44, Tryd.ntmps44
      go_wp2_with fail
      refine (refBelow_calls a a0 a1 _).mono ?_
      rw [hA.out]
      rintro e w1 ⟨rfl, rfl⟩
      go_wp2_with fail
      refine (refBelow_calls b b0 b1 _).mono ?_
      rw [hB.out]
      rintro e w1 ⟨rfl, rfl⟩
      go_wp2
      go_ret2
      exact ⟨rfl, rfl⟩
  · have z3 : decide (a < 0) = false := by simp; omega
    have z4 : decide (b < 0) = false := by simp; omega
    rcases hR with ⟨r1, r2, rfl, rfl⟩ | ⟨r1, rfl, rfl⟩
    all_goals
      go_enter Tryd.func44, Tryd.ntmps44
      go_wp2_with fail
      refine (refBelow_calls a a0 a1 _).mono ?_
      rw [hA.out]
      rintro e w1 ⟨rfl, rfl⟩
      go_wp2_with fail
      refine (refBelow_calls b b0 b1 _).mono ?_
      rw [hB.out]
      rintro e w1 ⟨rfl, rfl⟩
      go_wp2
      go_ret2
      exact ⟨rfl, rfl⟩

/-- A·B is within c just where A is within c shared out by B -/
theorem le_div_iff (A B c : Int) (hB : 1 ≤ B) (hc : 0 ≤ c) : A ≤ c.tdiv B ↔ A * B ≤ c := by
  rw [Int.tdiv_eq_ediv_of_nonneg hc]
  exact Int.le_ediv_iff_mul_le (by omega)

theorem refMul_calls (a b : Int) (a0 : -9223372036854775808 ≤ a) (a1 : a ≤ 9223372036854775807) (b0 : -9223372036854775808 ≤ b) (b1 : b ≤ 9223372036854775807) (w : World) :
    Calls Tryd.prog 44 #[.int .i64 a, .int .i64 b] w fun z w' => z = .returned (.tuple #[.int .i64 (fitv (a * b)), .int .i64 (fite (a * b))]) ∧ w = w' := by
  by_cases hz : a = 0 ∨ b = 0
  · have e : a * b = 0 := by rcases hz with h | h <;> simp [h]
    rw [e, fitv_in (by omega) (by omega), fite_in (by omega) (by omega)]
    exact refMul_zero a b hz w
  · have hs := sv_mul a b
    have A1 : 1 ≤ mag a := by unfold mag; split <;> omega
    have A2 : mag a ≤ 9223372036854775808 := by unfold mag; split <;> omega
    have B1 : 1 ≤ mag b := by unfold mag; split <;> omega
    have B2 : mag b ≤ 9223372036854775808 := by unfold mag; split <;> omega
    have hp0 : 0 ≤ mag a * mag b := Int.mul_nonneg (by omega) (by omega)
    have hq0 : ∀ c : Int, 0 ≤ c → 0 ≤ c.tdiv (mag b) := fun c hc => Int.tdiv_nonneg hc (by omega)
    have hq1 : ∀ c : Int, 0 ≤ c → c.tdiv (mag b) ≤ c := fun c hc => by rw [Int.tdiv_eq_ediv_of_nonneg hc]; exact Int.ediv_le_self _ hc
    by_cases ho : a < 0 ∧ 0 < b ∨ 0 < a ∧ b < 0
    · have e : a * b = -(mag a * mag b) := by
        rw [← hs]
        rcases ho with ⟨h1, h2⟩ | ⟨h1, h2⟩
        · rw [sgn_true h1, sgn_false (by omega)]; rfl
        · rw [sgn_false (by omega), sgn_true h2]; rfl
      rw [e]
      by_cases hl : mag b = 9223372036854775808
      · have s2 : b < 0 := by unfold mag at hl; split at hl <;> omega
        have s1 : 0 < a := by omega
        rw [hl]
        by_cases h1 : mag a = 1
        · rw [h1, show fitv (-(1 * 9223372036854775808)) = -9223372036854775808 from by decide, show fite (-(1 * 9223372036854775808)) = 0 from by decide]
          exact refMul_least_in a b s1 s2 (Lib.hid h1) (Lib.hid hl) a0 a1 b0 b1 w
        · rw [fitv_out (by omega), fite_out (by omega)]
          exact refMul_least_out a b (mag a) s1 s2 (Lib.hid rfl) (by rw [bne_iff_ne]; omega) (Lib.hid hl) a0 a1 b0 b1 w
      · have hk := le_div_iff (mag a) (mag b) 9223372036854775808 B1 (by omega)
        have hn : (-mag b == -9223372036854775808) = false := beq_eq_false_iff_ne.2 (by omega)
        by_cases hlt : mag a ≤ Int.tdiv 9223372036854775808 (mag b)
        · have := hk.1 hlt
          rw [fitv_in (by omega) (by omega), fite_in (by omega) (by omega)]
          exact refMul_opp_in a b (mag a) (mag b) _ _ ho (Lib.hid rfl) (Lib.hid rfl) a0 a1 b0 b1 A1 A2 B1 (by omega) (by omega) hn rfl (hq0 _ (by omega)) (hq1 _ (by omega)) hlt (Int.neg_mul _ _) (by omega) (by omega) w
        · have : ¬ mag a * mag b ≤ 9223372036854775808 := fun h => hlt (hk.2 h)
          rw [fitv_out (by omega), fite_out (by omega)]
          exact refMul_opp_out a b (mag a) (mag b) _ ho (Lib.hid rfl) (Lib.hid rfl) a0 a1 b0 b1 A1 A2 B1 (by omega) (by omega) hn rfl (hq0 _ (by omega)) (hq1 _ (by omega)) (by omega) w
    · have ho2 : a < 0 ∧ b < 0 ∨ 0 < a ∧ 0 < b := by omega
      have e : a * b = mag a * mag b := by
        rw [← hs]
        rcases ho2 with ⟨h1, h2⟩ | ⟨h1, h2⟩
        · rw [sgn_true h1, sgn_true h2]; rfl
        · rw [sgn_false (by omega), sgn_false (by omega)]; rfl
      rw [e]
      have hk := le_div_iff (mag a) (mag b) 9223372036854775807 B1 (by omega)
      refine refMul_same a b (mag a) (mag b) _ _ _ _ ho2 (Lib.hid rfl) (Lib.hid rfl) a0 a1 b0 b1 A1 A2 B1 B2 (by omega) rfl (hq0 _ (by omega)) (hq1 _ (by omega)) ?_ rfl (Int.neg_mul_neg _ _) hp0 w
      by_cases hlt : mag a ≤ Int.tdiv 9223372036854775807 (mag b)
      · have := hk.1 hlt
        rw [fitv_in (by omega) (by omega), fite_in (by omega) (by omega)]
        exact Or.inl ⟨hlt, this, rfl, rfl⟩
      · have : ¬ mag a * mag b ≤ 9223372036854775807 := fun h => hlt (hk.2 h)
        rw [fitv_out (by omega), fite_out (by omega)]
        exact Or.inr ⟨by omega, rfl, rfl⟩
end Go.Proofs.YtbdefkhmomogdaaDoor
