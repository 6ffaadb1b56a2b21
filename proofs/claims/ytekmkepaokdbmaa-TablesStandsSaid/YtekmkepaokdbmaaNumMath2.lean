/- More plain arithmetic: what a quotient may come to. -/
import Derived.Test.YtekmkepaokdbmaaNumMath
namespace Go.Proofs.Ytekmkepaokdbmaa

theorem tdiv_bounds (a b : Int) (a0 : -9223372036854775808 ≤ a) (a1 : a ≤ 9223372036854775807) (h : ¬ (a = -9223372036854775808 ∧ b = -1)) : -9223372036854775808 ≤ a.tdiv b ∧ a.tdiv b ≤ 9223372036854775807 := by
  have l : (a.tdiv b).natAbs ≤ a.natAbs := by rw [Int.natAbs_tdiv]; exact Nat.div_le_self _ _
  by_cases e : a = -9223372036854775808
  · have hb : ¬ b = -1 := fun k => h ⟨e, k⟩
    by_cases hb0 : b = 0
    · subst hb0; rw [Int.tdiv_zero]; omega
    · by_cases hp : 0 < b
      · have : a.tdiv b ≤ 0 := by
          have k := Int.tdiv_nonneg (show 0 ≤ -a by omega) (show 0 ≤ b by omega)
          rw [Int.neg_tdiv] at k
          omega
        omega
      · have l2 : (a.tdiv b).natAbs ≤ a.natAbs / 2 := by
          rw [Int.natAbs_tdiv]
          exact Nat.div_le_div_left (by omega) (by omega)
        omega
  · omega
theorem share_parts (a b : Int) (hb : ¬ b = 0) : (0 ≤ a → 0 ≤ remv a b) ∧ (a ≤ 0 → remv a b ≤ 0) ∧ b * a.tdiv b + remv a b = a ∧ (0 < b → remv a b < b ∧ -b < remv a b) ∧ (b < 0 → remv a b < -b ∧ b < remv a b) ∧ (0 ≤ a → 0 ≤ b * a.tdiv b) ∧ (a ≤ 0 → b * a.tdiv b ≤ 0) := by
  unfold remv
  rw [if_neg hb]
  have e := Int.mul_tdiv_add_tmod a b
  have s1 : 0 ≤ a → 0 ≤ a.tmod b := fun h => Int.tmod_nonneg _ h
  have s2 : a ≤ 0 → a.tmod b ≤ 0 := fun h => by
    have k := Int.tmod_nonneg b (show 0 ≤ -a by omega)
    rw [Int.neg_tmod] at k
    omega
  have l : (a.tmod b).natAbs < b.natAbs := by rw [Int.natAbs_tmod]; exact Nat.mod_lt _ (by omega)
  have l2 : (a.tmod b).natAbs ≤ a.natAbs := by rw [Int.natAbs_tmod]; exact Nat.mod_le _ _
  generalize a.tmod b = r at *
  generalize b * a.tdiv b = p at *
  refine ⟨s1, s2, e, ?_, ?_, ?_, ?_⟩ <;> omega
end Go.Proofs.Ytekmkepaokdbmaa
