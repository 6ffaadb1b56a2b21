/- What the document's own Mul of layer 1 (weftwayref01) comes to. -/
import Derived.Test.YtekmkepaokdbmaaRef
namespace Go.Proofs.Ytekmkepaokdbmaa
open Go.RowKit
set_option linter.unusedVariables false

/-- A·B is within c just where A is within c shared out by B -/
theorem le_div_iff (A B c : Int) (hB : 1 ≤ B) (hc : 0 ≤ c) : A ≤ c.tdiv B ↔ A * B ≤ c := by
  rw [Int.tdiv_eq_ediv_of_nonneg hc]
  exact Int.le_ediv_iff_mul_le (by omega)

end Go.Proofs.Ytekmkepaokdbmaa
