/- What the document's own Parse (weftwayref01) comes to: what a text says, as Parse says it. -/
import Derived.Test.YtekmkepaokdbmaaRefMul
import Derived.Test.YtekmkepaokdbmaaRefParseMath
namespace Go.Proofs.Ytekmkepaokdbmaa
open Go.RowKit
set_option linter.unusedVariables false

theorem byte45 (c : UInt8) : ((c.toNat : Int) == 45) = decide (c = 45) := by
  rw [Bool.eq_iff_iff, decide_eq_true_iff, beq_iff_eq]
  refine ⟨fun k => UInt8.toNat_inj.1 (by show c.toNat = 45; omega), fun k => ?_⟩
  subst k; rfl

end Go.Proofs.Ytekmkepaokdbmaa
