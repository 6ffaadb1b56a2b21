/- What fits, fourth part: the place of an expression, an expression by its shape. -/
import Derived.Test.YtekmkepaokdbmaaTreeFits2
import Derived.Test.YtekmkepaokdbmaaOver
namespace Go.Proofs.Ytekmkepaokdbmaa
open Go.RowKit
set_option linter.unusedVariables false

theorem size_zero {l : List ByteArray} : (decide ((l.length : Int) = 0)) = decide (l.length = 0) := by rw [decide_eq_decide]; omega
theorem noB_toList (s : ByteArray) : noB s = s.toList.isEmpty := by
  have h : noB s = decide (s.toList = []) := by unfold noB; rw [decide_eq_decide, nul_size]
  rw [h]; cases s.toList <;> simp
end Go.Proofs.Ytekmkepaokdbmaa
