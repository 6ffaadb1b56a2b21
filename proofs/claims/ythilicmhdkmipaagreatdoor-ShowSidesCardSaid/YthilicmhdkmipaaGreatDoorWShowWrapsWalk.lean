/- ShowWraps: the walk over abstract contracts. -/
import Derived.Test.YthilicmhdkmipaaGreatDoorWJoinAW
import Derived.Test.YthilicmhdkmipaaGreatDoorWJoinAH
namespace Go.Proofs.YthilicmhdkmipaaGreatDoor
open Go.RowKit
set_option linter.unusedVariables false

theorem ba_nil : (⟨#[]⟩ : ByteArray).toList.isEmpty = true := by rw [ByteArray.toList_eq]; rfl
end Go.Proofs.YthilicmhdkmipaaGreatDoor

