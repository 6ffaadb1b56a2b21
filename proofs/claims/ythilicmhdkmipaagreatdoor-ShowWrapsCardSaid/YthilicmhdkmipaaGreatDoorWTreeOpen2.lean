/- What came in as data lies in memory as a tree: statements, items, programs (made by gen_open.py). -/
import Derived.Test.YthilicmhdkmipaaGreatDoorWJoinAZ
namespace Go.Proofs.YthilicmhdkmipaaGreatDoor
open Go.RowKit
set_option linter.unusedVariables false

section
variable {H : Type} {enc : TypeId × Value → H} {w : World} {spare : Nat → Bool} {held : Bool}
end
end Go.Proofs.YthilicmhdkmipaaGreatDoor

