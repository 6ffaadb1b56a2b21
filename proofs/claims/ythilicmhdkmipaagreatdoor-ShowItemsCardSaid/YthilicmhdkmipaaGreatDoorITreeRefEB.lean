/- The document's own way of saying what is whole: expressions whose operator has one of some forms (first: p0) (made by gen_refWE.py). -/
import Derived.Test.YthilicmhdkmipaaGreatDoorIJoinAP
namespace Go.Proofs.YthilicmhdkmipaaGreatDoor
open Go.RowKit
set_option linter.unusedVariables false

end Go.Proofs.YthilicmhdkmipaaGreatDoor

