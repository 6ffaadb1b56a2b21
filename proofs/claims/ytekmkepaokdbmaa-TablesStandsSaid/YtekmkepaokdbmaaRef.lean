/- What the document's own answers of layer 1 (weftwayref01) come to. -/
import Derived.Test.YtekmkepaokdbmaaNumMath2
import Derived.IntWalk
import Derived.Test.YtekmkepaokdbmaaChecked
import Derived.WalkKit
import Derived.Outline
import Derived.Lib.Hide
namespace Go.Proofs.Ytekmkepaokdbmaa
open Go.RowKit
set_option linter.unusedVariables false


end Go.Proofs.Ytekmkepaokdbmaa
