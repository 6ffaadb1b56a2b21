/- What the document's own answers of layer 1 (weftwayref01) come to. -/
import Derived.Test.YtgpgambbmapicaaNumMath2
import Derived.IntWalk
import Derived.Test.YtgpgambbmapicaaChecked
import Derived.WalkKit
import Derived.Outline
import Derived.Lib.Hide
namespace Go.Proofs.Ytgpgambbmapicaa
open Go.RowKit
set_option linter.unusedVariables false


end Go.Proofs.Ytgpgambbmapicaa
