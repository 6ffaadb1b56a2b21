/- What the document's own answers of layer 1 (weftwayref01) come to. -/
import Derived.Test.YtbdefkhmomogdaaNumMath2
import Derived.IntWalk
import Derived.Test.YtbdefkhmomogdaaChecked
import Derived.WalkKit
import Derived.Outline
import Derived.Lib.Hide
namespace Go.Proofs.Ytbdefkhmomogdaa
end Go.Proofs.Ytbdefkhmomogdaa
