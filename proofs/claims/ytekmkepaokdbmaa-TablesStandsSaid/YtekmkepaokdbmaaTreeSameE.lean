/- Contracts of package tree: sameness, SameE (made by gen_same.py). -/
import Derived.Test.YtekmkepaokdbmaaTreeEqE
namespace Go.Proofs.Ytekmkepaokdbmaa
open Go.RowKit
set_option linter.unusedVariables false

end Go.Proofs.Ytekmkepaokdbmaa
