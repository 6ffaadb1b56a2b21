/- Contracts of package tree: slices.EqualFunc at its sort E (made by gen_same.py). -/
import Derived.Test.YtekmkepaokdbmaaTreeSameT
import Derived.Deep.Cut
namespace Go.Proofs.Ytekmkepaokdbmaa
open Go.RowKit
set_option linter.unusedVariables false

end Go.Proofs.Ytekmkepaokdbmaa
