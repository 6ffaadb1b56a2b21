/- Contracts of package tree: slices.EqualFunc at its sort S (made by gen_same.py). -/
import Derived.Test.YtikcjjbnbjjmcaaTreeSameT
import Derived.Deep.Cut
namespace Go.Proofs.Ytikcjjbnbjjmcaa
open Go.RowKit
set_option linter.unusedVariables false

end Go.Proofs.Ytikcjjbnbjjmcaa
