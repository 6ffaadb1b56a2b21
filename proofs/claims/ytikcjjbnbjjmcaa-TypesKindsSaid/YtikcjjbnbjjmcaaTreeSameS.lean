/- Contracts of package tree: sameness, SameS (made by gen_same.py). -/
import Derived.Test.YtikcjjbnbjjmcaaTreeSameE
import Derived.Test.YtikcjjbnbjjmcaaTreeSameA
namespace Go.Proofs.Ytikcjjbnbjjmcaa
open Go.RowKit
set_option linter.unusedVariables false

end Go.Proofs.Ytikcjjbnbjjmcaa
