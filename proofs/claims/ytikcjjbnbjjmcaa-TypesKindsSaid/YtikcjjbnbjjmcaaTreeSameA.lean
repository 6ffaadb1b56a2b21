/- Contracts of package tree: sameness, SameA (made by gen_same.py). -/
import Derived.Test.YtikcjjbnbjjmcaaTreeEqS
import Derived.Test.YtikcjjbnbjjmcaaTreeEqA
namespace Go.Proofs.Ytikcjjbnbjjmcaa
open Go.RowKit
set_option linter.unusedVariables false

end Go.Proofs.Ytikcjjbnbjjmcaa
