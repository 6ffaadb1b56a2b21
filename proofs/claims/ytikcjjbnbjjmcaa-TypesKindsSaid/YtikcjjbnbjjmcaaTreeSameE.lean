/- Contracts of package tree: sameness, SameE (made by gen_same.py). -/
import Derived.Test.YtikcjjbnbjjmcaaTreeEqE
namespace Go.Proofs.Ytikcjjbnbjjmcaa
open Go.RowKit
set_option linter.unusedVariables false

end Go.Proofs.Ytikcjjbnbjjmcaa
