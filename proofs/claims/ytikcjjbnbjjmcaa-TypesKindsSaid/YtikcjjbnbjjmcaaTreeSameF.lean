/- Contracts of package tree: sameness, SameF (made by gen_same.py). -/
import Derived.Test.YtikcjjbnbjjmcaaTreeEqF
namespace Go.Proofs.Ytikcjjbnbjjmcaa
open Go.RowKit
set_option linter.unusedVariables false

end Go.Proofs.Ytikcjjbnbjjmcaa
