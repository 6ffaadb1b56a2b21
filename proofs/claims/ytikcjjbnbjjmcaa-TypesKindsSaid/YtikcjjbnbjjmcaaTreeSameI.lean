/- Contracts of package tree: sameness, SameI (made by gen_same.py). -/
import Derived.Test.YtikcjjbnbjjmcaaTreeEqI
import Derived.Test.YtikcjjbnbjjmcaaTreeSameF
import Derived.Test.YtikcjjbnbjjmcaaTreeSameS
namespace Go.Proofs.Ytikcjjbnbjjmcaa
open Go.RowKit
set_option linter.unusedVariables false

end Go.Proofs.Ytikcjjbnbjjmcaa
