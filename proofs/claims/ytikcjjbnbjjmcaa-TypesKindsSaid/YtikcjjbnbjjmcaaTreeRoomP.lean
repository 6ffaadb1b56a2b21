/- The laws' own reckoning of room: RoomP (made by gen_room.py). -/
import Derived.Test.YtikcjjbnbjjmcaaTreeRoom
namespace Go.Proofs.Ytikcjjbnbjjmcaa
open Go.RowKit
set_option linter.unusedVariables false

end Go.Proofs.Ytikcjjbnbjjmcaa
