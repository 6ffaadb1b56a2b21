/- The laws' own reckoning of room: RoomE (made by gen_room.py). -/
import Derived.Test.YtikcjjbnbjjmcaaTreeRoomP
import Derived.Test.YtikcjjbnbjjmcaaTreeRoomT
namespace Go.Proofs.Ytikcjjbnbjjmcaa
open Go.RowKit
set_option linter.unusedVariables false

end Go.Proofs.Ytikcjjbnbjjmcaa
