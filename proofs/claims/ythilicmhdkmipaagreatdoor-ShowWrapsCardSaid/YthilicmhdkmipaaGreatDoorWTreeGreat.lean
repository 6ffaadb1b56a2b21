/- The laws' own reckoning of room: programs (made by gen_roomS.py). -/
import Derived.Test.YthilicmhdkmipaaGreatDoorWTreeRoomS
namespace Go.Proofs.YthilicmhdkmipaaGreatDoor
open Go.RowKit
set_option linter.unusedVariables false

end Go.Proofs.YthilicmhdkmipaaGreatDoor

