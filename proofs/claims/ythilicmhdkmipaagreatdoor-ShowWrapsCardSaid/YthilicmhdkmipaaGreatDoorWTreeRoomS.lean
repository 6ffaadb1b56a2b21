/- The laws' own reckoning of room: statements (made by gen_roomS.py). -/
import Derived.Test.YthilicmhdkmipaaGreatDoorWJoinAN
import Derived.Deep.Cut
namespace Go.Proofs.YthilicmhdkmipaaGreatDoor
open Go.RowKit
set_option linter.unusedVariables false

def RoomLAt (B R : Nat) (l : List PS) : Prop := ∀ (v : Value) (b o : Nat) (m : Int) (w : World), RB m → B ≤ w.heap.size → RoomAt B R w m → SlV B v l.length b o → PS.Row B w b o l →
  Calls Tryz.prog 38 #[.pointer (some ⟨R, 0, none⟩), v] w fun e w' => e = .returned (.tuple #[]) ∧ RoomAt B R w' (stmtsR l m) ∧ But R w w'
def SubA (B R : Nat) : PA → Prop | .mk _ _ bo => RoomLAt B R bo
def SubS (B R : Nat) : PS → Prop | .mk _ _ _ _ _ _ _ _ bo el ar _ => RoomLAt B R bo ∧ RoomLAt B R el ∧ ∀ a, a ∈ ar → SubA B R a

end Go.Proofs.YthilicmhdkmipaaGreatDoor

