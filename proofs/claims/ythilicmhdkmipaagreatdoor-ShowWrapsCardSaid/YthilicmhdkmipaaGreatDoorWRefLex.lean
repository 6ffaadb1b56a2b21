/- What the document's own answers of layer 2 (weftwayref02) come to, first part: Word, part, named. -/
import Derived.Test.YthilicmhdkmipaaGreatDoorWLexKind
import Derived.Test.YthilicmhdkmipaaGreatDoorWJoinAD
namespace Go.Proofs.YthilicmhdkmipaaGreatDoor
open Go.RowKit
set_option linter.unusedVariables false

/-- a row of strings that the call itself has laid -/
def Row (w W : World) (L : List (List UInt8)) : Prop := Hid (∀ k, k < L.length → W.cell? ⟨w.heap.size, k, none⟩ = some (.string (bs (L.getD k [])))) ∧ Below w.heap.size w W
end Go.Proofs.YthilicmhdkmipaaGreatDoor

