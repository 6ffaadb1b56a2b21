/- Small things that the laws' walks share. -/
import Derived.Test.YtipiiaghjkhkbaaPathsAwake
namespace Go.Proofs.Ytipiiaghjkhkbaa
open Go.RowKit
set_option linter.unusedVariables false

/-- a block of a place is as it was -/
theorem pl_up {b : Nat} {W W' : World} {s : Value} {v : Value} (hz : b < W.heap.size) (k : Below W.heap.size W W') (h0 : W.cell? ⟨b, 0, none⟩ = some s) (h1 : W.cell? ⟨b, 1, none⟩ = some v) :
    W'.cell? ⟨b, 0, none⟩ = some s ∧ W'.cell? ⟨b, 1, none⟩ = some v ∧ b < W'.heap.size :=
  ⟨(k.cell (p := ⟨b, 0, none⟩) hz).trans h0, (k.cell (p := ⟨b, 1, none⟩) hz).trans h1, Nat.lt_of_lt_of_le hz k.size⟩
end Go.Proofs.Ytipiiaghjkhkbaa
