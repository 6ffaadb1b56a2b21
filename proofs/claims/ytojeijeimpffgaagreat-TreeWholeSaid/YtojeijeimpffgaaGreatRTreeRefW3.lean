/- The document's own way of saying what is whole, third part: what an expression's walk asks of the ones that it calls. -/
import Derived.Test.YtojeijeimpffgaaGreatRTreeRefW2
namespace Go.Proofs.YtojeijeimpffgaaGreat
open Go.RowKit
set_option linter.unusedVariables false

/-- rSh, at a form -/
def rShF (f : List UInt8) (e : PE) : Bool := manyL f e.args.length && (rInt f e && (rPlace f e && (rName f e && rSecond f e)))
def RefWEAt (n : Nat) : Prop := ∀ (B : Nat) (e : PE) (v : VE) (w : World), B ≤ w.heap.size → e.In B w v →
  Calls Tryz.prog 59 #[.agg (e.cells v).toArray, .int .i64 n] w fun r w' => r = .returned (.bool (rE n e)) ∧ Below w.heap.size w w'
end Go.Proofs.YtojeijeimpffgaaGreat

