/- A region that draws its order, reads old memory alone, and calls what makes memory: one walk in the order of the text, over all worlds that lie over the one it began in. -/
import Derived.BigQuiet
import Derived.Below
import Derived.Lib.Hide
import Derived.Laws.World
namespace Go.Proofs.YtlbdoomknjiilaaDoor
open Go.RowKit
set_option linter.unusedVariables false

/-- a world over W0: all that was there lies as it lay -/
structure Over (W0 : World) where
  w : World
  h : Below W0.heap.size W0 w
def Over.base (W0 : World) : Over W0 := ⟨W0, Below.refl _ _⟩
def Over.next {W0 : World} (n : Over W0) {w' : World} (b : Below n.w.heap.size n.w w') : Over W0 := ⟨w', n.h.trans (b.mono n.h.size)⟩
instance overSome (W0 : World) : Nonempty (Over W0) := ⟨Over.base W0⟩
theorem Over.cells {W0 : World} : ∀ (n : Over W0) (b o : Nat), b < W0.heap.size → n.w.cell? ⟨b, o, none⟩ = W0.cell? ⟨b, o, none⟩ := fun n b o h => n.h.cell (p := ⟨b, o, none⟩) h
theorem wp_region_over {P : Program} {id : Nat} {Q : Exit → Act → World → Prop} {a : Act} {w : World} {l : List Oper} (hm : P.follows .mixedOrders = true) (hB : Region.lexB .any l.toArray = true)
    (h : wpQuiet P l.toArray (fun w' => ∃ n : Over w, w' = n.w) (fun a' => ∀ w', (∃ n : Over w, w' = n.w) → Q .normal a' w') l a) : (Code.region id l.toArray true).wp P Q a w :=
  wp_region_quiet (C := fun w' => ∃ n : Over w, w' = n.w) hm hB ⟨⟨w.drew, (Below.refl _ w).drew⟩, rfl⟩ (by simpa using h)
theorem over_calls {P : Program} {W0 : World} {n : Over W0} {f : FuncId} {args : Array Value} {v : Value}
    (h : Calls P f args n.w fun e w' => e = .returned v ∧ Below n.w.heap.size n.w w') : Calls P f args n.w fun e w'' => e = .returned v ∧ ∃ m : Over W0, w'' = m.w :=
  h.mono fun e w ⟨he, b⟩ => ⟨he, n.next b, rfl⟩
end Go.Proofs.YtlbdoomknjiilaaDoor
