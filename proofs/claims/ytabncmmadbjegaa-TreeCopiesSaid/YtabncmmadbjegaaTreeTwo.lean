/- Two blocks made one behind the other: what is read there. -/
import Derived.Test.YtabncmmadbjegaaJoinA
import Derived.Laws.Rows
namespace Go.Proofs.Ytabncmmadbjegaa
open Go.RowKit
set_option linter.unusedVariables false

theorem new_first (w : World) (A : Array Value) (t : TypeId) (o : Obj) : CellsAt ((w.alloc (.cells A t)).alloc o).drew w.heap.size 0 A.toList := fun i v hi => by
  rw [Nat.zero_add]
  exact (cell_of_row _ _ _ _ _ _ (heap_alloc2_old w (.cells A t) o)).trans (by simpa using hi)
theorem new_second (w : World) (B : Array Value) (t : TypeId) (o : Obj) : CellsAt ((w.alloc o).alloc (.cells B t)).drew (w.heap.size + 1) 0 B.toList := fun i v hi => by
  rw [Nat.zero_add]
  exact (cell_of_row _ _ _ _ _ _ (heap_alloc2_new w o (.cells B t))).trans (by simpa using hi)
theorem new_two (w : World) (a b : Obj) : Below w.heap.size w ((w.alloc a).alloc b).drew := (((Below.refl _ w).alloc (Nat.le_refl _) _).alloc (by simp) _).drew
theorem new_size (w : World) (a b : Obj) : ((w.alloc a).alloc b).drew.heap.size = w.heap.size + 1 + 1 := by
  show ((w.alloc a).alloc b).heap.size = _
  simp
end Go.Proofs.Ytabncmmadbjegaa
