/- The frame of a law whose row lists variables and whose walk needs the shape of the world as well. -/
import Derived.Test.YtekmkepaokdbmaaLexWordIs
import Derived.Handed
import Derived.Stop.Joined
import Derived.Shelf.Vars
namespace Go.Proofs.Ytekmkepaokdbmaa
open Go.RowKit
set_option linter.unusedVariables false

/-- a world of the right shape: the variable of how long a text is searched at once holds some number -/
theorem max_of {W : World} (hsh : W.ShapedOpen Try.prog) : MaxOk W :=
  cell_of_shapedOpen_int (zero := #[.int .i64 0]) (t := 3) hsh (of_decide_eq_true (by kernel_rfl)) (by kernel_rfl) rfl (by kernel_rfl) (by kernel_rfl) Try.underlying3

end Go.Proofs.Ytekmkepaokdbmaa
