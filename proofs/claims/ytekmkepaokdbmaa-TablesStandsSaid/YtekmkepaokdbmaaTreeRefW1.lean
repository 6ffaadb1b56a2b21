/- The document's own way of saying what is whole, first part: letters of a form, places, fields, types. -/
import Derived.Test.YtekmkepaokdbmaaTreeFits4
import Derived.Test.YtekmkepaokdbmaaTreeWholeT
import Derived.Test.YtekmkepaokdbmaaRefLex
namespace Go.Proofs.Ytekmkepaokdbmaa
open Go.RowKit
set_option linter.unusedVariables false

def hasB (F : ByteArray) (c : Int) : Bool := F.data.toList.any fun x => decide ((x.toNat : Int) = c)
theorem is_yes' {a b : Int} (h : a = b) : (a == b) = true := beq_iff_eq.2 h
theorem is_no' {a b : Int} (h : a ≠ b) : (a == b) = false := beq_eq_false_iff_ne.2 h
/-! ### the form of an operator -/
/-! ### how many -/
end Go.Proofs.Ytekmkepaokdbmaa
