/- Word, Name, Type as the laws over All use them. -/
import Derived.Test.YtbdefkhmomogdaaDoorLexSays
import Derived.Test.YtbdefkhmomogdaaDoorLexMap
namespace Go.Proofs.YtbdefkhmomogdaaDoor
open Go.RowKit Go.Maps
set_option linter.unusedVariables false

theorem word_calls (s : ByteArray) (hs : s.size ≤ maxLen) (w : World) (htab : Tab w) :
    Calls Tryd.prog 13 #[.string s] w fun e w' => e = .returned (.bool (decide (kindL s.data.toList = 1))) ∧ Below w.heap.size w w' := word_says s hs w htab.out.2
theorem name_calls (s : ByteArray) (hs : s.size ≤ maxLen) (w : World) (htab : Tab w) :
    Calls Tryd.prog 14 #[.string s] w fun e w' => e = .returned (.bool (decide (kindL s.data.toList = 2))) ∧ Below w.heap.size w w' := name_says s hs w htab.out.2
theorem type_calls (s : ByteArray) (hs : s.size ≤ maxLen) (w : World) (htab : Tab w) :
    Calls Tryd.prog 15 #[.string s] w fun e w' => e = .returned (.bool (decide (kindL s.data.toList = 3))) ∧ Below w.heap.size w w' := type_says s hs w htab.out.2
end Go.Proofs.YtbdefkhmomogdaaDoor
