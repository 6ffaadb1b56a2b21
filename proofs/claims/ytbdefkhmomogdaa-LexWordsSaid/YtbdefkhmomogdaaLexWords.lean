/- LexWords: whether any text is a word, a name, a type is what the document says: the walk. -/
import Derived.Test.YtbdefkhmomogdaaLexSays
import Derived.Test.YtbdefkhmomogdaaRefLex
namespace Go.Proofs.Ytbdefkhmomogdaa
open Go.RowKit
set_option linter.unusedVariables false

set_option maxHeartbeats 1000000 in
theorem lexWords_walk (s : ByteArray) (hs : s.size ≤ maxLen) (w : World) (htab : MaxOk w) :
    Calls Try.prog 3 #[.string s] w fun e w' => e = .returned (.bool true) ∧ Below w.heap.size w w' := by
  by_cases h : s.size ≤ 5000
  · have e1 : (s.size : Int) ≤ 5000 := by omega
    have A1 := fun w h => word_says s hs w h
    have A2 := fun w h => name_says s hs w h
    have A3 := fun w h => type_says s hs w h
    have B1 := fun w => refWord_calls s hs w
    have B2 := fun w => refName_calls s hs w
    have B3 := fun w => refType_calls s hs w
    rw [← kind1] at B1
    generalize decide (kindL s.data.toList = 1) = x1 at *
    generalize decide (kindL s.data.toList = 2) = x2 at *
    generalize decide (kindL s.data.toList = 3) = x3 at *
    have C1 := Lib.hid A1
    have C2 := Lib.hid A2
    have C3 := Lib.hid A3
    have D1 := Lib.hid B1
    have D2 := Lib.hid B2
    have D3 := Lib.hid B3
    clear A1 A2 A3 B1 B2 B3 h
    go_enter Try.func3, Try.ntmps3
    go_wp2_with fail
    refine (C1.out _ htab).mono ?_; rintro e w1 ⟨rfl, b1⟩
    go_wp2_with fail
    refine (D1.out _).mono ?_; rintro e w2 ⟨rfl, b2⟩
    have b12 := up_trans b1 b2
    clear b1 b2
    go_wp2_with fail
    refine (C2.out _ (htab.below b12)).mono ?_; rintro e w3 ⟨rfl, b3⟩
    have b13 := up_trans b12 b3
    clear b12 b3
    go_wp2_with fail
    refine (D2.out _).mono ?_; rintro e w4 ⟨rfl, b4⟩
    have b14 := up_trans b13 b4
    clear b13 b4
    go_wp2_with fail
    refine (C3.out _ (htab.below b14)).mono ?_; rintro e w5 ⟨rfl, b5⟩
    have b15 := up_trans b14 b5
    clear b14 b5
    go_wp2_with fail
    refine (D3.out _).mono ?_; rintro e w6 ⟨rfl, b6⟩
    have b16 := up_trans b15 b6
    clear b15 b6
    go_wp2
    go_ret
    exact ⟨ret_bool (by simp), b16⟩
  · have e1 : 5000 < (s.size : Int) := by omega
    clear h
    unfold maxLen at hs
    go_enter Try.func3, Try.ntmps3
    go_wp2
    go_ret
    exact ⟨rfl, Below.refl _ _⟩
end Go.Proofs.Ytbdefkhmomogdaa
