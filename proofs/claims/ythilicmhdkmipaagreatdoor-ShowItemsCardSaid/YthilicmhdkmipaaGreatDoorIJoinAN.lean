/- Contracts of package lex, sixth part: Word, Name, Type. -/
import Derived.Test.YthilicmhdkmipaaGreatDoorILexKind
import Derived.Test.YthilicmhdkmipaaGreatDoorIJoinAM
namespace Go.Proofs.YthilicmhdkmipaaGreatDoor
open Go.RowKit
set_option linter.unusedVariables false

theorem kind_is (n k : Nat) : ((n : Int) == (k : Int)) = decide (n = k) := by
  rw [Bool.eq_iff_iff, beq_iff_eq, decide_eq_true_eq]; omega

set_option maxHeartbeats 400000 in
theorem name_says (s : ByteArray) (hs : s.size ≤ maxLen) (w : World) (hmax : MaxOk w) :
    Calls Tryz.prog 187 #[.string s] w fun e w' => e = .returned (.bool (decide (kindL s.data.toList = 2))) ∧ Below w.heap.size w w' := by
  have H := fun w => kindOf_calls s hs w
  have D := Lib.hid fun w h => isWord_calls s hs w h
  generalize wordsL.contains s.data.toList = c at *
  generalize kindL s.data.toList = n at *
  have C := Lib.hid H
  clear H
  go_enter Tryz.func187, Tryz.ntmps187
  go_wp2_with fail
  refine (D.out _ hmax).mono ?_; rintro e w1 ⟨rfl, rfl⟩
  go_wp2_with fail
  refine (C.out _).mono ?_; rintro e w2 ⟨rfl, b2⟩
  go_wp2
  go_ret
  exact ⟨ret_bool (kind_is n 2), b2⟩

set_option maxHeartbeats 400000 in
theorem type_says (s : ByteArray) (hs : s.size ≤ maxLen) (w : World) (hmax : MaxOk w) :
    Calls Tryz.prog 188 #[.string s] w fun e w' => e = .returned (.bool (decide (kindL s.data.toList = 3))) ∧ Below w.heap.size w w' := by
  have H := fun w => kindOf_calls s hs w
  have D := Lib.hid fun w h => isWord_calls s hs w h
  generalize wordsL.contains s.data.toList = c at *
  generalize kindL s.data.toList = n at *
  have C := Lib.hid H
  clear H
  go_enter Tryz.func188, Tryz.ntmps188
  go_wp2_with fail
  refine (D.out _ hmax).mono ?_; rintro e w1 ⟨rfl, rfl⟩
  go_wp2_with fail
  refine (C.out _).mono ?_; rintro e w2 ⟨rfl, b2⟩
  go_wp2
  go_ret
  exact ⟨ret_bool (kind_is n 3), b2⟩
end Go.Proofs.YthilicmhdkmipaaGreatDoor
/- What the document's own answers of layer 2 (weftwayref02) come to, first part: Word, part, named. -/
namespace Go.Proofs.YthilicmhdkmipaaGreatDoor
open Go.RowKit
set_option linter.unusedVariables false

/-- a row of strings that the call itself has laid -/
def Row (w W : World) (L : List (List UInt8)) : Prop := Hid (∀ k, k < L.length → W.cell? ⟨w.heap.size, k, none⟩ = some (.string (bs (L.getD k [])))) ∧ Below w.heap.size w W
end Go.Proofs.YthilicmhdkmipaaGreatDoor
