/- Contracts of package lex, sixth part: Word, Name, Type. -/
import Derived.Test.YtpkeegngpljndaaDoorLexKind
namespace Go.Proofs.YtpkeegngpljndaaDoor
open Go.RowKit Go.Maps
set_option linter.unusedVariables false

theorem kind_is (n k : Nat) : ((n : Int) == (k : Int)) = decide (n = k) := by
  rw [Bool.eq_iff_iff, beq_iff_eq, decide_eq_true_eq]; omega

set_option maxHeartbeats 400000 in
theorem word_calls (s : ByteArray) (hs : s.size ≤ maxLen) (w : World) (htab : Tab w) :
    Calls Tryd.prog 12 #[.string s] w fun e w' => e = .returned (.bool (decide (kindL s.data.toList = 1))) ∧ Below w.heap.size w w' := by
  have H := fun b w h => kindOf_calls s hs b w h
  generalize kindL s.data.toList = n at *
  have C := Lib.hid H
  clear H
  go_enter Tryd.func12, Tryd.ntmps12
  go_wp2_with fail
  refine (makeWords_calls w htab).mono ?_; rintro e w1 ⟨rfl, m1, b1⟩
  go_wp2_with fail
  refine (C.out _ _ m1).mono ?_; rintro e w2 ⟨rfl, b2⟩
  go_wp2
  go_ret
  exact ⟨ret_bool (kind_is n 1), up_trans b1 b2⟩

set_option maxHeartbeats 400000 in
theorem name_calls (s : ByteArray) (hs : s.size ≤ maxLen) (w : World) (htab : Tab w) :
    Calls Tryd.prog 14 #[.string s] w fun e w' => e = .returned (.bool (decide (kindL s.data.toList = 2))) ∧ Below w.heap.size w w' := by
  have H := fun b w h => kindOf_calls s hs b w h
  generalize kindL s.data.toList = n at *
  have C := Lib.hid H
  clear H
  go_enter Tryd.func14, Tryd.ntmps14
  go_wp2_with fail
  refine (makeWords_calls w htab).mono ?_; rintro e w1 ⟨rfl, m1, b1⟩
  go_wp2_with fail
  refine (C.out _ _ m1).mono ?_; rintro e w2 ⟨rfl, b2⟩
  go_wp2
  go_ret
  exact ⟨ret_bool (kind_is n 2), up_trans b1 b2⟩

set_option maxHeartbeats 400000 in
theorem type_calls (s : ByteArray) (hs : s.size ≤ maxLen) (w : World) (htab : Tab w) :
    Calls Tryd.prog 16 #[.string s] w fun e w' => e = .returned (.bool (decide (kindL s.data.toList = 3))) ∧ Below w.heap.size w w' := by
  have H := fun b w h => kindOf_calls s hs b w h
  generalize kindL s.data.toList = n at *
  have C := Lib.hid H
  clear H
  go_enter Tryd.func16, Tryd.ntmps16
  go_wp2_with fail
  refine (makeWords_calls w htab).mono ?_; rintro e w1 ⟨rfl, m1, b1⟩
  go_wp2_with fail
  refine (C.out _ _ m1).mono ?_; rintro e w2 ⟨rfl, b2⟩
  go_wp2
  go_ret
  exact ⟨ret_bool (kind_is n 3), up_trans b1 b2⟩
end Go.Proofs.YtpkeegngpljndaaDoor
