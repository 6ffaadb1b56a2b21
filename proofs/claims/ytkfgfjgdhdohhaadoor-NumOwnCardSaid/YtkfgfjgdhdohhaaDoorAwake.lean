/- The law's own awake: the chapter's examples come out as they stand there. -/
import Derived.Test.YtkfgfjgdhdohhaaDoorSays
namespace Go.Proofs.YtkfgfjgdhdohhaaDoor
open Go.RowKit
set_option linter.unusedVariables false

theorem row0 (w : World) : Calls Tryd.prog 21 #[.int .i64 40, .int .i64 2] w fun x w' => x = .returned (.tuple #[.int .i64 42, .int .i64 0]) ∧ Below w.heap.size w w' :=
  add_calls 40 2 (by decide) (by decide) (by decide) (by decide) w
theorem row1 (w : World) : Calls Tryd.prog 21 #[.int .i64 9223372036854775807, .int .i64 1] w fun x w' => x = .returned (.tuple #[.int .i64 0, .int .i64 10]) ∧ Below w.heap.size w w' :=
  add_calls 9223372036854775807 1 (by decide) (by decide) (by decide) (by decide) w
theorem row2 (w : World) : Calls Tryd.prog 21 #[.int .i64 (-9223372036854775808), .int .i64 9223372036854775807] w fun x w' => x = .returned (.tuple #[.int .i64 (-1), .int .i64 0]) ∧ Below w.heap.size w w' :=
  add_calls (-9223372036854775808) 9223372036854775807 (by decide) (by decide) (by decide) (by decide) w
theorem row3 (w : World) : Calls Tryd.prog 22 #[.int .i64 0, .int .i64 (-9223372036854775808)] w fun x w' => x = .returned (.tuple #[.int .i64 0, .int .i64 10]) ∧ Below w.heap.size w w' :=
  sub_calls 0 (-9223372036854775808) (by decide) (by decide) (by decide) (by decide) w
theorem row4 (w : World) : Calls Tryd.prog 23 #[.int .i64 (-9223372036854775808)] w fun x w' => x = .returned (.tuple #[.int .i64 0, .int .i64 10]) ∧ Below w.heap.size w w' :=
  neg_calls (-9223372036854775808) (by decide) (by decide) w
theorem row5 (w : World) : Calls Tryd.prog 24 #[.int .i64 3, .int .i64 (-4)] w fun x w' => x = .returned (.tuple #[.int .i64 (-12), .int .i64 0]) ∧ Below w.heap.size w w' :=
  mul_calls 3 (-4) (by decide) (by decide) (by decide) (by decide) w
theorem row6 (w : World) : Calls Tryd.prog 24 #[.int .i64 4611686018427387904, .int .i64 2] w fun x w' => x = .returned (.tuple #[.int .i64 0, .int .i64 10]) ∧ Below w.heap.size w w' :=
  mul_calls 4611686018427387904 2 (by decide) (by decide) (by decide) (by decide) w
theorem row7 (w : World) : Calls Tryd.prog 24 #[.int .i64 (-4611686018427387904), .int .i64 2] w fun x w' => x = .returned (.tuple #[.int .i64 (-9223372036854775808), .int .i64 0]) ∧ Below w.heap.size w w' :=
  mul_calls (-4611686018427387904) 2 (by decide) (by decide) (by decide) (by decide) w
theorem row8 (w : World) : Calls Tryd.prog 25 #[.int .i64 (-17), .int .i64 5] w fun x w' => x = .returned (.tuple #[.int .i64 (-3), .int .i64 0]) ∧ Below w.heap.size w w' :=
  div_calls (-17) 5 (by decide) (by decide) (by decide) (by decide) w
theorem row9 (w : World) : Calls Tryd.prog 26 #[.int .i64 (-17), .int .i64 5] w fun x w' => x = .returned (.tuple #[.int .i64 (-2), .int .i64 0]) ∧ Below w.heap.size w w' :=
  mod_calls (-17) 5 (by decide) (by decide) (by decide) (by decide) w
theorem row10 (w : World) : Calls Tryd.prog 25 #[.int .i64 17, .int .i64 (-5)] w fun x w' => x = .returned (.tuple #[.int .i64 (-3), .int .i64 0]) ∧ Below w.heap.size w w' :=
  div_calls 17 (-5) (by decide) (by decide) (by decide) (by decide) w
theorem row11 (w : World) : Calls Tryd.prog 26 #[.int .i64 17, .int .i64 (-5)] w fun x w' => x = .returned (.tuple #[.int .i64 2, .int .i64 0]) ∧ Below w.heap.size w w' :=
  mod_calls 17 (-5) (by decide) (by decide) (by decide) (by decide) w
theorem row12 (w : World) : Calls Tryd.prog 25 #[.int .i64 1, .int .i64 0] w fun x w' => x = .returned (.tuple #[.int .i64 0, .int .i64 11]) ∧ Below w.heap.size w w' :=
  div_calls 1 0 (by decide) (by decide) (by decide) (by decide) w
theorem text0 (w : World) : Calls Tryd.prog 11 #[.string ⟨#[48, 48, 52, 50]⟩, .int .i64 42, .int .i64 0] w fun x w' => x = .returned (.bool true) ∧ Below w.heap.size w w' := by
  have h := says_calls ⟨#[48, 48, 52, 50]⟩ (by decide) 42 0 w
  rw [show (pv (⟨#[48, 48, 52, 50]⟩ : ByteArray).data.toList == 42 && pe (⟨#[48, 48, 52, 50]⟩ : ByteArray).data.toList == 0) = true from by decide +kernel] at h
  exact h
theorem text1 (w : World) : Calls Tryd.prog 11 #[.string ⟨#[45, 55]⟩, .int .i64 (-7), .int .i64 0] w fun x w' => x = .returned (.bool true) ∧ Below w.heap.size w w' := by
  have h := says_calls ⟨#[45, 55]⟩ (by decide) (-7) 0 w
  rw [show (pv (⟨#[45, 55]⟩ : ByteArray).data.toList == (-7) && pe (⟨#[45, 55]⟩ : ByteArray).data.toList == 0) = true from by decide +kernel] at h
  exact h
theorem text2 (w : World) : Calls Tryd.prog 11 #[.string ⟨#[45, 48, 55]⟩, .int .i64 0, .int .i64 2] w fun x w' => x = .returned (.bool true) ∧ Below w.heap.size w w' := by
  have h := says_calls ⟨#[45, 48, 55]⟩ (by decide) 0 2 w
  rw [show (pv (⟨#[45, 48, 55]⟩ : ByteArray).data.toList == 0 && pe (⟨#[45, 48, 55]⟩ : ByteArray).data.toList == 2) = true from by decide +kernel] at h
  exact h
theorem text3 (w : World) : Calls Tryd.prog 11 #[.string ⟨#[]⟩, .int .i64 0, .int .i64 2] w fun x w' => x = .returned (.bool true) ∧ Below w.heap.size w w' := by
  have h := says_calls ⟨#[]⟩ (by decide) 0 2 w
  rw [show (pv (⟨#[]⟩ : ByteArray).data.toList == 0 && pe (⟨#[]⟩ : ByteArray).data.toList == 2) = true from by decide +kernel] at h
  exact h
theorem text4 (w : World) : Calls Tryd.prog 11 #[.string ⟨#[52, 32, 50]⟩, .int .i64 0, .int .i64 2] w fun x w' => x = .returned (.bool true) ∧ Below w.heap.size w w' := by
  have h := says_calls ⟨#[52, 32, 50]⟩ (by decide) 0 2 w
  rw [show (pv (⟨#[52, 32, 50]⟩ : ByteArray).data.toList == 0 && pe (⟨#[52, 32, 50]⟩ : ByteArray).data.toList == 2) = true from by decide +kernel] at h
  exact h
theorem text5 (w : World) : Calls Tryd.prog 11 #[.string ⟨#[57, 57, 57, 57, 57, 57, 57, 57, 57, 57, 57, 57, 57, 57, 57, 57, 57, 57, 57, 57]⟩, .int .i64 0, .int .i64 10] w fun x w' => x = .returned (.bool true) ∧ Below w.heap.size w w' := by
  have h := says_calls ⟨#[57, 57, 57, 57, 57, 57, 57, 57, 57, 57, 57, 57, 57, 57, 57, 57, 57, 57, 57, 57]⟩ (by decide) 0 10 w
  rw [show (pv (⟨#[57, 57, 57, 57, 57, 57, 57, 57, 57, 57, 57, 57, 57, 57, 57, 57, 57, 57, 57, 57]⟩ : ByteArray).data.toList == 0 && pe (⟨#[57, 57, 57, 57, 57, 57, 57, 57, 57, 57, 57, 57, 57, 57, 57, 57, 57, 57, 57, 57]⟩ : ByteArray).data.toList == 10) = true from by decide +kernel] at h
  exact h

set_option maxRecDepth 100000 in
set_option maxHeartbeats 2000000 in
theorem awake_calls (w : World) : Calls Tryd.prog 10 #[] w fun x w' => x = .returned (.bool true) ∧ Below w.heap.size w w' := by
  go_enter Tryd.func10, Tryd.ntmps10
  go_wp2_with fail
  refine (row0 _).mono ?_
  rintro e w1 ⟨rfl, b0⟩
  go_wp2_with fail
  refine (row1 _).mono ?_
  rintro e w2 ⟨rfl, b⟩
  replace b0 := up_trans b0 b
  clear b
  go_wp2_with fail
  refine (row2 _).mono ?_
  rintro e w3 ⟨rfl, b⟩
  replace b0 := up_trans b0 b
  clear b
  go_wp2_with fail
  refine (row3 _).mono ?_
  rintro e w4 ⟨rfl, b⟩
  replace b0 := up_trans b0 b
  clear b
  go_wp2_with fail
  refine (row4 _).mono ?_
  rintro e w5 ⟨rfl, b⟩
  replace b0 := up_trans b0 b
  clear b
  go_wp2_with fail
  refine (row5 _).mono ?_
  rintro e w6 ⟨rfl, b⟩
  replace b0 := up_trans b0 b
  clear b
  go_wp2_with fail
  refine (row6 _).mono ?_
  rintro e w7 ⟨rfl, b⟩
  replace b0 := up_trans b0 b
  clear b
  go_wp2_with fail
  refine (row7 _).mono ?_
  rintro e w8 ⟨rfl, b⟩
  replace b0 := up_trans b0 b
  clear b
  go_wp2_with fail
  refine (row8 _).mono ?_
  rintro e w9 ⟨rfl, b⟩
  replace b0 := up_trans b0 b
  clear b
  go_wp2_with fail
  refine (row9 _).mono ?_
  rintro e w10 ⟨rfl, b⟩
  replace b0 := up_trans b0 b
  clear b
  go_wp2_with fail
  refine (row10 _).mono ?_
  rintro e w11 ⟨rfl, b⟩
  replace b0 := up_trans b0 b
  clear b
  go_wp2_with fail
  refine (row11 _).mono ?_
  rintro e w12 ⟨rfl, b⟩
  replace b0 := up_trans b0 b
  clear b
  go_wp2_with fail
  refine (row12 _).mono ?_
  rintro e w13 ⟨rfl, b⟩
  replace b0 := up_trans b0 b
  clear b
  go_wp2_with fail
  refine (text0 _).mono ?_
  rintro e w14 ⟨rfl, b⟩
  replace b0 := up_trans b0 b
  clear b
  go_wp2_with fail
  refine (text1 _).mono ?_
  rintro e w15 ⟨rfl, b⟩
  replace b0 := up_trans b0 b
  clear b
  go_wp2_with fail
  refine (text2 _).mono ?_
  rintro e w16 ⟨rfl, b⟩
  replace b0 := up_trans b0 b
  clear b
  go_wp2_with fail
  refine (text3 _).mono ?_
  rintro e w17 ⟨rfl, b⟩
  replace b0 := up_trans b0 b
  clear b
  go_wp2_with fail
  refine (text4 _).mono ?_
  rintro e w18 ⟨rfl, b⟩
  replace b0 := up_trans b0 b
  clear b
  go_wp2_with fail
  refine (text5 _).mono ?_
  rintro e w19 ⟨rfl, b⟩
  replace b0 := up_trans b0 b
  clear b
  go_wp2
  go_ret
  exact ⟨rfl, b0⟩
end Go.Proofs.YtkfgfjgdhdohhaaDoor
