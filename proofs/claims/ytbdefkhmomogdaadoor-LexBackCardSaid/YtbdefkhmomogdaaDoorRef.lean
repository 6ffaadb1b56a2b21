/- What the document's own answers of layer 1 (weftwayref01) come to. -/
import Derived.Test.YtbdefkhmomogdaaDoorNumMath2
import Derived.IntWalk
import Derived.Test.YtbdefkhmomogdaaDoorChecked
import Derived.WalkKit
import Derived.Outline
import Derived.Lib.Hide
namespace Go.Proofs.YtbdefkhmomogdaaDoor
open Go.RowKit
set_option linter.unusedVariables false


set_option maxHeartbeats 400000 in
theorem refSub_calls (a b : Int) (a0 : -9223372036854775808 ≤ a) (a1 : a ≤ 9223372036854775807) (b0 : -9223372036854775808 ≤ b) (b1 : b ≤ 9223372036854775807) (w : World) :
    Calls Tryd.prog 45 #[.int .i64 a, .int .i64 b] w fun z w' => z = .returned (.tuple #[.int .i64 (fitv (a - b)), .int .i64 (fite (a - b))]) ∧ w = w' := by
  have h : (0 ≤ b ∧ -9223372036854775808 + b ≤ a) ∨ (0 ≤ b ∧ a < -9223372036854775808 + b) ∨ (b < 0 ∧ a ≤ 9223372036854775807 + b) ∨ (b < 0 ∧ 9223372036854775807 + b < a) := by omega
  rcases h with ⟨h, k⟩ | ⟨h, k⟩ | ⟨h, k⟩ | ⟨h, k⟩
  all_goals
    first | rw [fitv_in (by omega) (by omega), fite_in (by omega) (by omega)] | rw [fitv_out (by omega), fite_out (by omega)]
    go_enter Tryd.func45, Tryd.ntmps45
    go_wp2
    go_ret2
    exact ⟨rfl, rfl⟩

set_option maxHeartbeats 400000 in
theorem refNeg_calls (a : Int) (a0 : -9223372036854775808 ≤ a) (a1 : a ≤ 9223372036854775807) (w : World) :
    Calls Tryd.prog 46 #[.int .i64 a] w fun z w' => z = .returned (.tuple #[.int .i64 (fitv (-a)), .int .i64 (fite (-a))]) ∧ w = w' := by
  have e0 := Lib.hid (Int.zero_sub a)
  go_enter Tryd.func46, Tryd.ntmps46
  go_wp2_with fail
  refine (refSub_calls 0 a (by omega) (by omega) a0 a1 _).mono ?_
  rw [e0.out]
  rintro e w1 ⟨rfl, rfl⟩
  go_wp2
  go_ret2
  exact ⟨rfl, rfl⟩

set_option maxHeartbeats 400000 in
theorem refBelow_calls (a : Int) (a0 : -9223372036854775808 ≤ a) (a1 : a ≤ 9223372036854775807) (w : World) :
    Calls Tryd.prog 53 #[.int .i64 a] w fun z w' => z = .returned (.int .i64 (-mag a)) ∧ w = w' := by
  by_cases h : 0 < a
  · rw [mag_pos (by omega)]
    go_enter Tryd.func53, Tryd.ntmps53
    go_wp2
    go_ret
    exact ⟨rfl, rfl⟩
  · have e : -mag a = a := by unfold mag; split <;> omega
    rw [e]
    clear e
    go_enter Tryd.func53, Tryd.ntmps53
    go_wp2
    go_ret
    exact ⟨rfl, rfl⟩

end Go.Proofs.YtbdefkhmomogdaaDoor
