/- The walk of NumGoes: adding goes over just where the room is less than what is added. -/
import Derived.Test.YtkfgfjgdhdohhaaAwake
namespace Go.Proofs.Ytkfgfjgdhdohhaa
open Go.RowKit
set_option linter.unusedVariables false

set_option maxRecDepth 100000 in
set_option maxHeartbeats 2000000 in
theorem numGoes_walk (a b : Int) (ha : -9223372036854775808 ≤ a ∧ a ≤ 9223372036854775807) (hb : -9223372036854775808 ≤ b ∧ b ≤ 9223372036854775807) (w : World) :
    Calls Try.prog 6 #[.int .i64 a, .int .i64 b] w fun e w' => e = .returned (.bool true) ∧ Below w.heap.size w w' := by
  obtain ⟨a0, a1⟩ := ha
  obtain ⟨b0, b1⟩ := hb
  have H1 := fun w => sub_calls 9223372036854775807 a (by omega) (by omega) a0 a1 w
  have H2 := fun w => sub_calls (-9223372036854775808) a (by omega) (by omega) a0 a1 w
  have H3 := fun w => add_calls a b a0 a1 b0 b1 w
  have H4 := fun w => sub_calls a b a0 a1 b0 b1 w
  have h : (0 < a ∧ a + b ≤ 9223372036854775807) ∨ (0 < a ∧ 9223372036854775807 < a + b) ∨ a = 0 ∨ (a < 0 ∧ -9223372036854775808 ≤ a + b) ∨ (a < 0 ∧ a + b < -9223372036854775808) := by omega
  rcases h with ⟨h, k⟩ | ⟨h, k⟩ | rfl | ⟨h, k⟩ | ⟨h, k⟩
  all_goals
    first | rw [fitv_in (by omega) (by omega), fite_in (by omega) (by omega)] at H1 | rw [fitv_out (by omega), fite_out (by omega)] at H1
    first | rw [fitv_in (by omega) (by omega), fite_in (by omega) (by omega)] at H2 | rw [fitv_out (by omega), fite_out (by omega)] at H2
    first | rw [fitv_in (by omega) (by omega), fite_in (by omega) (by omega)] at H3 | rw [fitv_out (by omega), fite_out (by omega)] at H3
    try rw [fitv_in (by omega) (by omega), fite_in (by omega) (by omega)] at H4
    have K1 := Lib.hid H1
    have K2 := Lib.hid H2
    have K3 := Lib.hid H3
    have K4 := Lib.hid H4
    clear H1 H2 H3 H4
    go_enter Try.func6, Try.ntmps6
    go_wp2_with fail
    refine (awake_calls _).mono ?_
    rintro e w0 ⟨rfl, c0⟩
    go_wp2_with fail
    refine (K1.out _).mono ?_
    rintro e w1 ⟨rfl, c1⟩
    go_wp2_with fail
    refine (K2.out _).mono ?_
    rintro e w2 ⟨rfl, c2⟩
    go_wp2_with fail
    refine (K3.out _).mono ?_
    rintro e w3 ⟨rfl, c3⟩
    go_wp2_with fail
    refine (K4.out _).mono ?_
    rintro e w4 ⟨rfl, c4⟩
    go_wp2
    go_ret
    exact ⟨rfl, up_trans (up_trans (up_trans (up_trans c0 c1) c2) c3) c4⟩
end Go.Proofs.Ytkfgfjgdhdohhaa
