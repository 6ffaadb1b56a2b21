/- The walk of NumCounts: any two numbers, counted together in each of the six ways, come to what the chapter says. -/
import Derived.Test.YtkfgfjgdhdohhaaNumCalls
import Derived.Test.YtkfgfjgdhdohhaaRefMul
namespace Go.Proofs.Ytkfgfjgdhdohhaa
open Go.RowKit
set_option linter.unusedVariables false

set_option maxHeartbeats 400000 in
theorem same_calls (a e : Int) (w : World) :
    Calls Try.prog 21 #[.int .i64 a, .int .i64 e, .int .i64 a, .int .i64 e] w fun z w' => z = .returned (.bool true) ∧ w = w' := by
  go_enter Try.func21, Try.ntmps21
  go_wp2
  go_ret
  exact ⟨by simp, rfl⟩

theorem up_trans' {w w1 w2 : World} (a : Below w.heap.size w w1) (b : Below w1.heap.size w1 w2) : Below w.heap.size w w2 := a.trans (b.mono a.size)

set_option maxRecDepth 100000 in
set_option maxHeartbeats 4000000 in
theorem numCounts_walk (a b : Int) (ha : -9223372036854775808 ≤ a ∧ a ≤ 9223372036854775807) (hb : -9223372036854775808 ≤ b ∧ b ≤ 9223372036854775807) (w : World) :
    Calls Try.prog 3 #[.int .i64 a, .int .i64 b] w fun e w' => e = .returned (.bool true) ∧ Below w.heap.size w w' := by
  obtain ⟨a0, a1⟩ := ha
  obtain ⟨b0, b1⟩ := hb
  go_enter Try.func3, Try.ntmps3
  go_wp2_with fail
  go_loopw [5] (fun i wr => ∃ k : Nat, k ≤ 6 ∧ i = .int .i64 k ∧ Below w.heap.size w wr) (fun i _ => 6 - (intOf i).toNat)
  case atStart => exact ⟨0, by omega, rfl, Below.refl _ _⟩
  case round =>
    obtain ⟨k, hk, rfl, hB⟩ := hrel
    have hc : k = 0 ∨ k = 1 ∨ k = 2 ∨ k = 3 ∨ k = 4 ∨ k = 5 ∨ k = 6 := by omega
    rcases hc with rfl | rfl | rfl | rfl | rfl | rfl | rfl
    · go_wp2_with fail
      refine (add_calls a b a0 a1 b0 b1 _).mono ?_
      rintro e w0 ⟨rfl, k0⟩
      go_wp2_with fail
      refine (refAdd_calls a b a0 a1 b0 b1 _).mono ?_
      rintro e w1 ⟨rfl, rfl⟩
      go_wp2_with fail
      refine (same_calls _ _ _).mono ?_
      rintro e w2 ⟨rfl, rfl⟩
      go_wp2
      go_roundw
      case rel => exact ⟨1, by omega, rfl, (up_trans' hB k0)⟩
      case measure => simp [intOf]
    · go_wp2_with fail
      refine (add_calls a b a0 a1 b0 b1 _).mono ?_
      rintro e w0 ⟨rfl, k0⟩
      go_wp2_with fail
      refine (refAdd_calls a b a0 a1 b0 b1 _).mono ?_
      rintro e w1 ⟨rfl, rfl⟩
      go_wp2_with fail
      refine (sub_calls a b a0 a1 b0 b1 _).mono ?_
      rintro e w2 ⟨rfl, k2⟩
      go_wp2_with fail
      refine (refSub_calls a b a0 a1 b0 b1 _).mono ?_
      rintro e w3 ⟨rfl, rfl⟩
      go_wp2_with fail
      refine (same_calls _ _ _).mono ?_
      rintro e w4 ⟨rfl, rfl⟩
      go_wp2
      go_roundw
      case rel => exact ⟨2, by omega, rfl, (up_trans' (up_trans' hB k0) k2)⟩
      case measure => simp [intOf]
    · go_wp2_with fail
      refine (add_calls a b a0 a1 b0 b1 _).mono ?_
      rintro e w0 ⟨rfl, k0⟩
      go_wp2_with fail
      refine (refAdd_calls a b a0 a1 b0 b1 _).mono ?_
      rintro e w1 ⟨rfl, rfl⟩
      go_wp2_with fail
      refine (mul_calls a b a0 a1 b0 b1 _).mono ?_
      rintro e w2 ⟨rfl, k2⟩
      go_wp2_with fail
      refine (refMul_calls a b a0 a1 b0 b1 _).mono ?_
      rintro e w3 ⟨rfl, rfl⟩
      go_wp2_with fail
      refine (same_calls _ _ _).mono ?_
      rintro e w4 ⟨rfl, rfl⟩
      go_wp2
      go_roundw
      case rel => exact ⟨3, by omega, rfl, (up_trans' (up_trans' hB k0) k2)⟩
      case measure => simp [intOf]
    · go_wp2_with fail
      refine (add_calls a b a0 a1 b0 b1 _).mono ?_
      rintro e w0 ⟨rfl, k0⟩
      go_wp2_with fail
      refine (refAdd_calls a b a0 a1 b0 b1 _).mono ?_
      rintro e w1 ⟨rfl, rfl⟩
      go_wp2_with fail
      refine (div_calls a b a0 a1 b0 b1 _).mono ?_
      rintro e w2 ⟨rfl, k2⟩
      go_wp2_with fail
      refine (refDiv_calls a b a0 a1 b0 b1 _).mono ?_
      rintro e w3 ⟨rfl, rfl⟩
      go_wp2_with fail
      refine (same_calls _ _ _).mono ?_
      rintro e w4 ⟨rfl, rfl⟩
      go_wp2
      go_roundw
      case rel => exact ⟨4, by omega, rfl, (up_trans' (up_trans' hB k0) k2)⟩
      case measure => simp [intOf]
    · go_wp2_with fail
      refine (add_calls a b a0 a1 b0 b1 _).mono ?_
      rintro e w0 ⟨rfl, k0⟩
      go_wp2_with fail
      refine (refAdd_calls a b a0 a1 b0 b1 _).mono ?_
      rintro e w1 ⟨rfl, rfl⟩
      go_wp2_with fail
      refine (mod_calls a b a0 a1 b0 b1 _).mono ?_
      rintro e w2 ⟨rfl, k2⟩
      go_wp2_with fail
      refine (refMod_calls a b a0 a1 b0 b1 _).mono ?_
      rintro e w3 ⟨rfl, rfl⟩
      go_wp2_with fail
      refine (same_calls _ _ _).mono ?_
      rintro e w4 ⟨rfl, rfl⟩
      go_wp2
      go_roundw
      case rel => exact ⟨5, by omega, rfl, (up_trans' (up_trans' hB k0) k2)⟩
      case measure => simp [intOf]
    · go_wp2_with fail
      refine (add_calls a b a0 a1 b0 b1 _).mono ?_
      rintro e w0 ⟨rfl, k0⟩
      go_wp2_with fail
      refine (refAdd_calls a b a0 a1 b0 b1 _).mono ?_
      rintro e w1 ⟨rfl, rfl⟩
      go_wp2_with fail
      refine (neg_calls a a0 a1 _).mono ?_
      rintro e w2 ⟨rfl, k2⟩
      go_wp2_with fail
      refine (refNeg_calls a a0 a1 _).mono ?_
      rintro e w3 ⟨rfl, rfl⟩
      go_wp2_with fail
      refine (same_calls _ _ _).mono ?_
      rintro e w4 ⟨rfl, rfl⟩
      go_wp2
      go_roundw
      case rel => exact ⟨6, by omega, rfl, (up_trans' (up_trans' hB k0) k2)⟩
      case measure => simp [intOf]
    · go_wp2
      go_ret
      exact ⟨rfl, hB⟩
end Go.Proofs.Ytkfgfjgdhdohhaa
