/- The walk of NumOwn as far as its last test. -/
import Derived.Test.YtkfgfjgdhdohhaaDoorOwnIns
namespace Go.Proofs.YtkfgfjgdhdohhaaDoor
open Go.RowKit
set_option linter.unusedVariables false

set_option maxRecDepth 100000 in
set_option maxHeartbeats 4000000 in
theorem own_bad_pos2 (a n x : Int) (t : ByteArray) (ht : t.size ≤ 21) (hg : Hid (Good t.data.toList a)) (a0 : -9223372036854775808 ≤ a) (a1 : a ≤ 9223372036854775807) (hsg : 0 ≤ a) (n0 : 0 ≤ n) (n1 : n ≤ 50)
    (T3 : 0 < t.size) (T4 : 1 < t.size) (T5 : (1 : Int) < (t.size : Int)) (T0 : ((t[0].toNat : Int) == 48) = false) (T1 : ((t[0].toNat : Int) == 45) = false)
    (m : Nat) (c : UInt8) (m1 : m ≤ 9223372036854775807) (hc : Hid ((c.toNat : Int) = x)) (hd : Hid (dgt c = false)) (h45 : Hid (¬ (c = 45 ∧ m = 0))) (X : x < 48 ∧ (x == 45) = true ∧ ((m : Int) == 0) = false ∨ x < 48 ∧ (x == 45) = false ∨ 57 < x ∧ (x == 45) = false)
    (P : Hid (∀ w w0 : World, Below w.heap.size w w0 → Hid (Lib.TabIs Tryd.prog w "internal/strconv.uint64pow10" .u64 Lib.pow10Tab) → Calls Tryd.prog 8 #[.int .i64 a] w0 fun e w' => e = .returned (.string t) ∧ Below w0.heap.size w0 w'))
    (w : World) (htab : Hid (Lib.TabIs Tryd.prog w "internal/strconv.uint64pow10" .u64 Lib.pow10Tab)) :
    Calls Tryd.prog 4 #[.int .i64 a, .int .i64 n, .int .i64 (m : Int), .int .u8 x] w fun e w' => e = .returned (.bool true) ∧ Below w.heap.size w w' := by
  have hm : t.size ≤ maxLen := by unfold maxLen; omega
  go_enter Tryd.func4, Tryd.ntmps4
  go_wp2_with fail
  refine (awake_calls _).mono ?_
  rintro e w0 ⟨rfl, k0⟩
  go_wp2_with fail
  refine (P.out _ _ k0 htab).mono ?_
  rintro e w1 ⟨rfl, k1⟩
  go_wp2_with fail
  refine (says_good t a hm hg.out a0 a1 _).mono ?_
  rintro e w2 ⟨rfl, k2⟩
  go_wp2_with fail
  go_loop [10, 11] (fun s i => ∃ (k : Nat) (u : ByteArray), (k : Int) ≤ n ∧ i = .int .i64 k ∧ s = .string u ∧ u.size ≤ 21 + k ∧ Hid (Good u.data.toList a)) (fun _ i => n.toNat - (intOf i).toNat)
  case atStart => exact ⟨0, t, by omega, rfl, rfl, by omega, hg⟩
  case round =>
    obtain ⟨k, u, hk, rfl, rfl, hu, hgu⟩ := hrel
    have hum : u.size ≤ maxLen := by unfold maxLen; omega
    by_cases hlt : (k : Int) < n
    · go_wp2_with fail
      go_round
      case rel => exact ⟨k + 1, ⟨#[48]⟩ ++ u, by omega, by go_num, rfl, by rw [ByteArray.size_append]; show 1 + u.size ≤ _; omega, Lib.hid (by
          have := good_nought hgu.out hsg
          simpa using this)⟩
      case measure => simp [intOf]; omega
    · have hex : n ≤ (k : Int) := by omega
      clear hlt
      have hu71 : u.size ≤ 71 := by omega
      have hcv := one_byte_at c x hc.out
      rcases X with ⟨x1, x2, x3⟩ | ⟨x1, x2⟩ | ⟨x1, x2⟩
      all_goals
        by_cases hmu : m ≤ u.size
        · have hz : (m : Int) ≤ (u.size : Int) := by omega
          go_wp2_with fail
          refine (says_good u a hum hgu.out a0 a1 _).mono ?_
          rintro e w3 ⟨rfl, k3⟩
          go_wp2_with fail
          go_region_with (go_at_call 11; (with_reducible refine (says_ins u m c hmu hu71 hd.out h45.out _).mono ?_); rintro e w4 ⟨rfl, k4⟩)
          go_wp2_with fail
          go_ret
          exact ⟨rfl, up_trans (((up_trans (up_trans (up_trans k0 k1) k2) k3).alloc (up_trans (up_trans (up_trans k0 k1) k2) k3).size _).drew) k4⟩
        · have hz : (u.size : Int) < (m : Int) := by omega
          go_wp2_with fail
          refine (says_good u a hum hgu.out a0 a1 _).mono ?_
          rintro e w3 ⟨rfl, k3⟩
          go_wp2_with fail
          go_ret
          exact ⟨rfl, up_trans (up_trans (up_trans k0 k1) k2) k3⟩

end Go.Proofs.YtkfgfjgdhdohhaaDoor
