/- The walk of NumOwn, first part: what it calls; too many noughts. -/
import Derived.Test.YtkfgfjgdhdohhaaDoorOwnMath
import Derived.Test.YtkfgfjgdhdohhaaDoorNumNumerals
import Derived.Test.YtkfgfjgdhdohhaaDoorAwake
import Derived.WalkSpells
import Derived.Deep.RegionWith
import Derived.Lib.IndexBytes
namespace Go.Proofs.YtkfgfjgdhdohhaaDoor
open Go.RowKit
set_option linter.unusedVariables false

theorem says_good (u : ByteArray) (a : Int) (hu : u.size ≤ maxLen) (hg : Good u.data.toList a) (a0 : -9223372036854775808 ≤ a) (a1 : a ≤ 9223372036854775807) (w : World) :
    Calls Tryd.prog 11 #[.string u, .int .i64 a, .int .i64 0] w fun x w' => x = .returned (.bool true) ∧ Below w.heap.size w w' := by
  have h := says_calls u hu a 0 w
  rw [good_says hg a0 a1] at h
  exact h

set_option maxRecDepth 100000 in
set_option maxHeartbeats 1000000 in
theorem own_far (a n at_ x : Int) (t : ByteArray) (ht : t.size ≤ 21) (hg : Hid (Good t.data.toList a)) (a0 : -9223372036854775808 ≤ a) (a1 : a ≤ 9223372036854775807) (hn : n < 0 ∨ 50 < n)
    (P : Hid (∀ w w0 : World, Below w.heap.size w w0 → Hid (Lib.TabIs Tryd.prog w "internal/strconv.uint64pow10" .u64 Lib.pow10Tab) → Calls Tryd.prog 8 #[.int .i64 a] w0 fun e w' => e = .returned (.string t) ∧ Below w0.heap.size w0 w'))
    (w : World) (htab : Hid (Lib.TabIs Tryd.prog w "internal/strconv.uint64pow10" .u64 Lib.pow10Tab)) :
    Calls Tryd.prog 4 #[.int .i64 a, .int .i64 n, .int .i64 at_, .int .u8 x] w fun e w' => e = .returned (.bool true) ∧ Below w.heap.size w w' := by
  have hm : t.size ≤ maxLen := by unfold maxLen; omega
  rcases hn with hn | hn
  all_goals
    go_enter Tryd.func4, Tryd.ntmps4
    go_wp2_with fail
    refine (awake_calls _).mono ?_
    rintro e w0 ⟨rfl, k0⟩
    go_wp2_with fail
    refine (P.out _ _ k0 htab).mono ?_
    rintro e w1 ⟨rfl, k1⟩
    go_wp2_with fail
    refine (says_good t a hm hg.out a0 a1 _).mono ?_
    rintro e w2 ⟨rfl, k2⟩
    go_wp2_with fail
    refine (says_good t a hm hg.out a0 a1 _).mono ?_
    rintro e w3 ⟨rfl, k3⟩
    go_wp2
    go_ret
    exact ⟨rfl, up_trans (up_trans (up_trans k0 k1) k2) k3⟩

theorem says_bad (u : ByteArray) (l r : List UInt8) (c : UInt8) (hu : u.size ≤ maxLen) (hl : u.data.toList = l ++ [c] ++ r) (hc : dgt c = false) (h : ¬ (c = 45 ∧ l = [])) (w : World) :
    Calls Tryd.prog 11 #[.string u, .int .i64 0, .int .i64 2] w fun x w' => x = .returned (.bool true) ∧ Below w.heap.size w w' := by
  have k := says_calls u hu 0 2 w
  rw [hl, bad_insert l r c hc h] at k
  exact k
end Go.Proofs.YtkfgfjgdhdohhaaDoor
