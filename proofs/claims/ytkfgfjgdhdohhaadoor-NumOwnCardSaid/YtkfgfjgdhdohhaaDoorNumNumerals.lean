/- The walk of NumNumerals: what any text says, and any number's own numeral, are what the chapter says. -/
import Derived.Test.YtkfgfjgdhdohhaaDoorRefParse
import Derived.Test.YtkfgfjgdhdohhaaDoorPrint
import Derived.WalkSmall
namespace Go.Proofs.YtkfgfjgdhdohhaaDoor
open Go.RowKit
set_option linter.unusedVariables false

set_option maxHeartbeats 400000 in
theorem same_calls (a e : Int) (w : World) :
    Calls Tryd.prog 7 #[.int .i64 a, .int .i64 e, .int .i64 a, .int .i64 e] w fun z w' => z = .returned (.bool true) ∧ w = w' := by
  go_enter Tryd.func7, Tryd.ntmps7
  go_wp2
  go_ret
  exact ⟨by simp, rfl⟩

theorem pow10_at : Tryd.prog.globalNamed "internal/strconv.uint64pow10" = some 0 := by kernel_rfl

/-- the table stays as it is while nothing that was there is written -/
theorem tab_stays {w w1 : World} (h : Lib.TabIs Tryd.prog w "internal/strconv.uint64pow10" .u64 Lib.pow10Tab) (hb : Below w.heap.size w w1) : Lib.TabIs Tryd.prog w1 "internal/strconv.uint64pow10" .u64 Lib.pow10Tab := by
  have hc := h.cell pow10_at 0 (by decide)
  have hg : 0 < w.heap.size := by
    by_cases k : 0 < w.heap.size
    · exact k
    · exfalso
      simp [World.cell?, Array.getElem?_eq_none (by omega : w.heap.size ≤ 0)] at hc
  exact var?_below hb pow10_at hg h

set_option maxRecDepth 100000 in
set_option maxHeartbeats 1000000 in
theorem numNumerals_walk (s : ByteArray) (a : Int) (hs : s.size ≤ maxLen) (ha : -9223372036854775808 ≤ a ∧ a ≤ 9223372036854775807) (w : World) (htab : Hid (Lib.TabIs Tryd.prog w "internal/strconv.uint64pow10" .u64 Lib.pow10Tab)) :
    Calls Tryd.prog 3 #[.string s, .int .i64 a] w fun e w' => e = .returned (.bool true) ∧ Below w.heap.size w w' := by
  obtain ⟨a0, a1⟩ := ha
  by_cases hl : 2000 < s.size
  · have e1 : (2000 : Int) < (s.size : Int) := by omega
    unfold maxLen at hs
    go_enter Tryd.func3, Tryd.ntmps3
    go_wp2_with fail
    go_ret
    exact ⟨rfl, Below.refl _ _⟩
  · have e1 : (s.size : Int) ≤ 2000 := by omega
    go_enter Tryd.func3, Tryd.ntmps3
    go_wp2_with fail
    refine (parse_calls s hs _).mono ?_
    rintro e w1 ⟨rfl, k1⟩
    have t1 := Lib.hid (tab_stays htab.out k1)
    go_wp2_with fail
    refine (refParse_calls s hs _).mono ?_
    rintro e w2 ⟨rfl, rfl⟩
    go_wp2_with fail
    refine (same_calls _ _ _).mono ?_
    rintro e w2 ⟨rfl, rfl⟩
    go_wp2_with fail
    refine (print_calls a a0 a1 _ t1).mono ?_
    rintro e w2 ⟨rfl, k2⟩
    go_wp2_with fail
    refine (refPrint_calls a a0 a1 _).mono ?_
    rintro e w3 ⟨rfl, k3⟩
    go_wp2
    go_ret
    exact ⟨ret_bool (by simp), up_trans (up_trans k1 k2) k3⟩
end Go.Proofs.YtkfgfjgdhdohhaaDoor
