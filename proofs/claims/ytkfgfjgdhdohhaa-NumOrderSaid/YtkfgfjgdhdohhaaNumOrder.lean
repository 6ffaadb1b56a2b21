/- The walk of NumOrder: the greater of two stays the greater one; taken from 0 it is the lesser one; what is taken away can be added again. -/
import Derived.Test.YtkfgfjgdhdohhaaAwake
namespace Go.Proofs.Ytkfgfjgdhdohhaa
open Go.RowKit
set_option linter.unusedVariables false

set_option maxRecDepth 100000 in
set_option maxHeartbeats 8000000 in
theorem order_walk (a b c x e y f p g q h d i k j : Int)
    (A1 : Hid (∀ w, Calls Try.prog 9 #[.int .i64 a, .int .i64 c] w fun z w' => z = .returned (.tuple #[.int .i64 x, .int .i64 e]) ∧ Below w.heap.size w w'))
    (A2 : Hid (∀ w, Calls Try.prog 9 #[.int .i64 b, .int .i64 c] w fun z w' => z = .returned (.tuple #[.int .i64 y, .int .i64 f]) ∧ Below w.heap.size w w'))
    (A3 : Hid (∀ w, Calls Try.prog 19 #[.int .i64 a] w fun z w' => z = .returned (.tuple #[.int .i64 p, .int .i64 g]) ∧ Below w.heap.size w w'))
    (A4 : Hid (∀ w, Calls Try.prog 19 #[.int .i64 b] w fun z w' => z = .returned (.tuple #[.int .i64 q, .int .i64 h]) ∧ Below w.heap.size w w'))
    (A5 : Hid (∀ w, Calls Try.prog 11 #[.int .i64 a, .int .i64 b] w fun z w' => z = .returned (.tuple #[.int .i64 d, .int .i64 i]) ∧ Below w.heap.size w w'))
    (A6 : Hid (∀ w, Calls Try.prog 9 #[.int .i64 d, .int .i64 b] w fun z w' => z = .returned (.tuple #[.int .i64 k, .int .i64 j]) ∧ Below w.heap.size w w'))
    (t1 : (e == 0) = false ∨ (e == 0) = true ∧ (f == 0) = false ∨ (e == 0) = true ∧ (f == 0) = true ∧ decide (x < y) = decide (a < b))
    (t2 : (g == 0) = false ∧ (a != -9223372036854775808) = false ∨ (a != -9223372036854775808) = true ∧ (g == 0) = true ∧ ((h == 0) = false ∨ (h == 0) = true ∧ decide (q < p) = decide (a < b)))
    (t3 : (i != 0) = true ∨ (i != 0) = false ∧ (j == 0) = true ∧ (k == a) = true) (w : World) :
    Calls Try.prog 5 #[.int .i64 a, .int .i64 b, .int .i64 c] w fun e w' => e = .returned (.bool true) ∧ Below w.heap.size w w' := by
  rcases t3 with t3 | ⟨t3, t4, t5⟩ <;> rcases t1 with t1 | ⟨t1, t6⟩ | ⟨t1, t6, t7⟩ <;> rcases t2 with ⟨t2, u1⟩ | ⟨u1, t2, u2 | ⟨u2, u3⟩⟩
  all_goals
    go_enter Try.func5, Try.ntmps5
    go_wp2_with fail
    refine (awake_calls _).mono ?_
    rintro e w0 ⟨rfl, k0⟩
    go_wp2_with fail
    refine (A1.out _).mono ?_
    rintro e w1 ⟨rfl, k1⟩
    go_wp2_with fail
    refine (A2.out _).mono ?_
    rintro e w2 ⟨rfl, k2⟩
    go_wp2_with fail
    refine (A3.out _).mono ?_
    rintro e w3 ⟨rfl, k3⟩
    go_wp2_with fail
    refine (A4.out _).mono ?_
    rintro e w4 ⟨rfl, k4⟩
    go_wp2_with fail
    refine (A5.out _).mono ?_
    rintro e w5 ⟨rfl, k5⟩
    go_wp2_with fail
    refine (A6.out _).mono ?_
    rintro e w6 ⟨rfl, k6⟩
    go_wp2
    go_ret
    refine ⟨ret_bool ?_, up_trans (up_trans (up_trans (up_trans (up_trans (up_trans k0 k1) k2) k3) k4) k5) k6⟩
    first | rfl | exact t5

theorem fite_01 (n : Int) : (fite n == 0) = true ∧ fitv n = n ∨ (fite n == 0) = false ∧ fitv n = 0 := by
  by_cases h : -9223372036854775808 ≤ n ∧ n ≤ 9223372036854775807
  · left; rw [fite_in h.1 h.2, fitv_in h.1 h.2]; exact ⟨rfl, rfl⟩
  · right; rw [fite_out (by omega), fitv_out (by omega)]; exact ⟨rfl, rfl⟩

theorem numOrder_walk (a b c : Int) (ha : -9223372036854775808 ≤ a ∧ a ≤ 9223372036854775807) (hb : -9223372036854775808 ≤ b ∧ b ≤ 9223372036854775807) (hc : -9223372036854775808 ≤ c ∧ c ≤ 9223372036854775807) (w : World) :
    Calls Try.prog 5 #[.int .i64 a, .int .i64 b, .int .i64 c] w fun e w' => e = .returned (.bool true) ∧ Below w.heap.size w w' := by
  have hd : -9223372036854775808 ≤ fitv (a - b) ∧ fitv (a - b) ≤ 9223372036854775807 := by unfold fitv; split <;> omega
  refine order_walk a b c _ _ _ _ _ _ _ _ _ _ _ _ (Lib.hid fun w => add_calls a c ha.1 ha.2 hc.1 hc.2 w) (Lib.hid fun w => add_calls b c hb.1 hb.2 hc.1 hc.2 w) (Lib.hid fun w => neg_calls a ha.1 ha.2 w) (Lib.hid fun w => neg_calls b hb.1 hb.2 w) (Lib.hid fun w => sub_calls a b ha.1 ha.2 hb.1 hb.2 w) (Lib.hid fun w => add_calls (fitv (a - b)) b hd.1 hd.2 hb.1 hb.2 w) ?_ ?_ ?_ w
  · rcases fite_01 (a + c) with ⟨e, e2⟩ | ⟨e, _⟩
    · rcases fite_01 (b + c) with ⟨f, f2⟩ | ⟨f, _⟩
      · refine Or.inr (Or.inr ⟨e, f, ?_⟩)
        rw [e2, f2]
        exact decide_eq_decide.2 (by omega)
      · exact Or.inr (Or.inl ⟨e, f⟩)
    · exact Or.inl e
  · by_cases h : a = -9223372036854775808
    · left
      subst h
      exact ⟨rfl, rfl⟩
    · right
      refine ⟨by rw [bne_iff_ne]; exact h, by rw [fite_in (by omega) (by omega)]; rfl, ?_⟩
      rcases fite_01 (-b) with ⟨f, f2⟩ | ⟨f, _⟩
      · refine Or.inr ⟨f, ?_⟩
        rw [f2, fitv_in (by omega) (by omega)]
        exact decide_eq_decide.2 (by omega)
      · exact Or.inl f
  · rcases fite_01 (a - b) with ⟨e, e2⟩ | ⟨e, _⟩
    · refine Or.inr ⟨by rw [bne, e]; rfl, ?_, ?_⟩
      · rw [e2, show a - b + b = a from by omega, fite_in ha.1 ha.2]; rfl
      · rw [e2, show a - b + b = a from by omega, fitv_in ha.1 ha.2]; simp
    · exact Or.inl (by rw [bne, e]; rfl)
end Go.Proofs.Ytkfgfjgdhdohhaa
