/- The walk of NumPaper: three numbers added come to the same in any order; a product is shared out over a sum. -/
import Derived.Test.YtkfgfjgdhdohhaaAwake
namespace Go.Proofs.Ytkfgfjgdhdohhaa
open Go.RowKit
set_option linter.unusedVariables false

theorem fite_both (n : Int) : (fite n == 0) = true ∧ (fite n != 0) = false ∧ fitv n = n ∧ (-9223372036854775808 ≤ n ∧ n ≤ 9223372036854775807) ∨ (fite n == 0) = false ∧ (fite n != 0) = true ∧ fitv n = 0 := by
  by_cases h : -9223372036854775808 ≤ n ∧ n ≤ 9223372036854775807
  · left; rw [fite_in h.1 h.2, fitv_in h.1 h.2]; exact ⟨rfl, rfl, rfl, h⟩
  · right; rw [fite_out (by omega), fitv_out (by omega)]; exact ⟨rfl, rfl, rfl⟩
theorem fitv_bounds (n : Int) : -9223372036854775808 ≤ fitv n ∧ fitv n ≤ 9223372036854775807 := by unfold fitv; split <;> omega

set_option maxRecDepth 100000 in
set_option maxHeartbeats 8000000 in
theorem paper_walk (a b c ab e bc f x g y h p l q m r n s o : Int)
    (A1 : Hid (∀ w, Calls Try.prog 9 #[.int .i64 a, .int .i64 b] w fun z w' => z = .returned (.tuple #[.int .i64 ab, .int .i64 e]) ∧ Below w.heap.size w w'))
    (A2 : Hid (∀ w, Calls Try.prog 9 #[.int .i64 b, .int .i64 c] w fun z w' => z = .returned (.tuple #[.int .i64 bc, .int .i64 f]) ∧ Below w.heap.size w w'))
    (A3 : Hid (∀ w, Calls Try.prog 9 #[.int .i64 ab, .int .i64 c] w fun z w' => z = .returned (.tuple #[.int .i64 x, .int .i64 g]) ∧ Below w.heap.size w w'))
    (A4 : Hid (∀ w, Calls Try.prog 9 #[.int .i64 a, .int .i64 bc] w fun z w' => z = .returned (.tuple #[.int .i64 y, .int .i64 h]) ∧ Below w.heap.size w w'))
    (A5 : Hid (∀ w, Calls Try.prog 9 #[.int .i64 b, .int .i64 a] w fun z w' => z = .returned (.tuple #[.int .i64 ab, .int .i64 e]) ∧ Below w.heap.size w w'))
    (A6 : Hid (∀ w, Calls Try.prog 13 #[.int .i64 ab, .int .i64 c] w fun z w' => z = .returned (.tuple #[.int .i64 p, .int .i64 l]) ∧ Below w.heap.size w w'))
    (A7 : Hid (∀ w, Calls Try.prog 13 #[.int .i64 a, .int .i64 c] w fun z w' => z = .returned (.tuple #[.int .i64 q, .int .i64 m]) ∧ Below w.heap.size w w'))
    (A8 : Hid (∀ w, Calls Try.prog 13 #[.int .i64 b, .int .i64 c] w fun z w' => z = .returned (.tuple #[.int .i64 r, .int .i64 n]) ∧ Below w.heap.size w w'))
    (A9 : Hid (∀ w, Calls Try.prog 9 #[.int .i64 q, .int .i64 r] w fun z w' => z = .returned (.tuple #[.int .i64 s, .int .i64 o]) ∧ Below w.heap.size w w'))
    (t : (e == 0) = false ∧ (e != 0) = true ∨ (e == 0) = true ∧ (e != 0) = false ∧ ((f == 0) = false ∨ (f == 0) = true ∧ (g != h) = false ∧ (x != y) = false) ∧ ((l != 0) = true ∨ (l != 0) = false ∧ (m != 0) = true ∨ (l != 0) = false ∧ (m != 0) = false ∧ (n != 0) = true ∨ (l != 0) = false ∧ (m != 0) = false ∧ (n != 0) = false ∧ (o == 0) = true ∧ (s == p) = true)) (w : World) :
    Calls Try.prog 4 #[.int .i64 a, .int .i64 b, .int .i64 c] w fun e w' => e = .returned (.bool true) ∧ Below w.heap.size w w' := by
  rcases t with ⟨t1, t2⟩ | ⟨t1, t2, t3 | ⟨t3, t4, t5⟩, u1 | ⟨u1, u2⟩ | ⟨u1, u2, u3⟩ | ⟨u1, u2, u3, u4, u5⟩⟩
  all_goals
    go_enter Try.func4, Try.ntmps4
    go_wp2_with fail
    refine (awake_calls _).mono ?_
    rintro e w0 ⟨rfl, k0⟩
    go_wp2_with fail
    refine (A1.out _).mono ?_
    rintro e w1 ⟨rfl, k1⟩
    go_wp2_with fail
    refine (A2.out _).mono ?_
    rintro e w2 ⟨rfl, k2⟩
    go_wp2_with fail
    refine (A3.out _).mono ?_
    rintro e w3 ⟨rfl, k3⟩
    go_wp2_with fail
    refine (A4.out _).mono ?_
    rintro e w4 ⟨rfl, k4⟩
    go_wp2_with fail
    refine (A5.out _).mono ?_
    rintro e w5 ⟨rfl, k5⟩
    go_wp2_with fail
    refine (A6.out _).mono ?_
    rintro e w6 ⟨rfl, k6⟩
    go_wp2_with fail
    refine (A7.out _).mono ?_
    rintro e w7 ⟨rfl, k7⟩
    go_wp2_with fail
    refine (A8.out _).mono ?_
    rintro e w8 ⟨rfl, k8⟩
    go_wp2_with fail
    refine (A9.out _).mono ?_
    rintro e w9 ⟨rfl, k9⟩
    go_wp2
    go_ret
    refine ⟨ret_bool ?_, up_trans (up_trans (up_trans (up_trans (up_trans (up_trans (up_trans (up_trans (up_trans k0 k1) k2) k3) k4) k5) k6) k7) k8) k9⟩
    first | rfl | exact u5

theorem numPaper_walk (a b c : Int) (ha : -9223372036854775808 ≤ a ∧ a ≤ 9223372036854775807) (hb : -9223372036854775808 ≤ b ∧ b ≤ 9223372036854775807) (hc : -9223372036854775808 ≤ c ∧ c ≤ 9223372036854775807) (w : World) :
    Calls Try.prog 4 #[.int .i64 a, .int .i64 b, .int .i64 c] w fun e w' => e = .returned (.bool true) ∧ Below w.heap.size w w' := by
  have h1 := fitv_bounds (a + b)
  have h2 := fitv_bounds (b + c)
  have h3 := fitv_bounds (a * c)
  have h4 := fitv_bounds (b * c)
  have H5 := fun w => add_calls b a hb.1 hb.2 ha.1 ha.2 w
  rw [Int.add_comm b a] at H5
  refine paper_walk a b c _ _ _ _ _ _ _ _ _ _ _ _ _ _ _ _ (Lib.hid fun w => add_calls a b ha.1 ha.2 hb.1 hb.2 w) (Lib.hid fun w => add_calls b c hb.1 hb.2 hc.1 hc.2 w)
    (Lib.hid fun w => add_calls (fitv (a + b)) c h1.1 h1.2 hc.1 hc.2 w) (Lib.hid fun w => add_calls a (fitv (b + c)) ha.1 ha.2 h2.1 h2.2 w) (Lib.hid H5)
    (Lib.hid fun w => mul_calls (fitv (a + b)) c h1.1 h1.2 hc.1 hc.2 w) (Lib.hid fun w => mul_calls a c ha.1 ha.2 hc.1 hc.2 w) (Lib.hid fun w => mul_calls b c hb.1 hb.2 hc.1 hc.2 w)
    (Lib.hid fun w => add_calls (fitv (a * c)) (fitv (b * c)) h3.1 h3.2 h4.1 h4.2 w) ?_ w
  rcases fite_both (a + b) with ⟨e1, e2, e3, e4⟩ | ⟨e1, e2, _⟩
  · refine Or.inr ⟨e1, e2, ?_, ?_⟩
    · rcases fite_both (b + c) with ⟨f1, _, f3, _⟩ | ⟨f1, _, _⟩
      · rw [e3, f3, Int.add_assoc]
        exact Or.inr ⟨f1, by simp, by simp⟩
      · exact Or.inl f1
    · rw [e3, Int.add_mul]
      rcases fite_both (a * c + b * c) with ⟨_, l2, l3, l4⟩ | ⟨_, l2, _⟩
      · rcases fite_both (a * c) with ⟨_, m2, m3, _⟩ | ⟨_, m2, _⟩
        · rcases fite_both (b * c) with ⟨_, n2, n3, _⟩ | ⟨_, n2, _⟩
          · rw [m3, n3, fite_in l4.1 l4.2]
            exact Or.inr (Or.inr (Or.inr ⟨rfl, m2, n2, rfl, by simp⟩))
          · exact Or.inr (Or.inr (Or.inl ⟨l2, m2, n2⟩))
        · exact Or.inr (Or.inl ⟨l2, m2⟩)
      · exact Or.inl l2
  · exact Or.inl ⟨e1, e2⟩
end Go.Proofs.Ytkfgfjgdhdohhaa
