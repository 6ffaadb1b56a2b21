/- The walk of NumDigit: a numeral with one more digit behind it says ten times the number, and the digit, away from 0. -/
import Derived.Test.YtkfgfjgdhdohhaaAwake
import Derived.Laws.IdiomStrings
namespace Go.Proofs.Ytkfgfjgdhdohhaa
open Go.RowKit
set_option linter.unusedVariables false

/-- string([]byte{x}) is one byte -/
theorem one_byte (c : UInt8) (x : Int) (hx : (c.toNat : Int) = x) (W : World) :
    (convert 34 9 (.slice (some ⟨W.heap.size, 0, none⟩) 1 1)).run Try.prog (W.alloc (.cells #[.int .u8 x] 5)) = .ok (.string ⟨#[c]⟩) (W.alloc (.cells #[.int .u8 x] 5)) := by
  refine run_convert_bytes_back (P := Try.prog) (W.alloc (.cells #[.int .u8 x] 5)) 34 9 5 ⟨W.heap.size, 0, none⟩ 1 [c] Try.underlying34 Try.underlying5 Try.underlying9 ?_
  intro j hj
  have : j = 0 := by simp at hj; omega
  subst this
  simp [Addr.add, go_sem, hx]

theorem up_new {w w1 w2 : World} {o : Obj} (a : Below w.heap.size w w1) (b : Below (w1.alloc o).heap.size (w1.alloc o) w2) : Below w.heap.size w w2 :=
  up_trans (a.alloc a.size o) b

set_option maxRecDepth 100000 in
set_option maxHeartbeats 4000000 in
theorem digit_arg (s : ByteArray) (c : UInt8) (d n m f : Int) (hc : Hid ((c.toNat : Int) = 48 + d)) (hs : s.size ≤ 100) (d0 : 0 ≤ d) (d1 : d ≤ 9)
    (P1 : Hid (∀ w, Calls Try.prog 23 #[.string s] w fun z w' => z = .returned (.tuple #[.int .i64 n, .int .i64 2]) ∧ Below w.heap.size w w')) (P2 : Hid (∀ w, Calls Try.prog 23 #[.string (s ++ ⟨#[c]⟩)] w fun z w' => z = .returned (.tuple #[.int .i64 m, .int .i64 f]) ∧ Below w.heap.size w w'))
    (hx : (f == 2) = true ∨ (f == 2) = false ∧ s.toList.isEmpty = true ∨ (f == 2) = false ∧ s.toList.isEmpty = false ∧ (s.toList == [45]) = true ∧ 0 < d) (w : World) :
    Calls Try.prog 8 #[.string s, .int .u8 d] w fun e w' => e = .returned (.bool true) ∧ Below w.heap.size w w' := by
  have hcv := fun W => one_byte c (48 + d) hc.out W
  have e1 : (s.size : Int) ≤ 100 := by omega
  rcases hx with hx | ⟨hx, hy⟩ | ⟨hx, hy, hz, hv⟩
  all_goals
    go_enter Try.func8, Try.ntmps8
    go_wp2_with fail
    refine (awake_calls _).mono ?_
    rintro e w0 ⟨rfl, k0⟩
    go_wp2_with fail
    refine (P1.out _).mono ?_
    rintro e w1 ⟨rfl, k1⟩
    go_wp2_with fail
    refine (P2.out _).mono ?_
    rintro e w2 ⟨rfl, k2⟩
    go_wp2
    go_ret
    refine ⟨ret_bool ?_, up_new (up_trans k0 k1) k2⟩
    first | rfl | (simp; done) | assumption

set_option maxRecDepth 100000 in
set_option maxHeartbeats 4000000 in
theorem digit_over (s : ByteArray) (c : UInt8) (d n m : Int) (hc : Hid ((c.toNat : Int) = 48 + d)) (hs : s.size ≤ 100) (d0 : 0 ≤ d) (d1 : d ≤ 9)
    (P1 : Hid (∀ w, Calls Try.prog 23 #[.string s] w fun z w' => z = .returned (.tuple #[.int .i64 n, .int .i64 10]) ∧ Below w.heap.size w w')) (P2 : Hid (∀ w, Calls Try.prog 23 #[.string (s ++ ⟨#[c]⟩)] w fun z w' => z = .returned (.tuple #[.int .i64 m, .int .i64 10]) ∧ Below w.heap.size w w'))
     (w : World) :
    Calls Try.prog 8 #[.string s, .int .u8 d] w fun e w' => e = .returned (.bool true) ∧ Below w.heap.size w w' := by
  have hcv := fun W => one_byte c (48 + d) hc.out W
  have e1 : (s.size : Int) ≤ 100 := by omega
  all_goals
    go_enter Try.func8, Try.ntmps8
    go_wp2_with fail
    refine (awake_calls _).mono ?_
    rintro e w0 ⟨rfl, k0⟩
    go_wp2_with fail
    refine (P1.out _).mono ?_
    rintro e w1 ⟨rfl, k1⟩
    go_wp2_with fail
    refine (P2.out _).mono ?_
    rintro e w2 ⟨rfl, k2⟩
    go_wp2
    go_ret
    refine ⟨ret_bool ?_, up_new (up_trans k0 k1) k2⟩
    first | rfl | (simp; done) | assumption

set_option maxRecDepth 100000 in
set_option maxHeartbeats 4000000 in
theorem digit_mulover (s : ByteArray) (c : UInt8) (d n m x : Int) (hc : Hid ((c.toNat : Int) = 48 + d)) (hs : s.size ≤ 100) (d0 : 0 ≤ d) (d1 : d ≤ 9)
    (P1 : Hid (∀ w, Calls Try.prog 23 #[.string s] w fun z w' => z = .returned (.tuple #[.int .i64 n, .int .i64 0]) ∧ Below w.heap.size w w')) (P2 : Hid (∀ w, Calls Try.prog 23 #[.string (s ++ ⟨#[c]⟩)] w fun z w' => z = .returned (.tuple #[.int .i64 m, .int .i64 10]) ∧ Below w.heap.size w w')) (P3 : Hid (∀ w, Calls Try.prog 13 #[.int .i64 n, .int .i64 10] w fun z w' => z = .returned (.tuple #[.int .i64 x, .int .i64 10]) ∧ Below w.heap.size w w'))
     (w : World) :
    Calls Try.prog 8 #[.string s, .int .u8 d] w fun e w' => e = .returned (.bool true) ∧ Below w.heap.size w w' := by
  have hcv := fun W => one_byte c (48 + d) hc.out W
  have e1 : (s.size : Int) ≤ 100 := by omega
  all_goals
    go_enter Try.func8, Try.ntmps8
    go_wp2_with fail
    refine (awake_calls _).mono ?_
    rintro e w0 ⟨rfl, k0⟩
    go_wp2_with fail
    refine (P1.out _).mono ?_
    rintro e w1 ⟨rfl, k1⟩
    go_wp2_with fail
    refine (P2.out _).mono ?_
    rintro e w2 ⟨rfl, k2⟩
    go_wp2_with fail
    refine (P3.out _).mono ?_
    rintro e w3 ⟨rfl, k3⟩
    go_wp2
    go_ret
    refine ⟨ret_bool ?_, up_trans (up_new (up_trans k0 k1) k2) k3⟩
    first | rfl | (simp; done) | assumption

set_option maxRecDepth 100000 in
set_option maxHeartbeats 4000000 in
theorem digit_in_m (s : ByteArray) (c : UInt8) (d n x y h : Int) (hc : Hid ((c.toNat : Int) = 48 + d)) (hs : s.size ≤ 100) (d0 : 0 ≤ d) (d1 : d ≤ 9)
    (P1 : Hid (∀ w, Calls Try.prog 23 #[.string s] w fun z w' => z = .returned (.tuple #[.int .i64 n, .int .i64 0]) ∧ Below w.heap.size w w')) (P2 : Hid (∀ w, Calls Try.prog 23 #[.string (s ++ ⟨#[c]⟩)] w fun z w' => z = .returned (.tuple #[.int .i64 y, .int .i64 h]) ∧ Below w.heap.size w w')) (P3 : Hid (∀ w, Calls Try.prog 13 #[.int .i64 n, .int .i64 10] w fun z w' => z = .returned (.tuple #[.int .i64 x, .int .i64 0]) ∧ Below w.heap.size w w')) (P4 : Hid (∀ w, Calls Try.prog 9 #[.int .i64 x, .int .i64 (-d)] w fun z w' => z = .returned (.tuple #[.int .i64 y, .int .i64 h]) ∧ Below w.heap.size w w'))
    (h0 : 0 < s.size) (hx : ((s[0].toNat : Int) == 45) = true) (w : World) :
    Calls Try.prog 8 #[.string s, .int .u8 d] w fun e w' => e = .returned (.bool true) ∧ Below w.heap.size w w' := by
  have hcv := fun W => one_byte c (48 + d) hc.out W
  have e1 : (s.size : Int) ≤ 100 := by omega
  all_goals
    go_enter Try.func8, Try.ntmps8
    go_wp2_with fail
    refine (awake_calls _).mono ?_
    rintro e w0 ⟨rfl, k0⟩
    go_wp2_with fail
    refine (P1.out _).mono ?_
    rintro e w1 ⟨rfl, k1⟩
    go_wp2_with fail
    refine (P2.out _).mono ?_
    rintro e w2 ⟨rfl, k2⟩
    go_wp2_with fail
    refine (P3.out _).mono ?_
    rintro e w3 ⟨rfl, k3⟩
    go_wp2_with fail
    refine (P4.out _).mono ?_
    rintro e w4 ⟨rfl, k4⟩
    go_wp2
    go_ret
    refine ⟨ret_bool ?_, up_trans (up_trans (up_new (up_trans k0 k1) k2) k3) k4⟩
    first | rfl | (simp; done) | assumption

set_option maxRecDepth 100000 in
set_option maxHeartbeats 4000000 in
theorem digit_in_p (s : ByteArray) (c : UInt8) (d n x y h : Int) (hc : Hid ((c.toNat : Int) = 48 + d)) (hs : s.size ≤ 100) (d0 : 0 ≤ d) (d1 : d ≤ 9)
    (P1 : Hid (∀ w, Calls Try.prog 23 #[.string s] w fun z w' => z = .returned (.tuple #[.int .i64 n, .int .i64 0]) ∧ Below w.heap.size w w')) (P2 : Hid (∀ w, Calls Try.prog 23 #[.string (s ++ ⟨#[c]⟩)] w fun z w' => z = .returned (.tuple #[.int .i64 y, .int .i64 h]) ∧ Below w.heap.size w w')) (P3 : Hid (∀ w, Calls Try.prog 13 #[.int .i64 n, .int .i64 10] w fun z w' => z = .returned (.tuple #[.int .i64 x, .int .i64 0]) ∧ Below w.heap.size w w')) (P4 : Hid (∀ w, Calls Try.prog 9 #[.int .i64 x, .int .i64 d] w fun z w' => z = .returned (.tuple #[.int .i64 y, .int .i64 h]) ∧ Below w.heap.size w w'))
    (h0 : 0 < s.size) (hx : ((s[0].toNat : Int) == 45) = false) (w : World) :
    Calls Try.prog 8 #[.string s, .int .u8 d] w fun e w' => e = .returned (.bool true) ∧ Below w.heap.size w w' := by
  have hcv := fun W => one_byte c (48 + d) hc.out W
  have e1 : (s.size : Int) ≤ 100 := by omega
  all_goals
    go_enter Try.func8, Try.ntmps8
    go_wp2_with fail
    refine (awake_calls _).mono ?_
    rintro e w0 ⟨rfl, k0⟩
    go_wp2_with fail
    refine (P1.out _).mono ?_
    rintro e w1 ⟨rfl, k1⟩
    go_wp2_with fail
    refine (P2.out _).mono ?_
    rintro e w2 ⟨rfl, k2⟩
    go_wp2_with fail
    refine (P3.out _).mono ?_
    rintro e w3 ⟨rfl, k3⟩
    go_wp2_with fail
    refine (P4.out _).mono ?_
    rintro e w4 ⟨rfl, k4⟩
    go_wp2
    go_ret
    refine ⟨ret_bool ?_, up_trans (up_trans (up_new (up_trans k0 k1) k2) k3) k4⟩
    first | rfl | (simp; done) | assumption

end Go.Proofs.Ytkfgfjgdhdohhaa
