/- LexAlone: a text that is a word, a name, a type is one token of that kind, and of no other one: the walk. -/
import Derived.Test.YtbdefkhmomogdaaDoorLexAwake
import Derived.Test.YtbdefkhmomogdaaDoorLexFacts
import Derived.Test.YtbdefkhmomogdaaDoorLexSaysTab
namespace Go.Proofs.YtbdefkhmomogdaaDoor
open Go.RowKit
set_option linter.unusedVariables false

set_option maxHeartbeats 400000 in
theorem alone_long (s : ByteArray) (hs : 4000 < (s.size : Int)) (w : World) (htab : Tab w) :
    Calls Tryd.prog 6 #[.string s] w fun e w' => e = .returned (.bool true) ∧ Below w.heap.size w w' := by
  go_enter Tryd.func6, Tryd.ntmps6
  go_wp2_with fail
  refine (awake_calls w htab).mono ?_; rintro e w0 ⟨rfl, b0⟩
  go_wp2
  go_ret
  exact ⟨rfl, b0⟩

set_option maxRecDepth 100000 in
set_option maxHeartbeats 2000000 in
theorem alone_yes1 (s : ByteArray) (hs : (s.size : Int) ≤ 4000)  (CL : Hid (∀ w : World, Tab w → Calls Tryd.prog 10 #[.string s] w fun e w' => ∃ ao cap, e = .returned (.tuple #[.slice ao ([(1, s.data.toList, 0)] : List Tok).length cap, .int .i64 0, .int .i64 0]) ∧ Toks w' w.heap.size (.slice ao ([(1, s.data.toList, 0)] : List Tok).length cap) ([(1, s.data.toList, 0)] : List Tok) ∧ Below w.heap.size w w'))
    (CWord : Hid (∀ w : World, Tab w → Calls Tryd.prog 13 #[.string s] w fun e w' => e = .returned (.bool true) ∧ Below w.heap.size w w')) (CName : Hid (∀ w : World, Tab w → Calls Tryd.prog 14 #[.string s] w fun e w' => e = .returned (.bool false) ∧ Below w.heap.size w w')) (CType : Hid (∀ w : World, Tab w → Calls Tryd.prog 15 #[.string s] w fun e w' => e = .returned (.bool false) ∧ Below w.heap.size w w')) (w : World) (htab : Tab w) :
    Calls Tryd.prog 6 #[.string s] w fun e w' => e = .returned (.bool true) ∧ Below w.heap.size w w' := by
  go_enter Tryd.func6, Tryd.ntmps6
  go_wp2_with fail
  refine (awake_calls w htab).mono ?_; rintro e w0 ⟨rfl, b0⟩
  have htab0 := htab.below b0
  go_wp2_with fail
  refine (CL.out _ htab0).mono ?_; rintro e w1 ⟨ao, cap, rfl, k1, b1⟩
  have htab1 := htab0.below b1
  have b01 := up_trans b0 b1
  clear b0 htab0
  go_wp2_with fail
  refine (CWord.out _ htab1).mono ?_; rintro e w2 ⟨rfl, b2⟩
  have htab2 := htab1.below b2
  have b02 := up_trans b01 b2
  have k2 := k1.below b2
  clear b1 b01 b2 htab1 k1
  go_wp2_with fail
  refine (CName.out _ htab2).mono ?_; rintro e w3 ⟨rfl, b3⟩
  have htab3 := htab2.below b3
  have b03 := up_trans b02 b3
  have k3 := k2.below b3
  clear b02 b3 htab2 k2
  go_wp2_with fail
  refine (CType.out _ htab3).mono ?_; rintro e w4 ⟨rfl, b4⟩
  have b04 := up_trans b03 b4
  have k4 := k3.below b4
  clear b03 b4 htab3 k3
  obtain ⟨g, c, hv, _⟩ := k4.full (by simp)
  simp only [Value.slice.injEq] at hv
  obtain ⟨rfl, _, rfl⟩ := hv
  obtain ⟨p1, p2, p3⟩ := k4.at (i := 0) rfl
  simp only [bs_of, Nat.mul_zero, Nat.zero_add] at p1 p2 p3
  go_wp2
  go_ret
  exact ⟨rfl, b04⟩

set_option maxRecDepth 100000 in
set_option maxHeartbeats 2000000 in
theorem alone_yes2 (s : ByteArray) (hs : (s.size : Int) ≤ 4000)  (CL : Hid (∀ w : World, Tab w → Calls Tryd.prog 10 #[.string s] w fun e w' => ∃ ao cap, e = .returned (.tuple #[.slice ao ([(2, s.data.toList, 0)] : List Tok).length cap, .int .i64 0, .int .i64 0]) ∧ Toks w' w.heap.size (.slice ao ([(2, s.data.toList, 0)] : List Tok).length cap) ([(2, s.data.toList, 0)] : List Tok) ∧ Below w.heap.size w w'))
    (CWord : Hid (∀ w : World, Tab w → Calls Tryd.prog 13 #[.string s] w fun e w' => e = .returned (.bool false) ∧ Below w.heap.size w w')) (CName : Hid (∀ w : World, Tab w → Calls Tryd.prog 14 #[.string s] w fun e w' => e = .returned (.bool true) ∧ Below w.heap.size w w')) (CType : Hid (∀ w : World, Tab w → Calls Tryd.prog 15 #[.string s] w fun e w' => e = .returned (.bool false) ∧ Below w.heap.size w w')) (w : World) (htab : Tab w) :
    Calls Tryd.prog 6 #[.string s] w fun e w' => e = .returned (.bool true) ∧ Below w.heap.size w w' := by
  go_enter Tryd.func6, Tryd.ntmps6
  go_wp2_with fail
  refine (awake_calls w htab).mono ?_; rintro e w0 ⟨rfl, b0⟩
  have htab0 := htab.below b0
  go_wp2_with fail
  refine (CL.out _ htab0).mono ?_; rintro e w1 ⟨ao, cap, rfl, k1, b1⟩
  have htab1 := htab0.below b1
  have b01 := up_trans b0 b1
  clear b0 htab0
  go_wp2_with fail
  refine (CWord.out _ htab1).mono ?_; rintro e w2 ⟨rfl, b2⟩
  have htab2 := htab1.below b2
  have b02 := up_trans b01 b2
  have k2 := k1.below b2
  clear b1 b01 b2 htab1 k1
  go_wp2_with fail
  refine (CName.out _ htab2).mono ?_; rintro e w3 ⟨rfl, b3⟩
  have htab3 := htab2.below b3
  have b03 := up_trans b02 b3
  have k3 := k2.below b3
  clear b02 b3 htab2 k2
  go_wp2_with fail
  refine (CType.out _ htab3).mono ?_; rintro e w4 ⟨rfl, b4⟩
  have b04 := up_trans b03 b4
  have k4 := k3.below b4
  clear b03 b4 htab3 k3
  obtain ⟨g, c, hv, _⟩ := k4.full (by simp)
  simp only [Value.slice.injEq] at hv
  obtain ⟨rfl, _, rfl⟩ := hv
  obtain ⟨p1, p2, p3⟩ := k4.at (i := 0) rfl
  simp only [bs_of, Nat.mul_zero, Nat.zero_add] at p1 p2 p3
  go_wp2
  go_ret
  exact ⟨rfl, b04⟩

set_option maxRecDepth 100000 in
set_option maxHeartbeats 2000000 in
theorem alone_yes3 (s : ByteArray) (hs : (s.size : Int) ≤ 4000)  (CL : Hid (∀ w : World, Tab w → Calls Tryd.prog 10 #[.string s] w fun e w' => ∃ ao cap, e = .returned (.tuple #[.slice ao ([(3, s.data.toList, 0)] : List Tok).length cap, .int .i64 0, .int .i64 0]) ∧ Toks w' w.heap.size (.slice ao ([(3, s.data.toList, 0)] : List Tok).length cap) ([(3, s.data.toList, 0)] : List Tok) ∧ Below w.heap.size w w'))
    (CWord : Hid (∀ w : World, Tab w → Calls Tryd.prog 13 #[.string s] w fun e w' => e = .returned (.bool false) ∧ Below w.heap.size w w')) (CName : Hid (∀ w : World, Tab w → Calls Tryd.prog 14 #[.string s] w fun e w' => e = .returned (.bool false) ∧ Below w.heap.size w w')) (CType : Hid (∀ w : World, Tab w → Calls Tryd.prog 15 #[.string s] w fun e w' => e = .returned (.bool true) ∧ Below w.heap.size w w')) (w : World) (htab : Tab w) :
    Calls Tryd.prog 6 #[.string s] w fun e w' => e = .returned (.bool true) ∧ Below w.heap.size w w' := by
  go_enter Tryd.func6, Tryd.ntmps6
  go_wp2_with fail
  refine (awake_calls w htab).mono ?_; rintro e w0 ⟨rfl, b0⟩
  have htab0 := htab.below b0
  go_wp2_with fail
  refine (CL.out _ htab0).mono ?_; rintro e w1 ⟨ao, cap, rfl, k1, b1⟩
  have htab1 := htab0.below b1
  have b01 := up_trans b0 b1
  clear b0 htab0
  go_wp2_with fail
  refine (CWord.out _ htab1).mono ?_; rintro e w2 ⟨rfl, b2⟩
  have htab2 := htab1.below b2
  have b02 := up_trans b01 b2
  have k2 := k1.below b2
  clear b1 b01 b2 htab1 k1
  go_wp2_with fail
  refine (CName.out _ htab2).mono ?_; rintro e w3 ⟨rfl, b3⟩
  have htab3 := htab2.below b3
  have b03 := up_trans b02 b3
  have k3 := k2.below b3
  clear b02 b3 htab2 k2
  go_wp2_with fail
  refine (CType.out _ htab3).mono ?_; rintro e w4 ⟨rfl, b4⟩
  have b04 := up_trans b03 b4
  have k4 := k3.below b4
  clear b03 b4 htab3 k3
  obtain ⟨g, c, hv, _⟩ := k4.full (by simp)
  simp only [Value.slice.injEq] at hv
  obtain ⟨rfl, _, rfl⟩ := hv
  obtain ⟨p1, p2, p3⟩ := k4.at (i := 0) rfl
  simp only [bs_of, Nat.mul_zero, Nat.zero_add] at p1 p2 p3
  go_wp2
  go_ret
  exact ⟨rfl, b04⟩

set_option maxRecDepth 100000 in
set_option maxHeartbeats 2000000 in
theorem alone_err (s : ByteArray) (hs : (s.size : Int) ≤ 4000) (e0 : Int) (p : Nat) (he : (e0 == 0) = false) (CL : Hid (∀ w : World, Tab w → Calls Tryd.prog 10 #[.string s] w fun e w' => ∃ ao cap, e = .returned (.tuple #[.slice ao ([] : List Tok).length cap, .int .i64 p, .int .i64 e0]) ∧ Toks w' w.heap.size (.slice ao ([] : List Tok).length cap) ([] : List Tok) ∧ Below w.heap.size w w'))
    (CWord : Hid (∀ w : World, Tab w → Calls Tryd.prog 13 #[.string s] w fun e w' => e = .returned (.bool false) ∧ Below w.heap.size w w')) (CName : Hid (∀ w : World, Tab w → Calls Tryd.prog 14 #[.string s] w fun e w' => e = .returned (.bool false) ∧ Below w.heap.size w w')) (CType : Hid (∀ w : World, Tab w → Calls Tryd.prog 15 #[.string s] w fun e w' => e = .returned (.bool false) ∧ Below w.heap.size w w')) (w : World) (htab : Tab w) :
    Calls Tryd.prog 6 #[.string s] w fun e w' => e = .returned (.bool true) ∧ Below w.heap.size w w' := by
  go_enter Tryd.func6, Tryd.ntmps6
  go_wp2_with fail
  refine (awake_calls w htab).mono ?_; rintro e w0 ⟨rfl, b0⟩
  have htab0 := htab.below b0
  go_wp2_with fail
  refine (CL.out _ htab0).mono ?_; rintro e w1 ⟨ao, cap, rfl, k1, b1⟩
  have htab1 := htab0.below b1
  have b01 := up_trans b0 b1
  clear b0 htab0
  go_wp2_with fail
  refine (CWord.out _ htab1).mono ?_; rintro e w2 ⟨rfl, b2⟩
  have htab2 := htab1.below b2
  have b02 := up_trans b01 b2
  have k2 := k1.below b2
  clear b1 b01 b2 htab1 k1
  go_wp2_with fail
  refine (CName.out _ htab2).mono ?_; rintro e w3 ⟨rfl, b3⟩
  have htab3 := htab2.below b3
  have b03 := up_trans b02 b3
  have k3 := k2.below b3
  clear b02 b3 htab2 k2
  go_wp2_with fail
  refine (CType.out _ htab3).mono ?_; rintro e w4 ⟨rfl, b4⟩
  have b04 := up_trans b03 b4
  have k4 := k3.below b4
  clear b03 b4 htab3 k3
  go_wp2
  go_ret
  exact ⟨rfl, b04⟩

set_option maxRecDepth 100000 in
set_option maxHeartbeats 2000000 in
theorem alone_many (s : ByteArray) (hs : (s.size : Int) ≤ 4000) (T : List Tok) (hT : ((T.length : Int) == 1) = false) (CL : Hid (∀ w : World, Tab w → Calls Tryd.prog 10 #[.string s] w fun e w' => ∃ ao cap, e = .returned (.tuple #[.slice ao T.length cap, .int .i64 0, .int .i64 0]) ∧ Toks w' w.heap.size (.slice ao T.length cap) T ∧ Below w.heap.size w w'))
    (CWord : Hid (∀ w : World, Tab w → Calls Tryd.prog 13 #[.string s] w fun e w' => e = .returned (.bool false) ∧ Below w.heap.size w w')) (CName : Hid (∀ w : World, Tab w → Calls Tryd.prog 14 #[.string s] w fun e w' => e = .returned (.bool false) ∧ Below w.heap.size w w')) (CType : Hid (∀ w : World, Tab w → Calls Tryd.prog 15 #[.string s] w fun e w' => e = .returned (.bool false) ∧ Below w.heap.size w w')) (w : World) (htab : Tab w) :
    Calls Tryd.prog 6 #[.string s] w fun e w' => e = .returned (.bool true) ∧ Below w.heap.size w w' := by
  go_enter Tryd.func6, Tryd.ntmps6
  go_wp2_with fail
  refine (awake_calls w htab).mono ?_; rintro e w0 ⟨rfl, b0⟩
  have htab0 := htab.below b0
  go_wp2_with fail
  refine (CL.out _ htab0).mono ?_; rintro e w1 ⟨ao, cap, rfl, k1, b1⟩
  have htab1 := htab0.below b1
  have b01 := up_trans b0 b1
  clear b0 htab0
  go_wp2_with fail
  refine (CWord.out _ htab1).mono ?_; rintro e w2 ⟨rfl, b2⟩
  have htab2 := htab1.below b2
  have b02 := up_trans b01 b2
  have k2 := k1.below b2
  clear b1 b01 b2 htab1 k1
  go_wp2_with fail
  refine (CName.out _ htab2).mono ?_; rintro e w3 ⟨rfl, b3⟩
  have htab3 := htab2.below b3
  have b03 := up_trans b02 b3
  have k3 := k2.below b3
  clear b02 b3 htab2 k2
  go_wp2_with fail
  refine (CType.out _ htab3).mono ?_; rintro e w4 ⟨rfl, b4⟩
  have b04 := up_trans b03 b4
  have k4 := k3.below b4
  clear b03 b4 htab3 k3
  go_wp2
  go_ret
  exact ⟨rfl, b04⟩

set_option maxRecDepth 100000 in
set_option maxHeartbeats 2000000 in
theorem alone_other (s : ByteArray) (hs : (s.size : Int) ≤ 4000) (k p : Nat) (t : List UInt8) (h1 : ((k : Int) == 1) = false) (h2 : ((k : Int) == 2) = false) (h3 : ((k : Int) == 3) = false) (CL : Hid (∀ w : World, Tab w → Calls Tryd.prog 10 #[.string s] w fun e w' => ∃ ao cap, e = .returned (.tuple #[.slice ao ([(k, t, p)] : List Tok).length cap, .int .i64 0, .int .i64 0]) ∧ Toks w' w.heap.size (.slice ao ([(k, t, p)] : List Tok).length cap) ([(k, t, p)] : List Tok) ∧ Below w.heap.size w w'))
    (CWord : Hid (∀ w : World, Tab w → Calls Tryd.prog 13 #[.string s] w fun e w' => e = .returned (.bool false) ∧ Below w.heap.size w w')) (CName : Hid (∀ w : World, Tab w → Calls Tryd.prog 14 #[.string s] w fun e w' => e = .returned (.bool false) ∧ Below w.heap.size w w')) (CType : Hid (∀ w : World, Tab w → Calls Tryd.prog 15 #[.string s] w fun e w' => e = .returned (.bool false) ∧ Below w.heap.size w w')) (w : World) (htab : Tab w) :
    Calls Tryd.prog 6 #[.string s] w fun e w' => e = .returned (.bool true) ∧ Below w.heap.size w w' := by
  go_enter Tryd.func6, Tryd.ntmps6
  go_wp2_with fail
  refine (awake_calls w htab).mono ?_; rintro e w0 ⟨rfl, b0⟩
  have htab0 := htab.below b0
  go_wp2_with fail
  refine (CL.out _ htab0).mono ?_; rintro e w1 ⟨ao, cap, rfl, k1, b1⟩
  have htab1 := htab0.below b1
  have b01 := up_trans b0 b1
  clear b0 htab0
  go_wp2_with fail
  refine (CWord.out _ htab1).mono ?_; rintro e w2 ⟨rfl, b2⟩
  have htab2 := htab1.below b2
  have b02 := up_trans b01 b2
  have k2 := k1.below b2
  clear b1 b01 b2 htab1 k1
  go_wp2_with fail
  refine (CName.out _ htab2).mono ?_; rintro e w3 ⟨rfl, b3⟩
  have htab3 := htab2.below b3
  have b03 := up_trans b02 b3
  have k3 := k2.below b3
  clear b02 b3 htab2 k2
  go_wp2_with fail
  refine (CType.out _ htab3).mono ?_; rintro e w4 ⟨rfl, b4⟩
  have b04 := up_trans b03 b4
  have k4 := k3.below b4
  clear b03 b4 htab3 k3
  obtain ⟨g, c, hv, _⟩ := k4.full (by simp)
  simp only [Value.slice.injEq] at hv
  obtain ⟨rfl, _, rfl⟩ := hv
  obtain ⟨p1, p2, p3⟩ := k4.at (i := 0) rfl
  simp only [Nat.mul_zero, Nat.zero_add] at p1 p2 p3
  go_wp2
  all_goals
    go_ret
    exact ⟨ret_bool (by simp), b04⟩

set_option maxRecDepth 100000 in
set_option maxHeartbeats 2000000 in
theorem alone_other2 (s : ByteArray) (hs : (s.size : Int) ≤ 4000) (k p : Nat) (t : List UInt8) (ht : t ≠ s.data.toList) (CL : Hid (∀ w : World, Tab w → Calls Tryd.prog 10 #[.string s] w fun e w' => ∃ ao cap, e = .returned (.tuple #[.slice ao ([(k, t, p)] : List Tok).length cap, .int .i64 0, .int .i64 0]) ∧ Toks w' w.heap.size (.slice ao ([(k, t, p)] : List Tok).length cap) ([(k, t, p)] : List Tok) ∧ Below w.heap.size w w'))
    (CWord : Hid (∀ w : World, Tab w → Calls Tryd.prog 13 #[.string s] w fun e w' => e = .returned (.bool false) ∧ Below w.heap.size w w')) (CName : Hid (∀ w : World, Tab w → Calls Tryd.prog 14 #[.string s] w fun e w' => e = .returned (.bool false) ∧ Below w.heap.size w w')) (CType : Hid (∀ w : World, Tab w → Calls Tryd.prog 15 #[.string s] w fun e w' => e = .returned (.bool false) ∧ Below w.heap.size w w')) (w : World) (htab : Tab w) :
    Calls Tryd.prog 6 #[.string s] w fun e w' => e = .returned (.bool true) ∧ Below w.heap.size w w' := by
  go_enter Tryd.func6, Tryd.ntmps6
  go_wp2_with fail
  refine (awake_calls w htab).mono ?_; rintro e w0 ⟨rfl, b0⟩
  have htab0 := htab.below b0
  go_wp2_with fail
  refine (CL.out _ htab0).mono ?_; rintro e w1 ⟨ao, cap, rfl, k1, b1⟩
  have htab1 := htab0.below b1
  have b01 := up_trans b0 b1
  clear b0 htab0
  go_wp2_with fail
  refine (CWord.out _ htab1).mono ?_; rintro e w2 ⟨rfl, b2⟩
  have htab2 := htab1.below b2
  have b02 := up_trans b01 b2
  have k2 := k1.below b2
  clear b1 b01 b2 htab1 k1
  go_wp2_with fail
  refine (CName.out _ htab2).mono ?_; rintro e w3 ⟨rfl, b3⟩
  have htab3 := htab2.below b3
  have b03 := up_trans b02 b3
  have k3 := k2.below b3
  clear b02 b3 htab2 k2
  go_wp2_with fail
  refine (CType.out _ htab3).mono ?_; rintro e w4 ⟨rfl, b4⟩
  have b04 := up_trans b03 b4
  have k4 := k3.below b4
  clear b03 b4 htab3 k3
  have he : ((bs t).toList == s.toList) = false := by rw [toList_is, beq_eq_false_iff_ne, bs_list, ByteArray.toList_eq]; exact ht
  obtain ⟨g, c, hv, _⟩ := k4.full (by simp)
  simp only [Value.slice.injEq] at hv
  obtain ⟨rfl, _, rfl⟩ := hv
  obtain ⟨p1, p2, p3⟩ := k4.at (i := 0) rfl
  simp only [Nat.mul_zero, Nat.zero_add] at p1 p2 p3
  clear ht
  go_wp2
  all_goals
    go_ret
    exact ⟨ret_bool (by simp), b04⟩

theorem toks_none {l : List UInt8} (h : errT l ≠ 0) : toksT l = [] := by unfold toksT; rw [if_neg h]
theorem toks_of {l : List UInt8} (h : errT l = 0) : toksT l = (lexL l 0).1 := by unfold toksT; rw [if_pos h]
theorem pos_none {l : List UInt8} (h : errT l = 0) : posT l = 0 := by
  unfold errT at h
  unfold posT
  by_cases hl : 4000 < l.length
  · rw [if_pos hl] at h; omega
  · rw [if_neg hl] at h ⊢
    cases hp : (lexL l 0).2 with
    | none => rfl
    | some p => rw [hp] at h; simp at h
theorem err_of {l : List UInt8} {T : List Tok} (hl : l.length ≤ 4000) (h : lexL l 0 = (T, none)) (hT : T.length ≤ 1500) : errT l = 0 ∧ toksT l = T ∧ posT l = 0 := by
  have e : errT l = 0 := by unfold errT; rw [if_neg (by omega), h]; simp; omega
  exact ⟨e, by rw [toks_of e, h], pos_none e⟩

theorem lexAlone_walk (s : ByteArray) (hs : s.size ≤ maxLen) (w : World) (htab : Tab w) :
    Calls Tryd.prog 6 #[.string s] w fun e w' => e = .returned (.bool true) ∧ Below w.heap.size w w' := by
  by_cases hl : s.size ≤ 4000
  · have hl' : (s.size : Int) ≤ 4000 := by omega
    have A1 := fun w h => word_calls s hs w h
    have A2 := fun w h => name_calls s hs w h
    have A3 := fun w h => type_calls s hs w h
    by_cases hk : kindL s.data.toList = 1 ∨ kindL s.data.toList = 2 ∨ kindL s.data.toList = 3
    · obtain ⟨h1, h2, h3⟩ := err_of (l := s.data.toList) hl (lex_alone (by omega)) (by simp)
      have AL := fun w h => all_gives s _ _ _ h2 h3 h1 w h
      rcases hk with hk | hk | hk
      · rw [hk] at A1 A2 A3 AL
        exact alone_yes1 s hl' (Lib.hid AL) (Lib.hid A1) (Lib.hid A2) (Lib.hid A3) w htab
      · rw [hk] at A1 A2 A3 AL
        exact alone_yes2 s hl' (Lib.hid AL) (Lib.hid A1) (Lib.hid A2) (Lib.hid A3) w htab
      · rw [hk] at A1 A2 A3 AL
        exact alone_yes3 s hl' (Lib.hid AL) (Lib.hid A1) (Lib.hid A2) (Lib.hid A3) w htab
    · rw [decide_eq_false (fun h => hk (.inl h))] at A1
      rw [decide_eq_false (fun h => hk (.inr (.inl h)))] at A2
      rw [decide_eq_false (fun h => hk (.inr (.inr h)))] at A3
      by_cases he : errT s.data.toList = 0
      · have AL := fun w h => all_gives s _ _ _ (toks_of he) (pos_none he) he w h
        have hm := fun t ht => lexL_mem s.data.toList.length s.data.toList 0 (Nat.le_refl _) t ht
        match hT : (lexL s.data.toList 0).1 with
        | [] =>
          rw [hT] at AL
          exact alone_many s hl' [] (by rfl) (Lib.hid AL) (Lib.hid A1) (Lib.hid A2) (Lib.hid A3) w htab
        | (k, t, p) :: [] =>
          rw [hT] at AL hm
          by_cases h1 : k = 1 ∨ k = 2 ∨ k = 3
          · exact alone_other2 s hl' k p t (fun e => hk (by rw [← e, ← (hm _ (List.mem_singleton.2 rfl)).1]; exact h1)) (Lib.hid AL) (Lib.hid A1) (Lib.hid A2) (Lib.hid A3) w htab
          · exact alone_other s hl' k p t (by rw [beq_eq_false_iff_ne]; omega) (by rw [beq_eq_false_iff_ne]; omega) (by rw [beq_eq_false_iff_ne]; omega) (Lib.hid AL) (Lib.hid A1) (Lib.hid A2) (Lib.hid A3) w htab
        | a :: b :: r =>
          rw [hT] at AL
          exact alone_many s hl' (a :: b :: r) (by rw [beq_eq_false_iff_ne]; simp; omega) (Lib.hid AL) (Lib.hid A1) (Lib.hid A2) (Lib.hid A3) w htab
      · have AL := fun w h => all_gives s _ _ _ (toks_none he) rfl rfl w h
        exact alone_err s hl' _ _ (by rw [beq_eq_false_iff_ne]; exact he) (Lib.hid AL) (Lib.hid A1) (Lib.hid A2) (Lib.hid A3) w htab
  · exact alone_long s (by omega) w htab
end Go.Proofs.YtbdefkhmomogdaaDoor
