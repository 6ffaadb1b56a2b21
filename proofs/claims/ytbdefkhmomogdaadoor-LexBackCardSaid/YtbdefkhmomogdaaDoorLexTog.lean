/- Contracts of package lex, third part: what belongs together at the beginning of a text. -/
import Derived.Test.YtbdefkhmomogdaaDoorLexPiece
namespace Go.Proofs.YtbdefkhmomogdaaDoor
open Go.RowKit
set_option linter.unusedVariables false

/-- a string of the bytes of a list -/
def bs (l : List UInt8) : ByteArray := ⟨l.toArray⟩
theorem bs_list (l : List UInt8) : (bs l).data.toList = l := rfl
theorem bs_size (l : List UInt8) : (bs l).size = l.length := rfl
theorem bs_of (s : ByteArray) : bs s.data.toList = s := rfl
theorem ext_bs (s : ByteArray) (k : Nat) (h : k ≤ s.size) : s.extract 0 k = bs (s.data.toList.take k) := by
  rw [← ext_take s k h]; rfl
theorem ret_str {a b : ByteArray} (h : a = b) : Ending.returned (.string a) = .returned (.string b) := by rw [h]
theorem head_byte (p : UInt8 → Bool) (s : ByteArray) (h : 0 < s.size) : headB p s.data.toList = p s[0] := by
  have := drop_byte h
  rw [List.drop_zero] at this
  rw [this]; rfl
theorem togL_letter {l : List UInt8} (h : headB smallB l = true ∨ headB greatB l = true) : togL l = pre nameB l := by
  unfold togL; rw [if_pos (by rw [Bool.or_eq_true]; exact h)]
theorem togL_digit {l : List UInt8} (h1 : headB smallB l = false) (h2 : headB greatB l = false) (h3 : headB dgt l = true) : togL l = pre dgt l := by
  unfold togL; rw [if_neg (by simp [h1, h2]), if_pos h3]
theorem togL_two {l : List UInt8} (h1 : headB smallB l = false) (h2 : headB greatB l = false) (h3 : headB dgt l = false) (h4 : 1 < l.length) (h5 : signL (l.take 2) = true) : togL l = 2 := by
  unfold togL; rw [if_neg (by simp [h1, h2]), if_neg (by simp [h3]), if_pos (by simp [h4, h5])]
theorem togL_one {l : List UInt8} (h1 : headB smallB l = false) (h2 : headB greatB l = false) (h3 : headB dgt l = false) (h4 : ¬ 1 < l.length ∨ signL (l.take 2) = false) : togL l = 1 := by
  unfold togL; rw [if_neg (by simp [h1, h2]), if_neg (by simp [h3]), if_neg (by rcases h4 with h4 | h4 <;> simp [h4])]

set_option maxHeartbeats 2000000 in
theorem together_calls (s : ByteArray) (h0 : 0 < s.size) (hs : s.size ≤ maxLen) (w : World) :
    Calls Tryd.prog 20 #[.string s] w fun e w' => e = .returned (.string (bs (s.data.toList.take (togL s.data.toList)))) ∧ w = w' := by
  have A1 := fun w => isSmall_calls s[0] w
  have A2 := fun w => isGreat_calls s[0] w
  have A3 := fun w => isDigit_calls s[0] w
  have A4 := fun w => countName_calls s hs w
  have A5 := fun w => countDigit_calls s hs w
  have hp1 := pre_le nameB s.data.toList
  have hp2 := pre_le dgt s.data.toList
  rw [show s.data.toList.length = s.size from rfl] at hp1 hp2
  have g1 := head_byte smallB s h0
  have g2 := head_byte greatB s h0
  have g3 := head_byte dgt s h0
  have hp : (0 : Int) < (s.size : Int) := by omega
  cases b1 : smallB s[0]
  · cases b2 : greatB s[0]
    · cases b3 : dgt s[0]
      · rw [b1] at A1 g1
        rw [b2] at A2 g2
        rw [b3] at A3 g3
        have C1 := Lib.hid A1
        have C2 := Lib.hid A2
        have C3 := Lib.hid A3
        clear A1 A2 A3 A4 A5 hp1 hp2 b1 b2 b3
        by_cases h1 : 1 < s.size
        · have A6 := fun w => isSign_calls (s.extract 0 2) w
          rw [ext_take s 2 (by omega)] at A6
          have e1 : (1 : Int) < (s.size : Int) := by omega
          cases b4 : signL (s.data.toList.take 2)
          · rw [b4] at A6
            have C6 := Lib.hid A6
            have E := Lib.hid (togL_one g1 g2 g3 (.inr b4))
            clear A6 b4 g1 g2 g3
            unfold maxLen at hs
            go_enter Tryd.func20, Tryd.ntmps20
            go_wp2_with fail
            refine (C1.out _).mono ?_; rintro e w1 ⟨rfl, rfl⟩
            go_wp2_with fail
            refine (C2.out _).mono ?_; rintro e w1 ⟨rfl, rfl⟩
            go_wp2_with fail
            refine (C3.out _).mono ?_; rintro e w1 ⟨rfl, rfl⟩
            go_wp2_with fail
            refine (C6.out _).mono ?_; rintro e w1 ⟨rfl, rfl⟩
            go_wp2
            go_ret
            exact ⟨ret_str (by rw [E.out, ← ext_bs s 1 (by omega)]), rfl⟩
          · rw [b4] at A6
            have C6 := Lib.hid A6
            have E := Lib.hid (togL_two g1 g2 g3 h1 b4)
            clear A6 b4 g1 g2 g3
            unfold maxLen at hs
            go_enter Tryd.func20, Tryd.ntmps20
            go_wp2_with fail
            refine (C1.out _).mono ?_; rintro e w1 ⟨rfl, rfl⟩
            go_wp2_with fail
            refine (C2.out _).mono ?_; rintro e w1 ⟨rfl, rfl⟩
            go_wp2_with fail
            refine (C3.out _).mono ?_; rintro e w1 ⟨rfl, rfl⟩
            go_wp2_with fail
            refine (C6.out _).mono ?_; rintro e w1 ⟨rfl, rfl⟩
            go_wp2
            go_ret
            exact ⟨ret_str (by rw [E.out, ← ext_bs s 2 (by omega)]), rfl⟩
        · have e1 : (s.size : Int) ≤ 1 := by omega
          have E := Lib.hid (togL_one g1 g2 g3 (.inl h1))
          clear g1 g2 g3
          unfold maxLen at hs
          go_enter Tryd.func20, Tryd.ntmps20
          go_wp2_with fail
          refine (C1.out _).mono ?_; rintro e w1 ⟨rfl, rfl⟩
          go_wp2_with fail
          refine (C2.out _).mono ?_; rintro e w1 ⟨rfl, rfl⟩
          go_wp2_with fail
          refine (C3.out _).mono ?_; rintro e w1 ⟨rfl, rfl⟩
          go_wp2
          go_ret
          exact ⟨ret_str (by rw [E.out, ← ext_bs s 1 (by omega)]), rfl⟩
      · rw [b1] at A1 g1
        rw [b2] at A2 g2
        rw [b3] at A3 g3
        rw [togL_digit g1 g2 g3]
        have C1 := Lib.hid A1
        have C2 := Lib.hid A2
        have C3 := Lib.hid A3
        clear A1 A2 A3 A4 b1 b2 b3 g1 g2 g3 hp1
        generalize pre dgt s.data.toList = n at *
        have C5 := Lib.hid A5
        clear A5
        unfold maxLen at hs
        go_enter Tryd.func20, Tryd.ntmps20
        go_wp2_with fail
        refine (C1.out _).mono ?_; rintro e w1 ⟨rfl, rfl⟩
        go_wp2_with fail
        refine (C2.out _).mono ?_; rintro e w1 ⟨rfl, rfl⟩
        go_wp2_with fail
        refine (C3.out _).mono ?_; rintro e w1 ⟨rfl, rfl⟩
        go_wp2_with fail
        refine (C5.out _).mono ?_; rintro e w1 ⟨rfl, rfl⟩
        go_wp2
        go_ret
        exact ⟨ret_str (by rw [← ext_bs s n hp2]), rfl⟩
    · rw [b1] at A1 g1
      rw [b2] at A2 g2
      rw [togL_letter (.inr g2)]
      have C1 := Lib.hid A1
      have C2 := Lib.hid A2
      clear A1 A2 A3 A5 b1 b2 g1 g2 g3 hp2
      generalize pre nameB s.data.toList = n at *
      have C4 := Lib.hid A4
      clear A4
      unfold maxLen at hs
      go_enter Tryd.func20, Tryd.ntmps20
      go_wp2_with fail
      refine (C1.out _).mono ?_; rintro e w1 ⟨rfl, rfl⟩
      go_wp2_with fail
      refine (C2.out _).mono ?_; rintro e w1 ⟨rfl, rfl⟩
      go_wp2_with fail
      refine (C4.out _).mono ?_; rintro e w1 ⟨rfl, rfl⟩
      go_wp2
      go_ret
      exact ⟨ret_str (by rw [← ext_bs s n hp1]), rfl⟩
  · rw [b1] at A1 g1
    rw [togL_letter (.inl g1)]
    have C1 := Lib.hid A1
    clear A1 A2 A3 A5 b1 g1 g2 g3 hp2
    generalize pre nameB s.data.toList = n at *
    have C4 := Lib.hid A4
    clear A4
    unfold maxLen at hs
    go_enter Tryd.func20, Tryd.ntmps20
    go_wp2_with fail
    refine (C1.out _).mono ?_; rintro e w1 ⟨rfl, rfl⟩
    go_wp2_with fail
    refine (C4.out _).mono ?_; rintro e w1 ⟨rfl, rfl⟩
    go_wp2
    go_ret
    exact ⟨ret_str (by rw [← ext_bs s n hp1]), rfl⟩
end Go.Proofs.YtbdefkhmomogdaaDoor
