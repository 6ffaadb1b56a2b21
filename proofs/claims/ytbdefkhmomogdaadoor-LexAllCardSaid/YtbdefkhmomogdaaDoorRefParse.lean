/- What the document's own Parse (weftwayref01) comes to: what a text says, as Parse says it. -/
import Derived.Test.YtbdefkhmomogdaaDoorRefMul
import Derived.Test.YtbdefkhmomogdaaDoorRefParseMath
namespace Go.Proofs.YtbdefkhmomogdaaDoor
open Go.RowKit
set_option linter.unusedVariables false

set_option maxRecDepth 100000 in
set_option maxHeartbeats 2000000 in
/-- a byte that is no digit is among them -/
theorem refParse_bad0 (s : ByteArray) (hs : s.size ≤ maxLen) (h0 : 0 < s.size) (hc : ((s[0].toNat : Int) == 45) = false) (hlen : ((s.size : Int) == 0) = false) (hn : Hid (¬ ∀ j, 0 ≤ j → (h : j < s.size) → dgt s[j] = true)) (w : World) :
    Calls Tryd.prog 28 #[.string s] w fun e w' => e = .returned (.tuple #[.int .i64 0, .int .i64 2]) ∧ w = w' := by
  unfold maxLen at hs
  have hp : (0 : Int) < (s.size : Int) := by omega
  go_enter Tryd.func28, Tryd.ntmps28
  go_wp2_with fail
  go_loop [5] (fun i => ∃ k : Nat, 0 ≤ k ∧ k ≤ s.size ∧ i = .int .i64 k ∧ Hid (∀ j, 0 ≤ j → (h : j < s.size) → j < k → dgt s[j] = true)) (fun i => s.size - (intOf i).toNat)
  case atStart => exact ⟨0, by omega, by omega, rfl, Lib.hid (fun j h1 _ h2 => by omega)⟩
  case round =>
    obtain ⟨k, hk1, hk, rfl, ha⟩ := hrel
    by_cases hlt : k < s.size
    · by_cases hd : dgt s[k] = true
      · obtain ⟨d1, d2⟩ := (dgt_iff _).1 hd
        have Hd := Lib.hid hd
        clear hd
        have e1 : (48 : Int) ≤ (s[k].toNat : Int) := by omega
        have e2 : (s[k].toNat : Int) ≤ 57 := by omega
        go_wp2_with fail
        go_round
        case rel => exact ⟨k + 1, by omega, by omega, by go_num, Lib.hid (fun j h1 h h2 => by
          by_cases e : j = k
          · subst e; exact Hd.out
          · exact ha.out j h1 h (by omega))⟩
        case measure => simp [intOf]; omega
      · have hcase : s[k].toNat < 48 ∨ 57 < s[k].toNat := by
          have h := mt (dgt_iff s[k]).2 hd
          omega
        clear hd
        rcases hcase with hcase | hcase
        · have e1 : (s[k].toNat : Int) < 48 := by omega
          go_wp2_with fail
          go_ret2
          exact ⟨rfl, rfl⟩
        · have e1 : (57 : Int) < (s[k].toNat : Int) := by omega
          go_wp2_with fail
          go_ret2
          exact ⟨rfl, rfl⟩
    · exact absurd (fun j h1 h => ha.out j h1 h (by omega)) hn.out

set_option maxRecDepth 100000 in
set_option maxHeartbeats 4000000 in
/-- digits alone -/
theorem refParse_good0 (s : ByteArray) (D : Nat) (hD : Hid (dval (s.data.toList.drop 0) = D)) (hs : s.size ≤ maxLen) (h0 : 0 < s.size) (hc : ((s[0].toNat : Int) == 45) = false) (hlen : ((s.size : Int) == 0) = false) (hn : Hid (∀ j, 0 ≤ j → (h : j < s.size) → dgt s[j] = true)) (w : World) :
    Calls Tryd.prog 28 #[.string s] w fun e w' => e = .returned (.tuple #[.int .i64 (fitv (sv false (D : Int))), .int .i64 (fite (sv false (D : Int)))]) ∧ w = w' := by
  unfold maxLen at hs
  have hp : (0 : Int) < (s.size : Int) := by omega
  go_enter Tryd.func28, Tryd.ntmps28
  go_wp2_with fail
  go_loop [5] (fun i => ∃ k : Nat, 0 ≤ k ∧ k ≤ s.size ∧ i = .int .i64 k) (fun i => s.size - (intOf i).toNat)
  case atStart => exact ⟨0, by omega, by omega, rfl⟩
  case round =>
    obtain ⟨k, hk1, hk, rfl⟩ := hrel
    by_cases hlt : k < s.size
    · obtain ⟨d1, d2⟩ := (dgt_iff _).1 (hn.out k hk1 hlt)
      have e1 : (48 : Int) ≤ (s[k].toNat : Int) := by omega
      have e2 : (s[k].toNat : Int) ≤ 57 := by omega
      go_wp2_with fail
      go_round
      case rel => exact ⟨k + 1, by omega, by omega, by go_num⟩
      case measure => simp [intOf]; omega
    · clear hk1
      go_wp2_with fail
      go_loop [6, 7, 8, 9] (fun n i _ _ => ∃ k : Nat, 0 ≤ k ∧ k ≤ s.size ∧ i = .int .i64 k ∧ n = .int .i64 (-(upto s.data.toList 0 k : Int)) ∧ upto s.data.toList 0 k ≤ 9223372036854775808) (fun _ i _ _ => s.size - (intOf i).toNat)
      case atStart => exact ⟨0, by omega, by omega, rfl, by rw [upto_start]; rfl, by rw [upto_start]; omega⟩
      case round =>
        obtain ⟨k, hk1, hk, rfl, rfl, hb⟩ := hrel
        by_cases hlt : k < s.size
        · obtain ⟨d1, d2⟩ := (dgt_iff _).1 (hn.out k hk1 hlt)
          have hst := Lib.hid (upto_step s 0 k hk1 hlt d1)
          have hle : Hid (upto s.data.toList 0 (k + 1) ≤ D) := Lib.hid (by rw [← hD.out]; exact upto_le _ _ _)
          have e1 : (48 : Int) ≤ (s[k].toNat : Int) := by omega
          have e2 : (s[k].toNat : Int) ≤ 57 := by omega
          have M1 := fun w => refMul_calls (-(upto s.data.toList 0 k : Int)) 10 (by omega) (by omega) (by omega) (by omega) w
          generalize hU : upto s.data.toList 0 (k + 1) = U at *
          have HU := Lib.hid hU
          clear hU
          generalize hV : upto s.data.toList 0 k = V at *
          clear hV
          by_cases c1 : 9223372036854775808 < V * 10
          · rw [fitv_out (by omega), fite_out (by omega)] at M1
            have K1 := Lib.hid M1
            have Ho : Hid (9223372036854775808 < D) := Lib.hid (by have := hst.out; have := hle.out; omega)
            clear M1
            go_wp2_with fail
            refine (K1.out _).mono ?_
            rintro e w1 ⟨rfl, rfl⟩
            go_wp2_with fail
            go_ret2
            exact ⟨ret_two (by have := Ho.out; rw [sv_false, fitv_out (by omega)]) (by have := Ho.out; rw [sv_false, fite_out (by omega)]), rfl⟩
          · rw [fitv_in (by omega) (by omega), fite_in (by omega) (by omega)] at M1
            have M2 := fun w => refSub_calls (-(V : Int) * 10) ((s[k].toNat : Int) - 48) (by omega) (by omega) (by omega) (by omega) w
            by_cases c2 : 9223372036854775808 < U
            · rw [fitv_out (by have := hst.out; omega), fite_out (by have := hst.out; omega)] at M2
              have Ho : Hid (9223372036854775808 < D) := Lib.hid (by have := hle.out; omega)
              generalize hM : -(V : Int) * 10 = M at *
              have K1 := Lib.hid M1
              have K2 := Lib.hid M2
              clear M1 M2 hM
              go_wp2_with fail
              refine (K1.out _).mono ?_
              rintro e w1 ⟨rfl, rfl⟩
              go_wp2_with fail
              refine (K2.out _).mono ?_
              rintro e w1 ⟨rfl, rfl⟩
              go_wp2_with fail
              go_ret2
              exact ⟨ret_two (by have := Ho.out; rw [sv_false, fitv_out (by omega)]) (by have := Ho.out; rw [sv_false, fite_out (by omega)]), rfl⟩
            · rw [fitv_in (by have := hst.out; omega) (by have := hst.out; omega), fite_in (by have := hst.out; omega) (by have := hst.out; omega)] at M2
              have hN : Hid (-(V : Int) * 10 - ((s[k].toNat : Int) - 48) = -(U : Int)) := Lib.hid (by have := hst.out; omega)
              rw [hN.out] at M2
              generalize hM : -(V : Int) * 10 = M at *
              have K1 := Lib.hid M1
              have K2 := Lib.hid M2
              clear M1 M2 hM hN
              go_wp2_with fail
              refine (K1.out _).mono ?_
              rintro e w1 ⟨rfl, rfl⟩
              go_wp2_with fail
              refine (K2.out _).mono ?_
              rintro e w1 ⟨rfl, rfl⟩
              go_wp2_with fail
              go_round
              case rel => exact ⟨k + 1, by omega, by omega, by go_num, by rw [HU.out], by rw [HU.out]; omega⟩
              case measure => simp [intOf]; omega
        · obtain rfl : k = s.size := by omega
          rw [upto_end, hD.out] at hb ⊢
          have K := Lib.hid fun w => refNeg_calls (-(D : Int)) (by omega) (by omega) w
          go_wp2_with fail
          refine (K.out _).mono ?_
          rintro e w1 ⟨rfl, rfl⟩
          go_wp2_with fail
          go_ret2
          exact ⟨ret_two (by rw [sv_false]; try rw [Int.neg_neg]) (by rw [sv_false]; try rw [Int.neg_neg]), rfl⟩

set_option maxRecDepth 100000 in
set_option maxHeartbeats 2000000 in
/-- a byte that is no digit is among them -/
theorem refParse_bad1 (s : ByteArray) (hs : s.size ≤ maxLen) (h0 : 0 < s.size) (hc : ((s[0].toNat : Int) == 45) = true) (h1 : 1 < s.size) (hz : ((s[1].toNat : Int) == 48) = false) (hlen : ((s.size : Int) == 1) = false) (hn : Hid (¬ ∀ j, 1 ≤ j → (h : j < s.size) → dgt s[j] = true)) (w : World) :
    Calls Tryd.prog 28 #[.string s] w fun e w' => e = .returned (.tuple #[.int .i64 0, .int .i64 2]) ∧ w = w' := by
  unfold maxLen at hs
  have hp : (0 : Int) < (s.size : Int) := by omega
  go_enter Tryd.func28, Tryd.ntmps28
  go_wp2_with fail
  go_loop [5] (fun i => ∃ k : Nat, 1 ≤ k ∧ k ≤ s.size ∧ i = .int .i64 k ∧ Hid (∀ j, 1 ≤ j → (h : j < s.size) → j < k → dgt s[j] = true)) (fun i => s.size - (intOf i).toNat)
  case atStart => exact ⟨1, by omega, by omega, rfl, Lib.hid (fun j h1 _ h2 => by omega)⟩
  case round =>
    obtain ⟨k, hk1, hk, rfl, ha⟩ := hrel
    by_cases hlt : k < s.size
    · by_cases hd : dgt s[k] = true
      · obtain ⟨d1, d2⟩ := (dgt_iff _).1 hd
        have Hd := Lib.hid hd
        clear hd
        have e1 : (48 : Int) ≤ (s[k].toNat : Int) := by omega
        have e2 : (s[k].toNat : Int) ≤ 57 := by omega
        go_wp2_with fail
        go_round
        case rel => exact ⟨k + 1, by omega, by omega, by go_num, Lib.hid (fun j h1 h h2 => by
          by_cases e : j = k
          · subst e; exact Hd.out
          · exact ha.out j h1 h (by omega))⟩
        case measure => simp [intOf]; omega
      · have hcase : s[k].toNat < 48 ∨ 57 < s[k].toNat := by
          have h := mt (dgt_iff s[k]).2 hd
          omega
        clear hd
        rcases hcase with hcase | hcase
        · have e1 : (s[k].toNat : Int) < 48 := by omega
          go_wp2_with fail
          go_ret2
          exact ⟨rfl, rfl⟩
        · have e1 : (57 : Int) < (s[k].toNat : Int) := by omega
          go_wp2_with fail
          go_ret2
          exact ⟨rfl, rfl⟩
    · exact absurd (fun j h1 h => ha.out j h1 h (by omega)) hn.out

set_option maxRecDepth 100000 in
set_option maxHeartbeats 4000000 in
/-- digits alone -/
theorem refParse_good1 (s : ByteArray) (D : Nat) (hD : Hid (dval (s.data.toList.drop 1) = D)) (hs : s.size ≤ maxLen) (h0 : 0 < s.size) (hc : ((s[0].toNat : Int) == 45) = true) (h1 : 1 < s.size) (hz : ((s[1].toNat : Int) == 48) = false) (hlen : ((s.size : Int) == 1) = false) (hn : Hid (∀ j, 1 ≤ j → (h : j < s.size) → dgt s[j] = true)) (w : World) :
    Calls Tryd.prog 28 #[.string s] w fun e w' => e = .returned (.tuple #[.int .i64 (fitv (sv true (D : Int))), .int .i64 (fite (sv true (D : Int)))]) ∧ w = w' := by
  unfold maxLen at hs
  have hp : (0 : Int) < (s.size : Int) := by omega
  go_enter Tryd.func28, Tryd.ntmps28
  go_wp2_with fail
  go_loop [5] (fun i => ∃ k : Nat, 1 ≤ k ∧ k ≤ s.size ∧ i = .int .i64 k) (fun i => s.size - (intOf i).toNat)
  case atStart => exact ⟨1, by omega, by omega, rfl⟩
  case round =>
    obtain ⟨k, hk1, hk, rfl⟩ := hrel
    by_cases hlt : k < s.size
    · obtain ⟨d1, d2⟩ := (dgt_iff _).1 (hn.out k hk1 hlt)
      have e1 : (48 : Int) ≤ (s[k].toNat : Int) := by omega
      have e2 : (s[k].toNat : Int) ≤ 57 := by omega
      go_wp2_with fail
      go_round
      case rel => exact ⟨k + 1, by omega, by omega, by go_num⟩
      case measure => simp [intOf]; omega
    · clear hk1
      go_wp2_with fail
      go_loop [6, 7, 8, 9] (fun n i _ _ => ∃ k : Nat, 1 ≤ k ∧ k ≤ s.size ∧ i = .int .i64 k ∧ n = .int .i64 (-(upto s.data.toList 1 k : Int)) ∧ upto s.data.toList 1 k ≤ 9223372036854775808) (fun _ i _ _ => s.size - (intOf i).toNat)
      case atStart => exact ⟨1, by omega, by omega, rfl, by rw [upto_start]; rfl, by rw [upto_start]; omega⟩
      case round =>
        obtain ⟨k, hk1, hk, rfl, rfl, hb⟩ := hrel
        by_cases hlt : k < s.size
        · obtain ⟨d1, d2⟩ := (dgt_iff _).1 (hn.out k hk1 hlt)
          have hst := Lib.hid (upto_step s 1 k hk1 hlt d1)
          have hle : Hid (upto s.data.toList 1 (k + 1) ≤ D) := Lib.hid (by rw [← hD.out]; exact upto_le _ _ _)
          have e1 : (48 : Int) ≤ (s[k].toNat : Int) := by omega
          have e2 : (s[k].toNat : Int) ≤ 57 := by omega
          have M1 := fun w => refMul_calls (-(upto s.data.toList 1 k : Int)) 10 (by omega) (by omega) (by omega) (by omega) w
          generalize hU : upto s.data.toList 1 (k + 1) = U at *
          have HU := Lib.hid hU
          clear hU
          generalize hV : upto s.data.toList 1 k = V at *
          clear hV
          by_cases c1 : 9223372036854775808 < V * 10
          · rw [fitv_out (by omega), fite_out (by omega)] at M1
            have K1 := Lib.hid M1
            have Ho : Hid (9223372036854775808 < D) := Lib.hid (by have := hst.out; have := hle.out; omega)
            clear M1
            go_wp2_with fail
            refine (K1.out _).mono ?_
            rintro e w1 ⟨rfl, rfl⟩
            go_wp2_with fail
            go_ret2
            exact ⟨ret_two (by have := Ho.out; rw [sv_true, fitv_out (by omega)]) (by have := Ho.out; rw [sv_true, fite_out (by omega)]), rfl⟩
          · rw [fitv_in (by omega) (by omega), fite_in (by omega) (by omega)] at M1
            have M2 := fun w => refSub_calls (-(V : Int) * 10) ((s[k].toNat : Int) - 48) (by omega) (by omega) (by omega) (by omega) w
            by_cases c2 : 9223372036854775808 < U
            · rw [fitv_out (by have := hst.out; omega), fite_out (by have := hst.out; omega)] at M2
              have Ho : Hid (9223372036854775808 < D) := Lib.hid (by have := hle.out; omega)
              generalize hM : -(V : Int) * 10 = M at *
              have K1 := Lib.hid M1
              have K2 := Lib.hid M2
              clear M1 M2 hM
              go_wp2_with fail
              refine (K1.out _).mono ?_
              rintro e w1 ⟨rfl, rfl⟩
              go_wp2_with fail
              refine (K2.out _).mono ?_
              rintro e w1 ⟨rfl, rfl⟩
              go_wp2_with fail
              go_ret2
              exact ⟨ret_two (by have := Ho.out; rw [sv_true, fitv_out (by omega)]) (by have := Ho.out; rw [sv_true, fite_out (by omega)]), rfl⟩
            · rw [fitv_in (by have := hst.out; omega) (by have := hst.out; omega), fite_in (by have := hst.out; omega) (by have := hst.out; omega)] at M2
              have hN : Hid (-(V : Int) * 10 - ((s[k].toNat : Int) - 48) = -(U : Int)) := Lib.hid (by have := hst.out; omega)
              rw [hN.out] at M2
              generalize hM : -(V : Int) * 10 = M at *
              have K1 := Lib.hid M1
              have K2 := Lib.hid M2
              clear M1 M2 hM hN
              go_wp2_with fail
              refine (K1.out _).mono ?_
              rintro e w1 ⟨rfl, rfl⟩
              go_wp2_with fail
              refine (K2.out _).mono ?_
              rintro e w1 ⟨rfl, rfl⟩
              go_wp2_with fail
              go_round
              case rel => exact ⟨k + 1, by omega, by omega, by go_num, by rw [HU.out], by rw [HU.out]; omega⟩
              case measure => simp [intOf]; omega
        · obtain rfl : k = s.size := by omega
          rw [upto_end, hD.out] at hb ⊢
          go_wp2_with fail
          go_ret2
          exact ⟨ret_two (by rw [sv_true, fitv_in (by omega) (by omega)]) (by rw [sv_true, fite_in (by omega) (by omega)]), rfl⟩

set_option maxRecDepth 100000 in
set_option maxHeartbeats 400000 in
theorem refParse_empty (s : ByteArray) (h : s.size = 0) (w : World) :
    Calls Tryd.prog 28 #[.string s] w fun e w' => e = .returned (.tuple #[.int .i64 0, .int .i64 2]) ∧ w = w' := by
  go_enter Tryd.func28, Tryd.ntmps28
  go_wp2_with fail
  go_ret2
  exact ⟨rfl, rfl⟩

set_option maxRecDepth 100000 in
set_option maxHeartbeats 400000 in
theorem refParse_sign (s : ByteArray) (h0 : 0 < s.size) (hc : ((s[0].toNat : Int) == 45) = true) (h : ((s.size : Int) == 1) = true) (w : World) :
    Calls Tryd.prog 28 #[.string s] w fun e w' => e = .returned (.tuple #[.int .i64 0, .int .i64 2]) ∧ w = w' := by
  have hp : (0 : Int) < (s.size : Int) := by omega
  go_enter Tryd.func28, Tryd.ntmps28
  go_wp2_with fail
  go_ret2
  exact ⟨rfl, rfl⟩

set_option maxRecDepth 100000 in
set_option maxHeartbeats 400000 in
theorem refParse_nought (s : ByteArray) (hs : s.size ≤ maxLen) (h0 : 0 < s.size) (hc : ((s[0].toNat : Int) == 45) = true) (h1 : 1 < s.size) (hz : ((s[1].toNat : Int) == 48) = true) (hlen : ((s.size : Int) == 1) = false) (w : World) :
    Calls Tryd.prog 28 #[.string s] w fun e w' => e = .returned (.tuple #[.int .i64 0, .int .i64 2]) ∧ w = w' := by
  unfold maxLen at hs
  have hp : (0 : Int) < (s.size : Int) := by omega
  go_enter Tryd.func28, Tryd.ntmps28
  go_wp2_with fail
  go_ret2
  exact ⟨rfl, rfl⟩

theorem byte45 (c : UInt8) : ((c.toNat : Int) == 45) = decide (c = 45) := by
  rw [Bool.eq_iff_iff, decide_eq_true_iff, beq_iff_eq]
  refine ⟨fun k => UInt8.toNat_inj.1 (by show c.toNat = 45; omega), fun k => ?_⟩
  subst k; rfl

theorem refParse_calls (s : ByteArray) (hs : s.size ≤ maxLen) (w : World) :
    Calls Tryd.prog 28 #[.string s] w fun e w' => e = .returned (.tuple #[.int .i64 (pv s.data.toList), .int .i64 (pe s.data.toList)]) ∧ w = w' := by
  by_cases h0 : 0 < s.size
  · by_cases hc : s[0] = 45
    · obtain ⟨q1, q2⟩ := sign_yes s h0 hc
      have hcb : ((s[0].toNat : Int) == 45) = true := by rw [byte45]; simp [hc]
      unfold pv pe okNum numOf
      rw [q1, q2]
      by_cases h1 : 1 < s.size
      · have hlen : ((s.size : Int) == 1) = false := beq_eq_false_iff_ne.2 (by omega)
        rw [head_drop s h1]
        by_cases hz : s[1] = 48
        · have e : ((s[1].toNat : Int) == 48) = true := by rw [byte48]; simp [hz]
          simp only [hz, decide_true, Bool.and_self, Bool.not_true, Bool.and_false, Bool.false_eq_true, if_false]
          exact refParse_nought s hs h0 hcb h1 e hlen w
        · have e : ((s[1].toNat : Int) == 48) = false := by rw [byte48]; simp [hz]
          by_cases hn : ∀ j, 1 ≤ j → (h : j < s.size) → dgt s[j] = true
          · rw [digs_drop_yes s 1 h1 hn]
            simp only [Option.some.injEq, hz, decide_false, Bool.and_false, Bool.not_false, Bool.and_self, if_true]
            exact refParse_good1 s _ (Lib.hid rfl) hs h0 hcb h1 e hlen (Lib.hid hn) w
          · have hd : digs (s.data.toList.drop 1) = false := by
              cases hd : digs (s.data.toList.drop 1)
              · rfl
              · exfalso
                apply hn
                intro j hj h
                cases hk : dgt s[j]
                · rw [digs_drop_no s 1 j hj h hk] at hd; cases hd
                · rfl
            rw [hd]
            simp only [Bool.false_and, Bool.false_eq_true, if_false]
            exact refParse_bad1 s hs h0 hcb h1 e hlen (Lib.hid hn) w
      · have hlen : ((s.size : Int) == 1) = true := by rw [beq_iff_eq]; omega
        have hd : digs (s.data.toList.drop 1) = false := by
          have hl : s.data.toList.length = s.size := by simp
          rw [List.drop_eq_nil_of_le (by omega)]; rfl
        rw [hd]
        simp only [Bool.false_and, Bool.false_eq_true, if_false]
        exact refParse_sign s h0 hcb hlen w
    · obtain ⟨q1, q2⟩ := sign_no s h0 hc
      have hcb : ((s[0].toNat : Int) == 45) = false := by rw [byte45]; simp [hc]
      have hlen : ((s.size : Int) == 0) = false := beq_eq_false_iff_ne.2 (by omega)
      unfold pv pe okNum numOf
      rw [q1, q2]
      by_cases hn : ∀ j, 0 ≤ j → (h : j < s.size) → dgt s[j] = true
      · rw [digs_drop_yes s 0 h0 hn]
        simp only [Bool.false_and, Bool.not_false, Bool.and_self, if_true]
        exact refParse_good0 s _ (Lib.hid rfl) hs h0 hcb hlen (Lib.hid hn) w
      · have hd : digs (s.data.toList.drop 0) = false := by
          cases hd : digs (s.data.toList.drop 0)
          · rfl
          · exfalso
            apply hn
            intro j hj h
            cases hk : dgt s[j]
            · rw [digs_drop_no s 0 j hj h hk] at hd; cases hd
            · rfl
        rw [hd]
        simp only [Bool.false_and, Bool.false_eq_true, if_false]
        exact refParse_bad0 s hs h0 hcb hlen (Lib.hid hn) w
  · have hz : s.size = 0 := by omega
    have hl : s.data.toList = [] := List.eq_nil_of_length_eq_zero (by simpa using hz)
    rw [hl, show pv [] = 0 from by decide, show pe [] = 2 from by decide]
    exact refParse_empty s hz w
end Go.Proofs.YtbdefkhmomogdaaDoor
