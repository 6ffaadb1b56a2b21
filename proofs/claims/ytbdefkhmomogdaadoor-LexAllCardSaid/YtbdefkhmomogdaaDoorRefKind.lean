/- What the document's own answers of layer 2 (weftwayref02) come to, second part: Kind, end. -/
import Derived.Test.YtbdefkhmomogdaaDoorRefLex
import Derived.Test.YtbdefkhmomogdaaDoorLexFacts
namespace Go.Proofs.YtbdefkhmomogdaaDoor
open Go.RowKit
set_option linter.unusedVariables false

/-- the signs, as the chapter lists them -/
def signsL : List (List UInt8) := [[61, 61], [61, 62], [45, 62], [40], [41], [123], [125], [60], [62], [44], [59], [58], [61], [38], [42], [46], [43], [45], [47], [37]]
theorem signs_len : signsL.length = 20 := rfl
theorem signs_are (l : List UInt8) : signsL.contains l = signL l := by
  have e : signsL = [[61, 61], [61, 62], [45, 62]] ++ shortL.map (fun c => [c]) := rfl
  have h1 : (shortL.map (fun c => [c])).contains l = oneL l := by
    rw [Bool.eq_iff_iff, List.contains_iff_mem, List.mem_map]
    constructor
    · rintro ⟨c, hc, rfl⟩
      exact List.contains_iff_mem.2 hc
    · intro h
      match l, h with
      | [c], h => exact ⟨c, List.contains_iff_mem.1 h, rfl⟩
  rw [e, List.contains_append, h1]
  unfold signL
  simp only [List.contains_cons, List.contains_nil, Bool.or_false, Bool.or_assoc]
theorem kind_rest {l : List UInt8} (h1 : wordsL.contains l = false) (h2 : decide (kindL l = 2) = false) (h3 : decide (kindL l = 3) = false) :
    kindL l = if signL l = true then 5 else if (l ≠ [] ∧ headB (fun c => decide (c = 45)) l = false ∧ pe l = 0) then 4 else 0 := by
  rw [kind2, h1, Bool.not_false, Bool.true_and] at h2
  rw [kind3, h1, Bool.not_false, Bool.true_and] at h3
  by_cases h0 : l = []
  · subst h0; rfl
  · cases hd : (headB dgt l && decide (pe l = 0))
    · rw [kind_else h0 h1 h2 h3 hd]
      by_cases hs : signL l = true
      · rw [if_pos hs, if_pos hs]
      · rw [if_neg hs, if_neg hs, if_neg]
        rintro ⟨_, g1, g2⟩
        have hh : headB dgt l = true := by
          cases l with
          | nil => exact absurd rfl h0
          | cons c r =>
            have hc : ¬ c = 45 := by simpa [headB] using g1
            unfold pe at g2
            by_cases ho : okNum (c :: r) = true
            · unfold okNum at ho
              rw [Bool.and_eq_true, cutm_p hc] at ho
              have := ho.1
              unfold digs at this
              rw [Bool.and_eq_true, List.all_cons, Bool.and_eq_true] at this
              exact this.2.1
            · rw [if_neg ho] at g2; omega
        rw [hh, g2] at hd
        cases hd
    · rw [Bool.and_eq_true, decide_eq_true_eq] at hd
      obtain ⟨g1, g2⟩ := small_great l hd.1
      have hs : ¬ signL l = true := by
        intro hs
        rcases sign_forms hs with rfl | rfl | rfl | ⟨c, rfl, hc⟩
        · cases hd.1
        · cases hd.1
        · cases hd.1
        · have := (short_fact hc).2.2.1
          rw [show headB dgt [c] = dgt c from rfl, this] at hd
          cases hd.1
      have hm : headB (fun c => decide (c = 45)) l = false := by
        cases l with
        | nil => rfl
        | cons c r => exact decide_eq_false (fun e => by subst e; cases hd.1)
      rw [kind_digit h0 h1 g1 g2 hd.1 (decide_eq_true hd.2), if_neg hs, if_pos ⟨h0, hm, hd.2⟩]

set_option maxHeartbeats 400000 in
theorem refKind_word (s : ByteArray) (CWord : Hid (∀ w : World, Calls Tryd.prog 25 #[.string s] w fun e w' => e = .returned (.bool true) ∧ Below w.heap.size w w')) (w : World) :
    Calls Tryd.prog 17 #[.string s] w fun e w' => e = .returned (.int .u8 1) ∧ Below w.heap.size w w' := by
  go_enter Tryd.func17, Tryd.ntmps17
  go_wp2_with fail
  refine (CWord.out _).mono ?_; rintro e w1 ⟨rfl, b1⟩
  go_wp2
  go_ret
  exact ⟨rfl, b1⟩

set_option maxHeartbeats 400000 in
theorem refKind_name (s : ByteArray) (CWord : Hid (∀ w : World, Calls Tryd.prog 25 #[.string s] w fun e w' => e = .returned (.bool false) ∧ Below w.heap.size w w')) (CName : Hid (∀ w : World, Calls Tryd.prog 26 #[.string s] w fun e w' => e = .returned (.bool true) ∧ Below w.heap.size w w')) (w : World) :
    Calls Tryd.prog 17 #[.string s] w fun e w' => e = .returned (.int .u8 2) ∧ Below w.heap.size w w' := by
  go_enter Tryd.func17, Tryd.ntmps17
  go_wp2_with fail
  refine (CWord.out _).mono ?_; rintro e w1 ⟨rfl, b1⟩
  go_wp2_with fail
  refine (CName.out _).mono ?_; rintro e w2 ⟨rfl, b2⟩
  go_wp2
  go_ret
  exact ⟨rfl, up_trans b1 b2⟩

set_option maxHeartbeats 400000 in
theorem refKind_type (s : ByteArray) (CWord : Hid (∀ w : World, Calls Tryd.prog 25 #[.string s] w fun e w' => e = .returned (.bool false) ∧ Below w.heap.size w w')) (CName : Hid (∀ w : World, Calls Tryd.prog 26 #[.string s] w fun e w' => e = .returned (.bool false) ∧ Below w.heap.size w w')) (CType : Hid (∀ w : World, Calls Tryd.prog 27 #[.string s] w fun e w' => e = .returned (.bool true) ∧ Below w.heap.size w w')) (w : World) :
    Calls Tryd.prog 17 #[.string s] w fun e w' => e = .returned (.int .u8 3) ∧ Below w.heap.size w w' := by
  go_enter Tryd.func17, Tryd.ntmps17
  go_wp2_with fail
  refine (CWord.out _).mono ?_; rintro e w1 ⟨rfl, b1⟩
  go_wp2_with fail
  refine (CName.out _).mono ?_; rintro e w2 ⟨rfl, b2⟩
  go_wp2_with fail
  refine (CType.out _).mono ?_; rintro e w3 ⟨rfl, b3⟩
  go_wp2
  go_ret
  exact ⟨rfl, up_trans (up_trans b1 b2) b3⟩

set_option maxRecDepth 100000 in
set_option maxHeartbeats 1000000 in
theorem refKind_sign (s : ByteArray) (CWord : Hid (∀ w : World, Calls Tryd.prog 25 #[.string s] w fun e w' => e = .returned (.bool false) ∧ Below w.heap.size w w')) (CName : Hid (∀ w : World, Calls Tryd.prog 26 #[.string s] w fun e w' => e = .returned (.bool false) ∧ Below w.heap.size w w')) (CType : Hid (∀ w : World, Calls Tryd.prog 27 #[.string s] w fun e w' => e = .returned (.bool false) ∧ Below w.heap.size w w')) (HX : Hid (signsL.contains s.data.toList = true))  (w : World) :
    Calls Tryd.prog 17 #[.string s] w fun e w' => e = .returned (.int .u8 5) ∧ Below w.heap.size w w' := by
  go_enter Tryd.func17, Tryd.ntmps17
  go_wp2_with fail
  refine (CWord.out _).mono ?_; rintro e w1 ⟨rfl, b1⟩
  go_wp2_with fail
  refine (CName.out _).mono ?_; rintro e w2 ⟨rfl, b2⟩
  go_wp2_with fail
  refine (CType.out _).mono ?_; rintro e w3 ⟨rfl, b3⟩
  go_wp2_with fail
  have R := row_laid w3 signsL
  show Code.wp _ _ _ _ (w3.alloc (.cells (signsL.map fun l => Value.string (bs l)).toArray 9))
  generalize w3.alloc (.cells (signsL.map fun l => Value.string (bs l)).toArray 9) = W at *
  obtain ⟨R1, R2⟩ := R
  have b5 := up_trans (up_trans (up_trans b1 b2) b3) R2
  clear R2 b1 b2 b3
  go_loop [4] (fun i => ∃ k : Nat, k ≤ 20 ∧ i = .int .i64 k ∧ Hid ((signsL.take k).contains s.data.toList = false)) (fun i => 20 - (intOf i).toNat)
  case atStart => exact ⟨0, by omega, rfl, Lib.hid (by simp)⟩
  case round =>
    obtain ⟨k, hk, rfl, ha⟩ := hrel
    by_cases hlt : k < 20
    · have hk2 : k < signsL.length := by rw [signs_len]; exact hlt
      have hcx := R1.out k hk2
      obtain ⟨t, ht⟩ : ∃ t, t = bs (signsL.getD k []) := ⟨_, rfl⟩
      rw [← ht] at hcx
      have htl : t.data.toList = signsL.getD k [] := by rw [ht]; rfl
      have Ht := Lib.hid htl
      have HK := Lib.hid hk2
      clear ht htl hk2
      cases he : (t.toList == s.toList)
      · have Hn := Lib.hid (show (t.data.toList == s.data.toList) = false by rw [← ByteArray.toList_eq, ← ByteArray.toList_eq]; exact he)
        go_wp2
        go_round
        case rel => exact ⟨k + 1, by omega, by go_num, Lib.hid (no_word HK.out Ht.out ha.out Hn.out)⟩
        case measure => simp [intOf]; omega
      · have Hn := Lib.hid (show (t.data.toList == s.data.toList) = true by rw [← ByteArray.toList_eq, ← ByteArray.toList_eq]; exact he)
        go_wp2
        go_ret
        exact ⟨rfl, b5⟩
    · obtain rfl : k = 20 := by omega
      have hz := ha.out
      rw [List.take_of_length_le (by rw [signs_len]; exact Nat.le_refl _), HX.out] at hz
      cases hz

set_option maxRecDepth 100000 in
set_option maxHeartbeats 1000000 in
theorem refKind_empty (s : ByteArray) (CWord : Hid (∀ w : World, Calls Tryd.prog 25 #[.string s] w fun e w' => e = .returned (.bool false) ∧ Below w.heap.size w w')) (CName : Hid (∀ w : World, Calls Tryd.prog 26 #[.string s] w fun e w' => e = .returned (.bool false) ∧ Below w.heap.size w w')) (CType : Hid (∀ w : World, Calls Tryd.prog 27 #[.string s] w fun e w' => e = .returned (.bool false) ∧ Below w.heap.size w w')) (HX : Hid (signsL.contains s.data.toList = false)) (hem : s.toList.isEmpty = true) (w : World) :
    Calls Tryd.prog 17 #[.string s] w fun e w' => e = .returned (.int .u8 0) ∧ Below w.heap.size w w' := by
  go_enter Tryd.func17, Tryd.ntmps17
  go_wp2_with fail
  refine (CWord.out _).mono ?_; rintro e w1 ⟨rfl, b1⟩
  go_wp2_with fail
  refine (CName.out _).mono ?_; rintro e w2 ⟨rfl, b2⟩
  go_wp2_with fail
  refine (CType.out _).mono ?_; rintro e w3 ⟨rfl, b3⟩
  go_wp2_with fail
  have R := row_laid w3 signsL
  show Code.wp _ _ _ _ (w3.alloc (.cells (signsL.map fun l => Value.string (bs l)).toArray 9))
  generalize w3.alloc (.cells (signsL.map fun l => Value.string (bs l)).toArray 9) = W at *
  obtain ⟨R1, R2⟩ := R
  have b5 := up_trans (up_trans (up_trans b1 b2) b3) R2
  clear R2 b1 b2 b3
  go_loop [4] (fun i => ∃ k : Nat, k ≤ 20 ∧ i = .int .i64 k ∧ Hid ((signsL.take k).contains s.data.toList = false)) (fun i => 20 - (intOf i).toNat)
  case atStart => exact ⟨0, by omega, rfl, Lib.hid (by simp)⟩
  case round =>
    obtain ⟨k, hk, rfl, ha⟩ := hrel
    by_cases hlt : k < 20
    · have hk2 : k < signsL.length := by rw [signs_len]; exact hlt
      have hcx := R1.out k hk2
      obtain ⟨t, ht⟩ : ∃ t, t = bs (signsL.getD k []) := ⟨_, rfl⟩
      rw [← ht] at hcx
      have htl : t.data.toList = signsL.getD k [] := by rw [ht]; rfl
      have Ht := Lib.hid htl
      have HK := Lib.hid hk2
      clear ht htl hk2
      cases he : (t.toList == s.toList)
      · have Hn := Lib.hid (show (t.data.toList == s.data.toList) = false by rw [← ByteArray.toList_eq, ← ByteArray.toList_eq]; exact he)
        go_wp2
        go_round
        case rel => exact ⟨k + 1, by omega, by go_num, Lib.hid (no_word HK.out Ht.out ha.out Hn.out)⟩
        case measure => simp [intOf]; omega
      · have Hn := Lib.hid (show (t.data.toList == s.data.toList) = true by rw [← ByteArray.toList_eq, ← ByteArray.toList_eq]; exact he)
        exact absurd ((is_word HK.out Ht.out Hn.out).symm.trans HX.out) (by simp)
    · obtain rfl : k = 20 := by omega
      go_wp2
      go_ret
      exact ⟨rfl, b5⟩

set_option maxRecDepth 100000 in
set_option maxHeartbeats 1000000 in
theorem refKind_minus (s : ByteArray) (CWord : Hid (∀ w : World, Calls Tryd.prog 25 #[.string s] w fun e w' => e = .returned (.bool false) ∧ Below w.heap.size w w')) (CName : Hid (∀ w : World, Calls Tryd.prog 26 #[.string s] w fun e w' => e = .returned (.bool false) ∧ Below w.heap.size w w')) (CType : Hid (∀ w : World, Calls Tryd.prog 27 #[.string s] w fun e w' => e = .returned (.bool false) ∧ Below w.heap.size w w')) (HX : Hid (signsL.contains s.data.toList = false)) (h0 : 0 < s.size) (hp0 : (0 : Int) < (s.size : Int)) (hem : s.toList.isEmpty = false) (hc : ((s[0].toNat : Int) == 45) = true) (w : World) :
    Calls Tryd.prog 17 #[.string s] w fun e w' => e = .returned (.int .u8 0) ∧ Below w.heap.size w w' := by
  go_enter Tryd.func17, Tryd.ntmps17
  go_wp2_with fail
  refine (CWord.out _).mono ?_; rintro e w1 ⟨rfl, b1⟩
  go_wp2_with fail
  refine (CName.out _).mono ?_; rintro e w2 ⟨rfl, b2⟩
  go_wp2_with fail
  refine (CType.out _).mono ?_; rintro e w3 ⟨rfl, b3⟩
  go_wp2_with fail
  have R := row_laid w3 signsL
  show Code.wp _ _ _ _ (w3.alloc (.cells (signsL.map fun l => Value.string (bs l)).toArray 9))
  generalize w3.alloc (.cells (signsL.map fun l => Value.string (bs l)).toArray 9) = W at *
  obtain ⟨R1, R2⟩ := R
  have b5 := up_trans (up_trans (up_trans b1 b2) b3) R2
  clear R2 b1 b2 b3
  go_loop [4] (fun i => ∃ k : Nat, k ≤ 20 ∧ i = .int .i64 k ∧ Hid ((signsL.take k).contains s.data.toList = false)) (fun i => 20 - (intOf i).toNat)
  case atStart => exact ⟨0, by omega, rfl, Lib.hid (by simp)⟩
  case round =>
    obtain ⟨k, hk, rfl, ha⟩ := hrel
    by_cases hlt : k < 20
    · have hk2 : k < signsL.length := by rw [signs_len]; exact hlt
      have hcx := R1.out k hk2
      obtain ⟨t, ht⟩ : ∃ t, t = bs (signsL.getD k []) := ⟨_, rfl⟩
      rw [← ht] at hcx
      have htl : t.data.toList = signsL.getD k [] := by rw [ht]; rfl
      have Ht := Lib.hid htl
      have HK := Lib.hid hk2
      clear ht htl hk2
      cases he : (t.toList == s.toList)
      · have Hn := Lib.hid (show (t.data.toList == s.data.toList) = false by rw [← ByteArray.toList_eq, ← ByteArray.toList_eq]; exact he)
        go_wp2
        go_round
        case rel => exact ⟨k + 1, by omega, by go_num, Lib.hid (no_word HK.out Ht.out ha.out Hn.out)⟩
        case measure => simp [intOf]; omega
      · have Hn := Lib.hid (show (t.data.toList == s.data.toList) = true by rw [← ByteArray.toList_eq, ← ByteArray.toList_eq]; exact he)
        exact absurd ((is_word HK.out Ht.out Hn.out).symm.trans HX.out) (by simp)
    · obtain rfl : k = 20 := by omega
      go_wp2
      go_ret
      exact ⟨rfl, b5⟩

set_option maxRecDepth 100000 in
set_option maxHeartbeats 1000000 in
theorem refKind_number (s : ByteArray) (CWord : Hid (∀ w : World, Calls Tryd.prog 25 #[.string s] w fun e w' => e = .returned (.bool false) ∧ Below w.heap.size w w')) (CName : Hid (∀ w : World, Calls Tryd.prog 26 #[.string s] w fun e w' => e = .returned (.bool false) ∧ Below w.heap.size w w')) (CType : Hid (∀ w : World, Calls Tryd.prog 27 #[.string s] w fun e w' => e = .returned (.bool false) ∧ Below w.heap.size w w')) (HX : Hid (signsL.contains s.data.toList = false)) (h0 : 0 < s.size) (hp0 : (0 : Int) < (s.size : Int)) (hem : s.toList.isEmpty = false) (hc : ((s[0].toNat : Int) == 45) = false) (x y : Int) (hy : y = 0) (CP : Hid (∀ w : World, Calls Tryd.prog 28 #[.string s] w fun e w' => e = .returned (.tuple #[.int .i64 x, .int .i64 y]) ∧ w = w')) (w : World) :
    Calls Tryd.prog 17 #[.string s] w fun e w' => e = .returned (.int .u8 4) ∧ Below w.heap.size w w' := by
  go_enter Tryd.func17, Tryd.ntmps17
  go_wp2_with fail
  refine (CWord.out _).mono ?_; rintro e w1 ⟨rfl, b1⟩
  go_wp2_with fail
  refine (CName.out _).mono ?_; rintro e w2 ⟨rfl, b2⟩
  go_wp2_with fail
  refine (CType.out _).mono ?_; rintro e w3 ⟨rfl, b3⟩
  go_wp2_with fail
  have R := row_laid w3 signsL
  show Code.wp _ _ _ _ (w3.alloc (.cells (signsL.map fun l => Value.string (bs l)).toArray 9))
  generalize w3.alloc (.cells (signsL.map fun l => Value.string (bs l)).toArray 9) = W at *
  obtain ⟨R1, R2⟩ := R
  have b5 := up_trans (up_trans (up_trans b1 b2) b3) R2
  clear R2 b1 b2 b3
  go_loop [4] (fun i => ∃ k : Nat, k ≤ 20 ∧ i = .int .i64 k ∧ Hid ((signsL.take k).contains s.data.toList = false)) (fun i => 20 - (intOf i).toNat)
  case atStart => exact ⟨0, by omega, rfl, Lib.hid (by simp)⟩
  case round =>
    obtain ⟨k, hk, rfl, ha⟩ := hrel
    by_cases hlt : k < 20
    · have hk2 : k < signsL.length := by rw [signs_len]; exact hlt
      have hcx := R1.out k hk2
      obtain ⟨t, ht⟩ : ∃ t, t = bs (signsL.getD k []) := ⟨_, rfl⟩
      rw [← ht] at hcx
      have htl : t.data.toList = signsL.getD k [] := by rw [ht]; rfl
      have Ht := Lib.hid htl
      have HK := Lib.hid hk2
      clear ht htl hk2
      cases he : (t.toList == s.toList)
      · have Hn := Lib.hid (show (t.data.toList == s.data.toList) = false by rw [← ByteArray.toList_eq, ← ByteArray.toList_eq]; exact he)
        go_wp2
        go_round
        case rel => exact ⟨k + 1, by omega, by go_num, Lib.hid (no_word HK.out Ht.out ha.out Hn.out)⟩
        case measure => simp [intOf]; omega
      · have Hn := Lib.hid (show (t.data.toList == s.data.toList) = true by rw [← ByteArray.toList_eq, ← ByteArray.toList_eq]; exact he)
        exact absurd ((is_word HK.out Ht.out Hn.out).symm.trans HX.out) (by simp)
    · obtain rfl : k = 20 := by omega
      subst hy
      go_wp2_with fail
      refine (CP.out _).mono ?_; rintro e w6 ⟨rfl, rfl⟩
      go_wp2
      go_ret
      exact ⟨rfl, b5⟩

set_option maxRecDepth 100000 in
set_option maxHeartbeats 1000000 in
theorem refKind_none (s : ByteArray) (CWord : Hid (∀ w : World, Calls Tryd.prog 25 #[.string s] w fun e w' => e = .returned (.bool false) ∧ Below w.heap.size w w')) (CName : Hid (∀ w : World, Calls Tryd.prog 26 #[.string s] w fun e w' => e = .returned (.bool false) ∧ Below w.heap.size w w')) (CType : Hid (∀ w : World, Calls Tryd.prog 27 #[.string s] w fun e w' => e = .returned (.bool false) ∧ Below w.heap.size w w')) (HX : Hid (signsL.contains s.data.toList = false)) (h0 : 0 < s.size) (hp0 : (0 : Int) < (s.size : Int)) (hem : s.toList.isEmpty = false) (hc : ((s[0].toNat : Int) == 45) = false) (x y : Int) (hy : ¬ y = 0) (hy2 : (y == 0) = false) (CP : Hid (∀ w : World, Calls Tryd.prog 28 #[.string s] w fun e w' => e = .returned (.tuple #[.int .i64 x, .int .i64 y]) ∧ w = w')) (w : World) :
    Calls Tryd.prog 17 #[.string s] w fun e w' => e = .returned (.int .u8 0) ∧ Below w.heap.size w w' := by
  go_enter Tryd.func17, Tryd.ntmps17
  go_wp2_with fail
  refine (CWord.out _).mono ?_; rintro e w1 ⟨rfl, b1⟩
  go_wp2_with fail
  refine (CName.out _).mono ?_; rintro e w2 ⟨rfl, b2⟩
  go_wp2_with fail
  refine (CType.out _).mono ?_; rintro e w3 ⟨rfl, b3⟩
  go_wp2_with fail
  have R := row_laid w3 signsL
  show Code.wp _ _ _ _ (w3.alloc (.cells (signsL.map fun l => Value.string (bs l)).toArray 9))
  generalize w3.alloc (.cells (signsL.map fun l => Value.string (bs l)).toArray 9) = W at *
  obtain ⟨R1, R2⟩ := R
  have b5 := up_trans (up_trans (up_trans b1 b2) b3) R2
  clear R2 b1 b2 b3
  go_loop [4] (fun i => ∃ k : Nat, k ≤ 20 ∧ i = .int .i64 k ∧ Hid ((signsL.take k).contains s.data.toList = false)) (fun i => 20 - (intOf i).toNat)
  case atStart => exact ⟨0, by omega, rfl, Lib.hid (by simp)⟩
  case round =>
    obtain ⟨k, hk, rfl, ha⟩ := hrel
    by_cases hlt : k < 20
    · have hk2 : k < signsL.length := by rw [signs_len]; exact hlt
      have hcx := R1.out k hk2
      obtain ⟨t, ht⟩ : ∃ t, t = bs (signsL.getD k []) := ⟨_, rfl⟩
      rw [← ht] at hcx
      have htl : t.data.toList = signsL.getD k [] := by rw [ht]; rfl
      have Ht := Lib.hid htl
      have HK := Lib.hid hk2
      clear ht htl hk2
      cases he : (t.toList == s.toList)
      · have Hn := Lib.hid (show (t.data.toList == s.data.toList) = false by rw [← ByteArray.toList_eq, ← ByteArray.toList_eq]; exact he)
        go_wp2
        go_round
        case rel => exact ⟨k + 1, by omega, by go_num, Lib.hid (no_word HK.out Ht.out ha.out Hn.out)⟩
        case measure => simp [intOf]; omega
      · have Hn := Lib.hid (show (t.data.toList == s.data.toList) = true by rw [← ByteArray.toList_eq, ← ByteArray.toList_eq]; exact he)
        exact absurd ((is_word HK.out Ht.out Hn.out).symm.trans HX.out) (by simp)
    · obtain rfl : k = 20 := by omega
      go_wp2_with fail
      refine (CP.out _).mono ?_; rintro e w6 ⟨rfl, rfl⟩
      go_wp2
      go_ret
      exact ⟨rfl, b5⟩

theorem refKind_calls (s : ByteArray) (hs : s.size ≤ maxLen) (w : World) :
    Calls Tryd.prog 17 #[.string s] w fun e w' => e = .returned (.int .u8 (kindL s.data.toList)) ∧ Below w.heap.size w w' := by
  have A1 := fun w => refWord_calls s hs w
  have A2 := fun w => refName_calls s hs w
  have A3 := fun w => refType_calls s hs w
  have A4 := fun w => refParse_calls s hs w
  cases h1 : wordsL.contains s.data.toList
  · rw [h1] at A1
    cases h2 : decide (kindL s.data.toList = 2)
    · rw [h2] at A2
      cases h3 : decide (kindL s.data.toList = 3)
      · rw [h3] at A3
        rw [kind_rest h1 h2 h3]
        cases hX : signL s.data.toList
        · have HX := Lib.hid ((signs_are s.data.toList).trans hX)
          rw [if_neg (by simp)]
          by_cases h0 : 0 < s.size
          · have hne : s.data.toList ≠ [] := by
              have := drop_byte h0
              rw [List.drop_zero] at this
              rw [this]; simp
            have he : s.toList.isEmpty = false := by rw [ByteArray.toList_eq]; simpa using hne
            have hq : (0 : Int) < (s.size : Int) := by omega
            rw [head_byte _ s h0]
            have hb := byte45 s[0]
            cases hc : decide (s[0] = 45)
            · rw [hc] at hb
              by_cases hp : pe s.data.toList = 0
              · rw [if_pos ⟨hne, rfl, hp⟩]
                exact refKind_number s (Lib.hid A1) (Lib.hid A2) (Lib.hid A3) HX h0 hq he hb _ _ hp (Lib.hid A4) w
              · rw [if_neg (fun h => hp h.2.2)]
                exact refKind_none s (Lib.hid A1) (Lib.hid A2) (Lib.hid A3) HX h0 hq he hb _ _ hp (by rw [beq_eq_false_iff_ne]; exact hp) (Lib.hid A4) w
            · rw [hc] at hb
              rw [if_neg (fun h => by cases h.2.1)]
              exact refKind_minus s (Lib.hid A1) (Lib.hid A2) (Lib.hid A3) HX h0 hq he hb w
          · have hl : s.data.toList = [] := List.eq_nil_of_length_eq_zero (show s.size = 0 by omega)
            rw [if_neg (fun h => h.1 hl)]
            exact refKind_empty s (Lib.hid A1) (Lib.hid A2) (Lib.hid A3) HX (by rw [ByteArray.toList_eq, hl]; rfl) w
        · have HX := Lib.hid ((signs_are s.data.toList).trans hX)
          rw [if_pos rfl]
          exact refKind_sign s (Lib.hid A1) (Lib.hid A2) (Lib.hid A3) HX w
      · rw [h3] at A3
        rw [decide_eq_true_eq] at h3
        rw [h3]
        exact refKind_type s (Lib.hid A1) (Lib.hid A2) (Lib.hid A3) w
    · rw [h2] at A2
      rw [decide_eq_true_eq] at h2
      rw [h2]
      exact refKind_name s (Lib.hid A1) (Lib.hid A2) w
  · rw [h1] at A1
    have := kind1 s.data.toList
    rw [h1, decide_eq_true_eq] at this
    rw [this]
    exact refKind_word s (Lib.hid A1) w
end Go.Proofs.YtbdefkhmomogdaaDoor
