/- What the document's own answers of layer 2 (weftwayref02) come to, first part: Word, part, named. -/
import Derived.Test.YtojeijeimpffgaaGreatRJoinD
import Derived.Test.YtojeijeimpffgaaGreatRJoinB
namespace Go.Proofs.YtojeijeimpffgaaGreat
open Go.RowKit
set_option linter.unusedVariables false

/-- a row of strings that the call itself has laid -/
def Row (w W : World) (L : List (List UInt8)) : Prop := Hid (∀ k, k < L.length → W.cell? ⟨w.heap.size, k, none⟩ = some (.string (bs (L.getD k [])))) ∧ Below w.heap.size w W
theorem row_laid (w : World) (L : List (List UInt8)) : Row w (w.alloc (.cells (L.map fun l => Value.string (bs l)).toArray 9)) L := by
  refine ⟨Lib.hid fun k hk => ?_, (Below.refl _ _).alloc (Nat.le_refl _) _⟩
  rw [World.cell?_alloc_at (hn := rfl)]
  simp [List.getD, hk]
theorem is_word {l t : List UInt8} {k : Nat} {L : List (List UInt8)} (hk : k < L.length) (ht : t = L.getD k []) (h : (t == l) = true) : L.contains l = true := by
  rw [beq_iff_eq] at h
  subst h
  rw [ht, List.contains_iff_mem]
  simp [List.getD, hk]
theorem no_word {l t : List UInt8} {k : Nat} {L : List (List UInt8)} (hk : k < L.length) (ht : t = L.getD k []) (h0 : (L.take k).contains l = false) (h : (t == l) = false) : (L.take (k + 1)).contains l = false := by
  have e : L.take (k + 1) = L.take k ++ [L.getD k []] := by
    rw [List.take_succ_eq_append_getElem hk]
    congr 2
    simp [List.getD, hk]
  rw [e, List.contains_append, h0, ← ht, List.contains_cons, List.contains_nil, Bool.false_or, Bool.or_false]
  rw [beq_eq_false_iff_ne] at h ⊢
  exact fun e => h e.symm

set_option maxRecDepth 100000 in
set_option maxHeartbeats 1000000 in
theorem refWord_calls (s : ByteArray) (hs : s.size ≤ maxLen) (w : World) :
    Calls Tryz.prog 104 #[.string s] w fun e w' => e = .returned (.bool (wordsL.contains s.data.toList)) ∧ Below w.heap.size w w' := by
  generalize hX : wordsL.contains s.data.toList = X
  have HX := Lib.hid hX
  clear hX
  go_enter Tryz.func104, Tryz.ntmps104
  go_wp2_with fail
  have R := row_laid w wordsL
  show Code.wp _ _ _ _ (w.alloc (.cells (wordsL.map fun l => Value.string (bs l)).toArray 9))
  generalize w.alloc (.cells (wordsL.map fun l => Value.string (bs l)).toArray 9) = W at *
  obtain ⟨R1, R2⟩ := R
  go_loop [4] (fun i => ∃ k : Nat, k ≤ 47 ∧ i = .int .i64 k ∧ Hid ((wordsL.take k).contains s.data.toList = false)) (fun i => 47 - (intOf i).toNat)
  case atStart => exact ⟨0, by omega, rfl, Lib.hid (by simp)⟩
  case round =>
    obtain ⟨k, hk, rfl, ha⟩ := hrel
    by_cases hlt : k < 47
    · have hk2 : k < wordsL.length := by rw [words_len]; exact hlt
      have hcx := R1.out k hk2
      obtain ⟨t, ht⟩ : ∃ t, t = bs (wordsL.getD k []) := ⟨_, rfl⟩
      rw [← ht] at hcx
      have htl : t.data.toList = wordsL.getD k [] := by rw [ht]; rfl
      have Ht := Lib.hid htl
      have HK := Lib.hid hk2
      clear ht htl hk2
      cases he : (t.toList == s.toList)
      · have Hn := Lib.hid (show (t.data.toList == s.data.toList) = false by rw [← ByteArray.toList_eq, ← ByteArray.toList_eq]; exact he)
        go_wp2
        go_round
        case rel => exact ⟨k + 1, by omega, by go_num, Lib.hid (no_word HK.out Ht.out ha.out Hn.out)⟩
        case measure => simp [intOf]; omega
      · have Hn := Lib.hid (show (t.data.toList == s.data.toList) = true by rw [← ByteArray.toList_eq, ← ByteArray.toList_eq]; exact he)
        go_wp2
        go_ret
        exact ⟨ret_bool ((is_word HK.out Ht.out Hn.out).symm.trans HX.out), R2⟩
    · obtain rfl : k = 47 := by omega
      go_wp2
      go_ret
      exact ⟨ret_bool (by have := ha.out; rw [List.take_of_length_le (by rw [words_len]; exact Nat.le_refl _)] at this; exact this.symm.trans HX.out), R2⟩

set_option maxHeartbeats 1000000 in
theorem refPart_calls (c : UInt8) (w : World) :
    Calls Tryz.prog 105 #[.int .u8 (c.toNat : Int)] w fun e w' => e = .returned (.bool (nameB c)) ∧ w = w' := by
  have hb := (c.toNat_lt : c.toNat < 256)
  have h4 := byte95 c
  unfold nameB
  rcases (show (97 ≤ c.toNat ∧ c.toNat ≤ 122) ∨ (65 ≤ c.toNat ∧ c.toNat ≤ 90) ∨ (48 ≤ c.toNat ∧ c.toNat ≤ 57) ∨ (c.toNat < 48 ∨ (57 < c.toNat ∧ c.toNat < 65) ∨ (90 < c.toNat ∧ c.toNat < 97) ∨ 122 < c.toNat) by omega) with h | h | h | h
  · rw [(smallB_iff c).2 h]
    have e1 : (97 : Int) ≤ (c.toNat : Int) := by omega
    have e2 : (c.toNat : Int) ≤ 122 := by omega
    clear h hb
    go_enter Tryz.func105, Tryz.ntmps105
    go_wp2; go_ret; exact ⟨ret_bool (by simp), rfl⟩
  · rw [smallB_no (by omega), (greatB_iff c).2 h]
    have e1 : (65 : Int) ≤ (c.toNat : Int) := by omega
    have e2 : (c.toNat : Int) ≤ 90 := by omega
    clear h hb
    go_enter Tryz.func105, Tryz.ntmps105
    go_wp2; go_ret; exact ⟨ret_bool (by simp), rfl⟩
  · rw [smallB_no (by omega), greatB_no (by omega), (dgt_iff c).2 h]
    have e1 : (48 : Int) ≤ (c.toNat : Int) := by omega
    have e2 : (c.toNat : Int) ≤ 57 := by omega
    clear h hb
    go_enter Tryz.func105, Tryz.ntmps105
    go_wp2; go_ret; exact ⟨ret_bool (by simp), rfl⟩
  · rw [smallB_no (by omega), greatB_no (by omega), dgt_no (by omega)]
    generalize decide (c.toNat = 95) = b4 at *
    rcases h with h | h | h | h
    · have e1 : (c.toNat : Int) < 48 := by omega
      clear h hb
      go_enter Tryz.func105, Tryz.ntmps105
      go_wp2; go_ret; exact ⟨ret_bool (by simp), rfl⟩
    · have e1 : (c.toNat : Int) < 65 := by omega
      have e2 : 57 < (c.toNat : Int) := by omega
      clear h hb
      go_enter Tryz.func105, Tryz.ntmps105
      go_wp2; go_ret; exact ⟨ret_bool (by simp; omega), rfl⟩
    · have e1 : (c.toNat : Int) < 97 := by omega
      have e2 : 90 < (c.toNat : Int) := by omega
      clear h hb
      go_enter Tryz.func105, Tryz.ntmps105
      go_wp2; go_ret; exact ⟨ret_bool (by simp; omega), rfl⟩
    · have e1 : 122 < (c.toNat : Int) := by omega
      clear h hb
      go_enter Tryz.func105, Tryz.ntmps105
      go_wp2; go_ret; exact ⟨ret_bool (by simp; omega), rfl⟩

set_option maxHeartbeats 1000000 in
theorem named_empty (s : ByteArray) (lo hi : Int) (h : s.toList.isEmpty = true) (w : World) :
    Calls Tryz.prog 87 #[.string s, .int .u8 lo, .int .u8 hi] w fun e w' => e = .returned (.bool false) ∧ Below w.heap.size w w' := by
  go_enter Tryz.func87, Tryz.ntmps87
  go_wp2
  go_ret
  exact ⟨rfl, Below.refl _ _⟩

set_option maxHeartbeats 1000000 in
theorem named_long (s : ByteArray) (lo hi : Int) (h0 : 0 < s.size) (hp : (0 : Int) < (s.size : Int)) (he : s.toList.isEmpty = false) (h1 : 16 < (s.size : Int)) (w : World) :
    Calls Tryz.prog 87 #[.string s, .int .u8 lo, .int .u8 hi] w fun e w' => e = .returned (.bool false) ∧ Below w.heap.size w w' := by
  go_enter Tryz.func87, Tryz.ntmps87
  go_wp2
  go_ret
  exact ⟨rfl, Below.refl _ _⟩

set_option maxHeartbeats 1000000 in
theorem named_low (s : ByteArray) (lo hi : Int) (h0 : 0 < s.size) (hp : (0 : Int) < (s.size : Int)) (he : s.toList.isEmpty = false) (h1 : (s.size : Int) ≤ 16) (h2 : (s[0].toNat : Int) < lo) (w : World) :
    Calls Tryz.prog 87 #[.string s, .int .u8 lo, .int .u8 hi] w fun e w' => e = .returned (.bool false) ∧ Below w.heap.size w w' := by
  go_enter Tryz.func87, Tryz.ntmps87
  go_wp2
  go_ret
  exact ⟨rfl, Below.refl _ _⟩

set_option maxHeartbeats 1000000 in
theorem named_high (s : ByteArray) (lo hi : Int) (h0 : 0 < s.size) (hp : (0 : Int) < (s.size : Int)) (he : s.toList.isEmpty = false) (h1 : (s.size : Int) ≤ 16) (h2 : lo ≤ (s[0].toNat : Int)) (h3 : hi < (s[0].toNat : Int)) (w : World) :
    Calls Tryz.prog 87 #[.string s, .int .u8 lo, .int .u8 hi] w fun e w' => e = .returned (.bool false) ∧ Below w.heap.size w w' := by
  go_enter Tryz.func87, Tryz.ntmps87
  go_wp2
  go_ret
  exact ⟨rfl, Below.refl _ _⟩

set_option maxHeartbeats 1000000 in
theorem named_word (s : ByteArray) (lo hi : Int) (h0 : 0 < s.size) (hp : (0 : Int) < (s.size : Int)) (he : s.toList.isEmpty = false) (h1 : (s.size : Int) ≤ 16) (h2 : lo ≤ (s[0].toNat : Int)) (h3 : (s[0].toNat : Int) ≤ hi) (CW : Hid (∀ w : World, Calls Tryz.prog 104 #[.string s] w fun e w' => e = .returned (.bool true) ∧ Below w.heap.size w w')) (w : World) :
    Calls Tryz.prog 87 #[.string s, .int .u8 lo, .int .u8 hi] w fun e w' => e = .returned (.bool false) ∧ Below w.heap.size w w' := by
  go_enter Tryz.func87, Tryz.ntmps87
  go_wp2_with fail
  refine (CW.out _).mono ?_; rintro e w1 ⟨rfl, b1⟩
  go_wp2
  go_ret
  exact ⟨rfl, b1⟩

theorem all_no {s : ByteArray} {p : UInt8 → Bool} {k : Nat} (h : k < s.size) (hd : p s[k] = false) : s.data.toList.all p = false := by
  rw [List.all_eq_false]
  exact ⟨s[k], byte_mem s k h, by rw [hd]; simp⟩

set_option maxHeartbeats 1000000 in
theorem named_loop (s : ByteArray) (lo hi : Int) (h0 : 0 < s.size) (hp : (0 : Int) < (s.size : Int)) (he : s.toList.isEmpty = false) (h1 : (s.size : Int) ≤ 16) (h2 : lo ≤ (s[0].toNat : Int)) (h3 : (s[0].toNat : Int) ≤ hi) (CW : Hid (∀ w : World, Calls Tryz.prog 104 #[.string s] w fun e w' => e = .returned (.bool false) ∧ Below w.heap.size w w')) (w : World) :
    Calls Tryz.prog 87 #[.string s, .int .u8 lo, .int .u8 hi] w fun e w' => e = .returned (.bool (s.data.toList.all nameB)) ∧ Below w.heap.size w w' := by
  generalize hX : s.data.toList.all nameB = X
  have HX := Lib.hid hX
  clear hX
  go_enter Tryz.func87, Tryz.ntmps87
  go_wp2_with fail
  refine (CW.out _).mono ?_; rintro e w1 ⟨rfl, b1⟩
  go_wp2_with fail
  clear h2 h3
  go_loop [7] (fun i => ∃ k : Nat, k ≤ s.size ∧ i = .int .i64 k ∧ Hid ((s.data.toList.take k).all nameB = true)) (fun i => s.size - (intOf i).toNat)
  case atStart => exact ⟨0, Nat.zero_le _, rfl, Lib.hid (by simp)⟩
  case round =>
    obtain ⟨k, hk, rfl, ha⟩ := hrel
    by_cases hlt : k < s.size
    · have hd := fun w => refPart_calls s[k] w
      cases hp2 : nameB s[k]
      · rw [hp2] at hd
        have Hp := Lib.hid hp2
        have Hd := Lib.hid hd
        clear hp2 hd
        go_wp2_with fail
        refine (Hd.out _).mono ?_; rintro e w2 ⟨rfl, rfl⟩
        go_wp2
        go_ret
        exact ⟨ret_bool ((all_no hlt Hp.out).symm.trans HX.out), b1⟩
      · rw [hp2] at hd
        have Hp := Lib.hid hp2
        have Hd := Lib.hid hd
        clear hp2 hd
        go_wp2_with fail
        refine (Hd.out _).mono ?_; rintro e w2 ⟨rfl, rfl⟩
        go_wp2
        go_round
        case rel => exact ⟨k + 1, by omega, by go_num, Lib.hid (all_snoc' hlt ha.out Hp.out)⟩
        case measure => simp [intOf]; omega
    · obtain rfl : k = s.size := by omega
      go_wp2
      go_ret
      exact ⟨ret_bool (by rw [← HX.out, ← ha.out, take_all]), b1⟩

theorem no_empty : wordsL.contains [] = false := by decide +kernel
theorem kind2 (l : List UInt8) : decide (kindL l = 2) = (!wordsL.contains l && (headB smallB l && likeL l)) := by
  unfold kindL
  by_cases h0 : l = []
  · subst h0; rw [no_empty]; rfl
  · rw [if_neg h0]
    cases wordsL.contains l
    · rw [if_neg (by simp)]
      cases headB smallB l && likeL l
      · rw [if_neg (by simp)]
        split
        · rfl
        · split
          · rfl
          · split <;> rfl
      · rfl
    · rfl
theorem kind3 (l : List UInt8) : decide (kindL l = 3) = (!wordsL.contains l && (headB greatB l && likeL l)) := by
  cases l with
  | nil => rw [no_empty]; rfl
  | cons c r =>
    have hne : c :: r ≠ [] := by simp
    cases hc : wordsL.contains (c :: r)
    · cases hs : headB smallB (c :: r)
      · cases hg : (headB greatB (c :: r) && likeL (c :: r))
        · cases hd : (headB dgt (c :: r) && decide (pe (c :: r) = 0))
          · rw [kind_else hne hc (by rw [hs]; rfl) hg hd]; split <;> rfl
          · unfold kindL
            rw [if_neg hne, if_neg (by rw [hc]; simp), if_neg (by rw [hs]; simp), if_neg (by rw [hg]; simp), if_pos hd]; rfl
        · rw [Bool.and_eq_true] at hg
          rw [kind_great hne hc hs hg.1 hg.2]; rfl
      · have h2 : headB greatB (c :: r) = false := (small_not hs).1
        have h3 : headB dgt (c :: r) = false := (small_not hs).2
        rw [h2, Bool.false_and, Bool.and_false]
        cases hl : likeL (c :: r)
        · rw [kind_else hne hc (by rw [hl, Bool.and_false]) (by rw [hl, Bool.and_false]) (by rw [h3]; rfl)]; split <;> rfl
        · rw [kind_small hne hc hs hl]; rfl
    · rw [kind_word hne hc]; rfl

theorem named_calls (s : ByteArray) (hs : s.size ≤ maxLen) (lo hi : Int) (p : UInt8 → Bool) (hp : ∀ c : UInt8, p c = true ↔ lo ≤ (c.toNat : Int) ∧ (c.toNat : Int) ≤ hi) (w : World) :
    Calls Tryz.prog 87 #[.string s, .int .u8 lo, .int .u8 hi] w fun e w' => e = .returned (.bool (!wordsL.contains s.data.toList && (headB p s.data.toList && likeL s.data.toList))) ∧ Below w.heap.size w w' := by
  by_cases h0 : 0 < s.size
  · have hne : s.data.toList ≠ [] := by
      have := drop_byte h0
      rw [List.drop_zero] at this
      rw [this]; simp
    have he : s.toList.isEmpty = false := by rw [ByteArray.toList_eq]; simpa using hne
    have hq : (0 : Int) < (s.size : Int) := by omega
    have CW := fun w => refWord_calls s hs w
    rw [head_byte p s h0]
    unfold likeL
    rw [show s.data.toList.length = s.size from rfl]
    by_cases h1 : s.size ≤ 16
    · have e1 : (s.size : Int) ≤ 16 := by omega
      rw [decide_eq_true h1, Bool.true_and]
      by_cases h2 : lo ≤ (s[0].toNat : Int)
      · by_cases h3 : (s[0].toNat : Int) ≤ hi
        · rw [(hp s[0]).2 ⟨h2, h3⟩, Bool.true_and]
          cases hc : wordsL.contains s.data.toList
          · rw [hc] at CW
            simp only [Bool.not_false, Bool.true_and]
            exact named_loop s lo hi h0 hq he e1 h2 h3 (Lib.hid CW) w
          · rw [hc] at CW
            exact named_word s lo hi h0 hq he e1 h2 h3 (Lib.hid CW) w
        · have : p s[0] = false := by rw [← Bool.not_eq_true, hp]; omega
          rw [this, Bool.false_and, Bool.and_false]
          exact named_high s lo hi h0 hq he e1 h2 (by omega) w
      · have : p s[0] = false := by rw [← Bool.not_eq_true, hp]; omega
        rw [this, Bool.false_and, Bool.and_false]
        exact named_low s lo hi h0 hq he e1 (by omega) w
    · rw [decide_eq_false h1, Bool.false_and, Bool.and_false, Bool.and_false]
      exact named_long s lo hi h0 hq he (by omega) w
  · have hl : s.data.toList = [] := List.eq_nil_of_length_eq_zero (show s.size = 0 by omega)
    rw [hl, show headB p [] = false from rfl, Bool.false_and, Bool.and_false]
    exact named_empty s lo hi (by rw [ByteArray.toList_eq, hl]; rfl) w

set_option maxHeartbeats 400000 in
theorem refName_calls (s : ByteArray) (hs : s.size ≤ maxLen) (w : World) :
    Calls Tryz.prog 56 #[.string s] w fun e w' => e = .returned (.bool (decide (kindL s.data.toList = 2))) ∧ Below w.heap.size w w' := by
  have H := fun w => named_calls s hs 97 122 smallB (fun c => by rw [smallB_iff]; omega) w
  rw [← kind2] at H
  generalize decide (kindL s.data.toList = 2) = b at *
  have C := Lib.hid H
  clear H
  go_enter Tryz.func56, Tryz.ntmps56
  go_wp2_with fail
  refine (C.out _).mono ?_; rintro e w1 ⟨rfl, b1⟩
  go_wp2
  go_ret
  exact ⟨rfl, b1⟩

set_option maxHeartbeats 400000 in
theorem refType_calls (s : ByteArray) (hs : s.size ≤ maxLen) (w : World) :
    Calls Tryz.prog 53 #[.string s] w fun e w' => e = .returned (.bool (decide (kindL s.data.toList = 3))) ∧ Below w.heap.size w w' := by
  have H := fun w => named_calls s hs 65 90 greatB (fun c => by rw [greatB_iff]; omega) w
  rw [← kind3] at H
  generalize decide (kindL s.data.toList = 3) = b at *
  have C := Lib.hid H
  clear H
  go_enter Tryz.func53, Tryz.ntmps53
  go_wp2_with fail
  refine (C.out _).mono ?_; rintro e w1 ⟨rfl, b1⟩
  go_wp2
  go_ret
  exact ⟨rfl, b1⟩
end Go.Proofs.YtojeijeimpffgaaGreat

