/- Letters behind a first letter, and digits: over bytes. -/
import Derived.Test.YtbdefkhmomogdaaDoorLexFacts
namespace Go.Proofs.YtbdefkhmomogdaaDoor
open Go.RowKit
set_option linter.unusedVariables false

theorem fold_shift : ∀ (l : List UInt8) (a : Nat), l.foldl (fun n c => n * 10 + (c.toNat - 48)) a = a * 10 ^ l.length + l.foldl (fun n c => n * 10 + (c.toNat - 48)) 0
  | [], a => by simp
  | c :: l, a => by
    rw [List.foldl_cons, List.foldl_cons, fold_shift l (a * 10 + (c.toNat - 48)), fold_shift l (0 * 10 + (c.toNat - 48)), List.length_cons, Nat.pow_succ]
    rw [Nat.add_mul, Nat.zero_mul, Nat.zero_add, Nat.mul_assoc a, Nat.mul_comm 10]
    omega
theorem dval_cons (c : UInt8) (l : List UInt8) : dval (c :: l) = (c.toNat - 48) * 10 ^ l.length + dval l := by
  unfold dval
  rw [List.foldl_cons, fold_shift]
  simp
/-- a digit's byte -/
def digB (d : Nat) : UInt8 := UInt8.ofNat (48 + d)
theorem digB_nat {d : Nat} (h : d < 10) : (digB d).toNat = 48 + d := by
  unfold digB; rw [UInt8.toNat_ofNat']; omega
theorem digB_dgt {d : Nat} (h : d < 10) : dgt (digB d) = true := by rw [dgt_iff, digB_nat h]; omega
/-- what the loop over digits keeps -/
structure Digs (n m : Nat) (l : List UInt8) : Prop where
  dig : l.all dgt = true
  val : n = m * 10 ^ l.length + dval l
  few : l.length ≤ 20
theorem digs_start (n : Nat) : Digs n n [] := ⟨rfl, by simp [dval_nil], by simp⟩
theorem digs_step {n m : Nat} {l : List UInt8} (h : Digs n m l) (hn : n < 18446744073709551616) (hm : 0 < m ∨ l = []) : Digs n (m / 10) (digB (m % 10) :: l) := by
  have hd : m % 10 < 10 := Nat.mod_lt _ (by omega)
  refine ⟨by rw [List.all_cons, digB_dgt hd, h.dig]; rfl, ?_, ?_⟩
  · rw [dval_cons, digB_nat hd, List.length_cons, Nat.pow_succ]
    have e := h.val
    have e2 : m = m / 10 * 10 + m % 10 := by omega
    have e3 : m * 10 ^ l.length = m / 10 * (10 ^ l.length * 10) + m % 10 * 10 ^ l.length := by
      conv => lhs; rw [e2]
      rw [Nat.add_mul, Nat.mul_assoc, Nat.mul_comm 10]
    rw [show 48 + m % 10 - 48 = m % 10 from by omega]
    omega
  · rw [List.length_cons]
    rcases hm with hm | hm
    · by_cases hl : l.length ≤ 19
      · omega
      · have h1 : 10 ^ 20 ≤ 10 ^ l.length := Nat.pow_le_pow_right (by omega) (by omega)
        have h2 : 1 * 10 ^ l.length ≤ m * 10 ^ l.length := Nat.mul_le_mul_right _ hm
        have := h.val
        omega
    · rw [hm]; simp
theorem digits_end {n : Nat} {l : List UInt8} (h : Digs n 0 l) : dval l = n := by have := h.val; omega
theorem digs_head {l : List UInt8} (h : l.all dgt = true) (hne : l ≠ []) : headB dgt l = true := by
  cases l with
  | nil => exact absurd rfl hne
  | cons c r => rw [List.all_cons, Bool.and_eq_true] at h; exact h.1
theorem digs_pe {l : List UInt8} (h : l.all dgt = true) (hne : l ≠ []) : pe l = if dval l ≤ 9223372036854775807 then 0 else 10 := by
  cases l with
  | nil => exact absurd rfl hne
  | cons c r =>
    have hc : ¬ c = 45 := fun e => by subst e; rw [List.all_cons] at h; cases h
    have hm : isM (c :: r) = false := by rw [isM_cons]; simp [hc]
    have ho : okNum (c :: r) = true := by
      unfold okNum
      rw [cutm_p hc, hm]
      unfold digs
      rw [h]; rfl
    unfold pe
    rw [if_pos ho]
    unfold numOf
    rw [cutm_p hc, hm, sv_false]
    split
    · exact fite_in (by omega) (by omega)
    · exact fite_out (by omega)
theorem no_word_head {l : List UInt8} (h1 : headB smallB l = false) (h2 : headB greatB l = false) : wordsL.contains l = false := by
  rw [← Bool.not_eq_true]
  intro h
  have := List.all_eq_true.1 words_letters _ (List.contains_iff_mem.1 h)
  rw [Bool.and_eq_true, Bool.or_eq_true, h1, h2] at this
  rcases this.1 with h | h <;> cases h
theorem digs_kind {l : List UInt8} (h : l.all dgt = true) (hne : l ≠ []) : kindL l = if dval l ≤ 9223372036854775807 then 4 else 0 := by
  have hd := digs_head h hne
  obtain ⟨g1, g2⟩ := small_great l hd
  have hp := digs_pe h hne
  split
  · rename_i hv
    rw [if_pos hv] at hp
    exact kind_digit hne (no_word_head g1 g2) g1 g2 hd (by simp [hp])
  · rename_i hv
    rw [if_neg hv] at hp
    have hs : signL l = false := by
      rw [← Bool.not_eq_true]; intro hs
      rcases sign_forms hs with rfl | rfl | rfl | ⟨c, rfl, hc⟩
      · cases hd
      · cases hd
      · cases hd
      · have := (short_fact hc).2.2.1
        exact absurd (hd.symm.trans this) (by simp)
    rw [kind_else hne (no_word_head g1 g2) (by simp [g1]) (by simp [g2]) (by simp [hp]), hs]; rfl
theorem lex_digits {l : List UInt8} (h : l.all dgt = true) (hne : l ≠ []) : lexL l 0 = if dval l ≤ 9223372036854775807 then ([(4, l, 0)], none) else ([], some 0) := by
  have hk := digs_kind h hne
  have hd := digs_head h hne
  obtain ⟨g1, g2⟩ := small_great l hd
  split
  · rename_i hv
    rw [if_pos hv] at hk
    have := lex_alone (l := l) (by omega)
    rw [hk] at this
    exact this
  · rename_i hv
    rw [if_neg hv] at hk
    have ht : togL l = l.length := by rw [togL_digit g1 g2 hd, pre_all h]
    refine lexL_bad hne ?_ (by rw [ht, List.take_length]; exact hk)
    cases l with
    | nil => rfl
    | cons c r => exact gap_letter (dgt_name hd)
/-- letters behind a first letter -/
theorem names_kind {l : List UInt8} (up : Bool) (h1 : headB (if up then greatB else smallB) l = true) (h2 : l.all nameB = true) :
    kindL l = if wordsL.contains l = true then 1 else if l.length ≤ 16 then (if up then 3 else 2) else 0 := by
  have hne : l ≠ [] := by intro e; subst e; cases up <;> cases h1
  have hlike : likeL l = decide (l.length ≤ 16) := by unfold likeL; rw [h2, Bool.and_true]
  by_cases hw : wordsL.contains l = true
  · rw [if_pos hw, kind_word hne hw]
  · rw [if_neg hw]
    have hw' : wordsL.contains l = false := by simpa using hw
    have hf : headB smallB l = !up ∧ headB greatB l = up ∧ headB dgt l = false ∧ signL l = false := by
      cases l with
      | nil => exact absurd rfl hne
      | cons c r =>
        have hsg : (smallB c = true ∨ greatB c = true) → signL (c :: r) = false := fun h => by
          rw [← Bool.not_eq_true]; intro hs
          rcases sign_forms hs with e | e | e | ⟨d, e, hd⟩
          · injection e with e1 _; subst e1; rcases h with h | h <;> cases h
          · injection e with e1 _; subst e1; rcases h with h | h <;> cases h
          · injection e with e1 _; subst e1; rcases h with h | h <;> cases h
          · injection e with e1 _; subst e1
            obtain ⟨q1, q2, _⟩ := short_fact hd
            rcases h with h | h
            · exact absurd (h.symm.trans q1) (by simp)
            · exact absurd (h.symm.trans q2) (by simp)
        cases up
        · have hc : smallB c = true := h1
          exact ⟨hc, (small_not hc).1, (small_not hc).2, hsg (.inl hc)⟩
        · have hc : greatB c = true := h1
          have hs : smallB c = false := by have := (greatB_iff c).1 hc; exact smallB_no (by omega)
          exact ⟨hs, hc, great_not hc, hsg (.inr hc)⟩
    obtain ⟨f1, f2, f3, f4⟩ := hf
    by_cases hl : l.length ≤ 16
    · rw [if_pos hl]
      rw [decide_eq_true hl] at hlike
      cases up
      · exact kind_small hne hw' f1 hlike
      · exact kind_great hne hw' f1 f2 hlike
    · rw [if_neg hl]
      rw [decide_eq_false hl] at hlike
      rw [kind_else hne hw' (by rw [hlike, Bool.and_false]) (by rw [hlike, Bool.and_false]) (by rw [f3]; rfl), f4]; rfl
theorem words_len8 : wordsL.all (fun l => decide (l.length ≤ 8)) = true := by decide +kernel
theorem long_no_word {l : List UInt8} (h : 16 < l.length) : wordsL.contains l = false := by
  rw [← Bool.not_eq_true]; intro hw
  have := List.all_eq_true.1 words_len8 _ (List.contains_iff_mem.1 hw)
  rw [decide_eq_true_eq] at this; omega
theorem lex_name {l : List UInt8} (up : Bool) (h1 : headB (if up then greatB else smallB) l = true) (h2 : l.all nameB = true) :
    lexL (32 :: l) 0 = if kindL l = 0 then ([], some 1) else ([(kindL l, l, 1)], none) := by
  have hb : lexL (32 :: l) 0 = lexL l 1 := by
    rw [lexL_gap, gapF_blank (by decide), lexL_gap l, show 1 + gapF false l = gapF false l + 1 from by omega, List.drop_succ_cons]
    congr 1; omega
  have hne : l ≠ [] := by intro e; subst e; cases up <;> cases h1
  rw [hb]
  by_cases hk : kindL l = 0
  · rw [if_pos hk]
    have ht : togL l = l.length := by
      rw [togL_letter (by cases up; exact .inl h1; exact .inr h1), pre_all h2]
    refine lexL_bad hne ?_ (by rw [ht, List.take_length]; exact hk)
    cases l with
    | nil => rfl
    | cons c r => rw [List.all_cons, Bool.and_eq_true] at h2; exact gap_letter h2.1
  · rw [if_neg hk]
    have := lex_token (q := 1) hk (.inl rfl)
    rw [List.append_nil, lex_nil] at this
    exact this
/-- the bytes that a name may have, as the law lists them -/
def allL : List UInt8 := [97, 98, 99, 100, 101, 102, 103, 104, 105, 106, 107, 108, 109, 110, 111, 112, 113, 114, 115, 116, 117, 118, 119, 120, 121, 122, 48, 49, 50, 51, 52, 53, 54, 55, 56, 57, 95, 65, 66, 67, 68, 69, 70, 71, 72, 73, 74, 75, 76, 77, 78, 79, 80, 81, 82, 83, 84, 85, 86, 87, 88, 89, 90]
theorem allL_len : allL.length = 63 := rfl
theorem allL_name : allL.all nameB = true := by decide +kernel
theorem allL_at (q : Nat) (h : q < 63) : ∃ c, allL[q]? = some c ∧ nameB c = true ∧ (allL.drop q).take 1 = [c] := by
  have hq : q < allL.length := by rw [allL_len]; exact h
  refine ⟨allL[q], List.getElem?_eq_getElem hq, List.all_eq_true.1 allL_name _ (List.getElem_mem hq), ?_⟩
  rw [List.drop_eq_getElem_cons hq]; rfl
end Go.Proofs.YtbdefkhmomogdaaDoor
