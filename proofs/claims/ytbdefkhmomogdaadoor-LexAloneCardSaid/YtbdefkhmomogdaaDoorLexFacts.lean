/- What follows from the chapter's words alone, over bytes: tokens that stand alone, one behind the other, with something between. -/
import Derived.Test.YtbdefkhmomogdaaDoorRefLex
namespace Go.Proofs.YtbdefkhmomogdaaDoor
open Go.RowKit
set_option linter.unusedVariables false

theorem lexL_cases (l : List UInt8) (p : Nat) :
    (l.drop (gapF false l) = [] ∧ lexL l p = ([], none)) ∨
    (l.drop (gapF false l) ≠ [] ∧ kindL ((l.drop (gapF false l)).take (togL (l.drop (gapF false l)))) = 0 ∧ lexL l p = ([], some (p + gapF false l))) ∨
    (l.drop (gapF false l) ≠ [] ∧ kindL ((l.drop (gapF false l)).take (togL (l.drop (gapF false l)))) ≠ 0 ∧
      lexL l p = ((kindL ((l.drop (gapF false l)).take (togL (l.drop (gapF false l)))), (l.drop (gapF false l)).take (togL (l.drop (gapF false l))), p + gapF false l) ::
        (lexL (l.drop (gapF false l + togL (l.drop (gapF false l)))) (p + gapF false l + togL (l.drop (gapF false l)))).1,
        (lexL (l.drop (gapF false l + togL (l.drop (gapF false l)))) (p + gapF false l + togL (l.drop (gapF false l)))).2)) := by
  by_cases h : l.drop (gapF false l) = []
  · exact .inl ⟨h, lexL_end h⟩
  · by_cases hk : kindL ((l.drop (gapF false l)).take (togL (l.drop (gapF false l)))) = 0
    · exact .inr (.inl ⟨h, hk, by rw [lexL_gap, lexL_bad h (gapF_drop false l) hk]⟩)
    · exact .inr (.inr ⟨h, hk, by rw [lexL_gap, lexL_step h (gapF_drop false l) hk, List.drop_drop]⟩)
theorem rest_less {l : List UInt8} (h : l.drop (gapF false l) ≠ []) : (l.drop (gapF false l + togL (l.drop (gapF false l)))).length < l.length ∧ gapF false l < l.length := by
  have h1 := togL_pos h
  have h2 : 0 < (l.drop (gapF false l)).length := List.length_pos_iff.2 h
  rw [List.length_drop] at h2 ⊢
  omega
theorem lexL_mem : ∀ (n : Nat) (l : List UInt8) (p : Nat), l.length ≤ n → ∀ t ∈ (lexL l p).1, t.1 = kindL t.2.1 ∧ t.1 ≠ 0
  | n, l, p, hn, t, ht => by
    rcases lexL_cases l p with ⟨_, h⟩ | ⟨_, _, h⟩ | ⟨h1, h2, h⟩
    · rw [h] at ht; cases ht
    · rw [h] at ht; cases ht
    · rw [h] at ht
      have hr := (rest_less h1).1
      rcases List.mem_cons.1 ht with rfl | ht
      · exact ⟨rfl, h2⟩
      · cases n with
        | zero => omega
        | succ n => exact lexL_mem n _ _ (by omega) t ht
theorem lexL_shift : ∀ (n : Nat) (l : List UInt8) (p d : Nat), l.length ≤ n → lexL l (p + d) = ((lexL l p).1.map (fun t => (t.1, t.2.1, t.2.2 + d)), (lexL l p).2.map (· + d))
  | n, l, p, d, hn => by
    rcases lexL_cases l p with ⟨h1, h⟩ | ⟨h1, h2, h⟩ | ⟨h1, h2, h⟩
    · rw [h, lexL_end h1]; rfl
    · rw [h]
      rcases lexL_cases l (p + d) with ⟨g1, _⟩ | ⟨_, _, g⟩ | ⟨_, g2, _⟩
      · exact absurd g1 h1
      · rw [g]; simp; omega
      · exact absurd h2 g2
    · rw [h]
      rcases lexL_cases l (p + d) with ⟨g1, _⟩ | ⟨_, g2, _⟩ | ⟨_, _, g⟩
      · exact absurd g1 h1
      · exact absurd g2 h2
      · have hr := (rest_less h1).1
        cases n with
        | zero => omega
        | succ n =>
          have ih := lexL_shift n (l.drop (gapF false l + togL (l.drop (gapF false l)))) (p + gapF false l + togL (l.drop (gapF false l))) d (by omega)
          rw [g, show p + d + gapF false l + togL (l.drop (gapF false l)) = p + gapF false l + togL (l.drop (gapF false l)) + d from by omega, ih]
          simp; omega

/-! ### the forms of tokens -/
theorem words_letters : wordsL.all (fun l => (headB smallB l || headB greatB l) && l.all nameB) = true := by decide +kernel
theorem pe_digits {l : List UInt8} (h1 : headB dgt l = true) (h2 : pe l = 0) : l.all dgt = true := by
  cases l with
  | nil => cases h1
  | cons c r =>
    have hc : ¬ c = 45 := fun e => by subst e; cases h1
    unfold pe at h2
    by_cases ho : okNum (c :: r) = true
    · unfold okNum at ho
      rw [Bool.and_eq_true, cutm_p hc] at ho
      have := ho.1
      unfold digs at this
      rw [Bool.and_eq_true] at this
      exact this.2
    · rw [if_neg ho] at h2; omega
/-- a token is letters, or digits, or a sign -/
theorem kind_forms {l : List UInt8} (h : kindL l ≠ 0) : ((headB smallB l = true ∨ headB greatB l = true) ∧ l.all nameB = true) ∨ (headB dgt l = true ∧ l.all dgt = true) ∨ signL l = true := by
  unfold kindL at h
  by_cases h0 : l = []
  · rw [if_pos h0] at h; exact absurd rfl h
  · rw [if_neg h0] at h
    by_cases hw : wordsL.contains l = true
    · have := List.all_eq_true.1 words_letters l (List.contains_iff_mem.1 hw)
      rw [Bool.and_eq_true, Bool.or_eq_true] at this
      exact .inl this
    · rw [if_neg hw] at h
      by_cases h2 : (headB smallB l && likeL l) = true
      · rw [Bool.and_eq_true] at h2
        have := h2.2
        unfold likeL at this
        rw [Bool.and_eq_true] at this
        exact .inl ⟨.inl h2.1, this.2⟩
      · rw [if_neg h2] at h
        by_cases h3 : (headB greatB l && likeL l) = true
        · rw [Bool.and_eq_true] at h3
          have := h3.2
          unfold likeL at this
          rw [Bool.and_eq_true] at this
          exact .inl ⟨.inr h3.1, this.2⟩
        · rw [if_neg h3] at h
          by_cases h4 : (headB dgt l && decide (pe l = 0)) = true
          · rw [Bool.and_eq_true] at h4
            exact .inr (.inl ⟨h4.1, pe_digits h4.1 (by simpa using h4.2)⟩)
          · rw [if_neg h4] at h
            by_cases h5 : signL l = true
            · exact .inr (.inr h5)
            · rw [if_neg h5] at h; exact absurd rfl h
theorem sign_forms {l : List UInt8} (h : signL l = true) : l = [61, 61] ∨ l = [61, 62] ∨ l = [45, 62] ∨ ∃ c, l = [c] ∧ shortL.contains c = true := by
  unfold signL at h
  rw [Bool.or_eq_true, Bool.or_eq_true, Bool.or_eq_true, beq_iff_eq, beq_iff_eq, beq_iff_eq] at h
  rcases h with ((h | h) | h) | h
  · exact .inl h
  · exact .inr (.inl h)
  · exact .inr (.inr (.inl h))
  · match l, h with
    | [c], h => exact .inr (.inr (.inr ⟨c, rfl, h⟩))
theorem short_facts : shortL.all (fun c => !smallB c && !greatB c && !dgt c && !blankB c) = true := by decide +kernel
theorem short_fact {c : UInt8} (h : shortL.contains c = true) : smallB c = false ∧ greatB c = false ∧ dgt c = false ∧ blankB c = false := by
  have := List.all_eq_true.1 short_facts c (List.contains_iff_mem.1 h)
  simpa [Bool.and_eq_true, and_assoc] using this
/-- what may stand behind a token: nothing, a blank, the end of a line -/
def Brk (r : List UInt8) : Prop := r = [] ∨ (∃ t, r = 32 :: t) ∨ ∃ t, r = 10 :: t
theorem Brk.head {r : List UInt8} (h : Brk r) {p : UInt8 → Bool} (h1 : p 32 = false) (h2 : p 10 = false) : headB p r = false := by
  rcases h with rfl | ⟨t, rfl⟩ | ⟨t, rfl⟩
  · rfl
  · exact h1
  · exact h2
theorem pre_stop {p : UInt8 → Bool} : ∀ {l r : List UInt8}, headB p r = false → pre p (l ++ r) = pre p l
  | [], r, h => by
    cases r with
    | nil => rfl
    | cons c t => exact pre_cons_no h
  | c :: l, r, h => by
    rw [List.cons_append]
    by_cases hc : p c = true
    · rw [pre_cons_yes hc, pre_cons_yes hc, pre_stop h]
    · rw [pre_cons_no (by simpa using hc), pre_cons_no (by simpa using hc)]
theorem pre_all {p : UInt8 → Bool} {l : List UInt8} (h : l.all p = true) : pre p l = l.length :=
  take_pre (Nat.le_refl _) (by rw [List.take_length]; exact h) (fun c hc => by simp at hc)
theorem head_app {p : UInt8 → Bool} {l r : List UInt8} (h : l ≠ []) : headB p (l ++ r) = headB p l := by
  cases l with
  | nil => exact absurd rfl h
  | cons c t => rfl
theorem kind_ne {l : List UInt8} (h : kindL l ≠ 0) : l ≠ [] := fun e => by subst e; exact h rfl
theorem small_great (l : List UInt8) (h : headB dgt l = true) : headB smallB l = false ∧ headB greatB l = false := by
  cases l with
  | nil => exact ⟨rfl, rfl⟩
  | cons c r =>
    have h' := (dgt_iff c).1 h
    exact ⟨smallB_no (by omega), greatB_no (by omega)⟩
theorem sign_blank (c : UInt8) : signL [c, 32] = false ∧ signL [c, 10] = false := by
  constructor
  · rw [← Bool.not_eq_true]; intro h
    rcases sign_forms h with h | h | h | ⟨d, h, _⟩ <;> simp at h
  · rw [← Bool.not_eq_true]; intro h
    rcases sign_forms h with h | h | h | ⟨d, h, _⟩ <;> simp at h
theorem tog_token {p r : List UInt8} (h : kindL p ≠ 0) (hr : Brk r) : togL (p ++ r) = p.length := by
  have hne := kind_ne h
  rcases kind_forms h with ⟨h1, h2⟩ | ⟨h1, h2⟩ | h1
  · rw [togL_letter (by rw [head_app hne, head_app hne]; exact h1), pre_stop (hr.head (by decide) (by decide)), pre_all h2]
  · obtain ⟨g1, g2⟩ := small_great p h1
    rw [togL_digit (by rw [head_app hne]; exact g1) (by rw [head_app hne]; exact g2) (by rw [head_app hne]; exact h1), pre_stop (hr.head (by decide) (by decide)), pre_all h2]
  · rcases sign_forms h1 with rfl | rfl | rfl | ⟨c, rfl, hc⟩
    · exact togL_two rfl rfl rfl (by simp) (by rfl)
    · exact togL_two rfl rfl rfl (by simp) (by rfl)
    · exact togL_two rfl rfl rfl (by simp) (by rfl)
    · obtain ⟨g1, g2, g3, _⟩ := short_fact hc
      refine togL_one g1 g2 g3 ?_
      rcases hr with rfl | ⟨t, rfl⟩ | ⟨t, rfl⟩
      · exact .inl (by simp)
      · exact .inr (sign_blank c).1
      · exact .inr (sign_blank c).2
theorem blank_iff (c : UInt8) : blankB c = true ↔ c.toNat = 32 ∨ c.toNat = 9 ∨ c.toNat = 10 ∨ c.toNat = 13 := by simp [blankB]
theorem gap_letter {c : UInt8} {t : List UInt8} (h : nameB c = true) : gapF false (c :: t) = 0 := by
  have h' : (97 ≤ c.toNat ∧ c.toNat ≤ 122) ∨ (65 ≤ c.toNat ∧ c.toNat ≤ 90) ∨ (48 ≤ c.toNat ∧ c.toNat ≤ 57) ∨ c.toNat = 95 := by
    unfold nameB at h
    rw [Bool.or_eq_true, Bool.or_eq_true, Bool.or_eq_true, smallB_iff, greatB_iff, dgt_iff, decide_eq_true_eq] at h
    omega
  refine gapF_none ?_ (fun h2 => by omega)
  rw [← Bool.not_eq_true, blank_iff]; omega
theorem gap_token {p r : List UInt8} (h : kindL p ≠ 0) (hr : Brk r) : gapF false (p ++ r) = 0 := by
  have hne := kind_ne h
  cases p with
  | nil => exact absurd rfl hne
  | cons c t =>
    rw [List.cons_append]
    rcases kind_forms h with ⟨h1, h2⟩ | ⟨h1, h2⟩ | h1
    · exact gap_letter (h1.elim small_name great_name)
    · exact gap_letter (dgt_name h1)
    · rcases sign_forms h1 with e | e | e | ⟨d, e, hc⟩
      · injection e with e1 e2; subst e1; exact gapF_none (by decide) (fun h2 => absurd h2.1 (by decide))
      · injection e with e1 e2; subst e1; exact gapF_none (by decide) (fun h2 => absurd h2.1 (by decide))
      · injection e with e1 e2; subst e1; exact gapF_none (by decide) (fun h2 => absurd h2.1 (by decide))
      · injection e with e1 e2
        subst e1 e2
        refine gapF_none (short_fact hc).2.2.2 (fun h2 => ?_)
        rw [List.nil_append, hr.head (by decide) (by decide)] at h2
        cases h2.2
/-- a token, and what stands behind it -/
theorem lex_token {p r : List UInt8} {q : Nat} (h : kindL p ≠ 0) (hr : Brk r) : lexL (p ++ r) q = ((kindL p, p, q) :: (lexL r (q + p.length)).1, (lexL r (q + p.length)).2) := by
  have e1 := tog_token h hr
  have e2 : (p ++ r).take (togL (p ++ r)) = p := by rw [e1, List.take_left]
  have hne : p ++ r ≠ [] := by have := kind_ne h; simp [this]
  rw [lexL_step hne (gap_token h hr) (by rw [e2]; exact h), e2, e1, List.drop_left]
theorem lex_nil (q : Nat) : lexL [] q = ([], none) := rfl
theorem lex_alone {l : List UInt8} (h : kindL l ≠ 0) : lexL l 0 = ([(kindL l, l, 0)], none) := by
  have := lex_token (q := 0) h (.inl rfl)
  rw [List.append_nil, lex_nil] at this
  exact this
end Go.Proofs.YtbdefkhmomogdaaDoor
