/- Two texts with the end of a line between: their tokens are those of both, over bytes. -/
import Derived.Test.YtbdefkhmomogdaaDoorLexBetween
namespace Go.Proofs.YtbdefkhmomogdaaDoor
open Go.RowKit
set_option linter.unusedVariables false

theorem gap_all {t : List UInt8} : ∀ {b : Bool} {s : List UInt8}, gapF b s = s.length → gapF b (s ++ 10 :: t) = s.length + 1 + gapF false t
  | true, [], _ => by rw [List.nil_append, gapF, show decide ((10 : UInt8).toNat ≠ 10) = false from by decide]; simp
  | false, [], _ => by rw [List.nil_append, gapF_blank (by decide)]; simp
  | true, c :: r, h => by
    rw [gapF, List.length_cons] at h
    rw [List.cons_append, gapF, gap_all (by omega), List.length_cons]; omega
  | false, c :: r, h => by
    rw [List.cons_append, List.length_cons]
    rw [List.length_cons] at h
    by_cases hb : blankB c = true
    · rw [gapF_blank hb] at h ⊢
      rw [gap_all (by omega)]; omega
    · by_cases h2 : c.toNat = 47 ∧ headB (fun d => decide (d.toNat = 47)) r = true
      · rw [gapF, if_neg hb, if_pos h2] at h
        have hr : r ≠ [] := by intro e; rw [e] at h2; cases h2.2
        rw [gapF, if_neg hb, if_pos ⟨h2.1, by rw [head_app hr]; exact h2.2⟩, gap_all (by omega)]; omega
      · rw [gapF_none (by simpa using hb) h2] at h; omega
theorem gap_part {t : List UInt8} : ∀ {b : Bool} {s : List UInt8}, gapF b s < s.length → gapF b (s ++ 10 :: t) = gapF b s
  | true, [], h => by simp at h
  | false, [], h => by simp at h
  | true, c :: r, h => by
    rw [gapF, List.length_cons] at h
    rw [List.cons_append, gapF, gapF, gap_part (by omega)]
  | false, c :: r, h => by
    rw [List.cons_append]
    rw [List.length_cons] at h
    by_cases hb : blankB c = true
    · rw [gapF_blank hb] at h ⊢
      rw [gapF_blank hb, gap_part (by omega)]
    · by_cases h2 : c.toNat = 47 ∧ headB (fun d => decide (d.toNat = 47)) r = true
      · rw [gapF, if_neg hb, if_pos h2] at h
        have hr : r ≠ [] := by intro e; rw [e] at h2; cases h2.2
        rw [gapF, if_neg hb, if_pos ⟨h2.1, by rw [head_app hr]; exact h2.2⟩, gapF, if_neg hb, if_pos h2, gap_part (by omega)]
      · have h3 : ¬ (c.toNat = 47 ∧ headB (fun d => decide (d.toNat = 47)) (r ++ 10 :: t) = true) := by
          rintro ⟨h4, h5⟩
          cases r with
          | nil => exact absurd (show decide ((10 : UInt8).toNat = 47) = true from h5) (by decide)
          | cons d u => exact h2 ⟨h4, h5⟩
        rw [gapF_none (by simpa using hb) h2, gapF_none (by simpa using hb) h3]
theorem tog_part {r t : List UInt8} (hr : r ≠ []) : togL (r ++ 10 :: t) = togL r := by
  unfold togL
  rw [head_app hr, head_app hr, head_app hr]
  split
  · exact pre_stop (show nameB 10 = false by decide)
  · split
    · exact pre_stop (show dgt 10 = false by decide)
    · match r, hr with
      | [c], _ =>
        have : signL (([c] ++ 10 :: t).take 2) = false := (sign_blank c).2
        rw [this]; simp
      | c :: d :: u, _ => simp
theorem lex_two {m : List UInt8} : ∀ (n : Nat) (l : List UInt8) (p : Nat), l.length ≤ n → (lexL l p).2 = none →
    lexL (l ++ 10 :: m) p = ((lexL l p).1 ++ (lexL m (p + l.length + 1)).1, (lexL m (p + l.length + 1)).2)
  | n, l, p, hn, h => by
    rcases lexL_cases l p with ⟨h1, e⟩ | ⟨_, _, e⟩ | ⟨h1, h2, e⟩
    · have hg : gapF false l = l.length := by
        have := List.drop_eq_nil_iff.1 h1
        have := gapF_le false l
        omega
      rw [e, lexL_gap, gap_all hg, lexL_gap m]
      have hd : (l ++ 10 :: m).drop (l.length + 1 + gapF false m) = m.drop (gapF false m) := by
        rw [← List.drop_drop, show l.length + 1 = l.length + 1 from rfl, ← List.drop_drop (i := 1) (j := l.length), List.drop_left]; rfl
      rw [hd]
      simp only [List.nil_append]
      rw [show p + (l.length + 1 + gapF false m) = p + l.length + 1 + gapF false m from by omega]
    · rw [e] at h; cases h
    · have hlt := (rest_less h1).2
      have hless := (rest_less h1).1
      have t2 := togL_le h1
      have e1 : gapF false (l ++ 10 :: m) = gapF false l := gap_part hlt
      have e2 : (l ++ 10 :: m).drop (gapF false l) = l.drop (gapF false l) ++ 10 :: m := List.drop_append_of_le_length (by omega)
      have e3 : togL (l.drop (gapF false l) ++ 10 :: m) = togL (l.drop (gapF false l)) := tog_part h1
      have e4 : (l.drop (gapF false l) ++ 10 :: m).take (togL (l.drop (gapF false l))) = (l.drop (gapF false l)).take (togL (l.drop (gapF false l))) := List.take_append_of_le_length t2
      have e5 : (l.drop (gapF false l) ++ 10 :: m).drop (togL (l.drop (gapF false l))) = l.drop (gapF false l + togL (l.drop (gapF false l))) ++ 10 :: m := by
        rw [List.drop_append_of_le_length t2, List.drop_drop]
      rw [e] at h ⊢
      rw [lexL_gap, e1, e2, lexL_step (by simp) (by rw [← e2, ← e1]; exact gapF_drop false _) (by rw [e3, e4]; exact h2), e3, e4, e5]
      cases n with
      | zero => omega
      | succ n =>
        rw [lex_two n _ _ (by omega) h]
        rw [List.length_drop] at t2
        have e6 : p + gapF false l + togL (l.drop (gapF false l)) + (l.drop (gapF false l + togL (l.drop (gapF false l)))).length + 1 = p + l.length + 1 := by
          rw [List.length_drop]; omega
        rw [e6]; rfl
end Go.Proofs.YtbdefkhmomogdaaDoor
