/- Tokens written one behind the other, with a blank between, and a remark ahead and behind: over bytes. -/
import Derived.Test.YtbdefkhmomogdaaDoorLexTwoMath
import Derived.Test.YtbdefkhmomogdaaDoorLexRun
namespace Go.Proofs.YtbdefkhmomogdaaDoor
open Go.RowKit
set_option linter.unusedVariables false

/-- the texts of tokens, a blank behind each -/
def joinT (T : List Tok) : List UInt8 := T.flatMap fun t => t.2.1 ++ [32]
theorem joinT_cons (t : Tok) (T : List Tok) : joinT (t :: T) = t.2.1 ++ 32 :: joinT T := by simp [joinT]
theorem joinT_snoc (T : List Tok) (t : Tok) : joinT (T ++ [t]) = joinT T ++ t.2.1 ++ [32] := by simp [joinT]
theorem joinT_take {T : List Tok} {k : Nat} {t : Tok} (h : T[k]? = some t) : joinT (T.take (k + 1)) = joinT (T.take k) ++ t.2.1 ++ [32] := by
  obtain ⟨hk, rfl⟩ := List.getElem?_eq_some_iff.1 h
  rw [List.take_succ_eq_append_getElem hk, joinT_snoc]
theorem joinT_len : ∀ (T : List Tok), (∀ t ∈ T, t.2.1.length ≤ 6000) → (joinT T).length ≤ T.length * 6001
  | [], _ => by simp [joinT]
  | t :: T, h => by
    have h1 := joinT_len T (fun x hx => h x (List.mem_cons_of_mem _ hx))
    have h2 := h t (List.mem_cons_self ..)
    rw [joinT_cons]
    simp only [List.length_append, List.length_cons]
    omega
def sameT (T' T : List Tok) : Prop := T'.map (fun t => (t.1, t.2.1)) = T.map (fun t => (t.1, t.2.1))
theorem sameT.len {T' T : List Tok} (h : sameT T' T) : T'.length = T.length := by
  have := congrArg List.length h
  simpa using this
theorem sameT.at {T' T : List Tok} (h : sameT T' T) {i : Nat} {t : Tok} (ht : T[i]? = some t) : ∃ q, T'[i]? = some (t.1, t.2.1, q) := by
  have hi := congrArg (fun L => L[i]?) h
  simp only [List.getElem?_map, ht, Option.map_some] at hi
  cases hx : T'[i]? with
  | none => rw [hx] at hi; cases hi
  | some x =>
    rw [hx] at hi
    simp only [Option.map_some, Option.some.injEq, Prod.mk.injEq] at hi
    obtain ⟨a, b, c⟩ := x
    simp only at hi
    exact ⟨c, by rw [hi.1, hi.2]⟩
theorem lex_join {tail : List UInt8} (ht : ∀ q, lexL tail q = ([], none)) : ∀ (T : List Tok) (q : Nat), (∀ t ∈ T, t.1 = kindL t.2.1 ∧ t.1 ≠ 0) → ∃ T', lexL (joinT T ++ tail) q = (T', none) ∧ sameT T' T
  | [], q, _ => ⟨[], ht q, rfl⟩
  | t :: T, q, h => by
    obtain ⟨h1, h2⟩ := h t (List.mem_cons_self ..)
    obtain ⟨T', e, hs⟩ := lex_join ht T (q + t.2.1.length + 1) (fun x hx => h x (List.mem_cons_of_mem _ hx))
    refine ⟨(kindL t.2.1, t.2.1, q) :: T', ?_, ?_⟩
    · rw [joinT_cons, List.append_assoc, List.cons_append, lex_token (by rw [← h1]; exact h2) (.inr (.inl ⟨_, rfl⟩)), lex_blank (by decide), e]
    · unfold sameT at hs ⊢
      rw [List.map_cons, List.map_cons, hs, h1]
/-- a remark -/
def noteL (r : List UInt8) : List UInt8 := 47 :: 47 :: r.filter (fun c => decide (c.toNat ≠ 10))
theorem gap_note : ∀ (r : List UInt8), gapF true (r.filter (fun c => decide (c.toNat ≠ 10))) = (r.filter (fun c => decide (c.toNat ≠ 10))).length
  | [] => rfl
  | c :: r => by
    by_cases h : c.toNat = 10
    · rw [List.filter_cons_of_neg (by simp [h])]; exact gap_note r
    · rw [List.filter_cons_of_pos (by simp [h]), gapF, show decide (c.toNat ≠ 10) = true from by simp [h], gap_note r, List.length_cons]; omega
theorem note_gap (r : List UInt8) : gapF false (noteL r) = (noteL r).length := by
  unfold noteL
  rw [gapF_slash, gap_note]; simp; omega
theorem lex_note (r : List UInt8) (q : Nat) : lexL (noteL r) q = ([], none) := lexL_end (by rw [note_gap]; simp)
theorem lex_after (r X : List UInt8) (q : Nat) : lexL (noteL r ++ 10 :: 9 :: X) q = lexL X (q + (noteL r).length + 1 + 1) := by
  rw [lex_two _ (noteL r) q (Nat.le_refl _) (by rw [lex_note]), lex_note, lex_blank (by decide)]; rfl
theorem note_len (r : List UInt8) : (noteL r).length ≤ r.length + 2 := by
  have := List.length_filter_le (fun c : UInt8 => decide (c.toNat ≠ 10)) r
  unfold noteL
  simp only [List.length_cons]; omega
theorem lexL_text : ∀ (n : Nat) (l : List UInt8) (p : Nat), l.length ≤ n → ∀ x ∈ (lexL l p).1, x.2.1.length ≤ l.length
  | n, l, p, hn, x, hx => by
    rcases lexL_cases l p with ⟨_, e⟩ | ⟨_, _, e⟩ | ⟨h1, _, e⟩
    · rw [e] at hx; cases hx
    · rw [e] at hx; cases hx
    · rw [e] at hx
      have hr := rest_less h1
      rcases List.mem_cons.1 hx with rfl | hx
      · show (List.take _ _).length ≤ _
        rw [List.length_take, List.length_drop]; omega
      · cases n with
        | zero => omega
        | succ n =>
          have := lexL_text n _ _ (by omega) x hx
          rw [List.length_drop] at this
          omega
/-- bytes as cells -/
def bcells (l : List UInt8) : List Value := l.map fun b => Value.int .u8 b.toNat
theorem bcells_app (a b : List UInt8) : bcells (a ++ b) = bcells a ++ bcells b := by simp [bcells]
end Go.Proofs.YtbdefkhmomogdaaDoor
