/- The plain part beneath layer 11: places as rows of rows of bytes, their order, which ones are least. -/
import Derived.Below
import Derived.Lib.Hide
import Derived.Lib.Bytealg
namespace Go.Proofs.YtlbdoomknjiilaaDoor
open Go.RowKit
set_option linter.unusedVariables false

/-! ### comparing -/
/-- a comparison: below 0, 0, above 0, of a whole order -/
structure Good {α : Type} (c : α → α → Int) : Prop where
  neg : ∀ a b, c b a = - c a b
  zero : ∀ a b, c a b = 0 ↔ a = b
  trans : ∀ a b d, c a b < 0 → c b d < 0 → c a d < 0
theorem Good.refl {α : Type} {c : α → α → Int} (h : Good c) (a : α) : c a a = 0 := (h.zero a a).2 rfl
theorem Good.le_trans {α : Type} {c : α → α → Int} (h : Good c) {a b d : α} (h1 : c a b ≤ 0) (h2 : c b d ≤ 0) : c a d ≤ 0 := by
  rcases Int.lt_or_eq_of_le h1 with h1 | h1
  · rcases Int.lt_or_eq_of_le h2 with h2 | h2
    · exact Int.le_of_lt (h.trans a b d h1 h2)
    · rw [(h.zero b d).1 h2] at h1; exact Int.le_of_lt h1
  · rw [(h.zero a b).1 h1]; exact h2
/-- row by row -/
def lexc {α : Type} (c : α → α → Int) : List α → List α → Int
  | [], [] => 0
  | [], _ :: _ => -1
  | _ :: _, [] => 1
  | a :: l, b :: m => if c a b = 0 then lexc c l m else c a b
theorem Good.lex {α : Type} {c : α → α → Int} (h : Good c) : Good (lexc c) where
  neg := by
    intro a
    induction a with
    | nil => intro b; cases b <;> simp [lexc]
    | cons x a ih =>
      intro b
      cases b with
      | nil => simp [lexc]
      | cons y b =>
        simp only [lexc]
        rw [h.neg x y]
        by_cases e : c x y = 0
        · rw [if_pos e, if_pos (by omega), ih b]
        · rw [if_neg e, if_neg (by omega)]
  zero := by
    intro a
    induction a with
    | nil => intro b; cases b <;> simp [lexc]
    | cons x a ih =>
      intro b
      cases b with
      | nil => simp [lexc]
      | cons y b =>
        simp only [lexc, List.cons.injEq]
        by_cases e : c x y = 0
        · rw [if_pos e, ih b]; simp [(h.zero x y).1 e]
        · rw [if_neg e]
          constructor
          · intro h'; exact absurd h' e
          · rintro ⟨rfl, _⟩; exact absurd (h.refl x) e
  trans := by
    intro a
    induction a with
    | nil =>
      intro b d h1 h2
      cases d with
      | nil => cases b <;> simp [lexc] at h1 h2
      | cons z d => simp [lexc]
    | cons x a ih =>
      intro b d h1 h2
      cases b with
      | nil => simp [lexc] at h1
      | cons y b =>
        cases d with
        | nil => simp [lexc] at h2
        | cons z d =>
          simp only [lexc] at h1 h2 ⊢
          by_cases e1 : c x y = 0
          · rw [if_pos e1] at h1
            have := (h.zero x y).1 e1
            subst this
            by_cases e2 : c x z = 0
            · rw [if_pos e2] at h2 ⊢; exact ih b d h1 h2
            · rw [if_neg e2] at h2 ⊢; exact h2
          · rw [if_neg e1] at h1
            by_cases e2 : c y z = 0
            · have := (h.zero y z).1 e2
              subst this
              rw [if_neg e1]; exact h1
            · rw [if_neg e2] at h2
              have := h.trans x y z h1 h2
              rw [if_neg (by omega)]; exact this
/-- of two of bytes -/
def cmpU (a b : UInt8) : Int := if a < b then -1 else if b < a then 1 else 0
theorem cmpU_good : Good cmpU where
  neg a b := by
    unfold cmpU
    simp only [UInt8.lt_iff_toNat_lt]
    split <;> split <;> (try split) <;> omega
  zero a b := by
    unfold cmpU
    simp only [UInt8.lt_iff_toNat_lt, ← UInt8.toNat_inj]
    split <;> (try split) <;> omega
  trans a b d h1 h2 := by
    unfold cmpU at *
    simp only [UInt8.lt_iff_toNat_lt] at *
    split at h1 <;> (try split at h1) <;> split at h2 <;> (try split at h2) <;> (try omega)
/-- of two texts -/
abbrev cmpS : List UInt8 → List UInt8 → Int := lexc cmpU
theorem cmpS_good : Good cmpS := cmpU_good.lex
/-- of two places: their variables, then step by step -/
abbrev K := List (List UInt8)
abbrev cmpK : K → K → Int := lexc cmpS
theorem cmpK_good : Good cmpK := cmpS_good.lex

/-! ### beginnings -/
def begK (a b : K) : Bool := a.isPrefixOf b
theorem begK_iff {a b : K} : begK a b = true ↔ a <+: b := by unfold begK; exact List.isPrefixOf_iff_prefix
theorem beg_le {a b : K} (h : a <+: b) : cmpK a b ≤ 0 := by
  obtain ⟨t, rfl⟩ := h
  induction a with
  | nil => cases t <;> simp [cmpK, lexc]
  | cons x a ih =>
    show lexc cmpS (x :: a) (x :: (a ++ t)) ≤ 0
    rw [lexc, if_pos (cmpS_good.refl x)]
    exact ih
/-- what stands between a place and one that it begins is begun by it -/
theorem beg_mid {a b d : K} (h : a <+: d) (h1 : cmpK a b ≤ 0) (h2 : cmpK b d ≤ 0) : a <+: b := by
  induction a generalizing b d with
  | nil => exact List.nil_prefix
  | cons x a ih =>
    obtain ⟨t, rfl⟩ := h
    cases b with
    | nil => simp [lexc] at h1
    | cons y b =>
      change lexc cmpS (x :: a) (y :: b) ≤ 0 at h1
      change lexc cmpS (y :: b) (x :: (a ++ t)) ≤ 0 at h2
      rw [lexc] at h1 h2
      have hn := cmpS_good.neg x y
      by_cases e : cmpS x y = 0
      · have := (cmpS_good.zero x y).1 e
        subst this
        rw [if_pos e] at h1 h2
        exact List.cons_prefix_cons.2 ⟨rfl, ih ⟨t, rfl⟩ h1 h2⟩
      · rw [if_neg e] at h1
        rw [if_neg (by omega)] at h2
        omega

/-! ### least ones -/
section least
variable (n : Nat) (k : Nat → K)
/-- places held against each other, of the same ones the first one first -/
def cmpI (i j : Nat) : Int := if cmpK (k i) (k j) = 0 then (if (i : Int) < (j : Int) then -1 else if (j : Int) < (i : Int) then 1 else 0) else cmpK (k i) (k j)
theorem cmpI_good : Good (cmpI k) where
  neg i j := by
    unfold cmpI
    rw [cmpK_good.neg (k i) (k j)]
    by_cases e : cmpK (k i) (k j) = 0
    · rw [if_pos e, if_pos (by omega)]
      by_cases h1 : (i : Int) < j
      · rw [if_pos h1, if_neg (by omega), if_pos h1]; rfl
      · rw [if_neg h1]
        by_cases h2 : (j : Int) < i
        · rw [if_pos h2, if_pos h2, if_neg h1]
        · rw [if_neg h2, if_neg h2, if_neg h1]; rfl
    · rw [if_neg e, if_neg (by omega)]
  zero i j := by
    unfold cmpI
    by_cases e : cmpK (k i) (k j) = 0
    · rw [if_pos e]
      by_cases h1 : (i : Int) < j
      · rw [if_pos h1]; simp; omega
      · rw [if_neg h1]
        by_cases h2 : (j : Int) < i
        · rw [if_pos h2]; simp; omega
        · rw [if_neg h2]; simp; omega
    · rw [if_neg e]
      constructor
      · intro h; exact absurd h e
      · rintro rfl; exact absurd (cmpK_good.refl _) e
  trans i j m h1 h2 := by
    unfold cmpI at *
    by_cases e1 : cmpK (k i) (k j) = 0
    · have e1' := (cmpK_good.zero _ _).1 e1
      rw [if_pos e1] at h1
      rw [e1']
      by_cases e2 : cmpK (k j) (k m) = 0
      · rw [if_pos e2] at h2 ⊢
        by_cases a1 : (i : Int) < j
        · by_cases a2 : (j : Int) < m
          · rw [if_pos (by omega)]; omega
          · rw [if_neg a2] at h2; split at h2 <;> omega
        · rw [if_neg a1] at h1; split at h1 <;> omega
      · rw [if_neg e2] at h2 ⊢; exact h2
    · rw [if_neg e1] at h1
      by_cases e2 : cmpK (k j) (k m) = 0
      · have e2' := (cmpK_good.zero _ _).1 e2
        rw [← e2', if_neg e1]; exact h1
      · rw [if_neg e2] at h2
        have := cmpK_good.trans _ _ _ h1 h2
        rw [if_neg (by omega)]; exact this
/-- does place j of some put place i out? -/
def outs (j i : Nat) : Bool := begK (k j) (k i) && (!decide (k j = k i) || decide (j < i))
def leastI (i : Nat) : Bool := (List.range n).all fun j => !outs k j i
theorem outs_iff {j i : Nat} : outs k j i = true ↔ k j <+: k i ∧ cmpI k j i < 0 := by
  unfold outs cmpI
  rw [Bool.and_eq_true, begK_iff]
  refine and_congr_right fun h => ?_
  have hle := beg_le h
  by_cases e : cmpK (k j) (k i) = 0
  · have e' := (cmpK_good.zero _ _).1 e
    rw [if_pos e]
    simp only [e', decide_true, Bool.not_true, Bool.false_or, decide_eq_true_eq]
    by_cases a : (j : Int) < i
    · rw [if_pos a]; simp; omega
    · rw [if_neg a]; split <;> simp <;> omega
  · rw [if_neg e]
    have : k j ≠ k i := fun e' => e ((cmpK_good.zero _ _).2 e')
    simp [this]
    show cmpK (k j) (k i) < 0
    omega
theorem leastI_iff {i : Nat} : leastI n k i = true ↔ ∀ j, j < n → k j <+: k i → 0 ≤ cmpI k j i := by
  unfold leastI
  rw [List.all_eq_true]
  constructor
  · intro h j hj hp
    have := h j (List.mem_range.2 hj)
    rw [Bool.not_eq_true'] at this
    have h2 : ¬ outs k j i = true := by rw [this]; simp
    rw [outs_iff] at h2
    exact Int.not_lt.1 fun hc => h2 ⟨hp, hc⟩
  · intro h j hj
    rw [Bool.not_eq_true', Bool.eq_false_iff, Ne, outs_iff]
    rintro ⟨h1, h2⟩
    have := h j (List.mem_range.1 hj) h1
    omega
/-- one round of the code's way -/
def keep1 (L : List Nat) (i : Nat) : List Nat := if L = [] ∨ begK (k (L.getLast?.getD 0)) (k i) = false then L ++ [i] else L
def keepL (d : List Nat) : List Nat := d.foldl (keep1 k) []
theorem keepL_snoc (d : List Nat) (i : Nat) : keepL k (d ++ [i]) = keep1 k (keepL k d) i := by simp [keepL]
/-- a row of the numbers below n, in order -/
structure Ord (d : List Nat) : Prop where
  mem : ∀ i, i ∈ d ↔ i < n
  sorted : d.Pairwise fun i j => cmpI k i j < 0
theorem least_below {P : List Nat} {i : Nat} (hi : i < n) (hP : ∀ j, j < n → cmpI k j i < 0 → j ∈ P) (h : leastI n k i = false) : ∃ j, j ∈ P ∧ k j <+: k i ∧ leastI n k j = true := by
  -- the first one that begins it
  have key : ∀ m, ∀ j, j < n → k j <+: k i → cmpI k j i < 0 → ((List.range n).filter fun q => decide (cmpI k q j < 0)).length ≤ m → ∃ j, j ∈ P ∧ k j <+: k i ∧ leastI n k j = true := by
    intro m
    induction m with
    | zero =>
      intro j hj hp hlt hm
      refine ⟨j, hP j hj hlt, hp, ?_⟩
      rw [leastI_iff]
      intro q hq _
      apply Int.not_lt.1
      intro hc
      have : q ∈ (List.range n).filter fun q => decide (cmpI k q j < 0) := by simp [hq, hc]
      have := List.length_pos_of_mem this
      omega
    | succ m ih =>
      intro j hj hp hlt hm
      by_cases hl : leastI n k j = true
      · exact ⟨j, hP j hj hlt, hp, hl⟩
      · have : ∃ q, q < n ∧ k q <+: k j ∧ cmpI k q j < 0 := by
          apply Classical.byContradiction
          intro hn
          apply hl
          rw [leastI_iff]
          intro q hq hpq
          exact Int.not_lt.1 fun hc => hn ⟨q, hq, hpq, hc⟩
        obtain ⟨q, hq, hpq, hqj⟩ := this
        refine ih q hq (hpq.trans hp) ((cmpI_good k).trans _ _ _ hqj hlt) ?_
        have hsub : ∀ x, x ∈ (List.range n).filter (fun x => decide (cmpI k x q < 0)) → x ∈ ((List.range n).filter fun x => decide (cmpI k x j < 0)).erase q := by
          intro x hx
          simp only [List.mem_filter, List.mem_range, decide_eq_true_eq] at hx
          have hne : x ≠ q := by rintro rfl; have := (cmpI_good k).refl x; omega
          rw [List.mem_erase_of_ne hne]
          simp only [List.mem_filter, List.mem_range, decide_eq_true_eq]
          exact ⟨hx.1, (cmpI_good k).trans _ _ _ hx.2 hqj⟩
        have hnd : ((List.range n).filter (fun x => decide (cmpI k x q < 0))).Nodup := List.Pairwise.filter _ List.nodup_range
        have hle := List.Nodup.length_le_of_subset hnd hsub
        have hmem : q ∈ (List.range n).filter fun x => decide (cmpI k x j < 0) := by simp [hq, hqj]
        rw [List.length_erase_of_mem hmem] at hle
        have hpos := List.length_pos_of_mem hmem
        omega
  have : ∃ q, q < n ∧ k q <+: k i ∧ cmpI k q i < 0 := by
    apply Classical.byContradiction
    intro hn
    rw [Bool.eq_false_iff] at h
    apply h
    rw [leastI_iff]
    intro q hq hpq
    exact Int.not_lt.1 fun hc => hn ⟨q, hq, hpq, hc⟩
  obtain ⟨q, hq, hpq, hqi⟩ := this
  exact key _ q hq hpq hqi (Nat.le_refl _)
theorem keep_eq {d : List Nat} (O : Ord n k d) : ∀ (P S : List Nat), d = P ++ S → keepL k P = P.filter (leastI n k) := by
  intro P
  generalize hP : P.reverse = R
  induction R generalizing P with
  | nil =>
    intro S _
    rw [List.reverse_eq_nil_iff] at hP
    subst hP
    rfl
  | cons i R ih =>
    intro S hd
    obtain rfl : P = R.reverse ++ [i] := by rw [← List.reverse_reverse P, hP]; simp
    have ih' := ih R.reverse (by simp) ([i] ++ S) (by rw [hd]; simp)
    rw [keepL_snoc, ih', List.filter_append]
    have hs := O.sorted
    rw [hd, List.append_assoc, List.pairwise_append] at hs
    obtain ⟨s1, s2, s3⟩ := hs
    have hbefore : ∀ j, j ∈ R.reverse → cmpI k j i < 0 := fun j hj => s3 j hj i (by simp)
    have hi : i < n := (O.mem i).1 (by rw [hd]; simp)
    have hin : ∀ j, j ∈ R.reverse → j < n := fun j hj => (O.mem j).1 (by rw [hd]; simp at hj ⊢; exact Or.inl hj)
    have hrest : ∀ j, j < n → cmpI k j i < 0 → j ∈ R.reverse := by
      intro j hj hlt
      have hm := (O.mem j).2 hj
      rw [hd] at hm
      rcases List.mem_append.1 hm with hm | hm
      · rcases List.mem_append.1 hm with hm | hm
        · exact hm
        · rw [List.mem_singleton] at hm
          subst hm
          have := (cmpI_good k).refl j
          omega
      · rw [List.singleton_append, List.pairwise_cons] at s2
        have h1 := s2.1 j hm
        have h2 := (cmpI_good k).neg i j
        omega
    by_cases hl : leastI n k i = true
    · have : (List.filter (leastI n k) [i]) = [i] := by simp [hl]
      rw [this, keep1, if_pos]
      by_cases hne : R.reverse.filter (leastI n k) = []
      · exact Or.inl hne
      · right
        rw [Bool.eq_false_iff, Ne, begK_iff]
        intro hp
        obtain ⟨x, hx⟩ := List.exists_mem_of_ne_nil _ hne
        have hlast : (R.reverse.filter (leastI n k)).getLast? = some ((R.reverse.filter (leastI n k)).getLast hne) := List.getLast?_eq_some_getLast hne
        have hm := List.getLast_mem hne
        rw [hlast, Option.getD_some] at hp
        generalize (R.reverse.filter (leastI n k)).getLast hne = q at *
        have hq := (List.mem_filter.1 hm).1
        have := (leastI_iff n k).1 hl q (hin q hq) hp
        have := hbefore q hq
        omega
    · rw [Bool.not_eq_true] at hl
      have : (List.filter (leastI n k) [i]) = [] := by simp [hl]
      rw [this, List.append_nil, keep1, if_neg]
      obtain ⟨j, hj, hp, hlj⟩ := least_below n k hi hrest hl
      have hmj : j ∈ R.reverse.filter (leastI n k) := List.mem_filter.2 ⟨hj, hlj⟩
      have hne : R.reverse.filter (leastI n k) ≠ [] := List.ne_nil_of_mem hmj
      have hlast : (R.reverse.filter (leastI n k)).getLast? = some ((R.reverse.filter (leastI n k)).getLast hne) := List.getLast?_eq_some_getLast hne
      have hmq := List.getLast_mem hne
      rw [hlast, Option.getD_some]
      -- j is the last one itself
      have hsF : (R.reverse.filter (leastI n k)).Pairwise fun i j => cmpI k i j < 0 := List.Pairwise.filter _ s1
      have hjq : cmpI k j ((R.reverse.filter (leastI n k)).getLast hne) ≤ 0 := by
        have hsplit := List.dropLast_concat_getLast hne
        rw [← hsplit] at hmj hsF
        rw [List.pairwise_append] at hsF
        rcases List.mem_append.1 hmj with h | h
        · exact Int.le_of_lt (hsF.2.2 j h _ (by simp))
        · rw [List.mem_singleton] at h
          rw [← h, (cmpI_good k).refl]
          exact Int.le_refl _
      generalize (R.reverse.filter (leastI n k)).getLast hne = q at *
      have hq := (List.mem_filter.1 hmq).1
      have hqi := hbefore q hq
      have hcj : ∀ a b, cmpI k a b ≤ 0 → cmpK (k a) (k b) ≤ 0 := by
        intro a b h
        unfold cmpI at h
        by_cases e : cmpK (k a) (k b) = 0
        · omega
        · rw [if_neg e] at h; exact h
      have hpq := beg_mid hp (hcj j q hjq) (hcj q i (Int.le_of_lt hqi))
      have h0 := (leastI_iff n k).1 (List.mem_filter.1 hmq).2 j (hin j hj) hpq
      have hjqe : j = q := ((cmpI_good k).zero j q).1 (by omega)
      subst hjqe
      rintro (h | h)
      · exact hne h
      · rw [begK_iff.2 hp] at h
        cases h
end least
end Go.Proofs.YtlbdoomknjiilaaDoor
