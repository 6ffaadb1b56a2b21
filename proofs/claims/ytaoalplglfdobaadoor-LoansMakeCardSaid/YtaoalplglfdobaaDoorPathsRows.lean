/- Rows of places: pairs of a place and the value that its steps lie at; what is chosen out of them. -/
import Derived.Test.YtaoalplglfdobaaDoorPathsOwnRow
namespace Go.Proofs.YtaoalplglfdobaaDoor
open Go.RowKit
set_option linter.unusedVariables false

def cells2 (Z : List (PP × Value)) : List Value := Z.flatMap fun p => [.string p.1.name, p.2]
theorem cells2_snoc (Z : List (PP × Value)) (p : PP × Value) : cells2 (Z ++ [p]) = cells2 Z ++ [.string p.1.name, p.2] := by simp [cells2]
theorem cells2_at {Z : List (PP × Value)} {j : Nat} {p : PP × Value} (h : Z[j]? = some p) : (cells2 Z)[j * 2]? = some (.string p.1.name) ∧ (cells2 Z)[j * 2 + 1]? = some p.2 := by
  induction Z generalizing j with
  | nil => cases h
  | cons q Z ih =>
    cases j with
    | zero => cases h; exact ⟨rfl, rfl⟩
    | succ j =>
      have := ih (j := j) (by simpa using h)
      have e : cells2 (q :: Z) = .string q.1.name :: q.2 :: cells2 Z := rfl
      rw [e, show (j + 1) * 2 = j * 2 + 1 + 1 by omega]
      simpa using this
theorem RowL.pairs {B : Nat} {w : World} {b o : Nat} {L : List PP} (h : RowL B w b o L) :
    ∃ Z : List (PP × Value), Z.map Prod.fst = L ∧ ∀ (j : Nat) p, Z[j]? = some p → w.cell? ⟨b, o + j * 2, none⟩ = some (.string p.1.name) ∧ w.cell? ⟨b, o + j * 2 + 1, none⟩ = some p.2 ∧ p.1.In B w p.2 := by
  have h2 : ∀ j : Nat, ∃ v, ∀ x, L[j]? = some x → w.cell? ⟨b, o + j * 2, none⟩ = some (.string x.name) ∧ w.cell? ⟨b, o + j * 2 + 1, none⟩ = some v ∧ x.In B w v := by
    intro j
    cases hj : L[j]? with
    | none => exact ⟨undef, fun x hx => by cases hx⟩
    | some x =>
      obtain ⟨v, h1⟩ := h j x hj
      exact ⟨v, fun y hy => by cases hy; exact h1⟩
  obtain ⟨f, hf⟩ := Classical.skolem.1 h2
  refine ⟨L.mapIdx fun j x => (x, f j), ?_, ?_⟩
  · apply List.ext_getElem?
    intro j
    rw [List.getElem?_map, List.getElem?_mapIdx]
    cases L[j]? <;> rfl
  · intro j p hp
    rw [List.getElem?_mapIdx, Option.map_eq_some_iff] at hp
    obtain ⟨x, hx, rfl⟩ := hp
    exact hf j x hx
theorem own_L {B base : Nat} {w : World} {Z : List (PP × Value)} {e : TypeId} {v : Value} {n : Nat} (h : w.ownsRow base e 2 v n (cells2 Z)) (hn : n = Z.length) (hi : ∀ p, p ∈ Z → p.1.In B w p.2) (hB : B ≤ w.heap.size) (hm : Z.length ≤ maxLen) :
    LIn w.heap.size w (Z.map Prod.fst) v := by
  subst hn
  obtain ⟨h1, h2⟩ := own_cells h hm
  refine ⟨_, _, by rw [List.length_map]; exact h1, fun j x hj => ?_⟩
  rw [List.getElem?_map, Option.map_eq_some_iff] at hj
  obtain ⟨p, hp, rfl⟩ := hj
  have := cells2_at hp
  exact ⟨p.2, (h2 _ _ this.1).1, by have := (h2 _ _ this.2).1; rwa [← Nat.add_assoc] at this, (hi p (List.mem_of_getElem? hp)).mono hB⟩
/-- what is chosen of the first k -/
def sel {α : Type} (Z : List α) (p : Nat → Bool) (k : Nat) : List α := ((List.range k).filter p).filterMap fun i => Z[i]?
theorem sel_next {α : Type} {Z : List α} {p : Nat → Bool} {k : Nat} {z : α} (h : Z[k]? = some z) : sel Z p (k + 1) = sel Z p k ++ if p k then [z] else [] := by
  unfold sel
  rw [List.range_succ, List.filter_append, List.filterMap_append]
  by_cases hp : p k = true
  · simp [hp, h]
  · simp [hp]
theorem sel_zero {α : Type} (Z : List α) (p : Nat → Bool) : sel Z p 0 = [] := rfl
theorem sel_len {α : Type} (Z : List α) (p : Nat → Bool) (k : Nat) : (sel Z p k).length ≤ k := by
  unfold sel
  refine Nat.le_trans (List.length_filterMap_le _ _) (Nat.le_trans (List.length_filter_le _ _) ?_)
  simp
theorem sel_map {α β : Type} (f : α → β) (Z : List α) (p : Nat → Bool) (k : Nat) : (sel Z p k).map f = sel (Z.map f) p k := by
  unfold sel
  rw [List.map_filterMap]
  simp
theorem sel_mem {α : Type} {Z : List α} {p : Nat → Bool} {k : Nat} {z : α} (h : z ∈ sel Z p k) : z ∈ Z := by
  unfold sel at h
  rw [List.mem_filterMap] at h
  obtain ⟨i, _, hi⟩ := h
  exact List.mem_of_getElem? hi
def keyAt (L : List PP) (i : Nat) : K := ((L[i]?).map PP.key).getD []
theorem keyAt_eq {L : List PP} {i : Nat} {x : PP} (h : L[i]? = some x) : keyAt L i = x.key := by simp [keyAt, h]
/-- the least ones of some places -/
def leastP (L : List PP) : List PP := sel L (leastI L.length (keyAt L)) L.length
theorem outs_code {L : List PP} {j i : Nat} {y x : PP} (hj : L[j]? = some y) (hi : L[i]? = some x) : outs (keyAt L) j i = (begP y x && (!sameP y x || decide (j < i))) := by
  unfold outs
  rw [keyAt_eq hj, keyAt_eq hi]
  rfl
theorem all_next (p : Nat → Bool) (k : Nat) : (List.range (k + 1)).all p = ((List.range k).all p && p k) := by
  rw [List.range_succ, List.all_append]
  simp
/-- a pair's steps are one cell -/
theorem PP.In.one {B : Nat} {w : World} {x : PP} {v : Value} (h : x.In B w v) : v.oneCell' = true := by
  obtain ⟨ao, cap, rfl⟩ := h.shape
  rfl
end Go.Proofs.YtaoalplglfdobaaDoor
