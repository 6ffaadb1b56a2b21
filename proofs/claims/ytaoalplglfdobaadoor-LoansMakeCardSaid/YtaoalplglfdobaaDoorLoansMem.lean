/- Loans: what the chapter says of books; rows of loans in memory. -/
import Derived.Test.YtaoalplglfdobaaDoorPathsOwnRow
import Derived.Test.YtaoalplglfdobaaDoorPathsRows
namespace Go.Proofs.YtaoalplglfdobaaDoor
open Go.RowKit
set_option linter.unusedVariables false

structure LN where
  place : PP
  alone : Bool
  till : Int
theorem PP.key_inj {a b : PP} (h : a.key = b.key) : a = b := by
  obtain ⟨n, p⟩ := a
  obtain ⟨m, q⟩ := b
  unfold PP.key at h
  obtain ⟨h1, h2⟩ := List.cons.inj h
  have e1 : n = m := key_same.1 h1
  have e2 : p = q := (List.map_inj_right fun x y h => key_same.1 h).1 h2
  rw [e1, e2]
def isB (x y : LN) : Bool := sameP x.place y.place && (x.alone == y.alone) && decide (x.till = y.till)
theorem sameP_iff {a b : PP} : sameP a b = true ↔ a = b := by
  unfold sameP
  rw [decide_eq_true_iff]
  exact ⟨PP.key_inj, fun h => h ▸ rfl⟩
theorem isB_iff {x y : LN} : isB x y = true ↔ x = y := by
  unfold isB
  rw [Bool.and_eq_true, Bool.and_eq_true, sameP_iff, beq_iff_eq, decide_eq_true_iff]
  constructor
  · rintro ⟨⟨h1, h2⟩, h3⟩
    obtain ⟨p, a, t⟩ := x
    obtain ⟨q, b, u⟩ := y
    simp at h1 h2 h3
    rw [h1, h2, h3]
  · rintro rfl; exact ⟨⟨rfl, rfl⟩, rfl⟩
theorem isB_comm (x y : LN) : isB x y = isB y x := by
  rw [Bool.eq_iff_iff, isB_iff, isB_iff]; exact eq_comm
def hasB (l : List LN) (x : LN) : Bool := l.any fun y => isB y x
theorem hasB_iff {l : List LN} {x : LN} : hasB l x = true ↔ x ∈ l := by
  unfold hasB
  rw [List.any_eq_true]
  constructor
  · rintro ⟨y, hy, h⟩
    rw [isB_iff] at h
    exact h ▸ hy
  · exact fun h => ⟨x, h, isB_iff.2 rfl⟩
theorem hasB_take {l : List LN} {x y : LN} {k : Nat} (hy : l[k]? = some y) : hasB (l.take (k + 1)) x = (hasB (l.take k) x || isB y x) := by
  unfold hasB
  rw [List.take_add_one, hy, List.any_append]
  simp
def addB (l : List LN) (x : LN) : List LN := if hasB l x then l else l ++ [x]
theorem addB_len (l : List LN) (x : LN) : (addB l x).length ≤ l.length + 1 := by
  unfold addB
  split
  · omega
  · simp
theorem addB_mem {l : List LN} {x y : LN} : y ∈ addB l x ↔ y ∈ l ∨ y = x := by
  unfold addB
  split
  · rename_i h
    have := hasB_iff.1 h
    constructor
    · exact .inl
    · rintro (h | rfl)
      · exact h
      · exact this
  · simp
def endB (l : List LN) (d : Int) : List LN := l.filter fun x => decide (x.till < d)
def unionB (a b : List LN) : List LN := b.foldl addB a
theorem unionB_take {a b : List LN} {x : LN} {k : Nat} (hx : b[k]? = some x) : unionB a (b.take (k + 1)) = addB (unionB a (b.take k)) x := by
  unfold unionB
  rw [List.take_add_one, hx, List.foldl_append]
  rfl
theorem unionB_len (a b : List LN) : (unionB a b).length ≤ a.length + b.length := by
  unfold unionB
  induction b generalizing a with
  | nil => simp
  | cons x b ih =>
    have h1 := ih (addB a x)
    have h2 := addB_len a x
    rw [List.foldl_cons, List.length_cons]; omega
theorem unionB_mem {a b : List LN} {x : LN} : x ∈ unionB a b ↔ x ∈ a ∨ x ∈ b := by
  unfold unionB
  induction b generalizing a with
  | nil => simp
  | cons y b ih => rw [List.foldl_cons, ih, addB_mem, List.mem_cons, or_assoc]
def sameB (a b : List LN) : Bool := a.all (hasB b) && b.all (hasB a)
theorem sameB_iff {a b : List LN} : sameB a b = true ↔ ∀ x, x ∈ a ↔ x ∈ b := by
  unfold sameB
  rw [Bool.and_eq_true, List.all_eq_true, List.all_eq_true]
  constructor
  · rintro ⟨h1, h2⟩ x
    exact ⟨fun h => hasB_iff.1 (h1 x h), fun h => hasB_iff.1 (h2 x h)⟩
  · intro h
    exact ⟨fun x hx => hasB_iff.2 ((h x).1 hx), fun x hx => hasB_iff.2 ((h x).2 hx)⟩
theorem all_take {l : List LN} {p : LN → Bool} {x : LN} {k : Nat} (hx : l[k]? = some x) : (l.take (k + 1)).all p = ((l.take k).all p && p x) := by
  rw [List.take_add_one, hx, List.all_append]
  simp
theorem any_takeB {l : List LN} {p : LN → Bool} {x : LN} {k : Nat} (hx : l[k]? = some x) : (l.take (k + 1)).any p = ((l.take k).any p || p x) := by
  rw [List.take_add_one, hx, List.any_append]
  simp
/-- a use conflicts with a loan -/
def badB (p : PP) (use : Int) (x : LN) : Bool := meetP x.place p && (x.alone || (decide (use ≠ 1) && decide (use ≠ 2)))
def mayB (l : List LN) (p : PP) (use : Int) : Int := if use < 1 ∨ 6 < use then 2 else if l.any (badB p use) then 141 else 0
theorem filter_takeB {a : List LN} {p : LN → Bool} {x : LN} {k : Nat} (hx : a[k]? = some x) : (a.take (k + 1)).filter p = (a.take k).filter p ++ if p x then [x] else [] := by
  rw [List.take_add_one, hx, List.filter_append]
  cases h : p x <;> simp [h]

/-! ### memory -/
/-- a loan's value; v: its steps -/
def LN.val (x : LN) (v : Value) : Value := .agg #[.string x.place.name, v, .bool x.alone, .int .i64 x.till]
def CellN (w : World) (b o : Nat) (x : LN) (v : Value) : Prop := w.cell? ⟨b, o, none⟩ = some (.string x.place.name) ∧ w.cell? ⟨b, o + 1, none⟩ = some v ∧ w.cell? ⟨b, o + 2, none⟩ = some (.bool x.alone) ∧ w.cell? ⟨b, o + 3, none⟩ = some (.int .i64 x.till)
def RowN (B : Nat) (w : World) (b o : Nat) (l : List LN) : Prop := ∀ (j : Nat) x, l[j]? = some x → ∃ v, CellN w b (o + j * 4) x v ∧ x.place.In B w v
def NIn (B : Nat) (w : World) (l : List LN) (v : Value) : Prop := ∃ b o, SlP B v l.length b o ∧ RowN B w b o l
theorem CellN.below {B b o : Nat} {w w' : World} {x : LN} {v : Value} (hb : b < B) (h : CellN w b o x v) (k : Below B w w') : CellN w' b o x v :=
  ⟨(k.cell (p := ⟨b, o, none⟩) hb).trans h.1, (k.cell (p := ⟨b, o + 1, none⟩) hb).trans h.2.1, (k.cell (p := ⟨b, o + 2, none⟩) hb).trans h.2.2.1, (k.cell (p := ⟨b, o + 3, none⟩) hb).trans h.2.2.2⟩
theorem RowN.below {B : Nat} {w w' : World} {b o : Nat} {l : List LN} (hb : l.length ≠ 0 → b < B) (h : RowN B w b o l) (k : Below B w w') : RowN B w' b o l := by
  intro j x hj
  obtain ⟨v, h1, h3⟩ := h j x hj
  exact ⟨v, h1.below (hb (some_pos hj)) k, h3.below k⟩
theorem RowN.mono {B B' : Nat} {w : World} {b o : Nat} {l : List LN} (h : RowN B w b o l) (hB : B ≤ B') : RowN B' w b o l := by
  intro j x hj
  obtain ⟨v, h1, h3⟩ := h j x hj
  exact ⟨v, h1, h3.mono hB⟩
theorem NIn.below {B : Nat} {w w' : World} {l : List LN} {v : Value} (h : NIn B w l v) (k : Below B w w') : NIn B w' l v := by
  obtain ⟨b, o, hs, hr⟩ := h
  exact ⟨b, o, hs, hr.below (fun h => hs.lt h) k⟩
theorem NIn.mono {B B' : Nat} {w : World} {l : List LN} {v : Value} (h : NIn B w l v) (hB : B ≤ B') : NIn B' w l v := by
  obtain ⟨b, o, hs, hr⟩ := h
  exact ⟨b, o, hs.mono hB, hr.mono hB⟩
theorem NIn.shape {B : Nat} {w : World} {l : List LN} {v : Value} (h : NIn B w l v) : ∃ ao cap, v = .slice ao l.length cap := by
  obtain ⟨b, o, hs, _⟩ := h
  exact hs.shape
theorem NIn.nil (B : Nat) (w : World) : NIn B w [] (.slice none 0 0) := ⟨0, 0, ⟨Nat.zero_le _, none, 0, rfl, Nat.le_refl _, .inl rfl⟩, fun j s h => by cases h⟩
theorem NIn.at {B : Nat} {w : World} {l : List LN} {ao : Option Addr} {n cap : Nat} (h : NIn B w l (.slice ao n cap)) : n ≤ maxLen ∧ ∃ b o, (n ≠ 0 → ao = some ⟨b, o, none⟩ ∧ b < B) ∧ RowN B w b o l := by
  obtain ⟨b, o, ⟨hm, ao', cap', he, _, h4⟩, hr⟩ := h
  obtain ⟨rfl, rfl, rfl⟩ := Value.slice.inj he
  exact ⟨hm, b, o, fun h => h4.resolve_left h, hr⟩
/-- pairs of a loan and the value that its steps lie at -/
def cells4 (Z : List (LN × Value)) : List Value := Z.flatMap fun p => [.string p.1.place.name, p.2, .bool p.1.alone, .int .i64 p.1.till]
theorem cells4_snoc (Z : List (LN × Value)) (p : LN × Value) : cells4 (Z ++ [p]) = cells4 Z ++ [.string p.1.place.name, p.2, .bool p.1.alone, .int .i64 p.1.till] := by simp [cells4]
theorem cells4_len (Z : List (LN × Value)) : (cells4 Z).length = Z.length * 4 := by
  induction Z with
  | nil => rfl
  | cons q Z ih =>
    show ([_, _, _, _] ++ cells4 Z).length = _
    rw [List.length_append, ih, List.length_cons]
    simp; omega
theorem cells4_at {Z : List (LN × Value)} {j : Nat} {p : LN × Value} (h : Z[j]? = some p) : (cells4 Z)[j * 4]? = some (.string p.1.place.name) ∧ (cells4 Z)[j * 4 + 1]? = some p.2 ∧ (cells4 Z)[j * 4 + 2]? = some (.bool p.1.alone) ∧ (cells4 Z)[j * 4 + 3]? = some (.int .i64 p.1.till) := by
  induction Z generalizing j with
  | nil => cases h
  | cons q Z ih =>
    cases j with
    | zero => cases h; exact ⟨rfl, rfl, rfl, rfl⟩
    | succ j =>
      have := ih (j := j) (by simpa using h)
      have e : cells4 (q :: Z) = .string q.1.place.name :: q.2 :: .bool q.1.alone :: .int .i64 q.1.till :: cells4 Z := rfl
      rw [e, show (j + 1) * 4 = j * 4 + 1 + 1 + 1 + 1 by omega]
      simpa using this
theorem RowN.pairs {B : Nat} {w : World} {b o : Nat} {L : List LN} (h : RowN B w b o L) :
    ∃ Z : List (LN × Value), Z.map Prod.fst = L ∧ ∀ (j : Nat) p, Z[j]? = some p → CellN w b (o + j * 4) p.1 p.2 ∧ p.1.place.In B w p.2 := by
  have h2 : ∀ j : Nat, ∃ v, ∀ x, L[j]? = some x → CellN w b (o + j * 4) x v ∧ x.place.In B w v := by
    intro j
    cases hj : L[j]? with
    | none => exact ⟨undef, fun x hx => by cases hx⟩
    | some x =>
      obtain ⟨v, h1⟩ := h j x hj
      exact ⟨v, fun y hy => by cases hy; exact h1⟩
  obtain ⟨f, hf⟩ := Classical.skolem.1 h2
  refine ⟨L.mapIdx fun j x => (x, f j), ?_, ?_⟩
  · apply List.ext_getElem?
    intro j
    rw [List.getElem?_map, List.getElem?_mapIdx]
    cases L[j]? <;> rfl
  · intro j p hp
    rw [List.getElem?_mapIdx, Option.map_eq_some_iff] at hp
    obtain ⟨x, hx, rfl⟩ := hp
    exact hf j x hx
theorem own_N {B base : Nat} {w : World} {Z : List (LN × Value)} {e : TypeId} {v : Value} {n : Nat} (h : w.ownsRow base e 4 v n (cells4 Z)) (hn : n = Z.length) (hi : ∀ p, p ∈ Z → p.1.place.In B w p.2) (hB : B ≤ w.heap.size) (hm : Z.length ≤ maxLen) :
    NIn w.heap.size w (Z.map Prod.fst) v := by
  subst hn
  obtain ⟨h1, h2⟩ := own_cells h hm
  refine ⟨_, _, by rw [List.length_map]; exact h1, fun j x hj => ?_⟩
  rw [List.getElem?_map, Option.map_eq_some_iff] at hj
  obtain ⟨p, hp, rfl⟩ := hj
  obtain ⟨c0, c1, c2, c3⟩ := cells4_at hp
  exact ⟨p.2, ⟨(h2 _ _ c0).1, (h2 _ _ c1).1, (h2 _ _ c2).1, (h2 _ _ c3).1⟩, (hi p (List.mem_of_getElem? hp)).mono hB⟩
end Go.Proofs.YtaoalplglfdobaaDoor
