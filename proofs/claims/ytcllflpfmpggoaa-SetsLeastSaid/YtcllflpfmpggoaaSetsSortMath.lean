/- A row of names, sorted, each once: the set of the names. And how the code goes through two sets together. -/
import Derived.Test.YtcllflpfmpggoaaSetsMath
import Derived.Lib.OwnBridge
import Derived.Lib.SlicesCompact
import Derived.Sort.Walk0
namespace Go.Proofs.Ytcllflpfmpggoaa
open Go.RowKit
set_option linter.unusedVariables false

/-! ### the order of rows of bytes -/
theorem lt_cmp (x y : List UInt8) : x < y ↔ cmpS x y < 0 := by
  have h1 := bytesLess_eq x y
  rw [lessB_cmp] at h1
  simpa using h1.symm
theorem le_cmp (x y : List UInt8) : x ≤ y ↔ cmpS x y ≤ 0 := by
  have h : x ≤ y ↔ ¬ y < x := Iff.rfl
  rw [h, lt_cmp, cmpS_good.neg x y]
  omega
def unK (k : List UInt8) : ByteArray := ⟨k.toArray⟩
theorem keyS_unK (k : List UInt8) : keyS (unK k) = k := by simp [keyS, unK]
theorem unK_keyS (s : ByteArray) : unK (keyS s) = s := key_same.1 (keyS_unK _)
/-- the rows of bytes of some names, sorted -/
def sortK (l : List ByteArray) : List (List UInt8) := (l.map keyS).mergeSort fun x y => decide (x ≤ y)
theorem sortK_mem {l : List ByteArray} {k : List UInt8} : k ∈ sortK l ↔ unK k ∈ l := by
  unfold sortK
  rw [(List.mergeSort_perm _ _).mem_iff, List.mem_map]
  constructor
  · rintro ⟨s, hs, rfl⟩
    rwa [unK_keyS]
  · exact fun h => ⟨_, h, keyS_unK _⟩
theorem sortK_sorted (l : List ByteArray) : (sortK l).Pairwise fun x y => cmpS x y ≤ 0 := by
  refine (List.pairwise_mergeSort (le := fun (x y : List UInt8) => decide (x ≤ y)) ?_ ?_ _).imp fun {a b} h => (le_cmp a b).1 (by simpa using h)
  · intro a b c h1 h2
    simp only [decide_eq_true_eq, le_cmp] at *
    exact cmpS_good.le_trans h1 h2
  · intro a b
    simp only [Bool.or_eq_true, decide_eq_true_eq, le_cmp]
    have := cmpS_good.neg a b
    omega
theorem sortK_len (l : List ByteArray) : (sortK l).length = l.length := by unfold sortK; rw [List.length_mergeSort, List.length_map]
/-- what is kept of a sorted row: the same members, and they rise -/
theorem upTo_spec {d : Array (List UInt8)} (hs : ∀ i j, i ≤ j → j < d.size → cmpS d[i]! d[j]! ≤ 0) : ∀ m, m ≤ d.size →
    (Lib.compactUpTo d m).Pairwise (fun x y => cmpS x y < 0) ∧ ∀ x, x ∈ Lib.compactUpTo d m ↔ ∃ j, j < m ∧ d[j]! = x
  | 0, _ => ⟨by simp [Lib.compactUpTo], fun x => by simp [Lib.compactUpTo]⟩
  | m + 1, hm => by
    obtain ⟨h1, h2⟩ := upTo_spec hs m (by omega)
    rw [Lib.compactUpTo_succ]
    cases hk : Lib.keeps d m with
    | false =>
      have hm0 : ¬ (m = 0 ∨ d[m]! ≠ d[m - 1]!) := by
        intro h
        simp [Lib.keeps, h] at hk
      rw [not_or] at hm0
      have he : d[m]! = d[m - 1]! := Classical.not_not.1 hm0.2
      rw [if_neg (by simp), List.append_nil]
      refine ⟨h1, fun x => ?_⟩
      rw [h2]
      constructor
      · rintro ⟨j, hj, e⟩; exact ⟨j, by omega, e⟩
      · rintro ⟨j, hj, e⟩
        by_cases ej : j = m
        · subst ej; exact ⟨j - 1, by omega, by rw [← he]; exact e⟩
        · exact ⟨j, by omega, e⟩
    | true =>
      rw [if_pos rfl]
      have hne : ∀ j, j < m → cmpS d[j]! d[m]! < 0 := by
        intro j hj
        have h3 := hs j m (by omega) (by omega)
        rcases Int.lt_or_eq_of_le h3 with h | h
        · exact h
        · exfalso
          have e1 := (cmpS_good.zero _ _).1 h
          have h4 := hs j (m - 1) (by omega) (by omega)
          have h5 := hs (m - 1) m (by omega) (by omega)
          rw [e1] at h4
          have e2 : cmpS d[m]! d[m - 1]! = 0 := by have := cmpS_good.neg d[m]! d[m - 1]!; omega
          have e3 := (cmpS_good.zero _ _).1 e2
          simp [Lib.keeps, e3] at hk
          omega
      refine ⟨List.pairwise_append.2 ⟨h1, by simp, fun a ha b hb => ?_⟩, fun x => ?_⟩
      · obtain ⟨j, hj, rfl⟩ := (h2 a).1 ha
        rw [List.mem_singleton] at hb
        subst hb
        exact hne j hj
      · rw [List.mem_append, h2, List.mem_singleton]
        constructor
        · rintro (⟨j, hj, e⟩ | rfl)
          · exact ⟨j, by omega, e⟩
          · exact ⟨m, by omega, rfl⟩
        · rintro ⟨j, hj, e⟩
          by_cases ej : j = m
          · subst ej; exact .inr e.symm
          · exact .inl ⟨j, by omega, e⟩
theorem compact_ofN (l : List ByteArray) : (Lib.compact (sortK l)).map unK = ofN l := by
  have hsz : (sortK l).toArray.size = (sortK l).length := by simp
  have hget : ∀ j, j < (sortK l).length → (sortK l)[j]? = some (sortK l).toArray[j]! := fun j hj => by
    rw [List.getElem?_eq_getElem hj, getElem!_pos (sortK l).toArray j (by simpa using hj)]
    simp
  have hs : ∀ i j, i ≤ j → j < (sortK l).toArray.size → cmpS (sortK l).toArray[i]! (sortK l).toArray[j]! ≤ 0 := by
    intro i j hij hj
    rw [hsz] at hj
    rcases Nat.lt_or_eq_of_le hij with h | rfl
    · have := List.pairwise_iff_getElem.1 (sortK_sorted l) i j (by omega) hj h
      rw [getElem!_pos (sortK l).toArray i (by simp; omega), getElem!_pos (sortK l).toArray j (by simpa using hj)]
      simpa using this
    · rw [cmpS_good.refl]; exact Int.le_refl _
  obtain ⟨h1, h2⟩ := upTo_spec hs (sortK l).length (by rw [hsz]; exact Nat.le_refl _)
  apply ofN_eq
  · unfold Rise
    rw [List.pairwise_map]
    refine h1.imp fun {a b} h => ?_
    rw [lessS_iff, keyS_unK, keyS_unK]
    exact h
  · intro s
    rw [List.mem_map]
    constructor
    · rintro ⟨k, hk, rfl⟩
      obtain ⟨j, hj, rfl⟩ := (h2 k).1 hk
      exact sortK_mem.1 (List.mem_of_getElem? (hget j hj))
    · intro hm
      have h3 : keyS s ∈ sortK l := sortK_mem.2 (by rw [unK_keyS]; exact hm)
      obtain ⟨j, hj⟩ := List.mem_iff_getElem?.1 h3
      have hjl := some_lt hj
      rw [hget j hjl] at hj
      exact ⟨keyS s, (h2 _).2 ⟨j, hjl, Option.some.inj hj⟩, unK_keyS s⟩
theorem compact_vals (l : List ByteArray) : (Lib.compact (sortK l)).map encStr = (ofN l).map .string := by
  rw [← compact_ofN, List.map_map]
  rfl
theorem compact_len (l : List ByteArray) : (Lib.compact (sortK l)).length = (ofN l).length := by
  rw [← compact_ofN, List.length_map]
theorem keys_vals (l : List ByteArray) : (l.map keyS).map encStr = l.map .string := by
  rw [List.map_map]
  refine List.map_congr_left fun s _ => ?_
  show Value.string (unK (keyS s)) = _
  rw [unK_keyS]

/-! ### two sets gone through together -/
/-- k names of the first, p of the second have been gone through -/
structure Part (X Y : List ByteArray) (k p : Nat) : Prop where
  low : ∀ y, y ∈ Y.take p → ∀ x, x ∈ X.drop k → lessS y x = true
  high : ∀ y, y ∈ Y.drop p → ∀ x, x ∈ X.take k → lessS x y = true
def alone (X Y : List ByteArray) : List ByteArray := X.filter fun s => !hasN Y s
def both (X Y : List ByteArray) : List ByteArray := X.filter fun s => hasN Y s
theorem Part.start (X Y : List ByteArray) : Part X Y 0 0 := ⟨fun y h => by simp at h, fun y _ x h => by simp at h⟩
theorem drop_at {α : Type} {l : List α} {k : Nat} {x : α} (h : l[k]? = some x) : l.drop k = x :: l.drop (k + 1) := by
  rw [List.drop_eq_getElem_cons (some_lt h)]
  congr 1
  exact (List.getElem?_eq_some_iff.1 h).2
theorem take_at {α : Type} {l : List α} {k : Nat} {x : α} (h : l[k]? = some x) : l.take (k + 1) = l.take k ++ [x] := by
  rw [List.take_add_one, h]; rfl
theorem rise_drop {l : List ByteArray} {k : Nat} {x : ByteArray} (h : Rise l) (hx : l[k]? = some x) : ∀ y, y ∈ l.drop (k + 1) → lessS x y = true := by
  have : Rise (l.drop k) := List.Pairwise.drop h
  rw [drop_at hx] at this
  exact (List.pairwise_cons.1 this).1
theorem mem_parts {α : Type} {l : List α} {x : α} (k : Nat) : x ∈ l ↔ x ∈ l.take k ∨ x ∈ l.drop k := by
  rw [← List.mem_append, List.take_append_drop]
section
variable {X Y : List ByteArray} {k p : Nat} {x y : ByteArray}
theorem Part.same (P : Part X Y k p) (hX : Rise X) (hY : Rise Y) (hx : X[k]? = some x) (hy : Y[p]? = some x) : Part X Y (k + 1) (p + 1) where
  low y' h x' hx' := by
    rw [take_at hy, List.mem_append, List.mem_singleton] at h
    rcases h with h | rfl
    · exact P.low y' h x' (by rw [drop_at hx]; exact .tail _ hx')
    · exact rise_drop hX hx x' hx'
  high y' h x' hx' := by
    rw [take_at hx, List.mem_append, List.mem_singleton] at hx'
    rcases hx' with h' | rfl
    · exact P.high y' (by rw [drop_at hy]; exact .tail _ h) x' h'
    · exact rise_drop hY hy y' h
theorem Part.less (P : Part X Y k p) (hX : Rise X) (hx : X[k]? = some x) (hy : Y[p]? = some y) (h : lessS y x = true) : Part X Y k (p + 1) where
  low y' h' x' hx' := by
    rw [take_at hy, List.mem_append, List.mem_singleton] at h'
    rcases h' with h' | rfl
    · exact P.low y' h' x' hx'
    · rw [drop_at hx] at hx'
      rcases List.mem_cons.1 hx' with rfl | h'
      · exact h
      · exact lessS_trans h (rise_drop hX hx x' h')
  high y' h' x' hx' := P.high y' (by rw [drop_at hy]; exact .tail _ h') x' hx'
theorem Part.less_has (P : Part X Y k p) (hX : Rise X) (hx : X[k]? = some x) (hy : Y[p]? = some y) (h : lessS y x = true) : hasN X y = false := by
  rw [hasN_no, mem_parts k]
  rintro (h' | h')
  · have := P.high y (by rw [drop_at hy]; exact .head _) y h'
    rw [lessS_irr] at this; cases this
  · rw [drop_at hx] at h'
    rcases List.mem_cons.1 h' with rfl | h'
    · rw [lessS_irr] at h; cases h
    · have := lessS_trans h (rise_drop hX hx y h')
      rw [lessS_irr] at this; cases this
theorem Part.end (P : Part X Y k p) (hx : X[k]? = some x) (hp : Y.length ≤ p) : Part X Y (k + 1) p where
  low y' h' x' hx' := P.low y' h' x' (by rw [drop_at hx]; exact .tail _ hx')
  high y' h' x' hx' := by rw [List.drop_of_length_le hp] at h'; cases h'
theorem Part.end_has (P : Part X Y k p) (hx : X[k]? = some x) (hp : Y.length ≤ p) : hasN Y x = false := by
  rw [hasN_no]
  intro h
  have := P.low x (by rw [List.take_of_length_le hp]; exact h) x (by rw [drop_at hx]; exact .head _)
  rw [lessS_irr] at this; cases this
theorem Part.more (P : Part X Y k p) (hY : Rise Y) (hx : X[k]? = some x) (hy : Y[p]? = some y) (h : lessS x y = true) : Part X Y (k + 1) p where
  low y' h' x' hx' := P.low y' h' x' (by rw [drop_at hx]; exact .tail _ hx')
  high y' h' x' hx' := by
    rw [take_at hx, List.mem_append, List.mem_singleton] at hx'
    rcases hx' with h2 | rfl
    · exact P.high y' h' x' h2
    · rw [drop_at hy] at h'
      rcases List.mem_cons.1 h' with rfl | h2
      · exact h
      · exact lessS_trans h (rise_drop hY hy y' h2)
theorem Part.more_has (P : Part X Y k p) (hY : Rise Y) (hx : X[k]? = some x) (hy : Y[p]? = some y) (h : lessS x y = true) : hasN Y x = false := by
  rw [hasN_no, mem_parts p]
  rintro (h' | h')
  · have := P.low x h' x (by rw [drop_at hx]; exact .head _)
    rw [lessS_irr] at this; cases this
  · rw [drop_at hy] at h'
    rcases List.mem_cons.1 h' with rfl | h'
    · rw [lessS_irr] at h; cases h
    · have := lessS_trans h (rise_drop hY hy x h')
      rw [lessS_irr] at this; cases this
theorem Part.rest (P : Part X Y k p) (hk : X.length ≤ k) : alone Y X = alone (Y.take p) X ++ Y.drop p := by
  unfold alone
  conv => lhs; rw [← List.take_append_drop p Y]
  rw [List.filter_append]
  congr 1
  rw [List.filter_eq_self]
  intro y hy
  rw [Bool.not_eq_true', hasN_no]
  intro hm
  have := P.high y hy y (by rw [List.take_of_length_le hk]; exact hm)
  rw [lessS_irr] at this; cases this
end
theorem alone_next {X Y : List ByteArray} {k : Nat} {x : ByteArray} (hx : X[k]? = some x) : alone (X.take (k + 1)) Y = alone (X.take k) Y ++ if hasN Y x then [] else [x] := by
  unfold alone
  rw [filter_take hx]
  cases hasN Y x <;> rfl
theorem both_next {X Y : List ByteArray} {k : Nat} {x : ByteArray} (hx : X[k]? = some x) : both (X.take (k + 1)) Y = both (X.take k) Y ++ if hasN Y x then [x] else [] := by
  unfold both
  rw [filter_take hx]
theorem alone_len (X Y : List ByteArray) (k : Nat) : (alone (X.take k) Y).length ≤ X.length := by
  unfold alone
  have h1 := List.length_filter_le (fun s => !hasN Y s) (X.take k)
  have h2 : (X.take k).length ≤ X.length := by simp; omega
  omega
theorem both_len (X Y : List ByteArray) (k : Nat) : (both (X.take k) Y).length ≤ X.length := by
  unfold both
  have h1 := List.length_filter_le (fun s => hasN Y s) (X.take k)
  have h2 : (X.take k).length ≤ X.length := by simp; omega
  omega
end Go.Proofs.Ytcllflpfmpggoaa
