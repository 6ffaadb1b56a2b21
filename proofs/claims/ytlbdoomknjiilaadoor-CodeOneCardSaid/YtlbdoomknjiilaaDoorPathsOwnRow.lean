/- Rows of one's own: strings, places, numbers. -/
import Derived.Test.YtlbdoomknjiilaaDoorPathsMem
import Derived.Test.YtlbdoomknjiilaaDoorRows
import Derived.Below
import Derived.Laws.AppendOwn
import Derived.Laws.World
namespace Go.Proofs.YtlbdoomknjiilaaDoor
open Go.RowKit
set_option linter.unusedVariables false

theorem info_parts {P : Program} {t : TypeId} {z : Value} {n b : Nat} (h : (P.info? t).map (fun i => (i.zero, i.size, i.bytes)) = some (some z, n, b)) : ∃ i, P.info? t = some i ∧ i.zero = some z ∧ i.size = n ∧ i.bytes = b := by
  cases hi : P.info? t with
  | none => rw [hi] at h; cases h
  | some i => rw [hi] at h; simp at h; exact ⟨i, rfl, h.1, h.2.1, h.2.2⟩
theorem infoStr : (Tryd.prog.info? 9).map (fun i => (i.zero, i.size, i.bytes)) = some (some (.string ⟨#[]⟩), 1, 16) := by kernel_rfl
theorem infoPlace : (Tryd.prog.info? 55).map (fun i => (i.zero, i.size, i.bytes)) = some (some (.agg #[.string ⟨#[]⟩, .slice none 0 0]), 2, 40) := by kernel_rfl
theorem infoInt : (Tryd.prog.info? 3).map (fun i => (i.zero, i.size, i.bytes)) = some (some (.int .i64 0), 1, 8) := by kernel_rfl
theorem own_below {w w' : World} {base : Nat} {e : TypeId} {size : Nat} {v : Value} {n : Nat} {xs : List Value} (h : w.ownsRow base e size v n xs) (k : Below w.heap.size w w') : w'.ownsRow base e size v n xs := by
  obtain ⟨hl, h⟩ := h
  refine ⟨hl, h.imp id ?_⟩
  rintro ⟨g, cap, cur, hv, hb, hg, h5⟩
  refine ⟨g, cap, cur, hv, hb, ?_, h5⟩
  have : g < w.heap.size := by
    rcases Nat.lt_or_ge g w.heap.size with h | h
    · exact h
    · rw [Array.getElem?_eq_none h] at hg; cases hg
  rw [k.block g this]; exact hg
theorem own_ne {w : World} {base : Nat} {e : TypeId} {size : Nat} {v : Value} {n : Nat} {xs : List Value} (h : w.ownsRow base e size v n xs) {b : Nat} (hb : b < base) : some b ≠ v.ownBlock := fun e1 => by
  have := (h.lt b e1.symm).1
  omega
theorem own_ne' {w : World} {base : Nat} {e : TypeId} {size : Nat} {v : Value} {n : Nat} {xs : List Value} (h : w.ownsRow base e size v n xs) {b : Nat} (hb : w.heap.size ≤ b) : some b ≠ v.ownBlock := fun e1 => by
  have := (h.lt b e1.symm).2
  omega
theorem grown_cell {w1 w2 : World} {o : Obj} {q : Option Nat} (hg : (w1.alloc o).grownBy w2 q) {a : Addr} {v : Value} (h : w1.cell? a = some v) (hn : some a.block ≠ q) : w2.cell? a = some v :=
  hg.cell ((((Below.refl _ w1).alloc (Nat.le_refl _) o).cell (World.block_lt_of_cell? w1 a h)).trans h) hn
theorem grown_frozen {w1 w2 : World} {o : Obj} {q : Option Nat} (hg : (w1.alloc o).grownBy w2 q) {a : Addr} {b : Bool} (h : w1.frozen? a = b) (hb : a.block < w1.heap.size) (hn : some a.block ≠ q) : w2.frozen? a = b :=
  (World.frozen?_of_block (hg.block a.block (by simp; omega) hn)).trans ((((Below.refl _ w1).alloc (Nat.le_refl _) o).frozen hb).trans h)
theorem own_set {w : World} {base : Nat} {e : TypeId} {size : Nat} {v : Value} {n : Nat} {xs : List Value} (h : w.ownsRow base e size v n xs) {p : Addr} (hp : p.block < base) (z : Value) : (w.setCell p z).ownsRow base e size v n xs := by
  obtain ⟨hl, h⟩ := h
  refine ⟨hl, h.imp id ?_⟩
  rintro ⟨g, cap, cur, hv, hb, hg, h5⟩
  exact ⟨g, cap, cur, hv, hb, (Below.heap_setCell w p z g (by omega)).trans hg, h5⟩
theorem own_shape {w : World} {base : Nat} {e : TypeId} {size : Nat} {v : Value} {n : Nat} {xs : List Value} (h : w.ownsRow base e size v n xs) : ∃ ao cap, v = .slice ao n cap := by
  rcases h.2 with ⟨h, h0⟩ | ⟨g, cap, cur, hv, _⟩
  · exact ⟨none, 0, by rw [h, h0]⟩
  · exact ⟨_, _, hv⟩
theorem own_mono {w : World} {base base' : Nat} {e : TypeId} {size : Nat} {v : Value} {n : Nat} {xs : List Value} (h : w.ownsRow base e size v n xs) (hb : base' ≤ base) : w.ownsRow base' e size v n xs := by
  obtain ⟨hl, h⟩ := h
  refine ⟨hl, h.imp id ?_⟩
  rintro ⟨g, cap, cur, hv, hg, h5⟩
  exact ⟨g, cap, cur, hv, Nat.le_trans hb hg, h5⟩
/-- the place of a row that is owned -/
def rowAt : Value → Nat | .slice (some a) _ _ => a.block | _ => 0
theorem own_cells {w : World} {base : Nat} {e : TypeId} {size : Nat} {n : Nat} {v : Value} {xs : List Value} (h : w.ownsRow base e size v n xs) (hm : n ≤ maxLen) :
    SlP w.heap.size v n (rowAt v) 0 ∧ ∀ (j : Nat) x, xs[j]? = some x → w.cell? ⟨rowAt v, 0 + j, none⟩ = some x ∧ w.frozen? ⟨rowAt v, 0 + j, none⟩ = false := by
  have hlt := h.lt
  obtain ⟨hl, h⟩ := h
  rcases h with ⟨h, h0⟩ | ⟨g, cap, cur, hv, hb, hg, hn, hc, hs, ht⟩
  · subst h0
    refine ⟨⟨hm, none, 0, h, Nat.le_refl _, .inl rfl⟩, fun j x hj => ?_⟩
    have := some_lt hj
    omega
  · subst hv
    refine ⟨⟨hm, _, cap, rfl, hn, .inr ⟨rfl, (hlt g rfl).2⟩⟩, fun j x hj => ⟨?_, by simp [World.frozen?, rowAt, hg]⟩⟩
    have hj' : j < n * size := by rw [← hl]; exact some_lt hj
    show w.cell? ⟨g, 0 + j, none⟩ = _
    rw [cell_of_row w g (0 + j) cur e (0, 0) hg, Nat.zero_add]
    rw [← ht, List.getElem?_take_of_lt hj'] at hj
    simpa using hj
theorem own_S {w : World} {base : Nat} {v : Value} {n : Nat} {l : List ByteArray} {e : TypeId} (h : w.ownsRow base e 1 v n (l.map .string)) (hz : ∀ s, s ∈ l → s.size ≤ strMax) (hm : n ≤ maxLen) : SIn w.heap.size w l v := by
  obtain ⟨h1, h2⟩ := own_cells h hm
  have hl : l.length = n := by have := h.1; simpa using this
  refine ⟨_, _, by rw [hl]; exact h1, fun j s hj => ⟨hz s (List.mem_of_getElem? hj), (h2 j (.string s) (by rw [List.getElem?_map, hj]; rfl)).1⟩⟩
theorem own_I {w : World} {base : Nat} {v : Value} {n : Nat} {l : List Nat} {e : TypeId} (h : w.ownsRow base e 1 v n (l.map fun (i : Nat) => Value.int .i64 (i : Int))) (hm : n ≤ maxLen) : IIn w.heap.size w l v := by
  obtain ⟨h1, h2⟩ := own_cells h hm
  have hl : l.length = n := by have := h.1; simpa using this
  exact ⟨_, _, by rw [hl]; exact h1, fun j i hj => (h2 j (.int .i64 i) (by rw [List.getElem?_map, hj]; rfl)).1⟩
end Go.Proofs.YtlbdoomknjiilaaDoor
