/- What the law's spoil leaves: strings and numbers turn, in new memory; slices stay. -/
import Derived.Test.YtabncmmadbjegaaTreeBench
namespace Go.Proofs.Ytabncmmadbjegaa
open Go.RowKit
set_option linter.unusedVariables false

/-- of one kind; slices the same -/
inductive Alike : Value → Value → Prop
  | same (v : Value) : Alike v v
  | str (s t : ByteArray) : Alike (.string s) (.string t)
  | u8 (x y : Int) : Alike (.int .u8 x) (.int .u8 y)
theorem Alike.trans {a b c : Value} (h : Alike a b) (k : Alike b c) : Alike a c := by
  cases h with
  | same => exact k
  | str s t => cases k with
    | same => exact .str _ _
    | str => exact .str _ _
  | u8 x y => cases k with
    | same => exact .u8 _ _
    | u8 => exact .u8 _ _
theorem Alike.string {s : ByteArray} {v : Value} (h : Alike (.string s) v) : ∃ t, v = .string t := by cases h <;> exact ⟨_, rfl⟩
theorem Alike.slice {a : Option Addr} {n c : Nat} {v : Value} (h : Alike (.slice a n c) v) : v = .slice a n c := by cases h; rfl
theorem Alike.byte {x : Int} {v : Value} (h : Alike (.int .u8 x) v) : ∃ y, v = .int .u8 y := by cases h <;> exact ⟨_, rfl⟩
theorem Alike.i64 {x : Int} {v : Value} (h : Alike (.int .i64 x) v) : v = .int .i64 x := by cases h; rfl
/-- nothing but strings and bytes in blocks from m below H has turned -/
structure Spoil (m H : Nat) (W W' : World) : Prop where
  os : W'.os = W.os
  tape : W'.tape = W.tape
  output : W'.output = W.output
  size : W.heap.size ≤ W'.heap.size
  keep : ∀ b, b < W.heap.size → (b < m ∨ H ≤ b) → W'.heap[b]? = W.heap[b]?
  alike : ∀ b o v, W.cell? ⟨b, o, none⟩ = some v → ∃ v', W'.cell? ⟨b, o, none⟩ = some v' ∧ Alike v v'
  frz : ∀ b o, b < W.heap.size → W'.frozen? ⟨b, o, none⟩ = W.frozen? ⟨b, o, none⟩
theorem Spoil.refl (m H : Nat) (W : World) : Spoil m H W W := ⟨rfl, rfl, rfl, Nat.le_refl _, fun _ _ _ => rfl, fun _ _ v h => ⟨v, h, .same v⟩, fun _ _ _ => rfl⟩
theorem Spoil.trans {m H : Nat} {a b c : World} (h : Spoil m H a b) (k : Spoil m H b c) : Spoil m H a c :=
  ⟨k.os.trans h.os, k.tape.trans h.tape, k.output.trans h.output, Nat.le_trans h.size k.size, fun i h1 h2 => (k.keep i (Nat.lt_of_lt_of_le h1 h.size) h2).trans (h.keep i h1 h2),
    fun b o v hv => by
      obtain ⟨v1, h1, h2⟩ := h.alike b o v hv
      obtain ⟨v2, h3, h4⟩ := k.alike b o v1 h1
      exact ⟨v2, h3, h2.trans h4⟩,
    fun b o hb => (k.frz b o (Nat.lt_of_lt_of_le hb h.size)).trans (h.frz b o hb)⟩
theorem Spoil.of_below {m H : Nat} {W W' : World} (h : Below W.heap.size W W') : Spoil m H W W' :=
  ⟨h.os, h.tape, h.output, h.size, fun b hb _ => h.block b hb, fun b o v hv => ⟨v, (h.cell (p := ⟨b, o, none⟩) (World.block_lt_of_cell? W _ hv)).trans hv, .same v⟩, fun b o hb => h.frozen (p := ⟨b, o, none⟩) hb⟩
theorem Spoil.alloc {m H : Nat} {W W' : World} (h : Spoil m H W W') (o : Obj) : Spoil m H W (W'.alloc o) := h.trans (Spoil.of_below ((Below.refl _ W').alloc (Nat.le_refl _) o))
theorem Spoil.set {m H : Nat} {W W' : World} (h : Spoil m H W W') {b o : Nat} {v z : Value} (hc : W'.cell? ⟨b, o, none⟩ = some v) (ha : Alike v z) (hm : m ≤ b) (hH : b < H) : Spoil m H W (W'.setCell ⟨b, o, none⟩ z) := by
  refine h.trans ⟨rfl, rfl, rfl, by simp, fun i h1 h2 => Below.heap_setCell _ _ _ i (by simp; omega), fun b' o' v' hv => ?_, fun b' o' hb => by rw [World.frozen?_setCell]⟩
  by_cases e : (⟨b, o, none⟩ : Addr) = ⟨b', o', none⟩
  · injection e with e1 e2
    subst e1; subst e2
    rw [hc] at hv
    obtain rfl := Option.some.inj hv
    exact ⟨z, by rw [World.cell?_setCell_same' _ _ _ (by rw [hc]; rfl)], ha⟩
  · exact ⟨v', by rw [World.cell?_setCell_other _ _ _ _ e]; exact hv, .same v'⟩
theorem Spoil.below {m H : Nat} {W W' : World} (h : Spoil m H W W') (hm : m ≤ W.heap.size) : Below m W W' := ⟨h.os, h.tape, h.output, h.size, fun b hb => h.keep b (Nat.lt_of_lt_of_le hb hm) (.inl hb)⟩
/-- w with the blocks from m below H that may be written -/
def Frb (m H : Nat) (w : World) : World := only (fun i => decide (m ≤ i) && (decide (i < H) && free w i)) w
theorem Frb.cell {m H : Nat} {w : World} {a : Addr} {v : Value} (h : (Frb m H w).cell? a = some v) : w.cell? a = some v ∧ m ≤ a.block ∧ a.block < H ∧ free w a.block = true := by
  obtain ⟨h1, h2⟩ := only_cell h
  have h3 : m ≤ a.block ∧ a.block < H ∧ free w a.block = true := by simpa using h1
  exact ⟨h2, h3⟩
/-- what lies in new blocks of W lies in these blocks of W', where these are as they were -/
theorem Frb.reads {m m' : Nat} {W W' : World} (hm : m' ≤ m) (h : ∀ i, m ≤ i → i < W.heap.size → W'.heap[i]? = W.heap[i]?) : Reads (Fr m W) (Frb m' W.heap.size W') := by
  apply Reads.to_only
  intro a v hc
  obtain ⟨h1, h2, h3⟩ := Fr.cell hc
  have hl := World.block_lt_of_cell? W a h1
  have h4 := h a.block h2 hl
  refine ⟨?_, by rw [World.cell?_of_block (w := W) h4]; exact h1⟩
  have h5 := free_same h4
  simp only [Bool.and_eq_true, decide_eq_true_eq]
  exact ⟨by omega, hl, by rw [h5]; exact h3⟩
theorem Frb.same {m H : Nat} {W W' : World} (h : ∀ i, m ≤ i → i < H → W'.heap[i]? = W.heap[i]?) : Reads (Frb m H W) (Frb m H W') := by
  apply Reads.to_only
  intro a v hc
  obtain ⟨h1, h2, h3, h4⟩ := Frb.cell hc
  have h5 := h a.block h2 h3
  refine ⟨?_, by rw [World.cell?_of_block (w := W) h5]; exact h1⟩
  simp only [Bool.and_eq_true, decide_eq_true_eq]
  exact ⟨h2, h3, by rw [free_same h5]; exact h4⟩
/-- a row of items in these blocks -/
def IsB (m H : Nat) (W : World) (l : List PI) (v : Value) : Prop := ∃ b o, SlV W.heap.size v l.length b o ∧ PI.Row W.heap.size (Frb m H W) b o l
theorem IsB.of {m m' : Nat} {W W' : World} {l : List PI} {v : Value} (h : IsF m W l v) (hs : W.heap.size ≤ W'.heap.size) (hm : m' ≤ m) (k : ∀ i, m ≤ i → i < W.heap.size → W'.heap[i]? = W.heap[i]?) : IsB m' W.heap.size W' l v := by
  obtain ⟨b, o, h1, h2⟩ := h
  exact ⟨b, o, h1.up hs, PI.Row.reads hs (Frb.reads hm k) h2⟩
theorem IsB.keep {m H : Nat} {W W' : World} {l : List PI} {v : Value} (h : IsB m H W l v) (hs : W.heap.size ≤ W'.heap.size) (k : ∀ i, m ≤ i → i < H → W'.heap[i]? = W.heap[i]?) : IsB m H W' l v := by
  obtain ⟨b, o, h1, h2⟩ := h
  exact ⟨b, o, h1.up hs, PI.Row.reads hs (Frb.same k) h2⟩
theorem IsB.prog {m H : Nat} {W : World} {l : List PI} {v : Value} (h : IsB m H W l v) : ProgIn W.heap.size W l v := by
  obtain ⟨b, o, h1, h2⟩ := h
  exact ⟨b, o, h1, PI.Row.reads (Nat.le_refl _) (Reads.only _ _) h2⟩
/-- a cell that may be written is there still, of its kind -/
theorem Spoil.at {m H : Nat} {W W' : World} (h : Spoil m H W W') {m' H' b o : Nat} {v : Value} (hc : (Frb m' H' W).cell? ⟨b, o, none⟩ = some v) : ∃ v', W'.cell? ⟨b, o, none⟩ = some v' ∧ Alike v v' ∧ W'.frozen? ⟨b, o, none⟩ = false ∧ m' ≤ b ∧ b < H' := by
  obtain ⟨h1, h2, hH, h3⟩ := Frb.cell hc
  have hlt := World.block_lt_of_cell? W _ h1
  obtain ⟨v', h4, h5⟩ := h.alike b o v h1
  exact ⟨v', h4, h5, (h.frz b o hlt).trans (free_frozen h3), h2, hH⟩
theorem Spoil.str {m H : Nat} {W W' : World} (h : Spoil m H W W') {m' H' b o : Nat} {s : ByteArray} (hc : (Frb m' H' W).cell? ⟨b, o, none⟩ = some (.string s)) : ∃ t, W'.cell? ⟨b, o, none⟩ = some (.string t) ∧ W'.frozen? ⟨b, o, none⟩ = false ∧ m' ≤ b ∧ b < H' := by
  obtain ⟨v, h1, h2, h3⟩ := h.at hc
  obtain ⟨t, rfl⟩ := h2.string
  exact ⟨t, h1, h3⟩
theorem Spoil.byte {m H : Nat} {W W' : World} (h : Spoil m H W W') {m' H' b o : Nat} {x : Int} (hc : (Frb m' H' W).cell? ⟨b, o, none⟩ = some (.int .u8 x)) : ∃ y, W'.cell? ⟨b, o, none⟩ = some (.int .u8 y) ∧ W'.frozen? ⟨b, o, none⟩ = false ∧ m' ≤ b ∧ b < H' := by
  obtain ⟨v, h1, h2, h3⟩ := h.at hc
  obtain ⟨t, rfl⟩ := h2.byte
  exact ⟨t, h1, h3⟩
theorem Spoil.sl {m H : Nat} {W W' : World} (h : Spoil m H W W') {m' H' b o : Nat} {a : Option Addr} {n c : Nat} (hc : (Frb m' H' W).cell? ⟨b, o, none⟩ = some (.slice a n c)) : W'.cell? ⟨b, o, none⟩ = some (.slice a n c) := by
  obtain ⟨v, h1, h2, _⟩ := h.at hc
  rw [h2.slice] at h1; exact h1
theorem Spoil.num {m H : Nat} {W W' : World} (h : Spoil m H W W') {m' H' b o : Nat} {x : Int} (hc : (Frb m' H' W).cell? ⟨b, o, none⟩ = some (.int .i64 x)) : W'.cell? ⟨b, o, none⟩ = some (.int .i64 x) := by
  obtain ⟨v, h1, h2, _⟩ := h.at hc
  rw [h2.i64] at h1; exact h1
end Go.Proofs.Ytabncmmadbjegaa
