/- Places in memory. -/
import Derived.Test.YtlbdoomknjiilaaDoorPathsMath
import Derived.Below
import Derived.Lib.Hide
import Derived.Sort.Grow
import Derived.Deep.Draws
namespace Go.Proofs.YtlbdoomknjiilaaDoor
open Go.RowKit
set_option linter.unusedVariables false

structure PP where
  name : ByteArray
  path : List ByteArray
def keyS (s : ByteArray) : List UInt8 := s.data.toList
def PP.key (p : PP) : K := keyS p.name :: p.path.map keyS
def begP (a b : PP) : Bool := begK a.key b.key
def sameP (a b : PP) : Bool := decide (a.key = b.key)
def meetP (a b : PP) : Bool := begP a b || begP b a

/-! ### memory -/
/-- no text that is handed in is longer -/
def strMax : Nat := 140737488355328
/-- v is the slice value of a row of n elements: nil, or from a place below block B on -/
def SlP (B : Nat) (v : Value) (n b o : Nat) : Prop := n ≤ maxLen ∧ ∃ ao cap, v = .slice ao n cap ∧ n ≤ cap ∧ (n = 0 ∨ (ao = some ⟨b, o, none⟩ ∧ b < B))
def RowS (w : World) (b o : Nat) (l : List ByteArray) : Prop := ∀ (j : Nat) s, l[j]? = some s → s.size ≤ strMax ∧ w.cell? ⟨b, o + j, none⟩ = some (.string s)
def SIn (B : Nat) (w : World) (l : List ByteArray) (v : Value) : Prop := ∃ b o, SlP B v l.length b o ∧ RowS w b o l
def PP.In (B : Nat) (w : World) (x : PP) (v : Value) : Prop := x.name.size ≤ strMax ∧ SIn B w x.path v
def RowL (B : Nat) (w : World) (b o : Nat) (l : List PP) : Prop := ∀ (j : Nat) x, l[j]? = some x → ∃ v, w.cell? ⟨b, o + j * 2, none⟩ = some (.string x.name) ∧ w.cell? ⟨b, o + j * 2 + 1, none⟩ = some v ∧ x.In B w v
def LIn (B : Nat) (w : World) (l : List PP) (v : Value) : Prop := ∃ b o, SlP B v l.length b o ∧ RowL B w b o l
/-- a row of numbers -/
def RowI (w : World) (b o : Nat) (l : List Nat) : Prop := ∀ (j i : Nat), l[j]? = some i → w.cell? ⟨b, o + j, none⟩ = some (.int .i64 (i : Int))
def IIn (B : Nat) (w : World) (l : List Nat) (v : Value) : Prop := ∃ b o, SlP B v l.length b o ∧ RowI w b o l

theorem SlP.mono {B B' : Nat} {v : Value} {n b o : Nat} (h : SlP B v n b o) (hB : B ≤ B') : SlP B' v n b o := by
  obtain ⟨h1, ao, cap, h2, h3, h4⟩ := h
  exact ⟨h1, ao, cap, h2, h3, h4.imp id fun h => ⟨h.1, Nat.lt_of_lt_of_le h.2 hB⟩⟩
theorem SlP.lt {B : Nat} {v : Value} {n b o : Nat} (h : SlP B v n b o) (hn : n ≠ 0) : b < B := by
  obtain ⟨_, ao, cap, _, _, h | h⟩ := h
  · exact absurd h hn
  · exact h.2
theorem SlP.shape {B : Nat} {v : Value} {n b o : Nat} (h : SlP B v n b o) : ∃ ao cap, v = .slice ao n cap := by
  obtain ⟨_, ao, cap, h, _⟩ := h
  exact ⟨ao, cap, h⟩
theorem some_lt {α : Type} {l : List α} {j : Nat} {x : α} (h : l[j]? = some x) : j < l.length := (List.getElem?_eq_some_iff.1 h).1
theorem some_pos {α : Type} {l : List α} {j : Nat} {x : α} (h : l[j]? = some x) : l.length ≠ 0 := by have := some_lt h; omega
theorem RowS.below {B : Nat} {w w' : World} {b o : Nat} {l : List ByteArray} (hb : l.length ≠ 0 → b < B) (h : RowS w b o l) (k : Below B w w') : RowS w' b o l :=
  fun j s hj => ⟨(h j s hj).1, (k.cell (p := ⟨b, o + j, none⟩) (hb (some_pos hj))).trans (h j s hj).2⟩
theorem SIn.below {B : Nat} {w w' : World} {l : List ByteArray} {v : Value} (h : SIn B w l v) (k : Below B w w') : SIn B w' l v := by
  obtain ⟨b, o, hs, hr⟩ := h
  exact ⟨b, o, hs, hr.below (fun h => hs.lt h) k⟩
theorem SIn.mono {B B' : Nat} {w : World} {l : List ByteArray} {v : Value} (h : SIn B w l v) (hB : B ≤ B') : SIn B' w l v := by
  obtain ⟨b, o, hs, hr⟩ := h
  exact ⟨b, o, hs.mono hB, hr⟩
theorem PP.In.below {B : Nat} {w w' : World} {x : PP} {v : Value} (h : x.In B w v) (k : Below B w w') : x.In B w' v := ⟨h.1, h.2.below k⟩
theorem PP.In.mono {B B' : Nat} {w : World} {x : PP} {v : Value} (h : x.In B w v) (hB : B ≤ B') : x.In B' w v := ⟨h.1, h.2.mono hB⟩
theorem RowL.below {B : Nat} {w w' : World} {b o : Nat} {l : List PP} (hb : l.length ≠ 0 → b < B) (h : RowL B w b o l) (k : Below B w w') : RowL B w' b o l := by
  intro j x hj
  obtain ⟨v, h1, h2, h3⟩ := h j x hj
  exact ⟨v, (k.cell (p := ⟨b, o + j * 2, none⟩) (hb (some_pos hj))).trans h1, (k.cell (p := ⟨b, o + j * 2 + 1, none⟩) (hb (some_pos hj))).trans h2, h3.below k⟩
theorem LIn.below {B : Nat} {w w' : World} {l : List PP} {v : Value} (h : LIn B w l v) (k : Below B w w') : LIn B w' l v := by
  obtain ⟨b, o, hs, hr⟩ := h
  exact ⟨b, o, hs, hr.below (fun h => hs.lt h) k⟩
theorem RowL.mono {B B' : Nat} {w : World} {b o : Nat} {l : List PP} (h : RowL B w b o l) (hB : B ≤ B') : RowL B' w b o l := by
  intro j x hj
  obtain ⟨v, h1, h2, h3⟩ := h j x hj
  exact ⟨v, h1, h2, h3.mono hB⟩
theorem LIn.mono {B B' : Nat} {w : World} {l : List PP} {v : Value} (h : LIn B w l v) (hB : B ≤ B') : LIn B' w l v := by
  obtain ⟨b, o, hs, hr⟩ := h
  exact ⟨b, o, hs.mono hB, hr.mono hB⟩
theorem IIn.below {B : Nat} {w w' : World} {l : List Nat} {v : Value} (h : IIn B w l v) (k : Below B w w') : IIn B w' l v := by
  obtain ⟨b, o, hs, hr⟩ := h
  exact ⟨b, o, hs, fun j i hj => (k.cell (p := ⟨b, o + j, none⟩) (hs.lt (some_pos hj))).trans (hr j i hj)⟩
theorem IIn.mono {B B' : Nat} {w : World} {l : List Nat} {v : Value} (h : IIn B w l v) (hB : B ≤ B') : IIn B' w l v := by
  obtain ⟨b, o, hs, hr⟩ := h
  exact ⟨b, o, hs.mono hB, hr⟩
theorem PP.In.shape {B : Nat} {w : World} {x : PP} {v : Value} (h : x.In B w v) : ∃ ao cap, v = .slice ao x.path.length cap := by
  obtain ⟨_, b, o, hs, _⟩ := h
  exact hs.shape
theorem LIn.shape {B : Nat} {w : World} {l : List PP} {v : Value} (h : LIn B w l v) : ∃ ao cap, v = .slice ao l.length cap := by
  obtain ⟨b, o, hs, _⟩ := h
  exact hs.shape
theorem IIn.shape {B : Nat} {w : World} {l : List Nat} {v : Value} (h : IIn B w l v) : ∃ ao cap, v = .slice ao l.length cap := by
  obtain ⟨b, o, hs, _⟩ := h
  exact hs.shape

/-! ### small things -/
theorem ret_bool {a b : Bool} (h : a = b) : Ending.returned (.bool a) = .returned (.bool b) := by rw [h]
theorem ret_int {a b : Int} (h : a = b) : Ending.returned (.int .i64 a) = .returned (.int .i64 b) := by rw [h]
theorem up_tr {w w1 w2 : World} (a : Below w.heap.size w w1) (b : Below w1.heap.size w1 w2) : Below w.heap.size w w2 := a.trans (b.mono a.size)
theorem box1 (w : World) (o : Obj) : Below w.heap.size w (w.alloc o) := (Below.refl _ w).alloc (Nat.le_refl _) _
theorem box2 (w : World) (a b : Obj) : Below w.heap.size w ((w.alloc a).alloc b) := ((Below.refl _ w).alloc (Nat.le_refl _) _).alloc (by simp) _
theorem old_cells {W w1 : World} (hb : Below W.heap.size W w1) : ∀ b o, b < W.heap.size → w1.cell? ⟨b, o, none⟩ = W.cell? ⟨b, o, none⟩ := fun b o h => hb.cell (p := ⟨b, o, none⟩) h
theorem below_drewN (w : World) (q : Nat) : Below w.heap.size w (w.drewN q) := by
  refine ⟨?_, ?_, ?_, ?_, ?_⟩ <;> first | rfl | simp
theorem get_at {α : Type} {l : List α} {k : Nat} (h : k < l.length) : ∃ a, l[k]? = some a ∧ a ∈ l := ⟨l[k], List.getElem?_eq_getElem h, List.getElem_mem h⟩
theorem keyS_eq {a b : ByteArray} : a.toList = b.toList ↔ keyS a = keyS b := by
  unfold keyS; rw [ByteArray.toList_eq, ByteArray.toList_eq]
theorem key_same {a b : ByteArray} : keyS a = keyS b ↔ a = b := by
  unfold keyS
  constructor
  · intro h; cases a; cases b; simp at h; rw [h]
  · rintro rfl; rfl
theorem str_eq {a b : ByteArray} (h : keyS a = keyS b) : (a.toList == b.toList) = true := beq_iff_eq.2 (keyS_eq.2 h)
theorem str_ne {a b : ByteArray} (h : ¬ keyS a = keyS b) : (a.toList == b.toList) = false := beq_eq_false_iff_ne.2 fun e => h (keyS_eq.1 e)
theorem str_neq {a b : ByteArray} (h : ¬ keyS a = keyS b) : (!a.toList == b.toList) = true := by rw [str_ne h]; rfl
theorem str_neq' {a b : ByteArray} (h : keyS a = keyS b) : (!a.toList == b.toList) = false := by rw [str_eq h]; rfl

/-! ### when one begins another -/
theorem prefix_at {α : Type} {a b : List α} (h : a.length ≤ b.length) (he : ∀ (j : Nat) x y, a[j]? = some x → b[j]? = some y → x = y) : a <+: b := by
  rw [List.prefix_iff_eq_take]
  apply List.ext_getElem?
  intro j
  by_cases hj : j < a.length
  · rw [List.getElem?_take_of_lt hj]
    have h1 : a[j]? = some a[j] := List.getElem?_eq_getElem hj
    have h2 : b[j]? = some b[j] := List.getElem?_eq_getElem (by omega)
    rw [h1, h2, he j _ _ h1 h2]
  · rw [List.getElem?_eq_none (by omega), List.getElem?_eq_none (by simp; omega)]
theorem prefix_get {α : Type} {a b : List α} (h : a <+: b) {j : Nat} {x y : α} (hx : a[j]? = some x) (hy : b[j]? = some y) : x = y := by
  obtain ⟨t, rfl⟩ := h
  rw [List.getElem?_append_left (some_lt hx)] at hy
  exact Option.some.inj (hx.symm.trans hy)
theorem beg_no_name {a b : PP} (h : ¬ keyS a.name = keyS b.name) : begP a b = false := by
  unfold begP
  rw [Bool.eq_false_iff, Ne, begK_iff]
  intro hp
  exact h (List.cons_prefix_cons.1 hp).1
theorem beg_no_len {a b : PP} (h : b.path.length < a.path.length) : begP a b = false := by
  unfold begP
  rw [Bool.eq_false_iff, Ne, begK_iff]
  intro hp
  have := hp.length_le
  simp [PP.key] at this
  omega
theorem beg_no_at {a b : PP} {j : Nat} {x y : ByteArray} (hx : a.path[j]? = some x) (hy : b.path[j]? = some y) (h : ¬ keyS x = keyS y) : begP a b = false := by
  unfold begP
  rw [Bool.eq_false_iff, Ne, begK_iff]
  intro hp
  have := (List.cons_prefix_cons.1 hp).2
  exact h (prefix_get this (j := j) (by rw [List.getElem?_map, hx]; rfl) (by rw [List.getElem?_map, hy]; rfl))
theorem beg_yes {a b : PP} (hn : keyS a.name = keyS b.name) (hl : a.path.length ≤ b.path.length) (he : ∀ (j : Nat) x y, a.path[j]? = some x → b.path[j]? = some y → keyS x = keyS y) : begP a b = true := by
  unfold begP
  rw [begK_iff]
  refine List.cons_prefix_cons.2 ⟨hn, prefix_at (by simpa using hl) fun j x y hx hy => ?_⟩
  rw [List.getElem?_map, Option.map_eq_some_iff] at hx hy
  obtain ⟨x', hx, rfl⟩ := hx
  obtain ⟨y', hy, rfl⟩ := hy
  exact he j _ _ hx hy
theorem same_of_beg (a b : PP) : sameP a b = (decide (a.path.length = b.path.length) && begP a b) := by
  rw [Bool.eq_iff_iff]
  unfold sameP begP
  rw [Bool.and_eq_true, decide_eq_true_eq, decide_eq_true_eq, begK_iff]
  constructor
  · intro h
    refine ⟨?_, by rw [h]; exact List.prefix_refl _⟩
    have := congrArg List.length h
    simpa [PP.key] using this
  · rintro ⟨h1, h2⟩
    exact h2.eq_of_length (by simp [PP.key, h1])
end Go.Proofs.YtlbdoomknjiilaaDoor
