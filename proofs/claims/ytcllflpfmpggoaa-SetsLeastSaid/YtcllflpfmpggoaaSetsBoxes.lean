/- States in boxes: what laws over states share. -/
import Derived.Test.YtcllflpfmpggoaaSetsKit
namespace Go.Proofs.Ytcllflpfmpggoaa
open Go.RowKit
set_option linter.unusedVariables false

theorem st_up {g : Nat} {W W' : World} {x y : Value} (hz : g < W.heap.size) (h0 : W.cell? ⟨g, 0, none⟩ = some x) (h1 : W.cell? ⟨g, 1, none⟩ = some y) (k : Below W.heap.size W W') :
    g < W'.heap.size ∧ W'.cell? ⟨g, 0, none⟩ = some x ∧ W'.cell? ⟨g, 1, none⟩ = some y :=
  ⟨Nat.lt_of_lt_of_le hz k.size, (k.cell (p := ⟨g, 0, none⟩) hz).trans h0, (k.cell (p := ⟨g, 1, none⟩) hz).trans h1⟩
theorem boxes3 {w W : World} {x0 x1 y0 y1 z0 z1 : Value} {t : TypeId} (hW : W = ((w.alloc (.cells #[x0, x1] t)).alloc (.cells #[y0, y1] t)).alloc (.cells #[z0, z1] t)) :
    (w.heap.size < W.heap.size ∧ W.cell? ⟨w.heap.size, 0, none⟩ = some x0 ∧ W.cell? ⟨w.heap.size, 1, none⟩ = some x1) ∧ (w.heap.size + 1 < W.heap.size ∧ W.cell? ⟨w.heap.size + 1, 0, none⟩ = some y0 ∧ W.cell? ⟨w.heap.size + 1, 1, none⟩ = some y1) ∧
      (w.heap.size + 1 + 1 < W.heap.size ∧ W.cell? ⟨w.heap.size + 1 + 1, 0, none⟩ = some z0 ∧ W.cell? ⟨w.heap.size + 1 + 1, 1, none⟩ = some z1) ∧ Hid (Below w.heap.size w W) := by
  subst hW
  exact ⟨⟨by simp; omega, by go_simp, by go_simp⟩, ⟨by simp; try omega, by go_simp, by go_simp⟩, ⟨by simp, by go_simp, by go_simp⟩, Lib.hid ((box2 _ _ _).alloc (by simp; omega) _)⟩
theorem boxes2 {w W : World} {x0 x1 y0 y1 : Value} {t : TypeId} (hW : W = (w.alloc (.cells #[x0, x1] t)).alloc (.cells #[y0, y1] t)) :
    (w.heap.size < W.heap.size ∧ W.cell? ⟨w.heap.size, 0, none⟩ = some x0 ∧ W.cell? ⟨w.heap.size, 1, none⟩ = some x1) ∧ (w.heap.size + 1 < W.heap.size ∧ W.cell? ⟨w.heap.size + 1, 0, none⟩ = some y0 ∧ W.cell? ⟨w.heap.size + 1, 1, none⟩ = some y1) ∧
      Hid (Below w.heap.size w W) := by
  subst hW
  exact ⟨⟨by simp; try omega, by go_simp, by go_simp⟩, ⟨by simp, by go_simp, by go_simp⟩, Lib.hid (box2 _ _ _)⟩
theorem boxes1 {w W : World} {x0 x1 : Value} {t : TypeId} (hW : W = w.alloc (.cells #[x0, x1] t)) :
    (w.heap.size < W.heap.size ∧ W.cell? ⟨w.heap.size, 0, none⟩ = some x0 ∧ W.cell? ⟨w.heap.size, 1, none⟩ = some x1) ∧ Below w.heap.size w W := by
  subst hW
  exact ⟨⟨by simp, by go_simp, by go_simp⟩, box1 _ _⟩

/-! ### what knows less -/
theorem less_iff {da db : Bool} {a b : List ByteArray} : lessB da a db b = true ↔ db = true ∨ (da = false ∧ ∀ s, s ∈ a → s ∈ b) := by
  unfold lessB
  rw [Bool.or_eq_true, Bool.and_eq_true, withinN_iff, Bool.not_eq_true']
theorem join_mem {da db : Bool} {a b : List ByteArray} (h : (da && db) = false) {s : ByteArray} : s ∈ joinL da a db b ↔ (da = true ∨ s ∈ a) ∧ (db = true ∨ s ∈ b) := by
  unfold joinL
  cases da <;> cases db <;> simp [pick_true] at h ⊢
theorem less_join1 (da db : Bool) (a b : List ByteArray) : lessB (da && db) (joinL da a db b) da a = true := by
  rw [less_iff]
  cases da with
  | true => exact .inl rfl
  | false =>
    refine .inr ⟨rfl, fun s hs => ?_⟩
    rw [join_mem rfl] at hs
    exact hs.1.resolve_left (by simp)
theorem less_join2 (da db : Bool) (a b : List ByteArray) : lessB (da && db) (joinL da a db b) db b = true := by
  rw [less_iff]
  cases db with
  | true => exact .inl rfl
  | false =>
    refine .inr ⟨by simp, fun s hs => ?_⟩
    rw [join_mem (by simp)] at hs
    exact hs.2.resolve_left (by simp)
theorem less_join3 (da db dc : Bool) (a b c : List ByteArray) (h1 : lessB dc c da a = true) (h2 : lessB dc c db b = true) : lessB dc c (da && db) (joinL da a db b) = true := by
  rw [less_iff] at *
  cases h : da && db with
  | true => exact .inl rfl
  | false =>
    right
    have hd : dc = false := by
      rcases h1 with h1 | h1
      · rcases h2 with h2 | h2
        · rw [h1, h2] at h; cases h
        · exact h2.1
      · exact h1.1
    refine ⟨hd, fun s hs => ?_⟩
    rw [join_mem h]
    exact ⟨h1.imp id fun h => h.2 s hs, h2.imp id fun h => h.2 s hs⟩
theorem less_self (da : Bool) (a : List ByteArray) : lessB da a da a = true := by
  rw [less_iff]
  cases da with
  | true => exact .inl rfl
  | false => exact .inr ⟨rfl, fun s h => h⟩
theorem join_short {da db : Bool} {a b : List ByteArray} (h1 : a.length ≤ 60) (h2 : b.length ≤ 60) : (joinL da a db b).length ≤ 60 := by
  have p1 := pick_len a b true
  have p2 := pick_len a a true
  have p3 := pick_len b b true
  unfold joinL
  split
  · simp
  · split
    · omega
    · split <;> omega
end Go.Proofs.Ytcllflpfmpggoaa
