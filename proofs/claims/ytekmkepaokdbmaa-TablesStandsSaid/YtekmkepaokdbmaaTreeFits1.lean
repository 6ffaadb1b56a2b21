/- What fits, first part: texts, places, lists of names (made by gen_fits1.py). -/
import Derived.Test.YtekmkepaokdbmaaTreeWholeMath
import Derived.Test.YtekmkepaokdbmaaTreeSameE
import Derived.Test.YtekmkepaokdbmaaLexSays
namespace Go.Proofs.Ytekmkepaokdbmaa
open Go.RowKit
set_option linter.unusedVariables false

theorem nul_size (s : ByteArray) : (s.toList = []) = (s.size = 0) := by
  rw [ByteArray.toList_eq]
  apply propext
  constructor
  · intro h
    obtain ⟨⟨l⟩⟩ := s
    have : l = [] := h
    subst this; rfl
  · intro h
    obtain ⟨⟨l⟩⟩ := s
    have : l = [] := by simpa [ByteArray.size] using h
    subst this; rfl
theorem old_cells' {W w1 : World} (hb : Below W.heap.size W w1) : ∀ b o, b < W.heap.size → w1.cell? ⟨b, o, none⟩ = W.cell? ⟨b, o, none⟩ := old_cells hb
theorem MaxOk.alloc {w : World} (h : MaxOk w) (o : Obj) : MaxOk (w.alloc o) := h.below ((Below.refl _ w).alloc (Nat.le_refl _) o)
theorem MaxOk.drew {w : World} (h : MaxOk w) : MaxOk w.drew := h.below (Below.refl _ w).drew
theorem MaxOk.drewN {w : World} (h : MaxOk w) (n : Nat) : MaxOk (w.drewN n) := h.below (below_drewN w n)

set_option maxHeartbeats 1000000 in
theorem textFits_calls (x : Nat) (hx : x ≤ 3) (s : ByteArray) (hs : s.size ≤ maxLen) (w : World) (hm : MaxOk w) :
    Calls Try.prog 85 #[.int .u8 x, .string s] w fun e w' => e = .returned (.bool (txB x s)) ∧ Below w.heap.size w w' := by
  have C := Lib.hid fun w h => name_says s hs w h
  have D := Lib.hid fun w h => type_says s hs w h
  have hN : txB 1 s = nmB s := rfl
  have hT : txB 3 s = tyB s := rfl
  have h2 : txB 2 s = (noB s || nmB s) := rfl
  have h0 : txB 0 s = noB s := rfl
  have C2 : Hid (∀ w, MaxOk w → Calls Try.prog 87 #[.string s] w fun e w' => e = .returned (.bool (nmB s)) ∧ Below w.heap.size w w') := C
  have D2 : Hid (∀ w, MaxOk w → Calls Try.prog 88 #[.string s] w fun e w' => e = .returned (.bool (tyB s)) ∧ Below w.heap.size w w') := D
  clear C D
  have hno : noB s = decide (s.toList = []) := by unfold noB; rw [decide_eq_decide, nul_size]
  rcases (show x = 0 ∨ x = 1 ∨ x = 2 ∨ x = 3 by omega) with rfl | rfl | rfl | rfl
  · rw [h0, hno]
    show Calls Try.prog 85 #[.int .u8 0, .string s] w _
    go_enter Try.func85, Try.ntmps85
    go_wp2
    go_ret
    exact ⟨ret_bool (by cases s.toList <;> simp), Below.refl _ _⟩
  · rw [hN]
    show Calls Try.prog 85 #[.int .u8 1, .string s] w _
    go_enter Try.func85, Try.ntmps85
    go_wp2_with fail
    refine (C2.out _ hm).mono ?_; rintro e w1 ⟨rfl, b1⟩
    go_wp2
    go_ret
    exact ⟨rfl, b1⟩
  · rw [h2, hno]
    show Calls Try.prog 85 #[.int .u8 2, .string s] w _
    by_cases he : s.toList = []
    · go_enter Try.func85, Try.ntmps85
      go_wp2_with fail
      go_ret
      exact ⟨ret_bool (by simp [he]), Below.refl _ _⟩
    · have he2 : s.toList.isEmpty = false := by cases h : s.toList with | nil => exact absurd h he | cons a l => rfl
      go_enter Try.func85, Try.ntmps85
      go_wp2_with fail
      refine (C2.out _ hm).mono ?_; rintro e w1 ⟨rfl, b1⟩
      go_wp2
      go_ret
      exact ⟨ret_bool (by simp [he]), b1⟩
  · rw [hT]
    show Calls Try.prog 85 #[.int .u8 3, .string s] w _
    go_enter Try.func85, Try.ntmps85
    go_wp2_with fail
    refine (D2.out _ hm).mono ?_; rintro e w1 ⟨rfl, b1⟩
    go_wp2
    go_ret
    exact ⟨rfl, b1⟩
theorem any_no {α : Type} {p : α → Bool} {l : List α} (h : ∀ (j : Nat) x, l[j]? = some x → p x = false) : l.any p = false := by
  rw [Bool.eq_false_iff]
  intro hc
  obtain ⟨x, hx, hp⟩ := List.any_eq_true.1 hc
  obtain ⟨j, hj⟩ := List.mem_iff_getElem?.1 hx
  rw [h j x hj] at hp; simp at hp
theorem any_yes {α : Type} {p : α → Bool} {l : List α} {k : Nat} {x : α} (h : l[k]? = some x) (hp : p x = true) : l.any p = true := List.any_eq_true.2 ⟨x, List.mem_of_getElem? h, hp⟩
theorem ret_i64 {a b : Int} (h : a = b) : Ending.returned (.int .i64 a) = .returned (.int .i64 b) := by rw [h]

theorem not_any (l : List ByteArray) (p : ByteArray → Bool) : (!(l.any fun s => !p s)) = l.all p := by
  induction l with
  | nil => rfl
  | cons a l ih => simp [List.any_cons, List.all_cons, ← ih, Bool.not_or]
end Go.Proofs.Ytekmkepaokdbmaa
