/- What is whole: types. -/
import Derived.Test.YtojeijeimpffgaaGreatRJoinF
import Derived.Test.YtojeijeimpffgaaGreatRJoinD
import Derived.RangeFuncNested
namespace Go.Proofs.YtojeijeimpffgaaGreat
open Go.RowKit Go.Shelf
set_option linter.unusedVariables false
attribute [local go_sem] Oper.semAt_some

theorem all_yes2 {α : Type} {p : α → Bool} {l : List α} (h : ∀ (j : Nat) x, l[j]? = some x → p x = true) : l.all p = true := by
  rw [List.all_eq_true]
  intro x hx
  obtain ⟨j, hj⟩ := List.mem_iff_getElem?.1 hx
  exact h j x hj
theorem all_not2 {α : Type} {p : α → Bool} {l : List α} {k : Nat} {x : α} (h : l[k]? = some x) (hp : p x = false) : l.all p = false := by
  rw [Bool.eq_false_iff]
  intro hc
  have := List.all_eq_true.1 hc x (List.mem_of_getElem? h)
  rw [hp] at this; simp at this
/-- the contract of whole at a type -/
def WholeTAt (L : Nat) : Prop := ∀ (B : Nat) (t : PT) (st b o : Nat) (v : Value) (w : World), st ≤ 3 → B ≤ w.heap.size → MaxOk w → b < w.heap.size → CellsAt w b o (t.cells v) → t.In B w v →
  Calls Tryz.prog 27 #[.iface 111 (.agg #[.pointer (some ⟨b, o, none⟩), .int .u8 st]), .int .i64 L] w fun e w' => e = .returned (.bool (wholeT L t st)) ∧ Below w.heap.size w w'

end Go.Proofs.YtojeijeimpffgaaGreat

