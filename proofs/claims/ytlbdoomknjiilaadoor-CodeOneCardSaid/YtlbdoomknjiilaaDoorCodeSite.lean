/- Code: site.may. -/
import Derived.Test.YtlbdoomknjiilaaDoorCodeFit3
namespace Go.Proofs.YtlbdoomknjiilaaDoor
open Go.RowKit
set_option linter.unusedVariables false

/-- the seven tests of an instruction that is known, one behind the other -/
def mayR (u : UU) (f : FF) (x : JJ) (r : RR) : List Bool :=
  [fitsB u f r.a x.a x.a, fitsB u f r.b x.b x.a, fitsB u f r.i x.int x.a, decide (x.c = 0), decide (x.names = 0), if r.p then pathB x.path else decide (x.path.length = 0), if r.s then slotsB x.slots f.code.length else decide (x.slots.length = 0), if r.n then nameB x.name else decide (x.name.size = 0)]
theorem sorts_le : ∀ k : Nat, k < 35 → ((codeRows[k]?).getD noRow).a ≤ 14 ∧ ((codeRows[k]?).getD noRow).b ≤ 14 ∧ ((codeRows[k]?).getD noRow).i ≤ 14 ∧ (((codeRows[k]?).getD noRow).b = 4 → ((codeRows[k]?).getD noRow).a = 3) ∧ ((codeRows[k]?).getD noRow).a ≠ 4 ∧ ((codeRows[k]?).getD noRow).i ≠ 4 ∧ ((codeRows[k]?).getD noRow).b ≠ 3 ∧ ((codeRows[k]?).getD noRow).i ≠ 3 := by decide +kernel
theorem rowR_sorts (op : Int) : (rowR op).a ≤ 14 ∧ (rowR op).b ≤ 14 ∧ (rowR op).i ≤ 14 ∧ ((rowR op).b = 4 → (rowR op).a = 3) ∧ (rowR op).a ≠ 4 ∧ (rowR op).i ≠ 4 ∧ (rowR op).b ≠ 3 ∧ (rowR op).i ≠ 3 := by
  unfold rowR
  by_cases h : op.toNat < 35
  · exact sorts_le _ h
  · rw [List.getElem?_eq_none (by show 35 ≤ op.toNat; omega)]
    simp [noRow]
theorem h4_of {u : UU} {f : FF} {x : JJ} (hne : u.funcs ≠ []) (h : fitsB u f (rowR x.op).a x.a x.a = true) : (rowR x.op).b = 4 → 0 ≤ x.a ∧ x.a < u.funcs.length := by
  intro h4
  rw [(rowR_sorts x.op).2.2.2.1 h4] at h
  have : withinB x.a 0 ((u.funcs.length : Int) - 1) = true := h
  unfold withinB at this
  rw [Bool.and_eq_true, decide_eq_true_iff, decide_eq_true_iff] at this
  omega
/-- cells of a box, read in each world that lies over the one in which they were laid -/
theorem cell_over {w w' : World} {b o : Nat} {v : Value} (h : w.cell? ⟨b, o, none⟩ = some v) (k : Below w.heap.size w w') : w'.cell? ⟨b, o, none⟩ = some v := (k.cell (p := ⟨b, o, none⟩) (World.block_lt_of_cell? w _ h)).trans h
end Go.Proofs.YtlbdoomknjiilaaDoor
