/- Code: rowOf. -/
import Derived.Test.YtlbdoomknjiilaaDoorCodeSmall
namespace Go.Proofs.YtlbdoomknjiilaaDoor
open Go.RowKit
set_option linter.unusedVariables false

theorem RR.shape7 (r : RR) (w : World) (b : Nat) (h : At w b 0 r.cells) : ∀ (j : Nat) u, r.cells[j]? = some u → w.cell? ⟨b, 0 + j, none⟩ = some u := h
theorem results_row {fn : Func} {p : Tmp} (h : fn.results = #[.cell p 79]) (tmps : Array Value) (w : World) (g : Nat) (r : RR) (hp : tmps.getD p undef = .pointer (some ⟨g, 0, none⟩)) (h0 : At w g 0 r.cells) :
    (results fn tmps).run Tryd.prog w = .ok r.val w := by
  have hp' : tmps[p]?.getD undef = .pointer (some ⟨g, 0, none⟩) := by simpa using hp
  have hl := run_loadVar_mid (P := Tryd.prog) w g 0 79 r.cells _ h0 Tryd.underlying79 rfl (by kernel_rfl)
  simp [results, h, hp', asAddr, hl, RR.cells, RR.val]
set_option maxRecDepth 100000 in
set_option maxHeartbeats 1000000 in
theorem rowOf_calls (op : Int) (h : 0 ≤ op ∧ op ≤ 255) (w : World) (hT : RTab w.heap.size w) :
    Calls Tryd.prog 39 #[.int .u8 op] w fun e w' => e = .returned (rowR op).val ∧ Below w.heap.size w w' := by
  obtain ⟨k, rfl⟩ : ∃ k : Nat, op = k := ⟨op.toNat, by omega⟩
  have hw : IntKind.i64.wrap (k : Int) = k := IntWalk.i64_in _ (by omega)
  by_cases h35 : k < 35
  · have hr : rowR (k : Int) = (codeRows[k]?).getD noRow := by simp [rowR]
    have ht := hT.2 k h35
    have hl := hT.1
    rw [hr]
    generalize (codeRows[k]?).getD noRow = r at *
    have H0 : w.cell? ⟨0, k * 7, none⟩ = some (.string ⟨r.op.toArray⟩) := ht 0 _ rfl
    have H1 := ht 1 _ rfl
    have H2 := ht 2 _ rfl
    have H3 := ht 3 _ rfl
    have H4 := ht 4 _ rfl
    have H5 := ht 5 _ rfl
    have H6 := ht 6 _ rfl
    have hk : (k : Int) < 35 := by omega
    have HR : Hid (_ ∧ _) := Lib.hid (And.intro hr ht)
    clear hr ht
    go_enter Tryd.func39, Tryd.ntmps39
    go_wp2_with fail
    refine bodyPost_ret (v := r.val) (results_row rfl _ _ w.heap.size r rfl ?_) rfl ⟨rfl, ?_⟩
    · intro i v hi
      match i, hi with
      | 0, hi => cases hi; go_simp
      | 1, hi => cases hi; go_simp
      | 2, hi => cases hi; go_simp
      | 3, hi => cases hi; go_simp
      | 4, hi => cases hi; go_simp
      | 5, hi => cases hi; go_simp
      | 6, hi => cases hi; go_simp
    · first | exact box1 _ _ | (repeat (first | exact box1 _ _ | refine Below.setCell ?_ (by simp) _))
  · have hr : rowR (k : Int) = noRow := by
      have : codeRows[k]? = none := List.getElem?_eq_none (by show 35 ≤ k; omega)
      simp [rowR, this]
    rw [hr]
    have hk : ¬ (k : Int) < 35 := by omega
    clear hr
    go_enter Tryd.func39, Tryd.ntmps39
    go_wp2_with fail
    refine bodyPost_ret (v := noRow.val) (results_row rfl _ _ w.heap.size noRow rfl ?_) rfl ⟨rfl, ?_⟩
    · intro i v hi
      match i, hi with
      | 0, hi => cases hi; go_simp; rfl
      | 1, hi => cases hi; go_simp; rfl
      | 2, hi => cases hi; go_simp; rfl
      | 3, hi => cases hi; go_simp; rfl
      | 4, hi => cases hi; go_simp; rfl
      | 5, hi => cases hi; go_simp; rfl
      | 6, hi => cases hi; go_simp; rfl
    · first | exact box1 _ _ | (repeat (first | exact box1 _ _ | refine Below.setCell ?_ (by simp) _))
end Go.Proofs.YtlbdoomknjiilaaDoor
