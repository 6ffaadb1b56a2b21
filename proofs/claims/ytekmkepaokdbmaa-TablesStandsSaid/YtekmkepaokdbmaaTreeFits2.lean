/- What fits, second part: lists of names, the zero place, the shapes of types and expressions. -/
import Derived.Test.YtekmkepaokdbmaaTreeFits1
namespace Go.Proofs.Ytekmkepaokdbmaa
open Go.RowKit
set_option linter.unusedVariables false

theorem zeroP_in (B : Nat) (w : World) : zeroP.In B w (.slice none 0 0) := ⟨by simp [zeroP], 0, 0, ⟨by unfold maxLen; simp [zeroP], none, 0, rfl, .inl rfl⟩, trivial⟩
theorem zeroT_in (B : Nat) (w : World) : zeroT.In B w (.slice none 0 0) := ⟨⟨by unfold U8; decide, by decide⟩, 0, 0, ⟨by unfold maxLen; simp, none, 0, rfl, .inl rfl⟩, trivial⟩
theorem zeroE_in (B : Nat) (w : World) : zeroE.In B w ⟨.slice none 0 0, .slice none 0 0⟩ := ⟨⟨by unfold U8; decide, by unfold I64; decide, by unfold I64; decide, by decide, by decide⟩, zeroP_in B w, 0, 0, ⟨by unfold maxLen; simp, none, 0, rfl, .inl rfl⟩, trivial⟩
/-! ### the shapes -/
theorem results_cell1 {fn : Func} {p : Tmp} {ty : TypeId} (h : fn.results = #[.cell p ty]) (tmps : Array Value) (P : Program) (w : World) :
    (results fn tmps).run P w = ((asAddr (tmps.getD p undef)).run P w).andThen fun a w₁ => (loadVar ty a).run P w₁ := by
  simp [results, h, Sem.run_bind, Result.andThen]
def TSh.cells (h : TSh) : Array Value := #[.bool h.known, .int .u8 h.name, .int .i64 h.args]
def ESh.cells (h : ESh) : Array Value := #[.bool h.known, .int .i64 h.greatest, .int .u8 h.name, .int .u8 h.second, .bool h.place, .bool h.fields, .int .i64 h.fewest, .int .i64 h.most]
theorem ne_beq {k j : Int} (h : k ≠ j) : (k == j) = false := beq_eq_false_iff_ne.2 h
theorem box1 (w : World) (o : Obj) : Below w.heap.size w (w.alloc o) := (Below.refl _ w).alloc (Nat.le_refl _) _
set_option maxHeartbeats 4000000 in
theorem typeShape_calls (k : Int) (hk : 0 ≤ k ∧ k ≤ 255) (w : World) :
    Calls Try.prog 84 #[.int .u8 k] w fun e w' => e = .returned (.agg (tSh k).cells) ∧ Below w.heap.size w w' := by
  rcases (show (k = 0 ∨ 14 < k) ∨ k = 1 ∨ k = 2 ∨ k = 3 ∨ k = 4 ∨ k = 5 ∨ k = 6 ∨ k = 7 ∨ k = 8 ∨ k = 9 ∨ k = 10 ∨ k = 11 ∨ k = 12 ∨ k = 13 ∨ k = 14 by omega) with h | rfl | rfl | rfl | rfl | rfl | rfl | rfl | rfl | rfl | rfl | rfl | rfl | rfl | rfl
  · have e0 : tSh k = tSh 0 := by
      rcases h with rfl | h
      · rfl
      · unfold tSh; repeat rw [if_neg (by omega)]
    rw [e0]
    have n1 : (k == 1) = false := ne_beq (by omega)
    have n2 : (k == 2) = false := ne_beq (by omega)
    have n3 : (k == 3) = false := ne_beq (by omega)
    have n4 : (k == 4) = false := ne_beq (by omega)
    have n5 : (k == 5) = false := ne_beq (by omega)
    have n6 : (k == 6) = false := ne_beq (by omega)
    have n7 : (k == 7) = false := ne_beq (by omega)
    have n8 : (k == 8) = false := ne_beq (by omega)
    have n9 : (k == 9) = false := ne_beq (by omega)
    have n10 : (k == 10) = false := ne_beq (by omega)
    have n11 : (k == 11) = false := ne_beq (by omega)
    have n12 : (k == 12) = false := ne_beq (by omega)
    have n13 : (k == 13) = false := ne_beq (by omega)
    have n14 : (k == 14) = false := ne_beq (by omega)
    clear e0 h
    go_enter Try.func84, Try.ntmps84
    go_wp2_with fail
    (try simp only [Exit.inBlock, Exit.then])
    exact bodyPost_ret (v := .agg (tSh 0).cells) (by rw [results_cell1 rfl]; go_simp; rfl) rfl ⟨rfl, box1 w _⟩
  · clear hk; go_enter Try.func84, Try.ntmps84; go_wp2_with fail; (try simp only [Exit.inBlock, Exit.then]); exact bodyPost_ret (v := .agg (tSh 1).cells) (by rw [results_cell1 rfl]; go_simp; rfl) rfl ⟨rfl, box1 w _⟩
  · clear hk; go_enter Try.func84, Try.ntmps84; go_wp2_with fail; (try simp only [Exit.inBlock, Exit.then]); exact bodyPost_ret (v := .agg (tSh 2).cells) (by rw [results_cell1 rfl]; go_simp; rfl) rfl ⟨rfl, box1 w _⟩
  · clear hk; go_enter Try.func84, Try.ntmps84; go_wp2_with fail; (try simp only [Exit.inBlock, Exit.then]); exact bodyPost_ret (v := .agg (tSh 3).cells) (by rw [results_cell1 rfl]; go_simp; rfl) rfl ⟨rfl, box1 w _⟩
  · clear hk; go_enter Try.func84, Try.ntmps84; go_wp2_with fail; (try simp only [Exit.inBlock, Exit.then]); exact bodyPost_ret (v := .agg (tSh 4).cells) (by rw [results_cell1 rfl]; go_simp; rfl) rfl ⟨rfl, box1 w _⟩
  · clear hk; go_enter Try.func84, Try.ntmps84; go_wp2_with fail; (try simp only [Exit.inBlock, Exit.then]); exact bodyPost_ret (v := .agg (tSh 5).cells) (by rw [results_cell1 rfl]; go_simp; rfl) rfl ⟨rfl, box1 w _⟩
  · clear hk; go_enter Try.func84, Try.ntmps84; go_wp2_with fail; (try simp only [Exit.inBlock, Exit.then]); exact bodyPost_ret (v := .agg (tSh 6).cells) (by rw [results_cell1 rfl]; go_simp; rfl) rfl ⟨rfl, box1 w _⟩
  · clear hk; go_enter Try.func84, Try.ntmps84; go_wp2_with fail; (try simp only [Exit.inBlock, Exit.then]); exact bodyPost_ret (v := .agg (tSh 7).cells) (by rw [results_cell1 rfl]; go_simp; rfl) rfl ⟨rfl, box1 w _⟩
  · clear hk; go_enter Try.func84, Try.ntmps84; go_wp2_with fail; (try simp only [Exit.inBlock, Exit.then]); exact bodyPost_ret (v := .agg (tSh 8).cells) (by rw [results_cell1 rfl]; go_simp; rfl) rfl ⟨rfl, box1 w _⟩
  · clear hk; go_enter Try.func84, Try.ntmps84; go_wp2_with fail; (try simp only [Exit.inBlock, Exit.then]); exact bodyPost_ret (v := .agg (tSh 9).cells) (by rw [results_cell1 rfl]; go_simp; rfl) rfl ⟨rfl, box1 w _⟩
  · clear hk; go_enter Try.func84, Try.ntmps84; go_wp2_with fail; (try simp only [Exit.inBlock, Exit.then]); exact bodyPost_ret (v := .agg (tSh 10).cells) (by rw [results_cell1 rfl]; go_simp; rfl) rfl ⟨rfl, box1 w _⟩
  · clear hk; go_enter Try.func84, Try.ntmps84; go_wp2_with fail; (try simp only [Exit.inBlock, Exit.then]); exact bodyPost_ret (v := .agg (tSh 11).cells) (by rw [results_cell1 rfl]; go_simp; rfl) rfl ⟨rfl, box1 w _⟩
  · clear hk; go_enter Try.func84, Try.ntmps84; go_wp2_with fail; (try simp only [Exit.inBlock, Exit.then]); exact bodyPost_ret (v := .agg (tSh 12).cells) (by rw [results_cell1 rfl]; go_simp; rfl) rfl ⟨rfl, box1 w _⟩
  · clear hk; go_enter Try.func84, Try.ntmps84; go_wp2_with fail; (try simp only [Exit.inBlock, Exit.then]); exact bodyPost_ret (v := .agg (tSh 13).cells) (by rw [results_cell1 rfl]; go_simp; rfl) rfl ⟨rfl, box1 w _⟩
  · clear hk; go_enter Try.func84, Try.ntmps84; go_wp2_with fail; (try simp only [Exit.inBlock, Exit.then]); exact bodyPost_ret (v := .agg (tSh 14).cells) (by rw [results_cell1 rfl]; go_simp; rfl) rfl ⟨rfl, box1 w _⟩
end Go.Proofs.Ytekmkepaokdbmaa
