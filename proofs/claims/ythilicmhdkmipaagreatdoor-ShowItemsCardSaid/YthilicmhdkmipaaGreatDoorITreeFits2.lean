/- What fits, second part: lists of names, the zero place, the shapes of types and expressions. -/
import Derived.Test.YthilicmhdkmipaaGreatDoorIJoinAR
namespace Go.Proofs.YthilicmhdkmipaaGreatDoor
open Go.RowKit
set_option linter.unusedVariables false

set_option maxHeartbeats 1000000 in
theorem fitAll_calls (B : Nat) (l : List ByteArray) (b1 o1 : Nat) (v1 : Value) (w : World) (hB : B ≤ w.heap.size) (hm : MaxOk w) (s1 : SlV B v1 l.length b1 o1) (r1 : NRow w b1 o1 l) :
    Calls Tryz.prog 254 #[.int .u8 1, v1] w fun e w' => e = .returned (.bool (decide (l.length ≤ 6) && l.all nmB)) ∧ Below w.heap.size w w' := by
  obtain ⟨ao, cap, rfl⟩ := s1.shape
  have D : Hid (∀ w', w.heap.size < w'.heap.size → MaxOk w' → Below w.heap.size w w' → w'.cell? ⟨w.heap.size, 0, none⟩ = some (.int .u8 1) → Calls Tryz.prog 162 #[.slice ao l.length cap, .func (.func 256) #[] #[.pointer (some ⟨w.heap.size, 0, none⟩)]] w' fun e w'' => e = .returned (.bool (l.any (fun s => (!nmB s)))) ∧ Below w'.heap.size w' w'') :=
    Lib.hid fun w' hw h hb hc => containsNotFit_calls B l b1 o1 _ w.heap.size w' (by omega) h s1 (by
      cases l with
      | nil => trivial
      | cons a l => exact NRow.below (s1.lt (by simp)) (hb.mono hB) r1) hc
  rw [← not_any]
  have M : Hid (MaxOk (w.alloc (.cells #[.int .u8 1] 199))) := Lib.hid (hm.alloc _)
  generalize l.any (fun s => !nmB s) = q at *
  clear s1 r1 hm
  by_cases hl : l.length ≤ 6
  · go_enter Tryz.func254, Tryz.ntmps254
    go_wp2_with fail
    refine (D.out _ (by simp) M.out ((Below.refl _ w).alloc (Nat.le_refl _) _) (by go_simp)).mono ?_; rintro e w2 ⟨rfl, b2⟩
    have bel2 := up_tr ((Below.refl _ w).alloc (Nat.le_refl _) _) b2
    go_wp2
    go_ret
    exact ⟨ret_bool (by simp [hl]), bel2⟩
  · go_enter Tryz.func254, Tryz.ntmps254
    go_wp2_with fail
    go_ret
    exact ⟨ret_bool (by simp), (Below.refl _ w).alloc (Nat.le_refl _) _⟩
theorem zeroP_in (B : Nat) (w : World) : zeroP.In B w (.slice none 0 0) := ⟨by simp [zeroP], 0, 0, ⟨by unfold maxLen; simp [zeroP], none, 0, rfl, .inl rfl⟩, trivial⟩
theorem zeroT_in (B : Nat) (w : World) : zeroT.In B w (.slice none 0 0) := ⟨⟨by unfold U8; decide, by decide⟩, 0, 0, ⟨by unfold maxLen; simp, none, 0, rfl, .inl rfl⟩, trivial⟩
theorem zeroE_in (B : Nat) (w : World) : zeroE.In B w ⟨.slice none 0 0, .slice none 0 0⟩ := ⟨⟨by unfold U8; decide, by unfold I64; decide, by unfold I64; decide, by decide, by decide⟩, zeroP_in B w, 0, 0, ⟨by unfold maxLen; simp, none, 0, rfl, .inl rfl⟩, trivial⟩
set_option maxHeartbeats 1000000 in
theorem isZeroPlace_calls (B : Nat) (x : PP) (v : Value) (w : World) (hB : B ≤ w.heap.size) (hx : x.In B w v) :
    Calls Tryz.prog 255 #[.agg #[.string x.name, v]] w fun e w' => e = .returned (.bool (samePl x zeroP)) ∧ Below w.heap.size w w' := by
  have C : Hid (∀ w', w.heap.size ≤ w'.heap.size → Below w.heap.size w w' → Calls Tryz.prog 166 #[.agg #[.string x.name, v], .agg #[.string ByteArray.empty, .slice none 0 0]] w' fun e w'' => e = .returned (.bool (samePl x zeroP)) ∧ Below w'.heap.size w' w'') :=
    Lib.hid fun w' hw hb => samePl_calls B x zeroP v _ w' (by omega) (hx.below (hb.mono hB)) (zeroP_in B w')
  obtain ⟨nm, pa⟩ := x
  obtain ⟨hs, b, o, s1, r1⟩ := hx
  obtain ⟨ao, cap, rfl⟩ := s1.shape
  generalize samePl ⟨nm, pa⟩ zeroP = q at *
  go_enter Tryz.func255, Tryz.ntmps255
  go_wp2_with fail
  refine (C.out _ (by simp) ((Below.refl _ w).alloc (Nat.le_refl _) _)).mono ?_; rintro e w2 ⟨rfl, b2⟩
  have bel2 := up_tr ((Below.refl _ w).alloc (Nat.le_refl _) _) b2
  go_wp2
  go_ret
  exact ⟨rfl, bel2⟩

/-! ### the shapes -/
theorem results_cell1 {fn : Func} {p : Tmp} {ty : TypeId} (h : fn.results = #[.cell p ty]) (tmps : Array Value) (P : Program) (w : World) :
    (results fn tmps).run P w = ((asAddr (tmps.getD p undef)).run P w).andThen fun a w₁ => (loadVar ty a).run P w₁ := by
  simp [results, h, Sem.run_bind, Result.andThen]
def TSh.cells (h : TSh) : Array Value := #[.bool h.known, .int .u8 h.name, .int .i64 h.args]
def ESh.cells (h : ESh) : Array Value := #[.bool h.known, .int .i64 h.greatest, .int .u8 h.name, .int .u8 h.second, .bool h.place, .bool h.fields, .int .i64 h.fewest, .int .i64 h.most]
theorem ne_beq {k j : Int} (h : k ≠ j) : (k == j) = false := beq_eq_false_iff_ne.2 h
theorem box1 (w : World) (o : Obj) : Below w.heap.size w (w.alloc o) := (Below.refl _ w).alloc (Nat.le_refl _) _
set_option maxHeartbeats 4000000 in
theorem typeShape_calls (k : Int) (hk : 0 ≤ k ∧ k ≤ 255) (w : World) :
    Calls Tryz.prog 246 #[.int .u8 k] w fun e w' => e = .returned (.agg (tSh k).cells) ∧ Below w.heap.size w w' := by
  rcases (show (k = 0 ∨ 14 < k) ∨ k = 1 ∨ k = 2 ∨ k = 3 ∨ k = 4 ∨ k = 5 ∨ k = 6 ∨ k = 7 ∨ k = 8 ∨ k = 9 ∨ k = 10 ∨ k = 11 ∨ k = 12 ∨ k = 13 ∨ k = 14 by omega) with h | rfl | rfl | rfl | rfl | rfl | rfl | rfl | rfl | rfl | rfl | rfl | rfl | rfl | rfl
  · have e0 : tSh k = tSh 0 := by
      rcases h with rfl | h
      · rfl
      · unfold tSh; repeat rw [if_neg (by omega)]
    rw [e0]
    have n1 : (k == 1) = false := ne_beq (by omega)
    have n2 : (k == 2) = false := ne_beq (by omega)
    have n3 : (k == 3) = false := ne_beq (by omega)
    have n4 : (k == 4) = false := ne_beq (by omega)
    have n5 : (k == 5) = false := ne_beq (by omega)
    have n6 : (k == 6) = false := ne_beq (by omega)
    have n7 : (k == 7) = false := ne_beq (by omega)
    have n8 : (k == 8) = false := ne_beq (by omega)
    have n9 : (k == 9) = false := ne_beq (by omega)
    have n10 : (k == 10) = false := ne_beq (by omega)
    have n11 : (k == 11) = false := ne_beq (by omega)
    have n12 : (k == 12) = false := ne_beq (by omega)
    have n13 : (k == 13) = false := ne_beq (by omega)
    have n14 : (k == 14) = false := ne_beq (by omega)
    clear e0 h
    go_enter Tryz.func246, Tryz.ntmps246
    go_wp2_with fail
    (try simp only [Exit.inBlock, Exit.then])
    exact bodyPost_ret (v := .agg (tSh 0).cells) (by rw [results_cell1 rfl]; go_simp; rfl) rfl ⟨rfl, box1 w _⟩
  · clear hk; go_enter Tryz.func246, Tryz.ntmps246; go_wp2_with fail; (try simp only [Exit.inBlock, Exit.then]); exact bodyPost_ret (v := .agg (tSh 1).cells) (by rw [results_cell1 rfl]; go_simp; rfl) rfl ⟨rfl, box1 w _⟩
  · clear hk; go_enter Tryz.func246, Tryz.ntmps246; go_wp2_with fail; (try simp only [Exit.inBlock, Exit.then]); exact bodyPost_ret (v := .agg (tSh 2).cells) (by rw [results_cell1 rfl]; go_simp; rfl) rfl ⟨rfl, box1 w _⟩
  · clear hk; go_enter Tryz.func246, Tryz.ntmps246; go_wp2_with fail; (try simp only [Exit.inBlock, Exit.then]); exact bodyPost_ret (v := .agg (tSh 3).cells) (by rw [results_cell1 rfl]; go_simp; rfl) rfl ⟨rfl, box1 w _⟩
  · clear hk; go_enter Tryz.func246, Tryz.ntmps246; go_wp2_with fail; (try simp only [Exit.inBlock, Exit.then]); exact bodyPost_ret (v := .agg (tSh 4).cells) (by rw [results_cell1 rfl]; go_simp; rfl) rfl ⟨rfl, box1 w _⟩
  · clear hk; go_enter Tryz.func246, Tryz.ntmps246; go_wp2_with fail; (try simp only [Exit.inBlock, Exit.then]); exact bodyPost_ret (v := .agg (tSh 5).cells) (by rw [results_cell1 rfl]; go_simp; rfl) rfl ⟨rfl, box1 w _⟩
  · clear hk; go_enter Tryz.func246, Tryz.ntmps246; go_wp2_with fail; (try simp only [Exit.inBlock, Exit.then]); exact bodyPost_ret (v := .agg (tSh 6).cells) (by rw [results_cell1 rfl]; go_simp; rfl) rfl ⟨rfl, box1 w _⟩
  · clear hk; go_enter Tryz.func246, Tryz.ntmps246; go_wp2_with fail; (try simp only [Exit.inBlock, Exit.then]); exact bodyPost_ret (v := .agg (tSh 7).cells) (by rw [results_cell1 rfl]; go_simp; rfl) rfl ⟨rfl, box1 w _⟩
  · clear hk; go_enter Tryz.func246, Tryz.ntmps246; go_wp2_with fail; (try simp only [Exit.inBlock, Exit.then]); exact bodyPost_ret (v := .agg (tSh 8).cells) (by rw [results_cell1 rfl]; go_simp; rfl) rfl ⟨rfl, box1 w _⟩
  · clear hk; go_enter Tryz.func246, Tryz.ntmps246; go_wp2_with fail; (try simp only [Exit.inBlock, Exit.then]); exact bodyPost_ret (v := .agg (tSh 9).cells) (by rw [results_cell1 rfl]; go_simp; rfl) rfl ⟨rfl, box1 w _⟩
  · clear hk; go_enter Tryz.func246, Tryz.ntmps246; go_wp2_with fail; (try simp only [Exit.inBlock, Exit.then]); exact bodyPost_ret (v := .agg (tSh 10).cells) (by rw [results_cell1 rfl]; go_simp; rfl) rfl ⟨rfl, box1 w _⟩
  · clear hk; go_enter Tryz.func246, Tryz.ntmps246; go_wp2_with fail; (try simp only [Exit.inBlock, Exit.then]); exact bodyPost_ret (v := .agg (tSh 11).cells) (by rw [results_cell1 rfl]; go_simp; rfl) rfl ⟨rfl, box1 w _⟩
  · clear hk; go_enter Tryz.func246, Tryz.ntmps246; go_wp2_with fail; (try simp only [Exit.inBlock, Exit.then]); exact bodyPost_ret (v := .agg (tSh 12).cells) (by rw [results_cell1 rfl]; go_simp; rfl) rfl ⟨rfl, box1 w _⟩
  · clear hk; go_enter Tryz.func246, Tryz.ntmps246; go_wp2_with fail; (try simp only [Exit.inBlock, Exit.then]); exact bodyPost_ret (v := .agg (tSh 13).cells) (by rw [results_cell1 rfl]; go_simp; rfl) rfl ⟨rfl, box1 w _⟩
  · clear hk; go_enter Tryz.func246, Tryz.ntmps246; go_wp2_with fail; (try simp only [Exit.inBlock, Exit.then]); exact bodyPost_ret (v := .agg (tSh 14).cells) (by rw [results_cell1 rfl]; go_simp; rfl) rfl ⟨rfl, box1 w _⟩
set_option maxHeartbeats 4000000 in
theorem exprShape_calls (k : Int) (hk : 0 ≤ k ∧ k ≤ 255) (w : World) :
    Calls Tryz.prog 249 #[.int .u8 k] w fun e w' => e = .returned (.agg (eSh k).cells) ∧ Below w.heap.size w w' := by
  rcases (show (k = 0 ∨ 36 < k) ∨ k = 1 ∨ k = 2 ∨ k = 3 ∨ k = 4 ∨ k = 5 ∨ k = 6 ∨ k = 7 ∨ k = 8 ∨ k = 9 ∨ k = 10 ∨ k = 11 ∨ k = 12 ∨ k = 13 ∨ k = 14 ∨ k = 15 ∨ k = 16 ∨ k = 17 ∨ k = 18 ∨ k = 19 ∨ k = 20 ∨ k = 21 ∨ k = 22 ∨ k = 23 ∨ k = 24 ∨ k = 25 ∨ k = 26 ∨ k = 27 ∨ k = 28 ∨ k = 29 ∨ k = 30 ∨ k = 31 ∨ k = 32 ∨ k = 33 ∨ k = 34 ∨ k = 35 ∨ k = 36 by omega) with h | rfl | rfl | rfl | rfl | rfl | rfl | rfl | rfl | rfl | rfl | rfl | rfl | rfl | rfl | rfl | rfl | rfl | rfl | rfl | rfl | rfl | rfl | rfl | rfl | rfl | rfl | rfl | rfl | rfl | rfl | rfl | rfl | rfl | rfl | rfl | rfl
  · have e0 : eSh k = eSh 0 := by
      rcases h with rfl | h
      · rfl
      · unfold eSh; repeat rw [if_neg (by omega)]
    rw [e0]
    have n1 : (k == 1) = false := ne_beq (by omega)
    have n2 : (k == 2) = false := ne_beq (by omega)
    have n3 : (k == 3) = false := ne_beq (by omega)
    have n4 : (k == 4) = false := ne_beq (by omega)
    have n5 : (k == 5) = false := ne_beq (by omega)
    have n6 : (k == 6) = false := ne_beq (by omega)
    have n7 : (k == 7) = false := ne_beq (by omega)
    have n8 : (k == 8) = false := ne_beq (by omega)
    have n9 : (k == 9) = false := ne_beq (by omega)
    have n10 : (k == 10) = false := ne_beq (by omega)
    have n11 : (k == 11) = false := ne_beq (by omega)
    have n12 : (k == 12) = false := ne_beq (by omega)
    have n13 : (k == 13) = false := ne_beq (by omega)
    have n14 : (k == 14) = false := ne_beq (by omega)
    have n15 : (k == 15) = false := ne_beq (by omega)
    have n16 : (k == 16) = false := ne_beq (by omega)
    have n17 : (k == 17) = false := ne_beq (by omega)
    have n18 : (k == 18) = false := ne_beq (by omega)
    have n19 : (k == 19) = false := ne_beq (by omega)
    have n20 : (k == 20) = false := ne_beq (by omega)
    have n21 : (k == 21) = false := ne_beq (by omega)
    have n22 : (k == 22) = false := ne_beq (by omega)
    have n23 : (k == 23) = false := ne_beq (by omega)
    have n24 : (k == 24) = false := ne_beq (by omega)
    have n25 : (k == 25) = false := ne_beq (by omega)
    have n26 : (k == 26) = false := ne_beq (by omega)
    have n27 : (k == 27) = false := ne_beq (by omega)
    have n28 : (k == 28) = false := ne_beq (by omega)
    have n29 : (k == 29) = false := ne_beq (by omega)
    have n30 : (k == 30) = false := ne_beq (by omega)
    have n31 : (k == 31) = false := ne_beq (by omega)
    have n32 : (k == 32) = false := ne_beq (by omega)
    have n33 : (k == 33) = false := ne_beq (by omega)
    have n34 : (k == 34) = false := ne_beq (by omega)
    have n35 : (k == 35) = false := ne_beq (by omega)
    have n36 : (k == 36) = false := ne_beq (by omega)
    clear e0 h
    go_enter Tryz.func249, Tryz.ntmps249
    go_wp2_with fail
    (try simp only [Exit.inBlock, Exit.then])
    exact bodyPost_ret (v := .agg (eSh 0).cells) (by rw [results_cell1 rfl]; go_simp; rfl) rfl ⟨rfl, box1 w _⟩
  · clear hk; go_enter Tryz.func249, Tryz.ntmps249; go_wp2_with fail; (try simp only [Exit.inBlock, Exit.then]); exact bodyPost_ret (v := .agg (eSh 1).cells) (by rw [results_cell1 rfl]; go_simp; rfl) rfl ⟨rfl, box1 w _⟩
  · clear hk; go_enter Tryz.func249, Tryz.ntmps249; go_wp2_with fail; (try simp only [Exit.inBlock, Exit.then]); exact bodyPost_ret (v := .agg (eSh 2).cells) (by rw [results_cell1 rfl]; go_simp; rfl) rfl ⟨rfl, box1 w _⟩
  · clear hk; go_enter Tryz.func249, Tryz.ntmps249; go_wp2_with fail; (try simp only [Exit.inBlock, Exit.then]); exact bodyPost_ret (v := .agg (eSh 3).cells) (by rw [results_cell1 rfl]; go_simp; rfl) rfl ⟨rfl, box1 w _⟩
  · clear hk; go_enter Tryz.func249, Tryz.ntmps249; go_wp2_with fail; (try simp only [Exit.inBlock, Exit.then]); exact bodyPost_ret (v := .agg (eSh 4).cells) (by rw [results_cell1 rfl]; go_simp; rfl) rfl ⟨rfl, box1 w _⟩
  · clear hk; go_enter Tryz.func249, Tryz.ntmps249; go_wp2_with fail; (try simp only [Exit.inBlock, Exit.then]); exact bodyPost_ret (v := .agg (eSh 5).cells) (by rw [results_cell1 rfl]; go_simp; rfl) rfl ⟨rfl, box1 w _⟩
  · clear hk; go_enter Tryz.func249, Tryz.ntmps249; go_wp2_with fail; (try simp only [Exit.inBlock, Exit.then]); exact bodyPost_ret (v := .agg (eSh 6).cells) (by rw [results_cell1 rfl]; go_simp; rfl) rfl ⟨rfl, box1 w _⟩
  · clear hk; go_enter Tryz.func249, Tryz.ntmps249; go_wp2_with fail; (try simp only [Exit.inBlock, Exit.then]); exact bodyPost_ret (v := .agg (eSh 7).cells) (by rw [results_cell1 rfl]; go_simp; rfl) rfl ⟨rfl, box1 w _⟩
  · clear hk; go_enter Tryz.func249, Tryz.ntmps249; go_wp2_with fail; (try simp only [Exit.inBlock, Exit.then]); exact bodyPost_ret (v := .agg (eSh 8).cells) (by rw [results_cell1 rfl]; go_simp; rfl) rfl ⟨rfl, box1 w _⟩
  · clear hk; go_enter Tryz.func249, Tryz.ntmps249; go_wp2_with fail; (try simp only [Exit.inBlock, Exit.then]); exact bodyPost_ret (v := .agg (eSh 9).cells) (by rw [results_cell1 rfl]; go_simp; rfl) rfl ⟨rfl, box1 w _⟩
  · clear hk; go_enter Tryz.func249, Tryz.ntmps249; go_wp2_with fail; (try simp only [Exit.inBlock, Exit.then]); exact bodyPost_ret (v := .agg (eSh 10).cells) (by rw [results_cell1 rfl]; go_simp; rfl) rfl ⟨rfl, box1 w _⟩
  · clear hk; go_enter Tryz.func249, Tryz.ntmps249; go_wp2_with fail; (try simp only [Exit.inBlock, Exit.then]); exact bodyPost_ret (v := .agg (eSh 11).cells) (by rw [results_cell1 rfl]; go_simp; rfl) rfl ⟨rfl, box1 w _⟩
  · clear hk; go_enter Tryz.func249, Tryz.ntmps249; go_wp2_with fail; (try simp only [Exit.inBlock, Exit.then]); exact bodyPost_ret (v := .agg (eSh 12).cells) (by rw [results_cell1 rfl]; go_simp; rfl) rfl ⟨rfl, box1 w _⟩
  · clear hk; go_enter Tryz.func249, Tryz.ntmps249; go_wp2_with fail; (try simp only [Exit.inBlock, Exit.then]); exact bodyPost_ret (v := .agg (eSh 13).cells) (by rw [results_cell1 rfl]; go_simp; rfl) rfl ⟨rfl, box1 w _⟩
  · clear hk; go_enter Tryz.func249, Tryz.ntmps249; go_wp2_with fail; (try simp only [Exit.inBlock, Exit.then]); exact bodyPost_ret (v := .agg (eSh 14).cells) (by rw [results_cell1 rfl]; go_simp; rfl) rfl ⟨rfl, box1 w _⟩
  · clear hk; go_enter Tryz.func249, Tryz.ntmps249; go_wp2_with fail; (try simp only [Exit.inBlock, Exit.then]); exact bodyPost_ret (v := .agg (eSh 15).cells) (by rw [results_cell1 rfl]; go_simp; rfl) rfl ⟨rfl, box1 w _⟩
  · clear hk; go_enter Tryz.func249, Tryz.ntmps249; go_wp2_with fail; (try simp only [Exit.inBlock, Exit.then]); exact bodyPost_ret (v := .agg (eSh 16).cells) (by rw [results_cell1 rfl]; go_simp; rfl) rfl ⟨rfl, box1 w _⟩
  · clear hk; go_enter Tryz.func249, Tryz.ntmps249; go_wp2_with fail; (try simp only [Exit.inBlock, Exit.then]); exact bodyPost_ret (v := .agg (eSh 17).cells) (by rw [results_cell1 rfl]; go_simp; rfl) rfl ⟨rfl, box1 w _⟩
  · clear hk; go_enter Tryz.func249, Tryz.ntmps249; go_wp2_with fail; (try simp only [Exit.inBlock, Exit.then]); exact bodyPost_ret (v := .agg (eSh 18).cells) (by rw [results_cell1 rfl]; go_simp; rfl) rfl ⟨rfl, box1 w _⟩
  · clear hk; go_enter Tryz.func249, Tryz.ntmps249; go_wp2_with fail; (try simp only [Exit.inBlock, Exit.then]); exact bodyPost_ret (v := .agg (eSh 19).cells) (by rw [results_cell1 rfl]; go_simp; rfl) rfl ⟨rfl, box1 w _⟩
  · clear hk; go_enter Tryz.func249, Tryz.ntmps249; go_wp2_with fail; (try simp only [Exit.inBlock, Exit.then]); exact bodyPost_ret (v := .agg (eSh 20).cells) (by rw [results_cell1 rfl]; go_simp; rfl) rfl ⟨rfl, box1 w _⟩
  · clear hk; go_enter Tryz.func249, Tryz.ntmps249; go_wp2_with fail; (try simp only [Exit.inBlock, Exit.then]); exact bodyPost_ret (v := .agg (eSh 21).cells) (by rw [results_cell1 rfl]; go_simp; rfl) rfl ⟨rfl, box1 w _⟩
  · clear hk; go_enter Tryz.func249, Tryz.ntmps249; go_wp2_with fail; (try simp only [Exit.inBlock, Exit.then]); exact bodyPost_ret (v := .agg (eSh 22).cells) (by rw [results_cell1 rfl]; go_simp; rfl) rfl ⟨rfl, box1 w _⟩
  · clear hk; go_enter Tryz.func249, Tryz.ntmps249; go_wp2_with fail; (try simp only [Exit.inBlock, Exit.then]); exact bodyPost_ret (v := .agg (eSh 23).cells) (by rw [results_cell1 rfl]; go_simp; rfl) rfl ⟨rfl, box1 w _⟩
  · clear hk; go_enter Tryz.func249, Tryz.ntmps249; go_wp2_with fail; (try simp only [Exit.inBlock, Exit.then]); exact bodyPost_ret (v := .agg (eSh 24).cells) (by rw [results_cell1 rfl]; go_simp; rfl) rfl ⟨rfl, box1 w _⟩
  · clear hk; go_enter Tryz.func249, Tryz.ntmps249; go_wp2_with fail; (try simp only [Exit.inBlock, Exit.then]); exact bodyPost_ret (v := .agg (eSh 25).cells) (by rw [results_cell1 rfl]; go_simp; rfl) rfl ⟨rfl, box1 w _⟩
  · clear hk; go_enter Tryz.func249, Tryz.ntmps249; go_wp2_with fail; (try simp only [Exit.inBlock, Exit.then]); exact bodyPost_ret (v := .agg (eSh 26).cells) (by rw [results_cell1 rfl]; go_simp; rfl) rfl ⟨rfl, box1 w _⟩
  · clear hk; go_enter Tryz.func249, Tryz.ntmps249; go_wp2_with fail; (try simp only [Exit.inBlock, Exit.then]); exact bodyPost_ret (v := .agg (eSh 27).cells) (by rw [results_cell1 rfl]; go_simp; rfl) rfl ⟨rfl, box1 w _⟩
  · clear hk; go_enter Tryz.func249, Tryz.ntmps249; go_wp2_with fail; (try simp only [Exit.inBlock, Exit.then]); exact bodyPost_ret (v := .agg (eSh 28).cells) (by rw [results_cell1 rfl]; go_simp; rfl) rfl ⟨rfl, box1 w _⟩
  · clear hk; go_enter Tryz.func249, Tryz.ntmps249; go_wp2_with fail; (try simp only [Exit.inBlock, Exit.then]); exact bodyPost_ret (v := .agg (eSh 29).cells) (by rw [results_cell1 rfl]; go_simp; rfl) rfl ⟨rfl, box1 w _⟩
  · clear hk; go_enter Tryz.func249, Tryz.ntmps249; go_wp2_with fail; (try simp only [Exit.inBlock, Exit.then]); exact bodyPost_ret (v := .agg (eSh 30).cells) (by rw [results_cell1 rfl]; go_simp; rfl) rfl ⟨rfl, box1 w _⟩
  · clear hk; go_enter Tryz.func249, Tryz.ntmps249; go_wp2_with fail; (try simp only [Exit.inBlock, Exit.then]); exact bodyPost_ret (v := .agg (eSh 31).cells) (by rw [results_cell1 rfl]; go_simp; rfl) rfl ⟨rfl, box1 w _⟩
  · clear hk; go_enter Tryz.func249, Tryz.ntmps249; go_wp2_with fail; (try simp only [Exit.inBlock, Exit.then]); exact bodyPost_ret (v := .agg (eSh 32).cells) (by rw [results_cell1 rfl]; go_simp; rfl) rfl ⟨rfl, box1 w _⟩
  · clear hk; go_enter Tryz.func249, Tryz.ntmps249; go_wp2_with fail; (try simp only [Exit.inBlock, Exit.then]); exact bodyPost_ret (v := .agg (eSh 33).cells) (by rw [results_cell1 rfl]; go_simp; rfl) rfl ⟨rfl, box1 w _⟩
  · clear hk; go_enter Tryz.func249, Tryz.ntmps249; go_wp2_with fail; (try simp only [Exit.inBlock, Exit.then]); exact bodyPost_ret (v := .agg (eSh 34).cells) (by rw [results_cell1 rfl]; go_simp; rfl) rfl ⟨rfl, box1 w _⟩
  · clear hk; go_enter Tryz.func249, Tryz.ntmps249; go_wp2_with fail; (try simp only [Exit.inBlock, Exit.then]); exact bodyPost_ret (v := .agg (eSh 35).cells) (by rw [results_cell1 rfl]; go_simp; rfl) rfl ⟨rfl, box1 w _⟩
  · clear hk; go_enter Tryz.func249, Tryz.ntmps249; go_wp2_with fail; (try simp only [Exit.inBlock, Exit.then]); exact bodyPost_ret (v := .agg (eSh 36).cells) (by rw [results_cell1 rfl]; go_simp; rfl) rfl ⟨rfl, box1 w _⟩
end Go.Proofs.YthilicmhdkmipaaGreatDoor

