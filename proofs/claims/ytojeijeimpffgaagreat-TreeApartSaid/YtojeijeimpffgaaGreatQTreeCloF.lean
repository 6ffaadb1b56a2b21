/- The code's copier: fields (made by gen_clo.py). -/
import Derived.Test.YtojeijeimpffgaaGreatQTreeCloT
import Derived.Test.YtojeijeimpffgaaGreatQJoinX
namespace Go.Proofs.YtojeijeimpffgaaGreat
open Go.RowKit
set_option linter.unusedVariables false

theorem clo6_enters : ∀ args w, (callFunc 76 args).run Tryz.prog w = .ok (.enter 76 args) w := enters_of Tryz.func76 (by kernel_rfl) rfl
attribute [local go_sem ↓] Go.wp_at_zero Go.wp_at_succ
set_option maxRecDepth 100000 in
set_option maxHeartbeats 6400000 in
theorem cloF_calls (kf : FuncId) (C K : Nat) (f : PF) (hS : SmF f) (B : Nat) (v : Value) (W : World) (hB : B ≤ W.heap.size) (hbe : BenchAt kf C K W) (ht : f.In B W v) :
    Calls Tryz.prog 76 #[.agg (srtF.cells f v).toArray, .pointer (some ⟨C, 0, none⟩)] W fun e w' => ∃ x' : Value, e = .returned (.agg (srtF.cells f x').toArray) ∧ Hid (PF.In w'.heap.size (Fr W.heap.size w') f x') ∧ Below W.heap.size W w' := by
  obtain ⟨a1, n1, c1, rfl⟩ := ht.shape
  obtain ⟨hs, htt⟩ := ht
  have HT := Lib.hid htt
  have HBe := Lib.hid hbe
  clear htt hbe
  show Calls Tryz.prog 76 #[.agg #[.string f.name, .int .u8 f.type.kind, .string f.type.name, .slice a1 n1 c1], .pointer (some ⟨C, 0, none⟩)] W _
  go_enter Tryz.func76, Tryz.ntmps76
  go_wp2_with fail
  obtain ⟨W0, hW0⟩ : ∃ W0, W0 = (W.alloc (Obj.cells #[.string f.name, .int .u8 f.type.kind, .string f.type.name, .slice a1 n1 c1] 68)).alloc (Obj.cells #[.string ⟨#[]⟩, .int .u8 0, .string ⟨#[]⟩, .slice none 0 0] 68) := ⟨_, rfl⟩
  rw [← hW0]
  have sz : W0.heap.size = W.heap.size + 2 := by rw [hW0]; simp
  have BB : Hid (Below W.heap.size W W0) := Lib.hid (hW0 ▸ ((Below.refl _ W).alloc (Nat.le_refl _) _).alloc (by simp) _)
  have x0 : W0.cell? ⟨W.heap.size, 0, none⟩ = some (.string f.name) := by rw [hW0]; go_simp
  have x1 : W0.cell? ⟨W.heap.size, 1, none⟩ = some (.int .u8 f.type.kind) := by rw [hW0]; go_simp
  have x2 : W0.cell? ⟨W.heap.size, 2, none⟩ = some (.string f.type.name) := by rw [hW0]; go_simp
  have x3 : W0.cell? ⟨W.heap.size, 3, none⟩ = some (.slice a1 n1 c1) := by rw [hW0]; go_simp
  have r0 : W0.cell? ⟨W.heap.size + 1, 0, none⟩ = some (.string ⟨#[]⟩) := by rw [hW0]; go_simp
  have r1 : W0.cell? ⟨W.heap.size + 1, 1, none⟩ = some (.int .u8 0) := by rw [hW0]; go_simp
  have r2 : W0.cell? ⟨W.heap.size + 1, 2, none⟩ = some (.string ⟨#[]⟩) := by rw [hW0]; go_simp
  have r3 : W0.cell? ⟨W.heap.size + 1, 3, none⟩ = some (.slice none 0 0) := by rw [hW0]; go_simp
  have g0 : W0.frozen? ⟨W.heap.size + 1, 0, none⟩ = false := by rw [hW0]; go_simp
  have g1 : W0.frozen? ⟨W.heap.size + 1, 1, none⟩ = false := by rw [hW0]; go_simp
  have g2 : W0.frozen? ⟨W.heap.size + 1, 2, none⟩ = false := by rw [hW0]; go_simp
  have g3 : W0.frozen? ⟨W.heap.size + 1, 3, none⟩ = false := by rw [hW0]; go_simp
  have cc1 : W0.cell? ⟨C, 1, none⟩ = some (.func (.func 68) #[] #[.pointer (some ⟨C, 0, none⟩)]) := (BB.out.cell (p := ⟨C, 1, none⟩) HBe.out.hc).trans (by have := HBe.out.c 1 _ rfl; rwa [Nat.zero_add] at this)
  have hC : C < W.heap.size + 1 := by have := HBe.out.hc; omega
  have hX : W.heap.size < W.heap.size + 1 := by omega
  clear hW0
  have K0 : Hid (∀ W1 : World, Calls Tryz.prog 66 #[.string f.name] W1 fun e w' => e = .returned (.string f.name) ∧ Below W1.heap.size W1 w') :=
    Lib.hid fun W1 => clone_calls f.name W1 (Nat.le_trans hS.1 (by decide))
  have K1 : Hid (∀ W1, Below W0.heap.size W0 W1 → Calls Tryz.prog 68 #[.agg #[.int .u8 f.type.kind, .string f.type.name, .slice a1 n1 c1], .pointer (some ⟨C, 0, none⟩)] W1 fun e w' => ∃ x' : Value, e = .returned (.agg #[.int .u8 f.type.kind, .string f.type.name, x']) ∧ Hid (PT.In w'.heap.size (Fr W1.heap.size w') f.type x') ∧ Below W1.heap.size W1 w') :=
    Lib.hid fun W1 h => by
      have bw : Below W.heap.size W W1 := BB.out.trans (h.mono (by omega))
      have z := bw.size
      exact cloT_calls kf C K (hS.2) B _ W1 (by omega) (HBe.out.below bw) (PT.In.below (bw.mono hB) HT.out)
  have HB : Hid (Below W0.heap.size W0 W0.drew) := Lib.hid (Below.refl _ W0).drew
  have XB : ∀ b o, b < W.heap.size + 1 → W0.drew.cell? ⟨b, o, none⟩ = W0.cell? ⟨b, o, none⟩ := fun b o _ => rfl
  go_region_held3 (fun w' => ∀ b o, b < W.heap.size + 1 → w'.cell? ⟨b, o, none⟩ = W0.cell? ⟨b, o, none⟩) (first | with_reducible exact XB | ((repeat (with_reducible refine low_set ?_ (Nat.le_refl _))); with_reducible exact XB))
    (first
        | (go_at_call 66; (with_reducible refine (K0.out _).mono ?_)
           rintro e wj0 ⟨rfl, bj⟩
           have zj := bj.size
           have zh := HB.out.size
           have HB : Hid (Below W0.heap.size W0 wj0) := Lib.hid (HB.out.trans (bj.mono zh))
           have XB : ∀ b o, b < W.heap.size + 1 → wj0.cell? ⟨b, o, none⟩ = W0.cell? ⟨b, o, none⟩ := low_of HB.out (by omega)
           clear bj zj zh)
        | (go_at_call 68; (with_reducible refine (K1.out _ HB.out).mono ?_)
           rintro e wj1 ⟨xt, rfl, hft, bj⟩
           obtain ⟨pt, mt, qt, rfl⟩ := hft.out.shape
           have zj := bj.size
           have zh := HB.out.size
           have HF1 : Hid (PT.In wj1.heap.size (Fr W0.heap.size wj1) f.type (.slice pt mt qt)) := Lib.hid (PT.In.reads (Nat.le_refl _) (Fr.reads zh (fun _ _ _ => rfl)) hft.out)
           have HB : Hid (Below W0.heap.size W0 wj1) := Lib.hid (HB.out.trans (bj.mono zh))
           have XB : ∀ b o, b < W.heap.size + 1 → wj1.cell? ⟨b, o, none⟩ = W0.cell? ⟨b, o, none⟩ := low_of HB.out (by omega)
           have s0 : wj1.cell? ⟨W.heap.size + 1, 0, none⟩ = some (.string ⟨#[]⟩) := (HB.out.cell (p := ⟨W.heap.size + 1, 0, none⟩) (by simp; omega)).trans r0
           have s1 : wj1.cell? ⟨W.heap.size + 1, 1, none⟩ = some (.int .u8 0) := (HB.out.cell (p := ⟨W.heap.size + 1, 1, none⟩) (by simp; omega)).trans r1
           have s2 : wj1.cell? ⟨W.heap.size + 1, 2, none⟩ = some (.string ⟨#[]⟩) := (HB.out.cell (p := ⟨W.heap.size + 1, 2, none⟩) (by simp; omega)).trans r2
           have s3 : wj1.cell? ⟨W.heap.size + 1, 3, none⟩ = some (.slice none 0 0) := (HB.out.cell (p := ⟨W.heap.size + 1, 3, none⟩) (by simp; omega)).trans r3
           have t0 : wj1.frozen? ⟨W.heap.size + 1, 0, none⟩ = false := (HB.out.frozen (p := ⟨W.heap.size + 1, 0, none⟩) (by simp; omega)).trans g0
           have t1 : wj1.frozen? ⟨W.heap.size + 1, 1, none⟩ = false := (HB.out.frozen (p := ⟨W.heap.size + 1, 1, none⟩) (by simp; omega)).trans g1
           have t2 : wj1.frozen? ⟨W.heap.size + 1, 2, none⟩ = false := (HB.out.frozen (p := ⟨W.heap.size + 1, 2, none⟩) (by simp; omega)).trans g2
           have t3 : wj1.frozen? ⟨W.heap.size + 1, 3, none⟩ = false := (HB.out.frozen (p := ⟨W.heap.size + 1, 3, none⟩) (by simp; omega)).trans g3
           clear bj zj zh hft))
  go_wp2_with fail
  (try simp only [Exit.inBlock, Exit.then])
  have KP : Kp (W.heap.size + 1) wj1 ((((wj1.setCell ⟨W.heap.size + 1, 0, none⟩ (.string f.name)).setCell ⟨W.heap.size + 1, 1, none⟩ (.int .u8 f.type.kind)).setCell ⟨W.heap.size + 1, 2, none⟩ (.string f.type.name)).setCell ⟨W.heap.size + 1, 3, none⟩ (.slice pt mt qt)) := (((((Kp.refl (W.heap.size + 1) wj1).set _).set _).set _).set _)
  have RD : Reads (Fr W0.heap.size wj1) (Fr W.heap.size ((((wj1.setCell ⟨W.heap.size + 1, 0, none⟩ (.string f.name)).setCell ⟨W.heap.size + 1, 1, none⟩ (.int .u8 f.type.kind)).setCell ⟨W.heap.size + 1, 2, none⟩ (.string f.type.name)).setCell ⟨W.heap.size + 1, 3, none⟩ (.slice pt mt qt))) := Fr.kp KP (by omega) (by omega)
  refine bodyPost_ret (v := .agg #[.string f.name, .int .u8 f.type.kind, .string f.type.name, .slice pt mt qt]) (by rw [results_cell1 rfl]; go_simp) rfl ⟨(.slice pt mt qt), rfl, Lib.hid ?_, (((((BB.out.trans (HB.out.mono (by omega))).setCell (by simp) _).setCell (by simp) _).setCell (by simp) _).setCell (by simp) _)⟩
  exact ⟨hs, PT.In.reads KP.1 RD HF1.out⟩
end Go.Proofs.YtojeijeimpffgaaGreat
