/- The code's copier: arms (made by gen_clo.py). -/
import Derived.Test.YtojeijeimpffgaaGreatQTreeCloE
import Derived.Test.YtojeijeimpffgaaGreatQTreeCloT
import Derived.Test.YtojeijeimpffgaaGreatQJoinX
namespace Go.Proofs.YtojeijeimpffgaaGreat
open Go.RowKit
set_option linter.unusedVariables false

theorem clo4_enters : ∀ args w, (callFunc 72 args).run Tryz.prog w = .ok (.enter 72 args) w := enters_of Tryz.func72 (by kernel_rfl) rfl
theorem clo5_enters : ∀ args w, (callFunc 74 args).run Tryz.prog w = .ok (.enter 74 args) w := enters_of Tryz.func74 (by kernel_rfl) rfl
def CloSAt (kf : FuncId) (C K : Nat) (at' : Bool) (t : PS) : Prop := ∀ (B : Nat) (v : VS) (W : World), B ≤ W.heap.size → BenchAt kf C K W → t.In B W v →
  Calls Tryz.prog 74 #[.agg (srtS.cells t v).toArray, .pointer (some ⟨C, 0, none⟩), .pointer (some ⟨K, 0, none⟩)] W fun e w' => ∃ x' : VS, e = .returned (.agg (srtS.cells (erS at' t) x').toArray) ∧ Hid (PS.In w'.heap.size (Fr W.heap.size w') (erS at' t) x') ∧ Below W.heap.size W w'
def CloAAt (kf : FuncId) (C K : Nat) (at' : Bool) (t : PA) : Prop := ∀ (B : Nat) (v : Value) (W : World), B ≤ W.heap.size → BenchAt kf C K W → t.In B W v →
  Calls Tryz.prog 72 #[.agg (srtA.cells t v).toArray, .pointer (some ⟨C, 0, none⟩)] W fun e w' => ∃ x' : Value, e = .returned (.agg (srtA.cells (erA at' t) x').toArray) ∧ Hid (PA.In w'.heap.size (Fr W.heap.size w') (erA at' t) x') ∧ Below W.heap.size W w'
attribute [local go_sem ↓] Go.wp_at_zero Go.wp_at_succ
set_option maxRecDepth 100000 in
set_option maxHeartbeats 6400000 in
theorem cloA_step (kf : FuncId) (C K : Nat) (at' : Bool) (vn nm : ByteArray) (bo : List PS) (hvn : vn.size ≤ 1000000) (hnm : nm.size ≤ 1000000) (hl : bo.length ≤ 1000000) (ih : ∀ t, t ∈ bo → CloSAt kf C K at' t) : CloAAt kf C K at' (.mk vn nm bo) := by
  intro B v W hB hbe ht
  obtain ⟨hs, b1, o1, s1, r1⟩ := ht
  obtain ⟨ao, cap, rfl⟩ := s1.shape
  obtain ⟨n, hn⟩ : ∃ n, n = bo.length := ⟨_, rfl⟩
  have S1 : Hid (SlV B (.slice ao n cap) bo.length b1 o1) := Lib.hid (by rw [hn]; exact s1)
  rw [← hn]
  have Hr := Lib.hid r1
  have IH := Lib.hid ih
  have HBe := Lib.hid hbe
  clear s1 r1 ih hbe hn
  show Calls Tryz.prog 72 #[.agg #[.string vn, .string nm, .slice ao n cap], .pointer (some ⟨C, 0, none⟩)] W _
  go_enter Tryz.func72, Tryz.ntmps72
  go_wp2_with fail
  obtain ⟨W0, hW0⟩ : ∃ W0, W0 = (W.alloc (Obj.cells #[.string vn, .string nm, .slice ao n cap] 96)).alloc (Obj.cells #[.string ⟨#[]⟩, .string ⟨#[]⟩, .slice none 0 0] 96) := ⟨_, rfl⟩
  rw [← hW0]
  have sz : W0.heap.size = W.heap.size + 2 := by rw [hW0]; simp
  have BB : Hid (Below W.heap.size W W0) := Lib.hid (hW0 ▸ ((Below.refl _ W).alloc (Nat.le_refl _) _).alloc (by simp) _)
  have x0 : W0.cell? ⟨W.heap.size, 0, none⟩ = some (.string vn) := by rw [hW0]; go_simp
  have x1 : W0.cell? ⟨W.heap.size, 1, none⟩ = some (.string nm) := by rw [hW0]; go_simp
  have x2 : W0.cell? ⟨W.heap.size, 2, none⟩ = some (.slice ao n cap) := by rw [hW0]; go_simp
  have r0 : W0.cell? ⟨W.heap.size + 1, 0, none⟩ = some (.string ⟨#[]⟩) := by rw [hW0]; go_simp
  have r1 : W0.cell? ⟨W.heap.size + 1, 1, none⟩ = some (.string ⟨#[]⟩) := by rw [hW0]; go_simp
  have r2 : W0.cell? ⟨W.heap.size + 1, 2, none⟩ = some (.slice none 0 0) := by rw [hW0]; go_simp
  have g0 : W0.frozen? ⟨W.heap.size + 1, 0, none⟩ = false := by rw [hW0]; go_simp
  have g1 : W0.frozen? ⟨W.heap.size + 1, 1, none⟩ = false := by rw [hW0]; go_simp
  have g2 : W0.frozen? ⟨W.heap.size + 1, 2, none⟩ = false := by rw [hW0]; go_simp
  have cc4 : W0.cell? ⟨C, 4, none⟩ = some (.func (.func 74) #[] #[.pointer (some ⟨C, 0, none⟩), .pointer (some ⟨K, 0, none⟩)]) := (BB.out.cell (p := ⟨C, 4, none⟩) HBe.out.hc).trans (by have := HBe.out.c 4 _ rfl; rwa [Nat.zero_add] at this)
  have hC : C < W.heap.size + 1 := by have := HBe.out.hc; omega
  have hX : W.heap.size < W.heap.size + 1 := by omega
  clear hW0
  have K0 : Hid (∀ W1 : World, Calls Tryz.prog 66 #[.string vn] W1 fun e w' => e = .returned (.string vn) ∧ Below W1.heap.size W1 w') :=
    Lib.hid fun W1 => clone_calls vn W1 (Nat.le_trans hvn (by decide))
  have K1 : Hid (∀ W1 : World, Calls Tryz.prog 66 #[.string nm] W1 fun e w' => e = .returned (.string nm) ∧ Below W1.heap.size W1 w') :=
    Lib.hid fun W1 => clone_calls nm W1 (Nat.le_trans hnm (by decide))
  have K2 : Hid (∀ W1, Below W0.heap.size W0 W1 → Calls Tryz.prog 73 #[.slice ao n cap, .func (.func 74) #[] #[.pointer (some ⟨C, 0, none⟩), .pointer (some ⟨K, 0, none⟩)]] W1 fun e w' => ∃ ua uc, e = .returned (.slice ua bo.length uc) ∧ Hid (SsF W1.heap.size w' (erSs at' bo) (.slice ua bo.length uc)) ∧ Below W1.heap.size W1 w') :=
    Lib.hid fun W1 h => by
      have bw : Below W.heap.size W W1 := BB.out.trans (h.mono (by omega))
      have z := bw.size
      obtain ⟨b, o, hs, hr⟩ := (⟨_, _, S1.out, PS.Row.below' (bw.mono hB) S1.out Hr.out⟩ : ∃ b o, SlV B (.slice ao n cap) bo.length b o ∧ PS.Row B W1 b o bo)
      refine (eachS_calls (B := B) (lb := #[.pointer (some ⟨C, 0, none⟩), .pointer (some ⟨K, 0, none⟩)]) (erS at') bo (.slice ao n cap) b o W1 clo5_enters (fun t ht W2 x hW hx => IH.out t ht B x W2 (by have := hW.size; omega) (HBe.out.below (bw.trans (hW.mono (by omega)))) hx) (by omega) hs hr hl).mono ?_
      rintro e w' ⟨ua, uc, he, h1, h2⟩
      exact ⟨ua, uc, he, Lib.hid (by obtain ⟨b2, o2, k1, k2⟩ := h1.out; rw [erSs_map]; exact ⟨b2, o2, by rw [List.length_map]; exact k1, k2⟩), h2⟩
  have HB : Hid (Below W0.heap.size W0 W0.drew) := Lib.hid (Below.refl _ W0).drew
  have XB : ∀ b o, b < W.heap.size + 1 → W0.drew.cell? ⟨b, o, none⟩ = W0.cell? ⟨b, o, none⟩ := fun b o _ => rfl
  go_region_held3 (fun w' => ∀ b o, b < W.heap.size + 1 → w'.cell? ⟨b, o, none⟩ = W0.cell? ⟨b, o, none⟩) (first | with_reducible exact XB | ((repeat (with_reducible refine low_set ?_ (Nat.le_refl _))); with_reducible exact XB))
    (first
        | (go_at_call 66; (with_reducible refine (K0.out _).mono ?_)
           rintro e wj0 ⟨rfl, bj⟩
           have zj := bj.size
           have zh := HB.out.size
           have HB : Hid (Below W0.heap.size W0 wj0) := Lib.hid (HB.out.trans (bj.mono zh))
           have XB : ∀ b o, b < W.heap.size + 1 → wj0.cell? ⟨b, o, none⟩ = W0.cell? ⟨b, o, none⟩ := low_of HB.out (by omega)
           clear bj zj zh)
        | (go_at_call 66; (with_reducible refine (K1.out _).mono ?_)
           rintro e wj1 ⟨rfl, bj⟩
           have zj := bj.size
           have zh := HB.out.size
           have HB : Hid (Below W0.heap.size W0 wj1) := Lib.hid (HB.out.trans (bj.mono zh))
           have XB : ∀ b o, b < W.heap.size + 1 → wj1.cell? ⟨b, o, none⟩ = W0.cell? ⟨b, o, none⟩ := low_of HB.out (by omega)
           clear bj zj zh)
        | (go_at_call 73; (with_reducible refine (K2.out _ HB.out).mono ?_)
           rintro e wj2 ⟨pb, qb, rfl, hfb, bj⟩
           have zj := bj.size
           have zh := HB.out.size
           have HF2 : Hid (SsF W0.heap.size wj2 (erSs at' bo) (.slice pb bo.length qb)) := Lib.hid (SsF.up (Nat.le_refl _) (Fr.reads zh (fun _ _ _ => rfl)) hfb.out)
           have HB : Hid (Below W0.heap.size W0 wj2) := Lib.hid (HB.out.trans (bj.mono zh))
           have XB : ∀ b o, b < W.heap.size + 1 → wj2.cell? ⟨b, o, none⟩ = W0.cell? ⟨b, o, none⟩ := low_of HB.out (by omega)
           have s0 : wj2.cell? ⟨W.heap.size + 1, 0, none⟩ = some (.string ⟨#[]⟩) := (HB.out.cell (p := ⟨W.heap.size + 1, 0, none⟩) (by simp; omega)).trans r0
           have s1 : wj2.cell? ⟨W.heap.size + 1, 1, none⟩ = some (.string ⟨#[]⟩) := (HB.out.cell (p := ⟨W.heap.size + 1, 1, none⟩) (by simp; omega)).trans r1
           have s2 : wj2.cell? ⟨W.heap.size + 1, 2, none⟩ = some (.slice none 0 0) := (HB.out.cell (p := ⟨W.heap.size + 1, 2, none⟩) (by simp; omega)).trans r2
           have t0 : wj2.frozen? ⟨W.heap.size + 1, 0, none⟩ = false := (HB.out.frozen (p := ⟨W.heap.size + 1, 0, none⟩) (by simp; omega)).trans g0
           have t1 : wj2.frozen? ⟨W.heap.size + 1, 1, none⟩ = false := (HB.out.frozen (p := ⟨W.heap.size + 1, 1, none⟩) (by simp; omega)).trans g1
           have t2 : wj2.frozen? ⟨W.heap.size + 1, 2, none⟩ = false := (HB.out.frozen (p := ⟨W.heap.size + 1, 2, none⟩) (by simp; omega)).trans g2
           clear bj zj zh hfb))
  go_wp2_with fail
  (try simp only [Exit.inBlock, Exit.then])
  have KP : Kp (W.heap.size + 1) wj2 (((wj2.setCell ⟨W.heap.size + 1, 0, none⟩ (.string vn)).setCell ⟨W.heap.size + 1, 1, none⟩ (.string nm)).setCell ⟨W.heap.size + 1, 2, none⟩ (.slice pb bo.length qb)) := ((((Kp.refl (W.heap.size + 1) wj2).set _).set _).set _)
  have RD : Reads (Fr W0.heap.size wj2) (Fr W.heap.size (((wj2.setCell ⟨W.heap.size + 1, 0, none⟩ (.string vn)).setCell ⟨W.heap.size + 1, 1, none⟩ (.string nm)).setCell ⟨W.heap.size + 1, 2, none⟩ (.slice pb bo.length qb))) := Fr.kp KP (by omega) (by omega)
  refine bodyPost_ret (v := .agg #[.string vn, .string nm, .slice pb bo.length qb]) (by rw [results_cell1 rfl]; go_simp) rfl ⟨(.slice pb bo.length qb), rfl, Lib.hid ?_, ((((BB.out.trans (HB.out.mono (by omega))).setCell (by simp) _).setCell (by simp) _).setCell (by simp) _)⟩
  exact ⟨hs, SsF.up KP.1 RD HF2.out⟩
end Go.Proofs.YtojeijeimpffgaaGreat
