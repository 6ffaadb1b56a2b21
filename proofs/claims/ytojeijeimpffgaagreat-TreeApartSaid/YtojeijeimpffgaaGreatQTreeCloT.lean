/- The code's copier: types (made by gen_clo.py). -/
import Derived.Test.YtojeijeimpffgaaGreatQTreeBench
import Derived.Test.YtojeijeimpffgaaGreatQJoinX
namespace Go.Proofs.YtojeijeimpffgaaGreat
open Go.RowKit
set_option linter.unusedVariables false

theorem clo2_enters : ∀ args w, (callFunc 68 args).run Tryz.prog w = .ok (.enter 68 args) w := enters_of Tryz.func68 (by kernel_rfl) rfl
def CloTAt (kf : FuncId) (C K : Nat) (t : PT) : Prop := ∀ (B : Nat) (v : Value) (W : World), B ≤ W.heap.size → BenchAt kf C K W → t.In B W v →
  Calls Tryz.prog 68 #[.agg #[.int .u8 t.kind, .string t.name, v], .pointer (some ⟨C, 0, none⟩)] W fun e w' => ∃ x' : Value, e = .returned (.agg #[.int .u8 t.kind, .string t.name, x']) ∧ Hid (PT.In w'.heap.size (Fr W.heap.size w') t x') ∧ Below W.heap.size W w'
attribute [local go_sem ↓] Go.wp_at_zero Go.wp_at_succ
set_option maxRecDepth 100000 in
set_option maxHeartbeats 6400000 in
theorem cloT_step (kf : FuncId) (C K : Nat) (kd : Int) (nm : ByteArray) (l : List PT) (hnm : nm.size ≤ 1000000) (hl : l.length ≤ 1000000) (ih : ∀ t, t ∈ l → CloTAt kf C K t) : CloTAt kf C K (.mk kd nm l) := by
  intro B v W hB hbe ht
  obtain ⟨⟨hu, hs⟩, b1, o1, s1, r1⟩ := ht
  obtain ⟨ao, cap, rfl⟩ := s1.shape
  obtain ⟨n, hn⟩ : ∃ n, n = l.length := ⟨_, rfl⟩
  have S1 : Hid (SlV B (.slice ao n cap) l.length b1 o1) := Lib.hid (by rw [hn]; exact s1)
  rw [← hn]
  have Hr := Lib.hid r1
  have IH := Lib.hid ih
  have HBe := Lib.hid hbe
  clear s1 r1 ih hbe hn
  show Calls Tryz.prog 68 #[.agg #[.int .u8 kd, .string nm, .slice ao n cap], .pointer (some ⟨C, 0, none⟩)] W _
  go_enter Tryz.func68, Tryz.ntmps68
  go_wp2_with fail
  obtain ⟨W0, hW0⟩ : ∃ W0, W0 = (W.alloc (Obj.cells #[.int .u8 kd, .string nm, .slice ao n cap] 38)).alloc (Obj.cells #[.int .u8 0, .string ⟨#[]⟩, .slice none 0 0] 38) := ⟨_, rfl⟩
  rw [← hW0]
  have sz : W0.heap.size = W.heap.size + 2 := by rw [hW0]; simp
  have BB : Hid (Below W.heap.size W W0) := Lib.hid (hW0 ▸ ((Below.refl _ W).alloc (Nat.le_refl _) _).alloc (by simp) _)
  have x0 : W0.cell? ⟨W.heap.size, 0, none⟩ = some (.int .u8 kd) := by rw [hW0]; go_simp
  have x1 : W0.cell? ⟨W.heap.size, 1, none⟩ = some (.string nm) := by rw [hW0]; go_simp
  have x2 : W0.cell? ⟨W.heap.size, 2, none⟩ = some (.slice ao n cap) := by rw [hW0]; go_simp
  have r0 : W0.cell? ⟨W.heap.size + 1, 0, none⟩ = some (.int .u8 0) := by rw [hW0]; go_simp
  have r1 : W0.cell? ⟨W.heap.size + 1, 1, none⟩ = some (.string ⟨#[]⟩) := by rw [hW0]; go_simp
  have r2 : W0.cell? ⟨W.heap.size + 1, 2, none⟩ = some (.slice none 0 0) := by rw [hW0]; go_simp
  have g0 : W0.frozen? ⟨W.heap.size + 1, 0, none⟩ = false := by rw [hW0]; go_simp
  have g1 : W0.frozen? ⟨W.heap.size + 1, 1, none⟩ = false := by rw [hW0]; go_simp
  have g2 : W0.frozen? ⟨W.heap.size + 1, 2, none⟩ = false := by rw [hW0]; go_simp
  have cc1 : W0.cell? ⟨C, 1, none⟩ = some (.func (.func 68) #[] #[.pointer (some ⟨C, 0, none⟩)]) := (BB.out.cell (p := ⟨C, 1, none⟩) HBe.out.hc).trans (by have := HBe.out.c 1 _ rfl; rwa [Nat.zero_add] at this)
  have hC : C < W.heap.size + 1 := by have := HBe.out.hc; omega
  have hX : W.heap.size < W.heap.size + 1 := by omega
  clear hW0
  have K0 : Hid (∀ W1 : World, Calls Tryz.prog 66 #[.string nm] W1 fun e w' => e = .returned (.string nm) ∧ Below W1.heap.size W1 w') :=
    Lib.hid fun W1 => clone_calls nm W1 (Nat.le_trans hnm (by decide))
  have K1 : Hid (∀ W1, Below W0.heap.size W0 W1 → Calls Tryz.prog 69 #[.slice ao n cap, .func (.func 68) #[] #[.pointer (some ⟨C, 0, none⟩)]] W1 fun e w' => ∃ ua uc, e = .returned (.slice ua l.length uc) ∧ Hid (TsF W1.heap.size w' l (.slice ua l.length uc)) ∧ Below W1.heap.size W1 w') :=
    Lib.hid fun W1 h => by
      have bw : Below W.heap.size W W1 := BB.out.trans (h.mono (by omega))
      have z := bw.size
      obtain ⟨b, o, hs, hr⟩ := (⟨b1, o1, S1.out, PT.Row.below' (bw.mono hB) S1.out Hr.out⟩ : ∃ b o, SlV B (.slice ao n cap) l.length b o ∧ PT.Row B W1 b o l)
      refine (eachT_calls (B := B) (lb := #[.pointer (some ⟨C, 0, none⟩)]) id l (.slice ao n cap) b o W1 clo2_enters (fun t ht W2 x hW hx => IH.out t ht B x W2 (by have := hW.size; omega) (HBe.out.below (bw.trans (hW.mono (by omega)))) hx) (by omega) hs hr hl).mono ?_
      rintro e w' ⟨ua, uc, he, h1, h2⟩
      exact ⟨ua, uc, he, Lib.hid (by rw [List.map_id] at h1; exact h1.out), h2⟩
  have HB : Hid (Below W0.heap.size W0 W0.drew) := Lib.hid (Below.refl _ W0).drew
  have XB : ∀ b o, b < W.heap.size + 1 → W0.drew.cell? ⟨b, o, none⟩ = W0.cell? ⟨b, o, none⟩ := fun b o _ => rfl
  go_region_held3 (fun w' => ∀ b o, b < W.heap.size + 1 → w'.cell? ⟨b, o, none⟩ = W0.cell? ⟨b, o, none⟩) (first | with_reducible exact XB | ((repeat (with_reducible refine low_set ?_ (Nat.le_refl _))); with_reducible exact XB))
    (first
        | (go_at_call 66; (with_reducible refine (K0.out _).mono ?_)
           rintro e wj0 ⟨rfl, bj⟩
           have zj := bj.size
           have zh := HB.out.size
           have HB : Hid (Below W0.heap.size W0 wj0) := Lib.hid (HB.out.trans (bj.mono zh))
           have XB : ∀ b o, b < W.heap.size + 1 → wj0.cell? ⟨b, o, none⟩ = W0.cell? ⟨b, o, none⟩ := low_of HB.out (by omega)
           clear bj zj zh)
        | (go_at_call 69; (with_reducible refine (K1.out _ HB.out).mono ?_)
           rintro e wj1 ⟨pt, qt, rfl, hft, bj⟩
           have zj := bj.size
           have zh := HB.out.size
           have HF1 : Hid (TsF W0.heap.size wj1 l (.slice pt l.length qt)) := Lib.hid (TsF.up (Nat.le_refl _) (Fr.reads zh (fun _ _ _ => rfl)) hft.out)
           have HB : Hid (Below W0.heap.size W0 wj1) := Lib.hid (HB.out.trans (bj.mono zh))
           have XB : ∀ b o, b < W.heap.size + 1 → wj1.cell? ⟨b, o, none⟩ = W0.cell? ⟨b, o, none⟩ := low_of HB.out (by omega)
           have s0 : wj1.cell? ⟨W.heap.size + 1, 0, none⟩ = some (.int .u8 0) := (HB.out.cell (p := ⟨W.heap.size + 1, 0, none⟩) (by simp; omega)).trans r0
           have s1 : wj1.cell? ⟨W.heap.size + 1, 1, none⟩ = some (.string ⟨#[]⟩) := (HB.out.cell (p := ⟨W.heap.size + 1, 1, none⟩) (by simp; omega)).trans r1
           have s2 : wj1.cell? ⟨W.heap.size + 1, 2, none⟩ = some (.slice none 0 0) := (HB.out.cell (p := ⟨W.heap.size + 1, 2, none⟩) (by simp; omega)).trans r2
           have t0 : wj1.frozen? ⟨W.heap.size + 1, 0, none⟩ = false := (HB.out.frozen (p := ⟨W.heap.size + 1, 0, none⟩) (by simp; omega)).trans g0
           have t1 : wj1.frozen? ⟨W.heap.size + 1, 1, none⟩ = false := (HB.out.frozen (p := ⟨W.heap.size + 1, 1, none⟩) (by simp; omega)).trans g1
           have t2 : wj1.frozen? ⟨W.heap.size + 1, 2, none⟩ = false := (HB.out.frozen (p := ⟨W.heap.size + 1, 2, none⟩) (by simp; omega)).trans g2
           clear bj zj zh hft))
  go_wp2_with fail
  (try simp only [Exit.inBlock, Exit.then])
  have KP : Kp (W.heap.size + 1) wj1 (((wj1.setCell ⟨W.heap.size + 1, 0, none⟩ (.int .u8 kd)).setCell ⟨W.heap.size + 1, 1, none⟩ (.string nm)).setCell ⟨W.heap.size + 1, 2, none⟩ (.slice pt l.length qt)) := ((((Kp.refl (W.heap.size + 1) wj1).set _).set _).set _)
  have RD : Reads (Fr W0.heap.size wj1) (Fr W.heap.size (((wj1.setCell ⟨W.heap.size + 1, 0, none⟩ (.int .u8 kd)).setCell ⟨W.heap.size + 1, 1, none⟩ (.string nm)).setCell ⟨W.heap.size + 1, 2, none⟩ (.slice pt l.length qt))) := Fr.kp KP (by omega) (by omega)
  refine bodyPost_ret (v := .agg #[.int .u8 kd, .string nm, .slice pt l.length qt]) (by rw [results_cell1 rfl]; go_simp) rfl ⟨.slice pt l.length qt, rfl, Lib.hid ?_, ((((BB.out.trans (HB.out.mono (by omega))).setCell (by simp) _).setCell (by simp) _).setCell (by simp) _)⟩
  exact ⟨⟨hu, hs⟩, TsF.up KP.1 RD HF1.out⟩
/-- types, as deep as they are -/
theorem cloT_calls (kf : FuncId) (C K : Nat) : ∀ {t : PT}, SmT t → CloTAt kf C K t := fun h => by
  induction h with
  | mk k n l hn hl h2 ih => exact cloT_step kf C K k n l hn hl ih
end Go.Proofs.YtojeijeimpffgaaGreat
