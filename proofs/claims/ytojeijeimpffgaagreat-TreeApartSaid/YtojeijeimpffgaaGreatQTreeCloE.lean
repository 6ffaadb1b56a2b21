/- The code's copier: expressions (made by gen_clo.py). -/
import Derived.Test.YtojeijeimpffgaaGreatQTreeCloP
import Derived.Test.YtojeijeimpffgaaGreatQJoinX
namespace Go.Proofs.YtojeijeimpffgaaGreat
open Go.RowKit
set_option linter.unusedVariables false

theorem clo3_enters : ∀ args w, (callFunc 70 args).run Tryz.prog w = .ok (.enter 70 args) w := enters_of Tryz.func70 (by kernel_rfl) rfl
def CloEAt (kf : FuncId) (C K : Nat) (at' : Bool) (t : PE) : Prop := ∀ (B : Nat) (v : VE) (W : World), B ≤ W.heap.size → BenchAt kf C K W → t.In B W v →
  Calls Tryz.prog 70 #[.agg #[.int .u8 t.op, .int .i64 t.int, .string t.name, .string t.second, .string t.place.name, v.path, v.args, .int .i64 t.pos], .pointer (some ⟨C, 0, none⟩), .pointer (some ⟨K, 0, none⟩)] W fun e w' => ∃ x' : VE, e = .returned (.agg #[.int .u8 (erE at' t).op, .int .i64 (erE at' t).int, .string (erE at' t).name, .string (erE at' t).second, .string (erE at' t).place.name, x'.path, x'.args, .int .i64 (erE at' t).pos]) ∧ Hid (PE.In w'.heap.size (Fr W.heap.size w') (erE at' t) x') ∧ Below W.heap.size W w'
attribute [local go_sem ↓] Go.wp_at_zero Go.wp_at_succ
set_option maxRecDepth 100000 in
set_option maxHeartbeats 6400000 in
theorem cloE_step (kf : FuncId) (C K : Nat) (at' : Bool) (HKF : KeepOf kf at') (op int : Int) (nm sc : ByteArray) (pl : PP) (l : List PE) (pos : Int) (hnm : nm.size ≤ 1000000) (hsc : sc.size ≤ 1000000) (hsp : SmP pl) (hl : l.length ≤ 1000000) (ih : ∀ t, t ∈ l → CloEAt kf C K at' t) : CloEAt kf C K at' (.mk op int nm sc pl l pos) := by
  intro B v W hB hbe ht
  obtain ⟨pv, av⟩ := v
  obtain ⟨⟨hu, hin, hpos, hs1, hs2⟩, hp, b1, o1, s1, r1⟩ := ht
  obtain ⟨pa, pn, pc, rfl⟩ := hp.2.shape
  obtain ⟨ao, cap, rfl⟩ := s1.shape
  obtain ⟨n, hn⟩ : ∃ n, n = l.length := ⟨_, rfl⟩
  have S1 : Hid (SlV B (.slice ao n cap) l.length b1 o1) := Lib.hid (by rw [hn]; exact s1)
  rw [← hn]
  have Hr := Lib.hid r1
  have IH := Lib.hid ih
  have HBe := Lib.hid hbe
  have HP := Lib.hid hp
  clear s1 r1 ih hbe hn hp
  show Calls Tryz.prog 70 #[.agg #[.int .u8 op, .int .i64 int, .string nm, .string sc, .string pl.name, .slice pa pn pc, .slice ao n cap, .int .i64 pos], .pointer (some ⟨C, 0, none⟩), .pointer (some ⟨K, 0, none⟩)] W _
  go_enter Tryz.func70, Tryz.ntmps70
  go_wp2_with fail
  obtain ⟨W0, hW0⟩ : ∃ W0, W0 = (W.alloc (Obj.cells #[.int .u8 op, .int .i64 int, .string nm, .string sc, .string pl.name, .slice pa pn pc, .slice ao n cap, .int .i64 pos] 45)).alloc (Obj.cells #[.int .u8 0, .int .i64 0, .string ⟨#[]⟩, .string ⟨#[]⟩, .string ⟨#[]⟩, .slice none 0 0, .slice none 0 0, .int .i64 0] 45) := ⟨_, rfl⟩
  rw [← hW0]
  have sz : W0.heap.size = W.heap.size + 2 := by rw [hW0]; simp
  have BB : Hid (Below W.heap.size W W0) := Lib.hid (hW0 ▸ ((Below.refl _ W).alloc (Nat.le_refl _) _).alloc (by simp) _)
  have x0 : W0.cell? ⟨W.heap.size, 0, none⟩ = some (.int .u8 op) := by rw [hW0]; go_simp
  have x1 : W0.cell? ⟨W.heap.size, 1, none⟩ = some (.int .i64 int) := by rw [hW0]; go_simp
  have x2 : W0.cell? ⟨W.heap.size, 2, none⟩ = some (.string nm) := by rw [hW0]; go_simp
  have x3 : W0.cell? ⟨W.heap.size, 3, none⟩ = some (.string sc) := by rw [hW0]; go_simp
  have x4 : W0.cell? ⟨W.heap.size, 4, none⟩ = some (.string pl.name) := by rw [hW0]; go_simp
  have x5 : W0.cell? ⟨W.heap.size, 5, none⟩ = some (.slice pa pn pc) := by rw [hW0]; go_simp
  have x6 : W0.cell? ⟨W.heap.size, 6, none⟩ = some (.slice ao n cap) := by rw [hW0]; go_simp
  have x7 : W0.cell? ⟨W.heap.size, 7, none⟩ = some (.int .i64 pos) := by rw [hW0]; go_simp
  have r0 : W0.cell? ⟨W.heap.size + 1, 0, none⟩ = some (.int .u8 0) := by rw [hW0]; go_simp
  have r1 : W0.cell? ⟨W.heap.size + 1, 1, none⟩ = some (.int .i64 0) := by rw [hW0]; go_simp
  have r2 : W0.cell? ⟨W.heap.size + 1, 2, none⟩ = some (.string ⟨#[]⟩) := by rw [hW0]; go_simp
  have r3 : W0.cell? ⟨W.heap.size + 1, 3, none⟩ = some (.string ⟨#[]⟩) := by rw [hW0]; go_simp
  have r4 : W0.cell? ⟨W.heap.size + 1, 4, none⟩ = some (.string ⟨#[]⟩) := by rw [hW0]; go_simp
  have r5 : W0.cell? ⟨W.heap.size + 1, 5, none⟩ = some (.slice none 0 0) := by rw [hW0]; go_simp
  have r6 : W0.cell? ⟨W.heap.size + 1, 6, none⟩ = some (.slice none 0 0) := by rw [hW0]; go_simp
  have r7 : W0.cell? ⟨W.heap.size + 1, 7, none⟩ = some (.int .i64 0) := by rw [hW0]; go_simp
  have g0 : W0.frozen? ⟨W.heap.size + 1, 0, none⟩ = false := by rw [hW0]; go_simp
  have g1 : W0.frozen? ⟨W.heap.size + 1, 1, none⟩ = false := by rw [hW0]; go_simp
  have g2 : W0.frozen? ⟨W.heap.size + 1, 2, none⟩ = false := by rw [hW0]; go_simp
  have g3 : W0.frozen? ⟨W.heap.size + 1, 3, none⟩ = false := by rw [hW0]; go_simp
  have g4 : W0.frozen? ⟨W.heap.size + 1, 4, none⟩ = false := by rw [hW0]; go_simp
  have g5 : W0.frozen? ⟨W.heap.size + 1, 5, none⟩ = false := by rw [hW0]; go_simp
  have g6 : W0.frozen? ⟨W.heap.size + 1, 6, none⟩ = false := by rw [hW0]; go_simp
  have g7 : W0.frozen? ⟨W.heap.size + 1, 7, none⟩ = false := by rw [hW0]; go_simp
  have cc0 : W0.cell? ⟨C, 0, none⟩ = some (.func (.func 65) #[] #[]) := (BB.out.cell (p := ⟨C, 0, none⟩) HBe.out.hc).trans (by have := HBe.out.c 0 _ rfl; rwa [Nat.zero_add] at this)
  have cc2 : W0.cell? ⟨C, 2, none⟩ = some (.func (.func 70) #[] #[.pointer (some ⟨C, 0, none⟩), .pointer (some ⟨K, 0, none⟩)]) := (BB.out.cell (p := ⟨C, 2, none⟩) HBe.out.hc).trans (by have := HBe.out.c 2 _ rfl; rwa [Nat.zero_add] at this)
  have hC : C < W.heap.size + 1 := by have := HBe.out.hc; omega
  have k0 : W0.cell? ⟨K, 0, none⟩ = some (.func (.func kf) #[] #[]) := (BB.out.cell (p := ⟨K, 0, none⟩) HBe.out.hk).trans (by have := HBe.out.k 0 _ rfl; rwa [Nat.zero_add] at this)
  have hK : K < W.heap.size + 1 := by have := HBe.out.hk; omega
  have hE := HKF.enters
  obtain ⟨ps, hps⟩ : ∃ ps : Int, ps = (if at' then pos else 0) := ⟨_, rfl⟩
  have hX : W.heap.size < W.heap.size + 1 := by omega
  clear hW0
  have K0 : Hid (∀ W1 : World, Calls Tryz.prog 66 #[.string nm] W1 fun e w' => e = .returned (.string nm) ∧ Below W1.heap.size W1 w') :=
    Lib.hid fun W1 => clone_calls nm W1 (Nat.le_trans hnm (by decide))
  have K1 : Hid (∀ W1 : World, Calls Tryz.prog 66 #[.string sc] W1 fun e w' => e = .returned (.string sc) ∧ Below W1.heap.size W1 w') :=
    Lib.hid fun W1 => clone_calls sc W1 (Nat.le_trans hsc (by decide))
  have K2 : Hid (∀ W1, Below W0.heap.size W0 W1 → Calls Tryz.prog 65 #[.agg #[.string pl.name, .slice pa pn pc]] W1 fun e w' => ∃ x' : Value, e = .returned (.agg #[.string pl.name, x']) ∧ Hid (PP.In w'.heap.size (Fr W1.heap.size w') pl x') ∧ Below W1.heap.size W1 w') :=
    Lib.hid fun W1 h => by
      have bw : Below W.heap.size W W1 := BB.out.trans (h.mono (by omega))
      have z := bw.size
      exact cloP_calls pl (hsp) B _ W1 (by omega) (PP.In.below HP.out (bw.mono hB))
  have K3 : Hid (∀ W1, Below W0.heap.size W0 W1 → Calls Tryz.prog 71 #[.slice ao n cap, .func (.func 70) #[] #[.pointer (some ⟨C, 0, none⟩), .pointer (some ⟨K, 0, none⟩)]] W1 fun e w' => ∃ ua uc, e = .returned (.slice ua l.length uc) ∧ Hid (EsF W1.heap.size w' (erEs at' l) (.slice ua l.length uc)) ∧ Below W1.heap.size W1 w') :=
    Lib.hid fun W1 h => by
      have bw : Below W.heap.size W W1 := BB.out.trans (h.mono (by omega))
      have z := bw.size
      obtain ⟨b, o, hs, hr⟩ := (⟨_, _, S1.out, PE.Row.below' (bw.mono hB) S1.out Hr.out⟩ : ∃ b o, SlV B (.slice ao n cap) l.length b o ∧ PE.Row B W1 b o l)
      refine (eachE_calls (B := B) (lb := #[.pointer (some ⟨C, 0, none⟩), .pointer (some ⟨K, 0, none⟩)]) (erE at') l (.slice ao n cap) b o W1 clo3_enters (fun t ht W2 x hW hx => IH.out t ht B x W2 (by have := hW.size; omega) (HBe.out.below (bw.trans (hW.mono (by omega)))) hx) (by omega) hs hr hl).mono ?_
      rintro e w' ⟨ua, uc, he, h1, h2⟩
      exact ⟨ua, uc, he, Lib.hid (by obtain ⟨b2, o2, k1, k2⟩ := h1.out; rw [erEs_map]; exact ⟨b2, o2, by rw [List.length_map]; exact k1, k2⟩), h2⟩
  have K4 : Hid (∀ W1, Calls Tryz.prog kf #[.int .i64 pos] W1 fun e w' => e = .returned (.int .i64 ps) ∧ W1 = w') :=
    Lib.hid fun W1 => by rw [hps]; exact HKF.calls pos W1
  have Hps := Lib.hid hps
  clear hps
  have HB : Hid (Below W0.heap.size W0 W0.drew) := Lib.hid (Below.refl _ W0).drew
  have XB : ∀ b o, b < W.heap.size + 1 → W0.drew.cell? ⟨b, o, none⟩ = W0.cell? ⟨b, o, none⟩ := fun b o _ => rfl
  go_region_held3 (fun w' => ∀ b o, b < W.heap.size + 1 → w'.cell? ⟨b, o, none⟩ = W0.cell? ⟨b, o, none⟩) (first | with_reducible exact XB | ((repeat (with_reducible refine low_set ?_ (Nat.le_refl _))); with_reducible exact XB))
    (first
        | (go_at_call 66; (with_reducible refine (K0.out _).mono ?_)
           rintro e wj0 ⟨rfl, bj⟩
           have zj := bj.size
           have zh := HB.out.size
           have HB : Hid (Below W0.heap.size W0 wj0) := Lib.hid (HB.out.trans (bj.mono zh))
           have XB : ∀ b o, b < W.heap.size + 1 → wj0.cell? ⟨b, o, none⟩ = W0.cell? ⟨b, o, none⟩ := low_of HB.out (by omega)
           clear bj zj zh)
        | (go_at_call 66; (with_reducible refine (K1.out _).mono ?_)
           rintro e wj1 ⟨rfl, bj⟩
           have zj := bj.size
           have zh := HB.out.size
           have HB : Hid (Below W0.heap.size W0 wj1) := Lib.hid (HB.out.trans (bj.mono zh))
           have XB : ∀ b o, b < W.heap.size + 1 → wj1.cell? ⟨b, o, none⟩ = W0.cell? ⟨b, o, none⟩ := low_of HB.out (by omega)
           clear bj zj zh)
        | (go_at_call 65; (with_reducible refine (K2.out _ HB.out).mono ?_)
           rintro e wj2 ⟨xp, rfl, hfp, bj⟩
           obtain ⟨pp, mp, qp, rfl⟩ := hfp.out.2.shape
           have zj := bj.size
           have zh := HB.out.size
           have HF2 : Hid (PP.In wj2.heap.size (Fr W0.heap.size wj2) pl (.slice pp mp qp)) := Lib.hid (PP.In.reads (Nat.le_refl _) (Fr.reads zh (fun _ _ _ => rfl)) hfp.out)
           have HB : Hid (Below W0.heap.size W0 wj2) := Lib.hid (HB.out.trans (bj.mono zh))
           have XB : ∀ b o, b < W.heap.size + 1 → wj2.cell? ⟨b, o, none⟩ = W0.cell? ⟨b, o, none⟩ := low_of HB.out (by omega)
           clear bj zj zh hfp)
        | (go_at_call 71; (with_reducible refine (K3.out _ HB.out).mono ?_)
           rintro e wj3 ⟨pls, qls, rfl, hfls, bj⟩
           have zj := bj.size
           have zh := HB.out.size
           have HF3 : Hid (EsF W0.heap.size wj3 (erEs at' l) (.slice pls l.length qls)) := Lib.hid (EsF.up (Nat.le_refl _) (Fr.reads zh (fun _ _ _ => rfl)) hfls.out)
           have HF2 : Hid (PP.In wj3.heap.size (Fr W0.heap.size wj3) pl (.slice pp mp qp)) := Lib.hid (PP.In.reads zj (Fr.below (Nat.le_refl _) bj) HF2.out)
           have HB : Hid (Below W0.heap.size W0 wj3) := Lib.hid (HB.out.trans (bj.mono zh))
           have XB : ∀ b o, b < W.heap.size + 1 → wj3.cell? ⟨b, o, none⟩ = W0.cell? ⟨b, o, none⟩ := low_of HB.out (by omega)
           have s0 : wj3.cell? ⟨W.heap.size + 1, 0, none⟩ = some (.int .u8 0) := (HB.out.cell (p := ⟨W.heap.size + 1, 0, none⟩) (by simp; omega)).trans r0
           have s1 : wj3.cell? ⟨W.heap.size + 1, 1, none⟩ = some (.int .i64 0) := (HB.out.cell (p := ⟨W.heap.size + 1, 1, none⟩) (by simp; omega)).trans r1
           have s2 : wj3.cell? ⟨W.heap.size + 1, 2, none⟩ = some (.string ⟨#[]⟩) := (HB.out.cell (p := ⟨W.heap.size + 1, 2, none⟩) (by simp; omega)).trans r2
           have s3 : wj3.cell? ⟨W.heap.size + 1, 3, none⟩ = some (.string ⟨#[]⟩) := (HB.out.cell (p := ⟨W.heap.size + 1, 3, none⟩) (by simp; omega)).trans r3
           have s4 : wj3.cell? ⟨W.heap.size + 1, 4, none⟩ = some (.string ⟨#[]⟩) := (HB.out.cell (p := ⟨W.heap.size + 1, 4, none⟩) (by simp; omega)).trans r4
           have s5 : wj3.cell? ⟨W.heap.size + 1, 5, none⟩ = some (.slice none 0 0) := (HB.out.cell (p := ⟨W.heap.size + 1, 5, none⟩) (by simp; omega)).trans r5
           have s6 : wj3.cell? ⟨W.heap.size + 1, 6, none⟩ = some (.slice none 0 0) := (HB.out.cell (p := ⟨W.heap.size + 1, 6, none⟩) (by simp; omega)).trans r6
           have s7 : wj3.cell? ⟨W.heap.size + 1, 7, none⟩ = some (.int .i64 0) := (HB.out.cell (p := ⟨W.heap.size + 1, 7, none⟩) (by simp; omega)).trans r7
           have t0 : wj3.frozen? ⟨W.heap.size + 1, 0, none⟩ = false := (HB.out.frozen (p := ⟨W.heap.size + 1, 0, none⟩) (by simp; omega)).trans g0
           have t1 : wj3.frozen? ⟨W.heap.size + 1, 1, none⟩ = false := (HB.out.frozen (p := ⟨W.heap.size + 1, 1, none⟩) (by simp; omega)).trans g1
           have t2 : wj3.frozen? ⟨W.heap.size + 1, 2, none⟩ = false := (HB.out.frozen (p := ⟨W.heap.size + 1, 2, none⟩) (by simp; omega)).trans g2
           have t3 : wj3.frozen? ⟨W.heap.size + 1, 3, none⟩ = false := (HB.out.frozen (p := ⟨W.heap.size + 1, 3, none⟩) (by simp; omega)).trans g3
           have t4 : wj3.frozen? ⟨W.heap.size + 1, 4, none⟩ = false := (HB.out.frozen (p := ⟨W.heap.size + 1, 4, none⟩) (by simp; omega)).trans g4
           have t5 : wj3.frozen? ⟨W.heap.size + 1, 5, none⟩ = false := (HB.out.frozen (p := ⟨W.heap.size + 1, 5, none⟩) (by simp; omega)).trans g5
           have t6 : wj3.frozen? ⟨W.heap.size + 1, 6, none⟩ = false := (HB.out.frozen (p := ⟨W.heap.size + 1, 6, none⟩) (by simp; omega)).trans g6
           have t7 : wj3.frozen? ⟨W.heap.size + 1, 7, none⟩ = false := (HB.out.frozen (p := ⟨W.heap.size + 1, 7, none⟩) (by simp; omega)).trans g7
           clear bj zj zh hfls)
        | ((with_reducible refine (K4.out _).mono ?_)
           rintro e wj4 ⟨rfl, rfl⟩))
  go_wp2_with fail
  (try simp only [Exit.inBlock, Exit.then])
  have KP : Kp (W.heap.size + 1) wj3 ((((((((wj3.setCell ⟨W.heap.size + 1, 0, none⟩ (.int .u8 op)).setCell ⟨W.heap.size + 1, 1, none⟩ (.int .i64 int)).setCell ⟨W.heap.size + 1, 2, none⟩ (.string nm)).setCell ⟨W.heap.size + 1, 3, none⟩ (.string sc)).setCell ⟨W.heap.size + 1, 4, none⟩ (.string pl.name)).setCell ⟨W.heap.size + 1, 5, none⟩ (.slice pp mp qp)).setCell ⟨W.heap.size + 1, 6, none⟩ (.slice pls l.length qls)).setCell ⟨W.heap.size + 1, 7, none⟩ (.int .i64 ps)) := (((((((((Kp.refl (W.heap.size + 1) wj3).set _).set _).set _).set _).set _).set _).set _).set _)
  have RD : Reads (Fr W0.heap.size wj3) (Fr W.heap.size ((((((((wj3.setCell ⟨W.heap.size + 1, 0, none⟩ (.int .u8 op)).setCell ⟨W.heap.size + 1, 1, none⟩ (.int .i64 int)).setCell ⟨W.heap.size + 1, 2, none⟩ (.string nm)).setCell ⟨W.heap.size + 1, 3, none⟩ (.string sc)).setCell ⟨W.heap.size + 1, 4, none⟩ (.string pl.name)).setCell ⟨W.heap.size + 1, 5, none⟩ (.slice pp mp qp)).setCell ⟨W.heap.size + 1, 6, none⟩ (.slice pls l.length qls)).setCell ⟨W.heap.size + 1, 7, none⟩ (.int .i64 ps))) := Fr.kp KP (by omega) (by omega)
  have hps := Hps.out
  refine bodyPost_ret (v := .agg #[.int .u8 op, .int .i64 int, .string nm, .string sc, .string pl.name, .slice pp mp qp, .slice pls l.length qls, .int .i64 ps]) (by rw [results_cell1 rfl]; go_simp) rfl ⟨⟨.slice pp mp qp, .slice pls l.length qls⟩, by subst hps; rfl, Lib.hid ?_, (((((((((BB.out.trans (HB.out.mono (by omega))).setCell (by simp) _).setCell (by simp) _).setCell (by simp) _).setCell (by simp) _).setCell (by simp) _).setCell (by simp) _).setCell (by simp) _).setCell (by simp) _)⟩
  exact ⟨⟨hu, hin, keep_i64 hpos, hs1, hs2⟩, PP.In.reads KP.1 RD HF2.out, EsF.up KP.1 RD HF3.out⟩
/-- expressions, as deep as they are -/
theorem cloE_calls (kf : FuncId) (C K : Nat) (at' : Bool) (HKF : KeepOf kf at') : ∀ {t : PE}, SmE t → CloEAt kf C K at' t := fun h => by
  induction h with
  | mk op i n s p l pos hn hs hp hl h2 ih => exact cloE_step kf C K at' HKF op i n s p l pos hn hs hp hl ih
end Go.Proofs.YtojeijeimpffgaaGreat
