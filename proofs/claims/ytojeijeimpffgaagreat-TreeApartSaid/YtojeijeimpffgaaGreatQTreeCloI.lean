/- The code's copier: items (made by gen_clo.py). -/
import Derived.Test.YtojeijeimpffgaaGreatQTreeCloS
import Derived.Test.YtojeijeimpffgaaGreatQTreeCloF
import Derived.Test.YtojeijeimpffgaaGreatQJoinX
namespace Go.Proofs.YtojeijeimpffgaaGreat
open Go.RowKit
set_option linter.unusedVariables false

theorem clo7_enters : ∀ args w, (callFunc 77 args).run Tryz.prog w = .ok (.enter 77 args) w := enters_of Tryz.func77 (by kernel_rfl) rfl
theorem clo8_enters : ∀ args w, (callFunc 79 args).run Tryz.prog w = .ok (.enter 79 args) w := enters_of Tryz.func79 (by kernel_rfl) rfl
attribute [local go_sem ↓] Go.wp_at_zero Go.wp_at_succ
set_option maxRecDepth 100000 in
set_option maxHeartbeats 6400000 in
theorem cloI_calls (kf : FuncId) (C K : Nat) (at' : Bool) (HKF : KeepOf kf at') (kd : Int) (nm : ByteArray) (fs : List PF) (ty : PT) (bo : List PS) (ret : PE) (pos : Int) (hS : SmI ⟨kd, nm, fs, ty, bo, ret, pos⟩) (B : Nat) (v : VI) (W : World) (hB : B ≤ W.heap.size) (hbe : BenchAt kf C K W) (ht : PI.In B W ⟨kd, nm, fs, ty, bo, ret, pos⟩ v) :
    Calls Tryz.prog 77 #[.agg (srtI.cells ⟨kd, nm, fs, ty, bo, ret, pos⟩ v).toArray, .pointer (some ⟨C, 0, none⟩), .pointer (some ⟨K, 0, none⟩)] W fun e w' => ∃ x' : VI, e = .returned (.agg (srtI.cells (erI at' ⟨kd, nm, fs, ty, bo, ret, pos⟩) x').toArray) ∧ Hid (PI.In w'.heap.size (Fr W.heap.size w') (erI at' ⟨kd, nm, fs, ty, bo, ret, pos⟩) x') ∧ Below W.heap.size W w' := by
  obtain ⟨a1, n1, c1, a2, n2, c2, a3, n3, c3, a4, n4, c4, a5, n5, c5, rfl⟩ := ht.shape
  obtain ⟨hsl, ⟨b2, o2, s2, r2⟩, htt, ⟨b3, o3, s3, r3⟩, hrr⟩ := ht
  have HFS := Lib.hid (And.intro s2 r2)
  have HT := Lib.hid htt
  have HBO := Lib.hid (And.intro s3 r3)
  have HR := Lib.hid hrr
  have HBe := Lib.hid hbe
  have Hsl := Lib.hid hsl
  clear htt hrr s2 r2 s3 r3 hbe hsl
  show Calls Tryz.prog 77 #[.agg #[.int .u8 kd, .string nm, .slice a1 n1 c1, .int .u8 ty.kind, .string ty.name, .slice a2 n2 c2, .slice a3 n3 c3, .int .u8 ret.op, .int .i64 ret.int, .string ret.name, .string ret.second, .string ret.place.name, .slice a4 n4 c4, .slice a5 n5 c5, .int .i64 ret.pos, .int .i64 pos], .pointer (some ⟨C, 0, none⟩), .pointer (some ⟨K, 0, none⟩)] W _
  go_enter Tryz.func77, Tryz.ntmps77
  go_wp2_with fail
  obtain ⟨W0, hW0⟩ : ∃ W0, W0 = (W.alloc (Obj.cells #[.int .u8 kd, .string nm, .slice a1 n1 c1, .int .u8 ty.kind, .string ty.name, .slice a2 n2 c2, .slice a3 n3 c3, .int .u8 ret.op, .int .i64 ret.int, .string ret.name, .string ret.second, .string ret.place.name, .slice a4 n4 c4, .slice a5 n5 c5, .int .i64 ret.pos, .int .i64 pos] 47)).alloc (Obj.cells #[.int .u8 0, .string ⟨#[]⟩, .slice none 0 0, .int .u8 0, .string ⟨#[]⟩, .slice none 0 0, .slice none 0 0, .int .u8 0, .int .i64 0, .string ⟨#[]⟩, .string ⟨#[]⟩, .string ⟨#[]⟩, .slice none 0 0, .slice none 0 0, .int .i64 0, .int .i64 0] 47) := ⟨_, rfl⟩
  rw [← hW0]
  have sz : W0.heap.size = W.heap.size + 2 := by rw [hW0]; simp
  have BB : Hid (Below W.heap.size W W0) := Lib.hid (hW0 ▸ ((Below.refl _ W).alloc (Nat.le_refl _) _).alloc (by simp) _)
  have x0 : W0.cell? ⟨W.heap.size, 0, none⟩ = some (.int .u8 kd) := by rw [hW0]; go_simp
  have x1 : W0.cell? ⟨W.heap.size, 1, none⟩ = some (.string nm) := by rw [hW0]; go_simp
  have x2 : W0.cell? ⟨W.heap.size, 2, none⟩ = some (.slice a1 n1 c1) := by rw [hW0]; go_simp
  have x3 : W0.cell? ⟨W.heap.size, 3, none⟩ = some (.int .u8 ty.kind) := by rw [hW0]; go_simp
  have x4 : W0.cell? ⟨W.heap.size, 4, none⟩ = some (.string ty.name) := by rw [hW0]; go_simp
  have x5 : W0.cell? ⟨W.heap.size, 5, none⟩ = some (.slice a2 n2 c2) := by rw [hW0]; go_simp
  have x6 : W0.cell? ⟨W.heap.size, 6, none⟩ = some (.slice a3 n3 c3) := by rw [hW0]; go_simp
  have x7 : W0.cell? ⟨W.heap.size, 7, none⟩ = some (.int .u8 ret.op) := by rw [hW0]; go_simp
  have x8 : W0.cell? ⟨W.heap.size, 8, none⟩ = some (.int .i64 ret.int) := by rw [hW0]; go_simp
  have x9 : W0.cell? ⟨W.heap.size, 9, none⟩ = some (.string ret.name) := by rw [hW0]; go_simp
  have x10 : W0.cell? ⟨W.heap.size, 10, none⟩ = some (.string ret.second) := by rw [hW0]; go_simp
  have x11 : W0.cell? ⟨W.heap.size, 11, none⟩ = some (.string ret.place.name) := by rw [hW0]; go_simp
  have x12 : W0.cell? ⟨W.heap.size, 12, none⟩ = some (.slice a4 n4 c4) := by rw [hW0]; go_simp
  have x13 : W0.cell? ⟨W.heap.size, 13, none⟩ = some (.slice a5 n5 c5) := by rw [hW0]; go_simp
  have x14 : W0.cell? ⟨W.heap.size, 14, none⟩ = some (.int .i64 ret.pos) := by rw [hW0]; go_simp
  have x15 : W0.cell? ⟨W.heap.size, 15, none⟩ = some (.int .i64 pos) := by rw [hW0]; go_simp
  have r0 : W0.cell? ⟨W.heap.size + 1, 0, none⟩ = some (.int .u8 0) := by rw [hW0]; go_simp
  have r1 : W0.cell? ⟨W.heap.size + 1, 1, none⟩ = some (.string ⟨#[]⟩) := by rw [hW0]; go_simp
  have r2 : W0.cell? ⟨W.heap.size + 1, 2, none⟩ = some (.slice none 0 0) := by rw [hW0]; go_simp
  have r3 : W0.cell? ⟨W.heap.size + 1, 3, none⟩ = some (.int .u8 0) := by rw [hW0]; go_simp
  have r4 : W0.cell? ⟨W.heap.size + 1, 4, none⟩ = some (.string ⟨#[]⟩) := by rw [hW0]; go_simp
  have r5 : W0.cell? ⟨W.heap.size + 1, 5, none⟩ = some (.slice none 0 0) := by rw [hW0]; go_simp
  have r6 : W0.cell? ⟨W.heap.size + 1, 6, none⟩ = some (.slice none 0 0) := by rw [hW0]; go_simp
  have r7 : W0.cell? ⟨W.heap.size + 1, 7, none⟩ = some (.int .u8 0) := by rw [hW0]; go_simp
  have r8 : W0.cell? ⟨W.heap.size + 1, 8, none⟩ = some (.int .i64 0) := by rw [hW0]; go_simp
  have r9 : W0.cell? ⟨W.heap.size + 1, 9, none⟩ = some (.string ⟨#[]⟩) := by rw [hW0]; go_simp
  have r10 : W0.cell? ⟨W.heap.size + 1, 10, none⟩ = some (.string ⟨#[]⟩) := by rw [hW0]; go_simp
  have r11 : W0.cell? ⟨W.heap.size + 1, 11, none⟩ = some (.string ⟨#[]⟩) := by rw [hW0]; go_simp
  have r12 : W0.cell? ⟨W.heap.size + 1, 12, none⟩ = some (.slice none 0 0) := by rw [hW0]; go_simp
  have r13 : W0.cell? ⟨W.heap.size + 1, 13, none⟩ = some (.slice none 0 0) := by rw [hW0]; go_simp
  have r14 : W0.cell? ⟨W.heap.size + 1, 14, none⟩ = some (.int .i64 0) := by rw [hW0]; go_simp
  have r15 : W0.cell? ⟨W.heap.size + 1, 15, none⟩ = some (.int .i64 0) := by rw [hW0]; go_simp
  have g0 : W0.frozen? ⟨W.heap.size + 1, 0, none⟩ = false := by rw [hW0]; go_simp
  have g1 : W0.frozen? ⟨W.heap.size + 1, 1, none⟩ = false := by rw [hW0]; go_simp
  have g2 : W0.frozen? ⟨W.heap.size + 1, 2, none⟩ = false := by rw [hW0]; go_simp
  have g3 : W0.frozen? ⟨W.heap.size + 1, 3, none⟩ = false := by rw [hW0]; go_simp
  have g4 : W0.frozen? ⟨W.heap.size + 1, 4, none⟩ = false := by rw [hW0]; go_simp
  have g5 : W0.frozen? ⟨W.heap.size + 1, 5, none⟩ = false := by rw [hW0]; go_simp
  have g6 : W0.frozen? ⟨W.heap.size + 1, 6, none⟩ = false := by rw [hW0]; go_simp
  have g7 : W0.frozen? ⟨W.heap.size + 1, 7, none⟩ = false := by rw [hW0]; go_simp
  have g8 : W0.frozen? ⟨W.heap.size + 1, 8, none⟩ = false := by rw [hW0]; go_simp
  have g9 : W0.frozen? ⟨W.heap.size + 1, 9, none⟩ = false := by rw [hW0]; go_simp
  have g10 : W0.frozen? ⟨W.heap.size + 1, 10, none⟩ = false := by rw [hW0]; go_simp
  have g11 : W0.frozen? ⟨W.heap.size + 1, 11, none⟩ = false := by rw [hW0]; go_simp
  have g12 : W0.frozen? ⟨W.heap.size + 1, 12, none⟩ = false := by rw [hW0]; go_simp
  have g13 : W0.frozen? ⟨W.heap.size + 1, 13, none⟩ = false := by rw [hW0]; go_simp
  have g14 : W0.frozen? ⟨W.heap.size + 1, 14, none⟩ = false := by rw [hW0]; go_simp
  have g15 : W0.frozen? ⟨W.heap.size + 1, 15, none⟩ = false := by rw [hW0]; go_simp
  have cc1 : W0.cell? ⟨C, 1, none⟩ = some (.func (.func 68) #[] #[.pointer (some ⟨C, 0, none⟩)]) := (BB.out.cell (p := ⟨C, 1, none⟩) HBe.out.hc).trans (by have := HBe.out.c 1 _ rfl; rwa [Nat.zero_add] at this)
  have cc2 : W0.cell? ⟨C, 2, none⟩ = some (.func (.func 70) #[] #[.pointer (some ⟨C, 0, none⟩), .pointer (some ⟨K, 0, none⟩)]) := (BB.out.cell (p := ⟨C, 2, none⟩) HBe.out.hc).trans (by have := HBe.out.c 2 _ rfl; rwa [Nat.zero_add] at this)
  have cc4 : W0.cell? ⟨C, 4, none⟩ = some (.func (.func 74) #[] #[.pointer (some ⟨C, 0, none⟩), .pointer (some ⟨K, 0, none⟩)]) := (BB.out.cell (p := ⟨C, 4, none⟩) HBe.out.hc).trans (by have := HBe.out.c 4 _ rfl; rwa [Nat.zero_add] at this)
  have cc5 : W0.cell? ⟨C, 5, none⟩ = some (.func (.func 76) #[] #[.pointer (some ⟨C, 0, none⟩)]) := (BB.out.cell (p := ⟨C, 5, none⟩) HBe.out.hc).trans (by have := HBe.out.c 5 _ rfl; rwa [Nat.zero_add] at this)
  have hC : C < W.heap.size + 1 := by have := HBe.out.hc; omega
  have k0 : W0.cell? ⟨K, 0, none⟩ = some (.func (.func kf) #[] #[]) := (BB.out.cell (p := ⟨K, 0, none⟩) HBe.out.hk).trans (by have := HBe.out.k 0 _ rfl; rwa [Nat.zero_add] at this)
  have hK : K < W.heap.size + 1 := by have := HBe.out.hk; omega
  have hE := HKF.enters
  obtain ⟨ps, hps⟩ : ∃ ps : Int, ps = (if at' then pos else 0) := ⟨_, rfl⟩
  have hX : W.heap.size < W.heap.size + 1 := by omega
  clear hW0
  have K0 : Hid (∀ W1 : World, Calls Tryz.prog 66 #[.string nm] W1 fun e w' => e = .returned (.string nm) ∧ Below W1.heap.size W1 w') :=
    Lib.hid fun W1 => clone_calls nm W1 (Nat.le_trans hS.1 (by decide))
  have K1 : Hid (∀ W1, Below W0.heap.size W0 W1 → Calls Tryz.prog 78 #[.slice a1 n1 c1, .func (.func 76) #[] #[.pointer (some ⟨C, 0, none⟩)]] W1 fun e w' => ∃ ua uc, e = .returned (.slice ua fs.length uc) ∧ Hid (FsF W1.heap.size w' fs (.slice ua fs.length uc)) ∧ Below W1.heap.size W1 w') :=
    Lib.hid fun W1 h => by
      have bw : Below W.heap.size W W1 := BB.out.trans (h.mono (by omega))
      have z := bw.size
      obtain ⟨b, o, hs, hr⟩ := (⟨_, _, HFS.out.1, PF.Row.below' (bw.mono hB) HFS.out.1 HFS.out.2⟩ : ∃ b o, SlV B (.slice a1 n1 c1) fs.length b o ∧ PF.Row B W1 b o fs)
      refine (eachF_calls (B := B) (lb := #[.pointer (some ⟨C, 0, none⟩)]) id fs (.slice a1 n1 c1) b o W1 clo6_enters (fun t ht W2 x hW hx => cloF_calls kf C K t (hS.2.1.2 t ht) B x W2 (by have := hW.size; omega) (HBe.out.below (bw.trans (hW.mono (by omega)))) hx) (by omega) hs hr hS.2.1.1).mono ?_
      rintro e w' ⟨ua, uc, he, h1, h2⟩
      exact ⟨ua, uc, he, Lib.hid (by rw [List.map_id] at h1; exact h1.out), h2⟩
  have K2 : Hid (∀ W1, Below W0.heap.size W0 W1 → Calls Tryz.prog 68 #[.agg #[.int .u8 ty.kind, .string ty.name, .slice a2 n2 c2], .pointer (some ⟨C, 0, none⟩)] W1 fun e w' => ∃ x' : Value, e = .returned (.agg #[.int .u8 ty.kind, .string ty.name, x']) ∧ Hid (PT.In w'.heap.size (Fr W1.heap.size w') ty x') ∧ Below W1.heap.size W1 w') :=
    Lib.hid fun W1 h => by
      have bw : Below W.heap.size W W1 := BB.out.trans (h.mono (by omega))
      have z := bw.size
      exact cloT_calls kf C K (hS.2.2.1) B _ W1 (by omega) (HBe.out.below bw) (PT.In.below (bw.mono hB) HT.out)
  have K3 : Hid (∀ W1, Below W0.heap.size W0 W1 → Calls Tryz.prog 73 #[.slice a3 n3 c3, .func (.func 74) #[] #[.pointer (some ⟨C, 0, none⟩), .pointer (some ⟨K, 0, none⟩)]] W1 fun e w' => ∃ ua uc, e = .returned (.slice ua bo.length uc) ∧ Hid (SsF W1.heap.size w' (erSs at' bo) (.slice ua bo.length uc)) ∧ Below W1.heap.size W1 w') :=
    Lib.hid fun W1 h => by
      have bw : Below W.heap.size W W1 := BB.out.trans (h.mono (by omega))
      have z := bw.size
      obtain ⟨b, o, hs, hr⟩ := (⟨_, _, HBO.out.1, PS.Row.below' (bw.mono hB) HBO.out.1 HBO.out.2⟩ : ∃ b o, SlV B (.slice a3 n3 c3) bo.length b o ∧ PS.Row B W1 b o bo)
      refine (eachS_calls (B := B) (lb := #[.pointer (some ⟨C, 0, none⟩), .pointer (some ⟨K, 0, none⟩)]) (erS at') bo (.slice a3 n3 c3) b o W1 clo5_enters (fun t ht W2 x hW hx => (fun t ht => cloS_calls kf C K at' HKF (hS.2.2.2.1.2.get ht)) t ht B x W2 (by have := hW.size; omega) (HBe.out.below (bw.trans (hW.mono (by omega)))) hx) (by omega) hs hr hS.2.2.2.1.1).mono ?_
      rintro e w' ⟨ua, uc, he, h1, h2⟩
      exact ⟨ua, uc, he, Lib.hid (by obtain ⟨b2, o2, k1, k2⟩ := h1.out; rw [erSs_map]; exact ⟨b2, o2, by rw [List.length_map]; exact k1, k2⟩), h2⟩
  have K4 : Hid (∀ W1, Below W0.heap.size W0 W1 → Calls Tryz.prog 70 #[.agg #[.int .u8 ret.op, .int .i64 ret.int, .string ret.name, .string ret.second, .string ret.place.name, .slice a4 n4 c4, .slice a5 n5 c5, .int .i64 ret.pos], .pointer (some ⟨C, 0, none⟩), .pointer (some ⟨K, 0, none⟩)] W1 fun e w' => ∃ x' : VE, e = .returned (.agg #[.int .u8 (erE at' ret).op, .int .i64 (erE at' ret).int, .string (erE at' ret).name, .string (erE at' ret).second, .string (erE at' ret).place.name, x'.path, x'.args, .int .i64 (erE at' ret).pos]) ∧ Hid (PE.In w'.heap.size (Fr W1.heap.size w') (erE at' ret) x') ∧ Below W1.heap.size W1 w') :=
    Lib.hid fun W1 h => by
      have bw : Below W.heap.size W W1 := BB.out.trans (h.mono (by omega))
      have z := bw.size
      exact cloE_calls kf C K at' HKF (hS.2.2.2.2) B ⟨.slice a4 n4 c4, .slice a5 n5 c5⟩ W1 (by omega) (HBe.out.below bw) (PE.In.below (bw.mono hB) HR.out)
  have K5 : Hid (∀ W1, Calls Tryz.prog kf #[.int .i64 pos] W1 fun e w' => e = .returned (.int .i64 ps) ∧ W1 = w') :=
    Lib.hid fun W1 => by rw [hps]; exact HKF.calls pos W1
  have Hps := Lib.hid hps
  clear hps
  have HB : Hid (Below W0.heap.size W0 W0.drew) := Lib.hid (Below.refl _ W0).drew
  have XB : ∀ b o, b < W.heap.size + 1 → W0.drew.cell? ⟨b, o, none⟩ = W0.cell? ⟨b, o, none⟩ := fun b o _ => rfl
  go_region_held3 (fun w' => ∀ b o, b < W.heap.size + 1 → w'.cell? ⟨b, o, none⟩ = W0.cell? ⟨b, o, none⟩) (first | with_reducible exact XB | ((repeat (with_reducible refine low_set ?_ (Nat.le_refl _))); with_reducible exact XB))
    (first
        | (go_at_call 66; (with_reducible refine (K0.out _).mono ?_)
           rintro e wj0 ⟨rfl, bj⟩
           have zj := bj.size
           have zh := HB.out.size
           have HB : Hid (Below W0.heap.size W0 wj0) := Lib.hid (HB.out.trans (bj.mono zh))
           have XB : ∀ b o, b < W.heap.size + 1 → wj0.cell? ⟨b, o, none⟩ = W0.cell? ⟨b, o, none⟩ := low_of HB.out (by omega)
           clear bj zj zh)
        | (go_at_call 78; (with_reducible refine (K1.out _ HB.out).mono ?_)
           rintro e wj1 ⟨pf, qf, rfl, hff, bj⟩
           have zj := bj.size
           have zh := HB.out.size
           have HF1 : Hid (FsF W0.heap.size wj1 fs (.slice pf fs.length qf)) := Lib.hid (FsF.up (Nat.le_refl _) (Fr.reads zh (fun _ _ _ => rfl)) hff.out)
           have HB : Hid (Below W0.heap.size W0 wj1) := Lib.hid (HB.out.trans (bj.mono zh))
           have XB : ∀ b o, b < W.heap.size + 1 → wj1.cell? ⟨b, o, none⟩ = W0.cell? ⟨b, o, none⟩ := low_of HB.out (by omega)
           clear bj zj zh hff)
        | (go_at_call 68; (with_reducible refine (K2.out _ HB.out).mono ?_)
           rintro e wj2 ⟨xt, rfl, hft, bj⟩
           obtain ⟨pt, mt, qt, rfl⟩ := hft.out.shape
           have zj := bj.size
           have zh := HB.out.size
           have HF2 : Hid (PT.In wj2.heap.size (Fr W0.heap.size wj2) ty (.slice pt mt qt)) := Lib.hid (PT.In.reads (Nat.le_refl _) (Fr.reads zh (fun _ _ _ => rfl)) hft.out)
           have HF1 : Hid (FsF W0.heap.size wj2 fs (.slice pf fs.length qf)) := Lib.hid (FsF.up zj (Fr.below (Nat.le_refl _) bj) HF1.out)
           have HB : Hid (Below W0.heap.size W0 wj2) := Lib.hid (HB.out.trans (bj.mono zh))
           have XB : ∀ b o, b < W.heap.size + 1 → wj2.cell? ⟨b, o, none⟩ = W0.cell? ⟨b, o, none⟩ := low_of HB.out (by omega)
           clear bj zj zh hft)
        | (go_at_call 73; (with_reducible refine (K3.out _ HB.out).mono ?_)
           rintro e wj3 ⟨pb, qb, rfl, hfb, bj⟩
           have zj := bj.size
           have zh := HB.out.size
           have HF3 : Hid (SsF W0.heap.size wj3 (erSs at' bo) (.slice pb bo.length qb)) := Lib.hid (SsF.up (Nat.le_refl _) (Fr.reads zh (fun _ _ _ => rfl)) hfb.out)
           have HF1 : Hid (FsF W0.heap.size wj3 fs (.slice pf fs.length qf)) := Lib.hid (FsF.up zj (Fr.below (Nat.le_refl _) bj) HF1.out)
           have HF2 : Hid (PT.In wj3.heap.size (Fr W0.heap.size wj3) ty (.slice pt mt qt)) := Lib.hid (PT.In.reads zj (Fr.below (Nat.le_refl _) bj) HF2.out)
           have HB : Hid (Below W0.heap.size W0 wj3) := Lib.hid (HB.out.trans (bj.mono zh))
           have XB : ∀ b o, b < W.heap.size + 1 → wj3.cell? ⟨b, o, none⟩ = W0.cell? ⟨b, o, none⟩ := low_of HB.out (by omega)
           clear bj zj zh hfb)
        | (go_at_call 70; (with_reducible refine (K4.out _ HB.out).mono ?_)
           rintro e wj4 ⟨xr, rfl, hfr, bj⟩
           obtain ⟨pr, mr, qr, ur, vr, wr, rfl⟩ := hfr.out.shape
           have zj := bj.size
           have zh := HB.out.size
           have HF4 : Hid (PE.In wj4.heap.size (Fr W0.heap.size wj4) (erE at' ret) ⟨.slice pr mr qr, .slice ur vr wr⟩) := Lib.hid (PE.In.reads (Nat.le_refl _) (Fr.reads zh (fun _ _ _ => rfl)) hfr.out)
           have HF1 : Hid (FsF W0.heap.size wj4 fs (.slice pf fs.length qf)) := Lib.hid (FsF.up zj (Fr.below (Nat.le_refl _) bj) HF1.out)
           have HF2 : Hid (PT.In wj4.heap.size (Fr W0.heap.size wj4) ty (.slice pt mt qt)) := Lib.hid (PT.In.reads zj (Fr.below (Nat.le_refl _) bj) HF2.out)
           have HF3 : Hid (SsF W0.heap.size wj4 (erSs at' bo) (.slice pb bo.length qb)) := Lib.hid (SsF.up zj (Fr.below (Nat.le_refl _) bj) HF3.out)
           have HB : Hid (Below W0.heap.size W0 wj4) := Lib.hid (HB.out.trans (bj.mono zh))
           have XB : ∀ b o, b < W.heap.size + 1 → wj4.cell? ⟨b, o, none⟩ = W0.cell? ⟨b, o, none⟩ := low_of HB.out (by omega)
           have s0 : wj4.cell? ⟨W.heap.size + 1, 0, none⟩ = some (.int .u8 0) := (HB.out.cell (p := ⟨W.heap.size + 1, 0, none⟩) (by simp; omega)).trans r0
           have s1 : wj4.cell? ⟨W.heap.size + 1, 1, none⟩ = some (.string ⟨#[]⟩) := (HB.out.cell (p := ⟨W.heap.size + 1, 1, none⟩) (by simp; omega)).trans r1
           have s2 : wj4.cell? ⟨W.heap.size + 1, 2, none⟩ = some (.slice none 0 0) := (HB.out.cell (p := ⟨W.heap.size + 1, 2, none⟩) (by simp; omega)).trans r2
           have s3 : wj4.cell? ⟨W.heap.size + 1, 3, none⟩ = some (.int .u8 0) := (HB.out.cell (p := ⟨W.heap.size + 1, 3, none⟩) (by simp; omega)).trans r3
           have s4 : wj4.cell? ⟨W.heap.size + 1, 4, none⟩ = some (.string ⟨#[]⟩) := (HB.out.cell (p := ⟨W.heap.size + 1, 4, none⟩) (by simp; omega)).trans r4
           have s5 : wj4.cell? ⟨W.heap.size + 1, 5, none⟩ = some (.slice none 0 0) := (HB.out.cell (p := ⟨W.heap.size + 1, 5, none⟩) (by simp; omega)).trans r5
           have s6 : wj4.cell? ⟨W.heap.size + 1, 6, none⟩ = some (.slice none 0 0) := (HB.out.cell (p := ⟨W.heap.size + 1, 6, none⟩) (by simp; omega)).trans r6
           have s7 : wj4.cell? ⟨W.heap.size + 1, 7, none⟩ = some (.int .u8 0) := (HB.out.cell (p := ⟨W.heap.size + 1, 7, none⟩) (by simp; omega)).trans r7
           have s8 : wj4.cell? ⟨W.heap.size + 1, 8, none⟩ = some (.int .i64 0) := (HB.out.cell (p := ⟨W.heap.size + 1, 8, none⟩) (by simp; omega)).trans r8
           have s9 : wj4.cell? ⟨W.heap.size + 1, 9, none⟩ = some (.string ⟨#[]⟩) := (HB.out.cell (p := ⟨W.heap.size + 1, 9, none⟩) (by simp; omega)).trans r9
           have s10 : wj4.cell? ⟨W.heap.size + 1, 10, none⟩ = some (.string ⟨#[]⟩) := (HB.out.cell (p := ⟨W.heap.size + 1, 10, none⟩) (by simp; omega)).trans r10
           have s11 : wj4.cell? ⟨W.heap.size + 1, 11, none⟩ = some (.string ⟨#[]⟩) := (HB.out.cell (p := ⟨W.heap.size + 1, 11, none⟩) (by simp; omega)).trans r11
           have s12 : wj4.cell? ⟨W.heap.size + 1, 12, none⟩ = some (.slice none 0 0) := (HB.out.cell (p := ⟨W.heap.size + 1, 12, none⟩) (by simp; omega)).trans r12
           have s13 : wj4.cell? ⟨W.heap.size + 1, 13, none⟩ = some (.slice none 0 0) := (HB.out.cell (p := ⟨W.heap.size + 1, 13, none⟩) (by simp; omega)).trans r13
           have s14 : wj4.cell? ⟨W.heap.size + 1, 14, none⟩ = some (.int .i64 0) := (HB.out.cell (p := ⟨W.heap.size + 1, 14, none⟩) (by simp; omega)).trans r14
           have s15 : wj4.cell? ⟨W.heap.size + 1, 15, none⟩ = some (.int .i64 0) := (HB.out.cell (p := ⟨W.heap.size + 1, 15, none⟩) (by simp; omega)).trans r15
           have t0 : wj4.frozen? ⟨W.heap.size + 1, 0, none⟩ = false := (HB.out.frozen (p := ⟨W.heap.size + 1, 0, none⟩) (by simp; omega)).trans g0
           have t1 : wj4.frozen? ⟨W.heap.size + 1, 1, none⟩ = false := (HB.out.frozen (p := ⟨W.heap.size + 1, 1, none⟩) (by simp; omega)).trans g1
           have t2 : wj4.frozen? ⟨W.heap.size + 1, 2, none⟩ = false := (HB.out.frozen (p := ⟨W.heap.size + 1, 2, none⟩) (by simp; omega)).trans g2
           have t3 : wj4.frozen? ⟨W.heap.size + 1, 3, none⟩ = false := (HB.out.frozen (p := ⟨W.heap.size + 1, 3, none⟩) (by simp; omega)).trans g3
           have t4 : wj4.frozen? ⟨W.heap.size + 1, 4, none⟩ = false := (HB.out.frozen (p := ⟨W.heap.size + 1, 4, none⟩) (by simp; omega)).trans g4
           have t5 : wj4.frozen? ⟨W.heap.size + 1, 5, none⟩ = false := (HB.out.frozen (p := ⟨W.heap.size + 1, 5, none⟩) (by simp; omega)).trans g5
           have t6 : wj4.frozen? ⟨W.heap.size + 1, 6, none⟩ = false := (HB.out.frozen (p := ⟨W.heap.size + 1, 6, none⟩) (by simp; omega)).trans g6
           have t7 : wj4.frozen? ⟨W.heap.size + 1, 7, none⟩ = false := (HB.out.frozen (p := ⟨W.heap.size + 1, 7, none⟩) (by simp; omega)).trans g7
           have t8 : wj4.frozen? ⟨W.heap.size + 1, 8, none⟩ = false := (HB.out.frozen (p := ⟨W.heap.size + 1, 8, none⟩) (by simp; omega)).trans g8
           have t9 : wj4.frozen? ⟨W.heap.size + 1, 9, none⟩ = false := (HB.out.frozen (p := ⟨W.heap.size + 1, 9, none⟩) (by simp; omega)).trans g9
           have t10 : wj4.frozen? ⟨W.heap.size + 1, 10, none⟩ = false := (HB.out.frozen (p := ⟨W.heap.size + 1, 10, none⟩) (by simp; omega)).trans g10
           have t11 : wj4.frozen? ⟨W.heap.size + 1, 11, none⟩ = false := (HB.out.frozen (p := ⟨W.heap.size + 1, 11, none⟩) (by simp; omega)).trans g11
           have t12 : wj4.frozen? ⟨W.heap.size + 1, 12, none⟩ = false := (HB.out.frozen (p := ⟨W.heap.size + 1, 12, none⟩) (by simp; omega)).trans g12
           have t13 : wj4.frozen? ⟨W.heap.size + 1, 13, none⟩ = false := (HB.out.frozen (p := ⟨W.heap.size + 1, 13, none⟩) (by simp; omega)).trans g13
           have t14 : wj4.frozen? ⟨W.heap.size + 1, 14, none⟩ = false := (HB.out.frozen (p := ⟨W.heap.size + 1, 14, none⟩) (by simp; omega)).trans g14
           have t15 : wj4.frozen? ⟨W.heap.size + 1, 15, none⟩ = false := (HB.out.frozen (p := ⟨W.heap.size + 1, 15, none⟩) (by simp; omega)).trans g15
           clear bj zj zh hfr)
        | ((with_reducible refine (K5.out _).mono ?_)
           rintro e wj5 ⟨rfl, rfl⟩))
  go_wp2_with fail
  (try simp only [Exit.inBlock, Exit.then])
  have KP : Kp (W.heap.size + 1) wj4 ((((((((((((((((wj4.setCell ⟨W.heap.size + 1, 0, none⟩ (.int .u8 kd)).setCell ⟨W.heap.size + 1, 1, none⟩ (.string nm)).setCell ⟨W.heap.size + 1, 2, none⟩ (.slice pf fs.length qf)).setCell ⟨W.heap.size + 1, 3, none⟩ (.int .u8 ty.kind)).setCell ⟨W.heap.size + 1, 4, none⟩ (.string ty.name)).setCell ⟨W.heap.size + 1, 5, none⟩ (.slice pt mt qt)).setCell ⟨W.heap.size + 1, 6, none⟩ (.slice pb bo.length qb)).setCell ⟨W.heap.size + 1, 7, none⟩ (.int .u8 (erE at' ret).op)).setCell ⟨W.heap.size + 1, 8, none⟩ (.int .i64 (erE at' ret).int)).setCell ⟨W.heap.size + 1, 9, none⟩ (.string (erE at' ret).name)).setCell ⟨W.heap.size + 1, 10, none⟩ (.string (erE at' ret).second)).setCell ⟨W.heap.size + 1, 11, none⟩ (.string (erE at' ret).place.name)).setCell ⟨W.heap.size + 1, 12, none⟩ (.slice pr mr qr)).setCell ⟨W.heap.size + 1, 13, none⟩ (.slice ur vr wr)).setCell ⟨W.heap.size + 1, 14, none⟩ (.int .i64 (erE at' ret).pos)).setCell ⟨W.heap.size + 1, 15, none⟩ (.int .i64 ps)) := (((((((((((((((((Kp.refl (W.heap.size + 1) wj4).set _).set _).set _).set _).set _).set _).set _).set _).set _).set _).set _).set _).set _).set _).set _).set _)
  have RD : Reads (Fr W0.heap.size wj4) (Fr W.heap.size ((((((((((((((((wj4.setCell ⟨W.heap.size + 1, 0, none⟩ (.int .u8 kd)).setCell ⟨W.heap.size + 1, 1, none⟩ (.string nm)).setCell ⟨W.heap.size + 1, 2, none⟩ (.slice pf fs.length qf)).setCell ⟨W.heap.size + 1, 3, none⟩ (.int .u8 ty.kind)).setCell ⟨W.heap.size + 1, 4, none⟩ (.string ty.name)).setCell ⟨W.heap.size + 1, 5, none⟩ (.slice pt mt qt)).setCell ⟨W.heap.size + 1, 6, none⟩ (.slice pb bo.length qb)).setCell ⟨W.heap.size + 1, 7, none⟩ (.int .u8 (erE at' ret).op)).setCell ⟨W.heap.size + 1, 8, none⟩ (.int .i64 (erE at' ret).int)).setCell ⟨W.heap.size + 1, 9, none⟩ (.string (erE at' ret).name)).setCell ⟨W.heap.size + 1, 10, none⟩ (.string (erE at' ret).second)).setCell ⟨W.heap.size + 1, 11, none⟩ (.string (erE at' ret).place.name)).setCell ⟨W.heap.size + 1, 12, none⟩ (.slice pr mr qr)).setCell ⟨W.heap.size + 1, 13, none⟩ (.slice ur vr wr)).setCell ⟨W.heap.size + 1, 14, none⟩ (.int .i64 (erE at' ret).pos)).setCell ⟨W.heap.size + 1, 15, none⟩ (.int .i64 ps))) := Fr.kp KP (by omega) (by omega)
  have hps := Hps.out
  refine bodyPost_ret (v := .agg #[.int .u8 kd, .string nm, .slice pf fs.length qf, .int .u8 ty.kind, .string ty.name, .slice pt mt qt, .slice pb bo.length qb, .int .u8 (erE at' ret).op, .int .i64 (erE at' ret).int, .string (erE at' ret).name, .string (erE at' ret).second, .string (erE at' ret).place.name, .slice pr mr qr, .slice ur vr wr, .int .i64 (erE at' ret).pos, .int .i64 ps]) (by rw [results_cell1 rfl]; go_simp) rfl ⟨⟨.slice pf fs.length qf, .slice pt mt qt, .slice pb bo.length qb, ⟨.slice pr mr qr, .slice ur vr wr⟩⟩, by subst hps; rfl, Lib.hid ?_, (((((((((((((((((BB.out.trans (HB.out.mono (by omega))).setCell (by simp) _).setCell (by simp) _).setCell (by simp) _).setCell (by simp) _).setCell (by simp) _).setCell (by simp) _).setCell (by simp) _).setCell (by simp) _).setCell (by simp) _).setCell (by simp) _).setCell (by simp) _).setCell (by simp) _).setCell (by simp) _).setCell (by simp) _).setCell (by simp) _).setCell (by simp) _)⟩
  exact ⟨⟨Hsl.out.1, keep_i64 Hsl.out.2.1, Hsl.out.2.2⟩, FsF.up KP.1 RD HF1.out, PT.In.reads KP.1 RD HF2.out, SsF.up KP.1 RD HF3.out, PE.In.reads KP.1 RD HF4.out⟩
end Go.Proofs.YtojeijeimpffgaaGreat
