/- The code's copier: statements (made by gen_clo.py). -/
import Derived.Test.YtojeijeimpffgaaGreatQTreeCloA
namespace Go.Proofs.YtojeijeimpffgaaGreat
open Go.RowKit
set_option linter.unusedVariables false

attribute [local go_sem ↓] Go.wp_at_zero Go.wp_at_succ
set_option maxRecDepth 100000 in
set_option maxHeartbeats 6400000 in
theorem cloS_step (kf : FuncId) (C K : Nat) (at' : Bool) (HKF : KeepOf kf at') (op : Int) (nm sc : ByteArray) (ns : List ByteArray) (ty : PT) (int : Int) (pl : PP) (es : List PE) (bo el : List PS) (ar : List PA) (pos : Int) (hnm : nm.size ≤ 1000000) (hsc : sc.size ≤ 1000000) (hns : ns.length ≤ 1000000 ∧ ∀ x, x ∈ ns → x.size ≤ 1000000) (hty : SmT ty) (hsp : SmP pl)
    (hes : es.length ≤ 1000000 ∧ ∀ e, e ∈ es → SmE e) (hbo : bo.length ≤ 1000000) (hel : el.length ≤ 1000000) (har : ar.length ≤ 1000000) (ihb : ∀ t, t ∈ bo → CloSAt kf C K at' t) (ihl : ∀ t, t ∈ el → CloSAt kf C K at' t) (iha : ∀ t, t ∈ ar → CloAAt kf C K at' t) : CloSAt kf C K at' (.mk op nm sc ns ty int pl es bo el ar pos) := by
  intro B v W hB hbe ht
  obtain ⟨a1, n1, c1, a2, n2, c2, a3, n3, c3, a4, n4, c4, a5, n5, c5, a6, n6, c6, a7, n7, c7, rfl⟩ := ht.shape
  obtain ⟨hsl, hn, htt, hpp, ⟨b2, o2, s2, r2⟩, ⟨b3, o3, s3, r3⟩, ⟨b4, o4, s4, r4⟩, b5, o5, s5, r5⟩ := ht
  have HN := Lib.hid hn
  have HT := Lib.hid htt
  have HP := Lib.hid hpp
  have HE := Lib.hid (And.intro s2 r2)
  have HBO := Lib.hid (And.intro s3 r3)
  have HEL := Lib.hid (And.intro s4 r4)
  have HAR := Lib.hid (And.intro s5 r5)
  have IHB := Lib.hid ihb
  have IHL := Lib.hid ihl
  have IHA := Lib.hid iha
  have HBe := Lib.hid hbe
  have Hsl := Lib.hid hsl
  clear hn htt hpp s2 r2 s3 r3 s4 r4 s5 r5 ihb ihl iha hbe hsl
  show Calls Tryz.prog 74 #[.agg #[.int .u8 op, .string nm, .string sc, .slice a1 n1 c1, .int .u8 ty.kind, .string ty.name, .slice a2 n2 c2, .int .i64 int, .string pl.name, .slice a3 n3 c3, .slice a4 n4 c4, .slice a5 n5 c5, .slice a6 n6 c6, .slice a7 n7 c7, .int .i64 pos], .pointer (some ⟨C, 0, none⟩), .pointer (some ⟨K, 0, none⟩)] W _
  go_enter Tryz.func74, Tryz.ntmps74
  go_wp2_with fail
  obtain ⟨W0, hW0⟩ : ∃ W0, W0 = (W.alloc (Obj.cells #[.int .u8 op, .string nm, .string sc, .slice a1 n1 c1, .int .u8 ty.kind, .string ty.name, .slice a2 n2 c2, .int .i64 int, .string pl.name, .slice a3 n3 c3, .slice a4 n4 c4, .slice a5 n5 c5, .slice a6 n6 c6, .slice a7 n7 c7, .int .i64 pos] 92)).alloc (Obj.cells #[.int .u8 0, .string ⟨#[]⟩, .string ⟨#[]⟩, .slice none 0 0, .int .u8 0, .string ⟨#[]⟩, .slice none 0 0, .int .i64 0, .string ⟨#[]⟩, .slice none 0 0, .slice none 0 0, .slice none 0 0, .slice none 0 0, .slice none 0 0, .int .i64 0] 92) := ⟨_, rfl⟩
  rw [← hW0]
  have sz : W0.heap.size = W.heap.size + 2 := by rw [hW0]; simp
  have BB : Hid (Below W.heap.size W W0) := Lib.hid (hW0 ▸ ((Below.refl _ W).alloc (Nat.le_refl _) _).alloc (by simp) _)
  have x0 : W0.cell? ⟨W.heap.size, 0, none⟩ = some (.int .u8 op) := by rw [hW0]; go_simp
  have x1 : W0.cell? ⟨W.heap.size, 1, none⟩ = some (.string nm) := by rw [hW0]; go_simp
  have x2 : W0.cell? ⟨W.heap.size, 2, none⟩ = some (.string sc) := by rw [hW0]; go_simp
  have x3 : W0.cell? ⟨W.heap.size, 3, none⟩ = some (.slice a1 n1 c1) := by rw [hW0]; go_simp
  have x4 : W0.cell? ⟨W.heap.size, 4, none⟩ = some (.int .u8 ty.kind) := by rw [hW0]; go_simp
  have x5 : W0.cell? ⟨W.heap.size, 5, none⟩ = some (.string ty.name) := by rw [hW0]; go_simp
  have x6 : W0.cell? ⟨W.heap.size, 6, none⟩ = some (.slice a2 n2 c2) := by rw [hW0]; go_simp
  have x7 : W0.cell? ⟨W.heap.size, 7, none⟩ = some (.int .i64 int) := by rw [hW0]; go_simp
  have x8 : W0.cell? ⟨W.heap.size, 8, none⟩ = some (.string pl.name) := by rw [hW0]; go_simp
  have x9 : W0.cell? ⟨W.heap.size, 9, none⟩ = some (.slice a3 n3 c3) := by rw [hW0]; go_simp
  have x10 : W0.cell? ⟨W.heap.size, 10, none⟩ = some (.slice a4 n4 c4) := by rw [hW0]; go_simp
  have x11 : W0.cell? ⟨W.heap.size, 11, none⟩ = some (.slice a5 n5 c5) := by rw [hW0]; go_simp
  have x12 : W0.cell? ⟨W.heap.size, 12, none⟩ = some (.slice a6 n6 c6) := by rw [hW0]; go_simp
  have x13 : W0.cell? ⟨W.heap.size, 13, none⟩ = some (.slice a7 n7 c7) := by rw [hW0]; go_simp
  have x14 : W0.cell? ⟨W.heap.size, 14, none⟩ = some (.int .i64 pos) := by rw [hW0]; go_simp
  have r0 : W0.cell? ⟨W.heap.size + 1, 0, none⟩ = some (.int .u8 0) := by rw [hW0]; go_simp
  have r1 : W0.cell? ⟨W.heap.size + 1, 1, none⟩ = some (.string ⟨#[]⟩) := by rw [hW0]; go_simp
  have r2 : W0.cell? ⟨W.heap.size + 1, 2, none⟩ = some (.string ⟨#[]⟩) := by rw [hW0]; go_simp
  have r3 : W0.cell? ⟨W.heap.size + 1, 3, none⟩ = some (.slice none 0 0) := by rw [hW0]; go_simp
  have r4 : W0.cell? ⟨W.heap.size + 1, 4, none⟩ = some (.int .u8 0) := by rw [hW0]; go_simp
  have r5 : W0.cell? ⟨W.heap.size + 1, 5, none⟩ = some (.string ⟨#[]⟩) := by rw [hW0]; go_simp
  have r6 : W0.cell? ⟨W.heap.size + 1, 6, none⟩ = some (.slice none 0 0) := by rw [hW0]; go_simp
  have r7 : W0.cell? ⟨W.heap.size + 1, 7, none⟩ = some (.int .i64 0) := by rw [hW0]; go_simp
  have r8 : W0.cell? ⟨W.heap.size + 1, 8, none⟩ = some (.string ⟨#[]⟩) := by rw [hW0]; go_simp
  have r9 : W0.cell? ⟨W.heap.size + 1, 9, none⟩ = some (.slice none 0 0) := by rw [hW0]; go_simp
  have r10 : W0.cell? ⟨W.heap.size + 1, 10, none⟩ = some (.slice none 0 0) := by rw [hW0]; go_simp
  have r11 : W0.cell? ⟨W.heap.size + 1, 11, none⟩ = some (.slice none 0 0) := by rw [hW0]; go_simp
  have r12 : W0.cell? ⟨W.heap.size + 1, 12, none⟩ = some (.slice none 0 0) := by rw [hW0]; go_simp
  have r13 : W0.cell? ⟨W.heap.size + 1, 13, none⟩ = some (.slice none 0 0) := by rw [hW0]; go_simp
  have r14 : W0.cell? ⟨W.heap.size + 1, 14, none⟩ = some (.int .i64 0) := by rw [hW0]; go_simp
  have g0 : W0.frozen? ⟨W.heap.size + 1, 0, none⟩ = false := by rw [hW0]; go_simp
  have g1 : W0.frozen? ⟨W.heap.size + 1, 1, none⟩ = false := by rw [hW0]; go_simp
  have g2 : W0.frozen? ⟨W.heap.size + 1, 2, none⟩ = false := by rw [hW0]; go_simp
  have g3 : W0.frozen? ⟨W.heap.size + 1, 3, none⟩ = false := by rw [hW0]; go_simp
  have g4 : W0.frozen? ⟨W.heap.size + 1, 4, none⟩ = false := by rw [hW0]; go_simp
  have g5 : W0.frozen? ⟨W.heap.size + 1, 5, none⟩ = false := by rw [hW0]; go_simp
  have g6 : W0.frozen? ⟨W.heap.size + 1, 6, none⟩ = false := by rw [hW0]; go_simp
  have g7 : W0.frozen? ⟨W.heap.size + 1, 7, none⟩ = false := by rw [hW0]; go_simp
  have g8 : W0.frozen? ⟨W.heap.size + 1, 8, none⟩ = false := by rw [hW0]; go_simp
  have g9 : W0.frozen? ⟨W.heap.size + 1, 9, none⟩ = false := by rw [hW0]; go_simp
  have g10 : W0.frozen? ⟨W.heap.size + 1, 10, none⟩ = false := by rw [hW0]; go_simp
  have g11 : W0.frozen? ⟨W.heap.size + 1, 11, none⟩ = false := by rw [hW0]; go_simp
  have g12 : W0.frozen? ⟨W.heap.size + 1, 12, none⟩ = false := by rw [hW0]; go_simp
  have g13 : W0.frozen? ⟨W.heap.size + 1, 13, none⟩ = false := by rw [hW0]; go_simp
  have g14 : W0.frozen? ⟨W.heap.size + 1, 14, none⟩ = false := by rw [hW0]; go_simp
  have cc0 : W0.cell? ⟨C, 0, none⟩ = some (.func (.func 65) #[] #[]) := (BB.out.cell (p := ⟨C, 0, none⟩) HBe.out.hc).trans (by have := HBe.out.c 0 _ rfl; rwa [Nat.zero_add] at this)
  have cc1 : W0.cell? ⟨C, 1, none⟩ = some (.func (.func 68) #[] #[.pointer (some ⟨C, 0, none⟩)]) := (BB.out.cell (p := ⟨C, 1, none⟩) HBe.out.hc).trans (by have := HBe.out.c 1 _ rfl; rwa [Nat.zero_add] at this)
  have cc2 : W0.cell? ⟨C, 2, none⟩ = some (.func (.func 70) #[] #[.pointer (some ⟨C, 0, none⟩), .pointer (some ⟨K, 0, none⟩)]) := (BB.out.cell (p := ⟨C, 2, none⟩) HBe.out.hc).trans (by have := HBe.out.c 2 _ rfl; rwa [Nat.zero_add] at this)
  have cc3 : W0.cell? ⟨C, 3, none⟩ = some (.func (.func 72) #[] #[.pointer (some ⟨C, 0, none⟩)]) := (BB.out.cell (p := ⟨C, 3, none⟩) HBe.out.hc).trans (by have := HBe.out.c 3 _ rfl; rwa [Nat.zero_add] at this)
  have cc4 : W0.cell? ⟨C, 4, none⟩ = some (.func (.func 74) #[] #[.pointer (some ⟨C, 0, none⟩), .pointer (some ⟨K, 0, none⟩)]) := (BB.out.cell (p := ⟨C, 4, none⟩) HBe.out.hc).trans (by have := HBe.out.c 4 _ rfl; rwa [Nat.zero_add] at this)
  have hC : C < W.heap.size + 1 := by have := HBe.out.hc; omega
  have k0 : W0.cell? ⟨K, 0, none⟩ = some (.func (.func kf) #[] #[]) := (BB.out.cell (p := ⟨K, 0, none⟩) HBe.out.hk).trans (by have := HBe.out.k 0 _ rfl; rwa [Nat.zero_add] at this)
  have hK : K < W.heap.size + 1 := by have := HBe.out.hk; omega
  have hE := HKF.enters
  obtain ⟨ps, hps⟩ : ∃ ps : Int, ps = (if at' then pos else 0) := ⟨_, rfl⟩
  have hX : W.heap.size < W.heap.size + 1 := by omega
  clear hW0
  have K0 : Hid (∀ W1 : World, Calls Tryz.prog 66 #[.string nm] W1 fun e w' => e = .returned (.string nm) ∧ Below W1.heap.size W1 w') :=
    Lib.hid fun W1 => clone_calls nm W1 (Nat.le_trans hnm (by decide))
  have K1 : Hid (∀ W1 : World, Calls Tryz.prog 66 #[.string sc] W1 fun e w' => e = .returned (.string sc) ∧ Below W1.heap.size W1 w') :=
    Lib.hid fun W1 => clone_calls sc W1 (Nat.le_trans hsc (by decide))
  have K2 : Hid (∀ W1, Below W0.heap.size W0 W1 → Calls Tryz.prog 67 #[.slice a1 n1 c1, .func (.func 66) #[] #[]] W1 fun e w' => ∃ ua uc, e = .returned (.slice ua ns.length uc) ∧ Hid (NIn w'.heap.size (Fr W1.heap.size w') ns (.slice ua ns.length uc)) ∧ Below W1.heap.size W1 w') :=
    Lib.hid fun W1 h => by
      have bw : Below W.heap.size W W1 := BB.out.trans (h.mono (by omega))
      have z := bw.size
      obtain ⟨b, o, hs, hr⟩ := (HN.out.below (bw.mono hB) : NIn B W1 ns (.slice a1 n1 c1))
      refine (eachN_calls (B := B) (lb := #[]) ns (.slice a1 n1 c1) b o W1 clone_enters (fun s hs W2 => clone_calls s W2 (Nat.le_trans (hns.2 s hs) (by decide))) (by omega) hs hr hns.1).mono ?_
      rintro e w' ⟨ua, uc, he, h1, h2⟩
      exact ⟨ua, uc, he, h1, h2⟩
  have K3 : Hid (∀ W1, Below W0.heap.size W0 W1 → Calls Tryz.prog 68 #[.agg #[.int .u8 ty.kind, .string ty.name, .slice a2 n2 c2], .pointer (some ⟨C, 0, none⟩)] W1 fun e w' => ∃ x' : Value, e = .returned (.agg #[.int .u8 ty.kind, .string ty.name, x']) ∧ Hid (PT.In w'.heap.size (Fr W1.heap.size w') ty x') ∧ Below W1.heap.size W1 w') :=
    Lib.hid fun W1 h => by
      have bw : Below W.heap.size W W1 := BB.out.trans (h.mono (by omega))
      have z := bw.size
      exact cloT_calls kf C K (hty) B _ W1 (by omega) (HBe.out.below bw) (PT.In.below (bw.mono hB) HT.out)
  have K4 : Hid (∀ W1, Below W0.heap.size W0 W1 → Calls Tryz.prog 65 #[.agg #[.string pl.name, .slice a3 n3 c3]] W1 fun e w' => ∃ x' : Value, e = .returned (.agg #[.string pl.name, x']) ∧ Hid (PP.In w'.heap.size (Fr W1.heap.size w') pl x') ∧ Below W1.heap.size W1 w') :=
    Lib.hid fun W1 h => by
      have bw : Below W.heap.size W W1 := BB.out.trans (h.mono (by omega))
      have z := bw.size
      exact cloP_calls pl (hsp) B _ W1 (by omega) (PP.In.below HP.out (bw.mono hB))
  have K5 : Hid (∀ W1, Below W0.heap.size W0 W1 → Calls Tryz.prog 71 #[.slice a4 n4 c4, .func (.func 70) #[] #[.pointer (some ⟨C, 0, none⟩), .pointer (some ⟨K, 0, none⟩)]] W1 fun e w' => ∃ ua uc, e = .returned (.slice ua es.length uc) ∧ Hid (EsF W1.heap.size w' (erEs at' es) (.slice ua es.length uc)) ∧ Below W1.heap.size W1 w') :=
    Lib.hid fun W1 h => by
      have bw : Below W.heap.size W W1 := BB.out.trans (h.mono (by omega))
      have z := bw.size
      obtain ⟨b, o, hs, hr⟩ := (⟨_, _, HE.out.1, PE.Row.below' (bw.mono hB) HE.out.1 HE.out.2⟩ : ∃ b o, SlV B (.slice a4 n4 c4) es.length b o ∧ PE.Row B W1 b o es)
      refine (eachE_calls (B := B) (lb := #[.pointer (some ⟨C, 0, none⟩), .pointer (some ⟨K, 0, none⟩)]) (erE at') es (.slice a4 n4 c4) b o W1 clo3_enters (fun t ht W2 x hW hx => (fun t ht => cloE_calls kf C K at' HKF (hes.2 t ht)) t ht B x W2 (by have := hW.size; omega) (HBe.out.below (bw.trans (hW.mono (by omega)))) hx) (by omega) hs hr hes.1).mono ?_
      rintro e w' ⟨ua, uc, he, h1, h2⟩
      exact ⟨ua, uc, he, Lib.hid (by obtain ⟨b2, o2, k1, k2⟩ := h1.out; rw [erEs_map]; exact ⟨b2, o2, by rw [List.length_map]; exact k1, k2⟩), h2⟩
  have K6 : Hid (∀ W1, Below W0.heap.size W0 W1 → Calls Tryz.prog 73 #[.slice a5 n5 c5, .func (.func 74) #[] #[.pointer (some ⟨C, 0, none⟩), .pointer (some ⟨K, 0, none⟩)]] W1 fun e w' => ∃ ua uc, e = .returned (.slice ua bo.length uc) ∧ Hid (SsF W1.heap.size w' (erSs at' bo) (.slice ua bo.length uc)) ∧ Below W1.heap.size W1 w') :=
    Lib.hid fun W1 h => by
      have bw : Below W.heap.size W W1 := BB.out.trans (h.mono (by omega))
      have z := bw.size
      obtain ⟨b, o, hs, hr⟩ := (⟨_, _, HBO.out.1, PS.Row.below' (bw.mono hB) HBO.out.1 HBO.out.2⟩ : ∃ b o, SlV B (.slice a5 n5 c5) bo.length b o ∧ PS.Row B W1 b o bo)
      refine (eachS_calls (B := B) (lb := #[.pointer (some ⟨C, 0, none⟩), .pointer (some ⟨K, 0, none⟩)]) (erS at') bo (.slice a5 n5 c5) b o W1 clo5_enters (fun t ht W2 x hW hx => IHB.out t ht B x W2 (by have := hW.size; omega) (HBe.out.below (bw.trans (hW.mono (by omega)))) hx) (by omega) hs hr hbo).mono ?_
      rintro e w' ⟨ua, uc, he, h1, h2⟩
      exact ⟨ua, uc, he, Lib.hid (by obtain ⟨b2, o2, k1, k2⟩ := h1.out; rw [erSs_map]; exact ⟨b2, o2, by rw [List.length_map]; exact k1, k2⟩), h2⟩
  have K7 : Hid (∀ W1, Below W0.heap.size W0 W1 → Calls Tryz.prog 73 #[.slice a6 n6 c6, .func (.func 74) #[] #[.pointer (some ⟨C, 0, none⟩), .pointer (some ⟨K, 0, none⟩)]] W1 fun e w' => ∃ ua uc, e = .returned (.slice ua el.length uc) ∧ Hid (SsF W1.heap.size w' (erSs at' el) (.slice ua el.length uc)) ∧ Below W1.heap.size W1 w') :=
    Lib.hid fun W1 h => by
      have bw : Below W.heap.size W W1 := BB.out.trans (h.mono (by omega))
      have z := bw.size
      obtain ⟨b, o, hs, hr⟩ := (⟨_, _, HEL.out.1, PS.Row.below' (bw.mono hB) HEL.out.1 HEL.out.2⟩ : ∃ b o, SlV B (.slice a6 n6 c6) el.length b o ∧ PS.Row B W1 b o el)
      refine (eachS_calls (B := B) (lb := #[.pointer (some ⟨C, 0, none⟩), .pointer (some ⟨K, 0, none⟩)]) (erS at') el (.slice a6 n6 c6) b o W1 clo5_enters (fun t ht W2 x hW hx => IHL.out t ht B x W2 (by have := hW.size; omega) (HBe.out.below (bw.trans (hW.mono (by omega)))) hx) (by omega) hs hr hel).mono ?_
      rintro e w' ⟨ua, uc, he, h1, h2⟩
      exact ⟨ua, uc, he, Lib.hid (by obtain ⟨b2, o2, k1, k2⟩ := h1.out; rw [erSs_map]; exact ⟨b2, o2, by rw [List.length_map]; exact k1, k2⟩), h2⟩
  have K8 : Hid (∀ W1, Below W0.heap.size W0 W1 → Calls Tryz.prog 75 #[.slice a7 n7 c7, .func (.func 72) #[] #[.pointer (some ⟨C, 0, none⟩)]] W1 fun e w' => ∃ ua uc, e = .returned (.slice ua ar.length uc) ∧ Hid (AsF W1.heap.size w' (erAs at' ar) (.slice ua ar.length uc)) ∧ Below W1.heap.size W1 w') :=
    Lib.hid fun W1 h => by
      have bw : Below W.heap.size W W1 := BB.out.trans (h.mono (by omega))
      have z := bw.size
      obtain ⟨b, o, hs, hr⟩ := (⟨_, _, HAR.out.1, PA.Row.below' (bw.mono hB) HAR.out.1 HAR.out.2⟩ : ∃ b o, SlV B (.slice a7 n7 c7) ar.length b o ∧ PA.Row B W1 b o ar)
      refine (eachA_calls (B := B) (lb := #[.pointer (some ⟨C, 0, none⟩)]) (erA at') ar (.slice a7 n7 c7) b o W1 clo4_enters (fun t ht W2 x hW hx => IHA.out t ht B x W2 (by have := hW.size; omega) (HBe.out.below (bw.trans (hW.mono (by omega)))) hx) (by omega) hs hr har).mono ?_
      rintro e w' ⟨ua, uc, he, h1, h2⟩
      exact ⟨ua, uc, he, Lib.hid (by obtain ⟨b2, o2, k1, k2⟩ := h1.out; rw [erAs_map]; exact ⟨b2, o2, by rw [List.length_map]; exact k1, k2⟩), h2⟩
  have K9 : Hid (∀ W1, Calls Tryz.prog kf #[.int .i64 pos] W1 fun e w' => e = .returned (.int .i64 ps) ∧ W1 = w') :=
    Lib.hid fun W1 => by rw [hps]; exact HKF.calls pos W1
  have Hps := Lib.hid hps
  clear hps
  have HB : Hid (Below W0.heap.size W0 W0.drew) := Lib.hid (Below.refl _ W0).drew
  have XB : ∀ b o, b < W.heap.size + 1 → W0.drew.cell? ⟨b, o, none⟩ = W0.cell? ⟨b, o, none⟩ := fun b o _ => rfl
  go_region_held3 (fun w' => ∀ b o, b < W.heap.size + 1 → w'.cell? ⟨b, o, none⟩ = W0.cell? ⟨b, o, none⟩) (first | with_reducible exact XB | ((repeat (with_reducible refine low_set ?_ (Nat.le_refl _))); with_reducible exact XB))
    (first
        | (go_at_call 66; (with_reducible refine (K0.out _).mono ?_)
           rintro e wj0 ⟨rfl, bj⟩
           have zj := bj.size
           have zh := HB.out.size
           have HB : Hid (Below W0.heap.size W0 wj0) := Lib.hid (HB.out.trans (bj.mono zh))
           have XB : ∀ b o, b < W.heap.size + 1 → wj0.cell? ⟨b, o, none⟩ = W0.cell? ⟨b, o, none⟩ := low_of HB.out (by omega)
           clear bj zj zh)
        | (go_at_call 66; (with_reducible refine (K1.out _).mono ?_)
           rintro e wj1 ⟨rfl, bj⟩
           have zj := bj.size
           have zh := HB.out.size
           have HB : Hid (Below W0.heap.size W0 wj1) := Lib.hid (HB.out.trans (bj.mono zh))
           have XB : ∀ b o, b < W.heap.size + 1 → wj1.cell? ⟨b, o, none⟩ = W0.cell? ⟨b, o, none⟩ := low_of HB.out (by omega)
           clear bj zj zh)
        | (go_at_call 67; (with_reducible refine (K2.out _ HB.out).mono ?_)
           rintro e wj2 ⟨pn, qn, rfl, hfn, bj⟩
           have zj := bj.size
           have zh := HB.out.size
           have HF2 : Hid (NIn wj2.heap.size (Fr W0.heap.size wj2) ns (.slice pn ns.length qn)) := Lib.hid (NIn.reads (Nat.le_refl _) (Fr.reads zh (fun _ _ _ => rfl)) hfn.out)
           have HB : Hid (Below W0.heap.size W0 wj2) := Lib.hid (HB.out.trans (bj.mono zh))
           have XB : ∀ b o, b < W.heap.size + 1 → wj2.cell? ⟨b, o, none⟩ = W0.cell? ⟨b, o, none⟩ := low_of HB.out (by omega)
           clear bj zj zh hfn)
        | (go_at_call 68; (with_reducible refine (K3.out _ HB.out).mono ?_)
           rintro e wj3 ⟨xt, rfl, hft, bj⟩
           obtain ⟨pt, mt, qt, rfl⟩ := hft.out.shape
           have zj := bj.size
           have zh := HB.out.size
           have HF3 : Hid (PT.In wj3.heap.size (Fr W0.heap.size wj3) ty (.slice pt mt qt)) := Lib.hid (PT.In.reads (Nat.le_refl _) (Fr.reads zh (fun _ _ _ => rfl)) hft.out)
           have HF2 : Hid (NIn wj3.heap.size (Fr W0.heap.size wj3) ns (.slice pn ns.length qn)) := Lib.hid (NIn.reads zj (Fr.below (Nat.le_refl _) bj) HF2.out)
           have HB : Hid (Below W0.heap.size W0 wj3) := Lib.hid (HB.out.trans (bj.mono zh))
           have XB : ∀ b o, b < W.heap.size + 1 → wj3.cell? ⟨b, o, none⟩ = W0.cell? ⟨b, o, none⟩ := low_of HB.out (by omega)
           clear bj zj zh hft)
        | (go_at_call 65; (with_reducible refine (K4.out _ HB.out).mono ?_)
           rintro e wj4 ⟨xp, rfl, hfp, bj⟩
           obtain ⟨pp, mp, qp, rfl⟩ := hfp.out.2.shape
           have zj := bj.size
           have zh := HB.out.size
           have HF4 : Hid (PP.In wj4.heap.size (Fr W0.heap.size wj4) pl (.slice pp mp qp)) := Lib.hid (PP.In.reads (Nat.le_refl _) (Fr.reads zh (fun _ _ _ => rfl)) hfp.out)
           have HF2 : Hid (NIn wj4.heap.size (Fr W0.heap.size wj4) ns (.slice pn ns.length qn)) := Lib.hid (NIn.reads zj (Fr.below (Nat.le_refl _) bj) HF2.out)
           have HF3 : Hid (PT.In wj4.heap.size (Fr W0.heap.size wj4) ty (.slice pt mt qt)) := Lib.hid (PT.In.reads zj (Fr.below (Nat.le_refl _) bj) HF3.out)
           have HB : Hid (Below W0.heap.size W0 wj4) := Lib.hid (HB.out.trans (bj.mono zh))
           have XB : ∀ b o, b < W.heap.size + 1 → wj4.cell? ⟨b, o, none⟩ = W0.cell? ⟨b, o, none⟩ := low_of HB.out (by omega)
           clear bj zj zh hfp)
        | (go_at_call 71; (with_reducible refine (K5.out _ HB.out).mono ?_)
           rintro e wj5 ⟨pe, qe, rfl, hfe, bj⟩
           have zj := bj.size
           have zh := HB.out.size
           have HF5 : Hid (EsF W0.heap.size wj5 (erEs at' es) (.slice pe es.length qe)) := Lib.hid (EsF.up (Nat.le_refl _) (Fr.reads zh (fun _ _ _ => rfl)) hfe.out)
           have HF2 : Hid (NIn wj5.heap.size (Fr W0.heap.size wj5) ns (.slice pn ns.length qn)) := Lib.hid (NIn.reads zj (Fr.below (Nat.le_refl _) bj) HF2.out)
           have HF3 : Hid (PT.In wj5.heap.size (Fr W0.heap.size wj5) ty (.slice pt mt qt)) := Lib.hid (PT.In.reads zj (Fr.below (Nat.le_refl _) bj) HF3.out)
           have HF4 : Hid (PP.In wj5.heap.size (Fr W0.heap.size wj5) pl (.slice pp mp qp)) := Lib.hid (PP.In.reads zj (Fr.below (Nat.le_refl _) bj) HF4.out)
           have HB : Hid (Below W0.heap.size W0 wj5) := Lib.hid (HB.out.trans (bj.mono zh))
           have XB : ∀ b o, b < W.heap.size + 1 → wj5.cell? ⟨b, o, none⟩ = W0.cell? ⟨b, o, none⟩ := low_of HB.out (by omega)
           clear bj zj zh hfe)
        | (go_at_call 73; (with_reducible refine (K6.out _ HB.out).mono ?_)
           rintro e wj6 ⟨pb, qb, rfl, hfb, bj⟩
           have zj := bj.size
           have zh := HB.out.size
           have HF6 : Hid (SsF W0.heap.size wj6 (erSs at' bo) (.slice pb bo.length qb)) := Lib.hid (SsF.up (Nat.le_refl _) (Fr.reads zh (fun _ _ _ => rfl)) hfb.out)
           have HF2 : Hid (NIn wj6.heap.size (Fr W0.heap.size wj6) ns (.slice pn ns.length qn)) := Lib.hid (NIn.reads zj (Fr.below (Nat.le_refl _) bj) HF2.out)
           have HF3 : Hid (PT.In wj6.heap.size (Fr W0.heap.size wj6) ty (.slice pt mt qt)) := Lib.hid (PT.In.reads zj (Fr.below (Nat.le_refl _) bj) HF3.out)
           have HF4 : Hid (PP.In wj6.heap.size (Fr W0.heap.size wj6) pl (.slice pp mp qp)) := Lib.hid (PP.In.reads zj (Fr.below (Nat.le_refl _) bj) HF4.out)
           have HF5 : Hid (EsF W0.heap.size wj6 (erEs at' es) (.slice pe es.length qe)) := Lib.hid (EsF.up zj (Fr.below (Nat.le_refl _) bj) HF5.out)
           have HB : Hid (Below W0.heap.size W0 wj6) := Lib.hid (HB.out.trans (bj.mono zh))
           have XB : ∀ b o, b < W.heap.size + 1 → wj6.cell? ⟨b, o, none⟩ = W0.cell? ⟨b, o, none⟩ := low_of HB.out (by omega)
           clear bj zj zh hfb)
        | (go_at_call 73; (with_reducible refine (K7.out _ HB.out).mono ?_)
           rintro e wj7 ⟨pls, qls, rfl, hfls, bj⟩
           have zj := bj.size
           have zh := HB.out.size
           have HF7 : Hid (SsF W0.heap.size wj7 (erSs at' el) (.slice pls el.length qls)) := Lib.hid (SsF.up (Nat.le_refl _) (Fr.reads zh (fun _ _ _ => rfl)) hfls.out)
           have HF2 : Hid (NIn wj7.heap.size (Fr W0.heap.size wj7) ns (.slice pn ns.length qn)) := Lib.hid (NIn.reads zj (Fr.below (Nat.le_refl _) bj) HF2.out)
           have HF3 : Hid (PT.In wj7.heap.size (Fr W0.heap.size wj7) ty (.slice pt mt qt)) := Lib.hid (PT.In.reads zj (Fr.below (Nat.le_refl _) bj) HF3.out)
           have HF4 : Hid (PP.In wj7.heap.size (Fr W0.heap.size wj7) pl (.slice pp mp qp)) := Lib.hid (PP.In.reads zj (Fr.below (Nat.le_refl _) bj) HF4.out)
           have HF5 : Hid (EsF W0.heap.size wj7 (erEs at' es) (.slice pe es.length qe)) := Lib.hid (EsF.up zj (Fr.below (Nat.le_refl _) bj) HF5.out)
           have HF6 : Hid (SsF W0.heap.size wj7 (erSs at' bo) (.slice pb bo.length qb)) := Lib.hid (SsF.up zj (Fr.below (Nat.le_refl _) bj) HF6.out)
           have HB : Hid (Below W0.heap.size W0 wj7) := Lib.hid (HB.out.trans (bj.mono zh))
           have XB : ∀ b o, b < W.heap.size + 1 → wj7.cell? ⟨b, o, none⟩ = W0.cell? ⟨b, o, none⟩ := low_of HB.out (by omega)
           clear bj zj zh hfls)
        | (go_at_call 75; (with_reducible refine (K8.out _ HB.out).mono ?_)
           rintro e wj8 ⟨pr, qr, rfl, hfr, bj⟩
           have zj := bj.size
           have zh := HB.out.size
           have HF8 : Hid (AsF W0.heap.size wj8 (erAs at' ar) (.slice pr ar.length qr)) := Lib.hid (AsF.up (Nat.le_refl _) (Fr.reads zh (fun _ _ _ => rfl)) hfr.out)
           have HF2 : Hid (NIn wj8.heap.size (Fr W0.heap.size wj8) ns (.slice pn ns.length qn)) := Lib.hid (NIn.reads zj (Fr.below (Nat.le_refl _) bj) HF2.out)
           have HF3 : Hid (PT.In wj8.heap.size (Fr W0.heap.size wj8) ty (.slice pt mt qt)) := Lib.hid (PT.In.reads zj (Fr.below (Nat.le_refl _) bj) HF3.out)
           have HF4 : Hid (PP.In wj8.heap.size (Fr W0.heap.size wj8) pl (.slice pp mp qp)) := Lib.hid (PP.In.reads zj (Fr.below (Nat.le_refl _) bj) HF4.out)
           have HF5 : Hid (EsF W0.heap.size wj8 (erEs at' es) (.slice pe es.length qe)) := Lib.hid (EsF.up zj (Fr.below (Nat.le_refl _) bj) HF5.out)
           have HF6 : Hid (SsF W0.heap.size wj8 (erSs at' bo) (.slice pb bo.length qb)) := Lib.hid (SsF.up zj (Fr.below (Nat.le_refl _) bj) HF6.out)
           have HF7 : Hid (SsF W0.heap.size wj8 (erSs at' el) (.slice pls el.length qls)) := Lib.hid (SsF.up zj (Fr.below (Nat.le_refl _) bj) HF7.out)
           have HB : Hid (Below W0.heap.size W0 wj8) := Lib.hid (HB.out.trans (bj.mono zh))
           have XB : ∀ b o, b < W.heap.size + 1 → wj8.cell? ⟨b, o, none⟩ = W0.cell? ⟨b, o, none⟩ := low_of HB.out (by omega)
           have s0 : wj8.cell? ⟨W.heap.size + 1, 0, none⟩ = some (.int .u8 0) := (HB.out.cell (p := ⟨W.heap.size + 1, 0, none⟩) (by simp; omega)).trans r0
           have s1 : wj8.cell? ⟨W.heap.size + 1, 1, none⟩ = some (.string ⟨#[]⟩) := (HB.out.cell (p := ⟨W.heap.size + 1, 1, none⟩) (by simp; omega)).trans r1
           have s2 : wj8.cell? ⟨W.heap.size + 1, 2, none⟩ = some (.string ⟨#[]⟩) := (HB.out.cell (p := ⟨W.heap.size + 1, 2, none⟩) (by simp; omega)).trans r2
           have s3 : wj8.cell? ⟨W.heap.size + 1, 3, none⟩ = some (.slice none 0 0) := (HB.out.cell (p := ⟨W.heap.size + 1, 3, none⟩) (by simp; omega)).trans r3
           have s4 : wj8.cell? ⟨W.heap.size + 1, 4, none⟩ = some (.int .u8 0) := (HB.out.cell (p := ⟨W.heap.size + 1, 4, none⟩) (by simp; omega)).trans r4
           have s5 : wj8.cell? ⟨W.heap.size + 1, 5, none⟩ = some (.string ⟨#[]⟩) := (HB.out.cell (p := ⟨W.heap.size + 1, 5, none⟩) (by simp; omega)).trans r5
           have s6 : wj8.cell? ⟨W.heap.size + 1, 6, none⟩ = some (.slice none 0 0) := (HB.out.cell (p := ⟨W.heap.size + 1, 6, none⟩) (by simp; omega)).trans r6
           have s7 : wj8.cell? ⟨W.heap.size + 1, 7, none⟩ = some (.int .i64 0) := (HB.out.cell (p := ⟨W.heap.size + 1, 7, none⟩) (by simp; omega)).trans r7
           have s8 : wj8.cell? ⟨W.heap.size + 1, 8, none⟩ = some (.string ⟨#[]⟩) := (HB.out.cell (p := ⟨W.heap.size + 1, 8, none⟩) (by simp; omega)).trans r8
           have s9 : wj8.cell? ⟨W.heap.size + 1, 9, none⟩ = some (.slice none 0 0) := (HB.out.cell (p := ⟨W.heap.size + 1, 9, none⟩) (by simp; omega)).trans r9
           have s10 : wj8.cell? ⟨W.heap.size + 1, 10, none⟩ = some (.slice none 0 0) := (HB.out.cell (p := ⟨W.heap.size + 1, 10, none⟩) (by simp; omega)).trans r10
           have s11 : wj8.cell? ⟨W.heap.size + 1, 11, none⟩ = some (.slice none 0 0) := (HB.out.cell (p := ⟨W.heap.size + 1, 11, none⟩) (by simp; omega)).trans r11
           have s12 : wj8.cell? ⟨W.heap.size + 1, 12, none⟩ = some (.slice none 0 0) := (HB.out.cell (p := ⟨W.heap.size + 1, 12, none⟩) (by simp; omega)).trans r12
           have s13 : wj8.cell? ⟨W.heap.size + 1, 13, none⟩ = some (.slice none 0 0) := (HB.out.cell (p := ⟨W.heap.size + 1, 13, none⟩) (by simp; omega)).trans r13
           have s14 : wj8.cell? ⟨W.heap.size + 1, 14, none⟩ = some (.int .i64 0) := (HB.out.cell (p := ⟨W.heap.size + 1, 14, none⟩) (by simp; omega)).trans r14
           have t0 : wj8.frozen? ⟨W.heap.size + 1, 0, none⟩ = false := (HB.out.frozen (p := ⟨W.heap.size + 1, 0, none⟩) (by simp; omega)).trans g0
           have t1 : wj8.frozen? ⟨W.heap.size + 1, 1, none⟩ = false := (HB.out.frozen (p := ⟨W.heap.size + 1, 1, none⟩) (by simp; omega)).trans g1
           have t2 : wj8.frozen? ⟨W.heap.size + 1, 2, none⟩ = false := (HB.out.frozen (p := ⟨W.heap.size + 1, 2, none⟩) (by simp; omega)).trans g2
           have t3 : wj8.frozen? ⟨W.heap.size + 1, 3, none⟩ = false := (HB.out.frozen (p := ⟨W.heap.size + 1, 3, none⟩) (by simp; omega)).trans g3
           have t4 : wj8.frozen? ⟨W.heap.size + 1, 4, none⟩ = false := (HB.out.frozen (p := ⟨W.heap.size + 1, 4, none⟩) (by simp; omega)).trans g4
           have t5 : wj8.frozen? ⟨W.heap.size + 1, 5, none⟩ = false := (HB.out.frozen (p := ⟨W.heap.size + 1, 5, none⟩) (by simp; omega)).trans g5
           have t6 : wj8.frozen? ⟨W.heap.size + 1, 6, none⟩ = false := (HB.out.frozen (p := ⟨W.heap.size + 1, 6, none⟩) (by simp; omega)).trans g6
           have t7 : wj8.frozen? ⟨W.heap.size + 1, 7, none⟩ = false := (HB.out.frozen (p := ⟨W.heap.size + 1, 7, none⟩) (by simp; omega)).trans g7
           have t8 : wj8.frozen? ⟨W.heap.size + 1, 8, none⟩ = false := (HB.out.frozen (p := ⟨W.heap.size + 1, 8, none⟩) (by simp; omega)).trans g8
           have t9 : wj8.frozen? ⟨W.heap.size + 1, 9, none⟩ = false := (HB.out.frozen (p := ⟨W.heap.size + 1, 9, none⟩) (by simp; omega)).trans g9
           have t10 : wj8.frozen? ⟨W.heap.size + 1, 10, none⟩ = false := (HB.out.frozen (p := ⟨W.heap.size + 1, 10, none⟩) (by simp; omega)).trans g10
           have t11 : wj8.frozen? ⟨W.heap.size + 1, 11, none⟩ = false := (HB.out.frozen (p := ⟨W.heap.size + 1, 11, none⟩) (by simp; omega)).trans g11
           have t12 : wj8.frozen? ⟨W.heap.size + 1, 12, none⟩ = false := (HB.out.frozen (p := ⟨W.heap.size + 1, 12, none⟩) (by simp; omega)).trans g12
           have t13 : wj8.frozen? ⟨W.heap.size + 1, 13, none⟩ = false := (HB.out.frozen (p := ⟨W.heap.size + 1, 13, none⟩) (by simp; omega)).trans g13
           have t14 : wj8.frozen? ⟨W.heap.size + 1, 14, none⟩ = false := (HB.out.frozen (p := ⟨W.heap.size + 1, 14, none⟩) (by simp; omega)).trans g14
           clear bj zj zh hfr)
        | ((with_reducible refine (K9.out _).mono ?_)
           rintro e wj9 ⟨rfl, rfl⟩))
  go_wp2_with fail
  (try simp only [Exit.inBlock, Exit.then])
  have KP : Kp (W.heap.size + 1) wj8 (((((((((((((((wj8.setCell ⟨W.heap.size + 1, 0, none⟩ (.int .u8 op)).setCell ⟨W.heap.size + 1, 1, none⟩ (.string nm)).setCell ⟨W.heap.size + 1, 2, none⟩ (.string sc)).setCell ⟨W.heap.size + 1, 3, none⟩ (.slice pn ns.length qn)).setCell ⟨W.heap.size + 1, 4, none⟩ (.int .u8 ty.kind)).setCell ⟨W.heap.size + 1, 5, none⟩ (.string ty.name)).setCell ⟨W.heap.size + 1, 6, none⟩ (.slice pt mt qt)).setCell ⟨W.heap.size + 1, 7, none⟩ (.int .i64 int)).setCell ⟨W.heap.size + 1, 8, none⟩ (.string pl.name)).setCell ⟨W.heap.size + 1, 9, none⟩ (.slice pp mp qp)).setCell ⟨W.heap.size + 1, 10, none⟩ (.slice pe es.length qe)).setCell ⟨W.heap.size + 1, 11, none⟩ (.slice pb bo.length qb)).setCell ⟨W.heap.size + 1, 12, none⟩ (.slice pls el.length qls)).setCell ⟨W.heap.size + 1, 13, none⟩ (.slice pr ar.length qr)).setCell ⟨W.heap.size + 1, 14, none⟩ (.int .i64 ps)) := ((((((((((((((((Kp.refl (W.heap.size + 1) wj8).set _).set _).set _).set _).set _).set _).set _).set _).set _).set _).set _).set _).set _).set _).set _)
  have RD : Reads (Fr W0.heap.size wj8) (Fr W.heap.size (((((((((((((((wj8.setCell ⟨W.heap.size + 1, 0, none⟩ (.int .u8 op)).setCell ⟨W.heap.size + 1, 1, none⟩ (.string nm)).setCell ⟨W.heap.size + 1, 2, none⟩ (.string sc)).setCell ⟨W.heap.size + 1, 3, none⟩ (.slice pn ns.length qn)).setCell ⟨W.heap.size + 1, 4, none⟩ (.int .u8 ty.kind)).setCell ⟨W.heap.size + 1, 5, none⟩ (.string ty.name)).setCell ⟨W.heap.size + 1, 6, none⟩ (.slice pt mt qt)).setCell ⟨W.heap.size + 1, 7, none⟩ (.int .i64 int)).setCell ⟨W.heap.size + 1, 8, none⟩ (.string pl.name)).setCell ⟨W.heap.size + 1, 9, none⟩ (.slice pp mp qp)).setCell ⟨W.heap.size + 1, 10, none⟩ (.slice pe es.length qe)).setCell ⟨W.heap.size + 1, 11, none⟩ (.slice pb bo.length qb)).setCell ⟨W.heap.size + 1, 12, none⟩ (.slice pls el.length qls)).setCell ⟨W.heap.size + 1, 13, none⟩ (.slice pr ar.length qr)).setCell ⟨W.heap.size + 1, 14, none⟩ (.int .i64 ps))) := Fr.kp KP (by omega) (by omega)
  have hps := Hps.out
  refine bodyPost_ret (v := .agg #[.int .u8 op, .string nm, .string sc, .slice pn ns.length qn, .int .u8 ty.kind, .string ty.name, .slice pt mt qt, .int .i64 int, .string pl.name, .slice pp mp qp, .slice pe es.length qe, .slice pb bo.length qb, .slice pls el.length qls, .slice pr ar.length qr, .int .i64 ps]) (by rw [results_cell1 rfl]; go_simp) rfl ⟨⟨.slice pn ns.length qn, .slice pt mt qt, .slice pp mp qp, .slice pe es.length qe, .slice pb bo.length qb, .slice pls el.length qls, .slice pr ar.length qr⟩, by subst hps; simp only [erS]; rfl, Lib.hid ?_, ((((((((((((((((BB.out.trans (HB.out.mono (by omega))).setCell (by simp) _).setCell (by simp) _).setCell (by simp) _).setCell (by simp) _).setCell (by simp) _).setCell (by simp) _).setCell (by simp) _).setCell (by simp) _).setCell (by simp) _).setCell (by simp) _).setCell (by simp) _).setCell (by simp) _).setCell (by simp) _).setCell (by simp) _).setCell (by simp) _)⟩
  simp only [erS]; exact ⟨⟨Hsl.out.1, Hsl.out.2.1, keep_i64 Hsl.out.2.2.1, Hsl.out.2.2.2⟩, NIn.reads KP.1 RD HF2.out, PT.In.reads KP.1 RD HF3.out, PP.In.reads KP.1 RD HF4.out, EsF.up KP.1 RD HF5.out, SsF.up KP.1 RD HF6.out, SsF.up KP.1 RD HF7.out, AsF.up KP.1 RD HF8.out⟩
/-- statements, however they stand in one another -/
theorem cloS_calls (kf : FuncId) (C K : Nat) (at' : Bool) (HKF : KeepOf kf at') : ∀ {t : PS}, SmS t → CloSAt kf C K at' t := by
  intro t
  generalize hn : SizeOf.sizeOf t = n
  induction n using Nat.strongRecOn generalizing t with
  | _ n ih =>
    obtain ⟨op, nm, sc, ns, ty, int, pl, es, bo, el, ar, pos⟩ := t
    simp only [PS.mk.sizeOf_spec] at hn
    intro h
    rw [SmS] at h
    obtain ⟨⟨h1, h2⟩, h3, h4, h5, h6, ⟨h7, h8⟩, ⟨h9, h10⟩, h11, h12⟩ := h
    refine cloS_step kf C K at' HKF op nm sc ns ty int pl es bo el ar pos h1 h2 h3 h4 h5 h6 h7 h9 h11 (fun t ht => ih _ ?_ rfl (h8.get ht)) (fun t ht => ih _ ?_ rfl (h10.get ht)) (fun a ha => ?_)
    · have := List.sizeOf_lt_of_mem ht; omega
    · have := List.sizeOf_lt_of_mem ht; omega
    · have h0 := List.sizeOf_lt_of_mem ha
      have hA := h12.get ha
      obtain ⟨vn, an, bb⟩ := a
      simp only [PA.mk.sizeOf_spec] at h0
      rw [SmA] at hA
      refine cloA_step kf C K at' vn an bb hA.1.1 hA.1.2 hA.2.1 (fun t ht => ih _ ?_ rfl (hA.2.2.get ht))
      have := List.sizeOf_lt_of_mem ht; omega
end Go.Proofs.YtojeijeimpffgaaGreat
