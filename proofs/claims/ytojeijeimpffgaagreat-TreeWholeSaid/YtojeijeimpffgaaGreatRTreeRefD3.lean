/- The document's own way of saying how deep statements are. -/
import Derived.Test.YtojeijeimpffgaaGreatRTreeRefD2
import Derived.Deep.Cut
namespace Go.Proofs.YtojeijeimpffgaaGreat
open Go.RowKit
set_option linter.unusedVariables false

def DeepLAt (B : Nat) (l : List PS) : Prop := ∀ (v : Value) (b o : Nat) (w : World), B ≤ w.heap.size → SlV B v l.length b o → PS.Row B w b o l → dSs l ≤ 1000000 →
  Calls Tryz.prog 33 #[v] w fun e w' => e = .returned (.int .i64 (dSs l : Int)) ∧ Below w.heap.size w w'
def SubDA (B : Nat) : PA → Prop | .mk _ _ bo => DeepLAt B bo
def SubD (B : Nat) : PS → Prop | .mk _ _ _ _ _ _ _ _ bo el ar _ => DeepLAt B bo ∧ DeepLAt B el ∧ ∀ a, a ∈ ar → SubDA B a
theorem dSs_mem : ∀ {l : List PS} {a : PS}, a ∈ l → dS a ≤ dSs l
  | x :: l, a, h => by
    rw [dSs]
    rcases List.mem_cons.1 h with rfl | h1
    · omega
    · have := dSs_mem h1; omega
theorem dAs_mem : ∀ {l : List PA} {a : PA}, a ∈ l → dA a ≤ dAs l
  | x :: l, a, h => by
    rw [dAs]
    rcases List.mem_cons.1 h with rfl | h1
    · omega
    · have := dAs_mem h1; omega
set_option maxRecDepth 100000 in
set_option maxHeartbeats 4000000 in
theorem deepS_list (B : Nat) (l : List PS) (H0 : ∀ a, a ∈ l → SubD B a) : DeepLAt B l := by
  intro v b o w hB hs1 rw1 hd
  obtain ⟨hn, ao, cap, rfl, k1⟩ := hs1
  unfold maxLen at hn
  obtain ⟨n, hx⟩ : ∃ n, n = l.length := ⟨_, rfl⟩
  rw [← hx] at hn k1 ⊢
  have Hx := Lib.hid hx
  have Hr := Lib.hid rw1
  have H1 := Lib.hid k1
  have H := Lib.hid H0
  have Hm := Lib.hid (fun a (h : a ∈ l) => dSs_mem h)
  obtain ⟨R, hR⟩ : ∃ R, R = dSs l := ⟨_, rfl⟩
  rw [← hR] at hd ⊢
  have HR := Lib.hid hR
  clear hx rw1 k1 H0 hR
  go_enter Tryz.func33, Tryz.ntmps33
  go_wp2_with fail
  go_loopw [3, 4] (fun q i wr => ∃ (k m : Nat), k ≤ n ∧ i = .int .i64 k ∧ q = .int .i64 m ∧ m ≤ R ∧ Hid (Below w.heap.size w wr) ∧ Hid (max m (dSs (l.drop k)) = R))
    (fun _ i _ => n - (intOf i).toNat)
  case atStart => exact ⟨0, 0, by omega, rfl, rfl, by omega, Lib.hid (Below.refl _ w), Lib.hid (by rw [List.drop_zero, HR.out]; omega)⟩
  case round =>
    obtain ⟨k, m, hk, rfl, rfl, hmR, Hw, HM⟩ := hrel
    have hsz := Hw.out.size
    by_cases hlt : k < n
    · obtain ⟨a, ha, hin⟩ := get_at (l := l) (k := k) (by rw [← Hx.out]; exact hlt)
      obtain ⟨rfl, hb⟩ := H1.out.resolve_left (by omega)
      have hg : b < wr.heap.size := by omega
      obtain ⟨va, ca, ia⟩ := PS.Row.get (PS.Row.below (Hw.out.mono hB) (fun _ => hb) Hr.out) ha
      obtain ⟨pa0, na0, qa0, pa1, na1, qa1, pa2, na2, qa2, pa3, na3, qa3, pa4, na4, qa4, pa5, na5, qa5, pa6, na6, qa6, rfl⟩ := ia.shape
      have hda := Hm.out a hin
      rw [← HR.out] at hda
      have HM2 : Hid (max (max m (dS a)) (dSs (l.drop (k + 1))) = R) := Lib.hid (by rw [← HM.out, drop_get ha, dSs]; omega)
      have hm2 : max m (dS a) ≤ R := by omega
      obtain ⟨opa, nma, sca, nsa, tya, iva, pla, esa, boa, ela, ara, ata⟩ := a
      have c0 : wr.cell? ⟨b, o + k * 15, none⟩ = some (.int .u8 opa) := ca 0 _ rfl
      have c1 : wr.cell? ⟨b, o + k * 15 + 1, none⟩ = some (.string nma) := ca 1 _ rfl
      have c2 : wr.cell? ⟨b, o + k * 15 + 2, none⟩ = some (.string sca) := ca 2 _ rfl
      have c3 : wr.cell? ⟨b, o + k * 15 + 3, none⟩ = some (.slice pa0 na0 qa0) := ca 3 _ rfl
      have c4 : wr.cell? ⟨b, o + k * 15 + 4, none⟩ = some (.int .u8 tya.kind) := ca 4 _ rfl
      have c5 : wr.cell? ⟨b, o + k * 15 + 5, none⟩ = some (.string tya.name) := ca 5 _ rfl
      have c6 : wr.cell? ⟨b, o + k * 15 + 6, none⟩ = some (.slice pa1 na1 qa1) := ca 6 _ rfl
      have c7 : wr.cell? ⟨b, o + k * 15 + 7, none⟩ = some (.int .i64 iva) := ca 7 _ rfl
      have c8 : wr.cell? ⟨b, o + k * 15 + 8, none⟩ = some (.string pla.name) := ca 8 _ rfl
      have c9 : wr.cell? ⟨b, o + k * 15 + 9, none⟩ = some (.slice pa2 na2 qa2) := ca 9 _ rfl
      have c10 : wr.cell? ⟨b, o + k * 15 + 10, none⟩ = some (.slice pa3 na3 qa3) := ca 10 _ rfl
      have c11 : wr.cell? ⟨b, o + k * 15 + 11, none⟩ = some (.slice pa4 na4 qa4) := ca 11 _ rfl
      have c12 : wr.cell? ⟨b, o + k * 15 + 12, none⟩ = some (.slice pa5 na5 qa5) := ca 12 _ rfl
      have c13 : wr.cell? ⟨b, o + k * 15 + 13, none⟩ = some (.slice pa6 na6 qa6) := ca 13 _ rfl
      have c14 : wr.cell? ⟨b, o + k * 15 + 14, none⟩ = some (.int .i64 ata) := ca 14 _ rfl
      obtain ⟨SB, SL, SA⟩ := H.out _ hin
      have Ia := Lib.hid ia
      clear ha hin HM ca ia
      go_upto_region 6 with (fail)
      obtain ⟨w0, hw0⟩ : ∃ w0, w0 = wr.alloc (.cells #[.int .u8 opa, .string nma, .string sca, .slice pa0 na0 qa0, .int .u8 tya.kind, .string tya.name, .slice pa1 na1 qa1, .int .i64 iva, .string pla.name, .slice pa2 na2 qa2, .slice pa3 na3 qa3, .slice pa4 na4 qa4, .slice pa5 na5 qa5, .slice pa6 na6 qa6, .int .i64 ata] 92) := ⟨_, rfl⟩
      rw [← hw0]
      obtain ⟨G, hG⟩ : ∃ G, G = wr.heap.size := ⟨_, rfl⟩
      have hz0 : G < w0.heap.size := by rw [hw0, hG]; simp
      have x0 : w0.cell? ⟨G, 0, none⟩ = some (.int .u8 opa) := by rw [hw0, hG]; go_simp
      have x4 : w0.cell? ⟨G, 4, none⟩ = some (.int .u8 tya.kind) := by rw [hw0, hG]; go_simp
      have x5 : w0.cell? ⟨G, 5, none⟩ = some (.string tya.name) := by rw [hw0, hG]; go_simp
      have x6 : w0.cell? ⟨G, 6, none⟩ = some (.slice pa1 na1 qa1) := by rw [hw0, hG]; go_simp
      have x10 : w0.cell? ⟨G, 10, none⟩ = some (.slice pa3 na3 qa3) := by rw [hw0, hG]; go_simp
      have x11 : w0.cell? ⟨G, 11, none⟩ = some (.slice pa4 na4 qa4) := by rw [hw0, hG]; go_simp
      have x12 : w0.cell? ⟨G, 12, none⟩ = some (.slice pa5 na5 qa5) := by rw [hw0, hG]; go_simp
      have x13 : w0.cell? ⟨G, 13, none⟩ = some (.slice pa6 na6 qa6) := by rw [hw0, hG]; go_simp
      rw [← hG]
      clear hG
      have y0 : Below wr.heap.size wr w0 := by rw [hw0]; exact (Below.refl _ wr).alloc (Nat.le_refl _) _
      have B0 : Hid (Below w.heap.size w w0) := Lib.hid (Hw.out.trans (y0.mono (by omega)))
      have I0 := Lib.hid (Ia.out.below (y0.mono (by omega)))
      obtain ⟨_, hns, hty, hpl, ⟨be, oe, ⟨hne, aoe, cape, hve, ke⟩, re⟩, ⟨bb, ob, sb, rb⟩, ⟨bl, ol, sl, rl⟩, bm, om, ⟨hnm, aom, capm, hvm, km⟩, rm⟩ := I0.out
      simp only [Value.slice.injEq] at hve hvm
      obtain ⟨rfl, hn3, rfl⟩ := hve
      obtain ⟨rfl, hn6, rfl⟩ := hvm
      unfold maxLen at hne hnm
      rw [← hn3] at hne ke
      rw [← hn6] at hnm km
      have hdS : dS (.mk opa nma sca nsa tya iva pla esa boa ela ara ata) = max (max (max (dSs boa) (dSs ela)) (dAs ara)) (max (dEs esa) (if opa = 12 then dT tya else 0)) + 1 := by rw [dS]
      rw [hdS] at hda HM2 hm2
      have hB0 : B ≤ w0.heap.size := by have := B0.out.size; omega
      have A1 : Hid (∀ n' : Over w0, Calls Tryz.prog 33 #[.slice pa4 na4 qa4] n'.w fun e w'' => e = .returned (.int .i64 (dSs boa : Int)) ∧ ∃ m' : Over w0, w'' = m'.w) := Lib.hid fun n' => over_calls (SB _ bb ob n'.w (by have := n'.h.size; omega) sb (PS.Row.below' (n'.h.mono hB0) sb rb) (by omega))
      have A2 : Hid (∀ n' : Over w0, Calls Tryz.prog 33 #[.slice pa5 na5 qa5] n'.w fun e w'' => e = .returned (.int .i64 (dSs ela : Int)) ∧ ∃ m' : Over w0, w'' = m'.w) := Lib.hid fun n' => over_calls (SL _ bl ol n'.w (by have := n'.h.size; omega) sl (PS.Row.below' (n'.h.mono hB0) sl rl) (by omega))
      have A3 : Hid (∀ n' : Over w0, Calls Tryz.prog 30 #[.int .i64 (dSs boa : Int), .int .i64 (dSs ela : Int)] n'.w fun e w'' => e = .returned (.int .i64 ((max (dSs boa) (dSs ela) : Nat) : Int)) ∧ ∃ m' : Over w0, w'' = m'.w) := Lib.hid fun n' => over_calls (most_calls _ _ n'.w)
      have Ke := Lib.hid ke
      have Km := Lib.hid km
      have Re := Lib.hid re
      have Rm := Lib.hid rm
      have Hty := Lib.hid hty
      have HN3 := Lib.hid hn3
      have HN6 := Lib.hid hn6
      have SA' := Lib.hid SA
      have MA := Lib.hid (fun a (h : a ∈ ara) => dAs_mem h)
      generalize hDB : max (dSs boa) (dSs ela) = DB at *
      clear hDB hns hty hpl re sb rb sl rl rm ke km hn3 hn6 y0 hw0 Ia I0 SB SL SA hdS c0 c1 c2 c3 c4 c5 c6 c7 c8 c9 c10 c11 c12 c13 c14 Hm
      generalize dSs boa = xb at *
      generalize dSs ela = xl at *
      have hF := Over.cells (W0 := w0)
      refine wp_region_over (by kernel_rfl) (by kernel_rfl) ?_
      repeat (go_big_quiet_step ((first | (go_at_call 33; with_reducible exact A1.out _) | (go_at_call 33; with_reducible exact A2.out _) | (go_at_call 30; with_reducible exact A3.out _))))
      refine wpQuiet_nil ?_
      rintro _ ⟨m', rfl⟩
      replace x0 := (m'.cells G 0 hz0).trans x0
      replace x4 := (m'.cells G 4 hz0).trans x4
      replace x5 := (m'.cells G 5 hz0).trans x5
      replace x6 := (m'.cells G 6 hz0).trans x6
      replace x10 := (m'.cells G 10 hz0).trans x10
      replace x13 := (m'.cells G 13 hz0).trans x13
      have hzd : G < m'.w.heap.size := by have := m'.h.size; omega
      have BD : Hid (Below w.heap.size w m'.w) := Lib.hid (B0.out.trans (m'.h.mono (by have := B0.out.size; omega)))
      have DK : Hid (∀ W, Below m'.w.heap.size m'.w W → Below w0.heap.size w0 W) := Lib.hid fun W h => m'.h.trans (h.mono m'.h.size)
      clear A1 A2 A3 hF x11 x12 B0 hz0
      generalize m'.w = wd at *
      have hwd : w.heap.size ≤ wd.heap.size := BD.out.size
      go_upto_region 7 with (fail)
      go_wp2_with fail
      go_loopw [6, 7] (fun dv i wi => ∃ (k2 q : Nat), k2 ≤ na6 ∧ i = .int .i64 k2 ∧ dv = .int .i64 q ∧ q ≤ 1000000 ∧ Hid (Below wd.heap.size wd wi) ∧ Hid (max q (dAs (ara.drop k2)) = max DB (dAs ara)))
        (fun _ i _ => na6 - (intOf i).toNat)
      case atStart => exact ⟨0, DB, by omega, rfl, rfl, by omega, Lib.hid (Below.refl _ wd), Lib.hid (by rw [List.drop_zero])⟩
      case round =>
        obtain ⟨k2, q, hk2, rfl, rfl, hq, Hi, HQ⟩ := hrel
        have hsi := Hi.out.size
        have z13 := (Hi.out.cell (p := ⟨G, 13, none⟩) hzd).trans x13
        by_cases hlt2 : k2 < na6
        · obtain ⟨a, ha, hin⟩ := get_at (l := ara) (k := k2) (by rw [← HN6.out]; exact hlt2)
          obtain ⟨rfl, hbm⟩ := Km.out.resolve_left (by omega)
          have hgm : bm < wr.heap.size := by omega
          obtain ⟨vm, cm, im⟩ := PA.Row.get (PA.Row.below ((DK.out _ Hi.out).mono hB0) (fun _ => hbm) Rm.out) ha
          obtain ⟨p7, n7, q7, rfl⟩ := im.shape
          have hma := MA.out a hin
          have hsub := SA'.out a hin
          have HQ2 : Hid (max (max q (dA a)) (dAs (ara.drop (k2 + 1))) = max DB (dAs ara)) := Lib.hid (by rw [← HQ.out, drop_get ha, dAs]; omega)
          obtain ⟨xv, xn, xbo⟩ := a
          rw [dA] at HQ2 hma
          have c2 : wr.cell? ⟨bm, om + k2 * 3 + 2, none⟩ = some (.slice p7 n7 q7) := cm 2 _ rfl
          obtain ⟨_, b7, o7, s7, r7⟩ := im
          have C : Hid (Calls Tryz.prog 33 #[.slice p7 n7 q7] wr fun e w' => e = .returned (.int .i64 (dSs xbo : Int)) ∧ Below wr.heap.size wr w') := Lib.hid (hsub _ b7 o7 wr (by omega) s7 r7 (by omega))
          have hq2 : max q (dSs xbo) ≤ 1000000 := by omega
          have MC := Lib.hid (fun w' => most_calls q (dSs xbo) w')
          generalize dSs xbo = da at *
          clear ha cm hin HQ hma hsub s7 r7
          go_wp2_with fail
          refine C.out.mono ?_
          rintro e u2 ⟨rfl, b2⟩
          have B2 := Lib.hid (Hi.out.trans (b2.mono (by omega)))
          clear b2 c2 z13 C Hi
          go_wp2_with fail
          refine (MC.out _).mono ?_
          rintro e u3 ⟨rfl, b3⟩
          have B3 := Lib.hid (B2.out.trans (b3.mono (by have := B2.out.size; omega)))
          generalize max q da = q3 at *
          clear b3 B2 MC
          go_wp2
          go_roundw
          case rel => exact ⟨k2 + 1, q3, by omega, by go_num, rfl, hq2, B3, HQ2⟩
          case measure => simp [intOf]; omega
        · obtain rfl : k2 = na6 := by omega
          have hq1 : q = max DB (dAs ara) := by have := HQ.out; rw [HN6.out, drop_end, dAs] at this; omega
          clear HQ Km Rm MA SA'
          replace x0 := (Hi.out.cell (p := ⟨G, 0, none⟩) hzd).trans x0
          replace x4 := (Hi.out.cell (p := ⟨G, 4, none⟩) hzd).trans x4
          replace x5 := (Hi.out.cell (p := ⟨G, 5, none⟩) hzd).trans x5
          replace x6 := (Hi.out.cell (p := ⟨G, 6, none⟩) hzd).trans x6
          replace x10 := (Hi.out.cell (p := ⟨G, 10, none⟩) hzd).trans x10
          have BD2 : Hid (Below w.heap.size w wr) := Lib.hid (BD.out.trans (Hi.out.mono (by have := BD.out.size; omega)))
          have DK2 : Hid (∀ W, Below wr.heap.size wr W → Below w0.heap.size w0 W) := Lib.hid fun W h => DK.out _ (Hi.out.trans (h.mono hsi))
          have hze : G < wr.heap.size := by omega
          clear Hi BD DK hsi x13
          generalize hD1 : max DB (dAs ara) = D1 at *
          obtain rfl : q = D1 := hq1
          generalize wr = wf at *
          have hwf : w.heap.size ≤ wf.heap.size := BD2.out.size
          go_wp2_with fail
          go_loopw [6, 8] (fun dv i wi => ∃ (k3 q3 : Nat), k3 ≤ na3 ∧ i = .int .i64 k3 ∧ dv = .int .i64 q3 ∧ q3 ≤ 1000000 ∧ Hid (Below wf.heap.size wf wi) ∧ Hid (max q3 (dEs (esa.drop k3)) = max q (dEs esa)))
            (fun _ i _ => na3 - (intOf i).toNat)
          case atStart => exact ⟨0, q, by omega, rfl, rfl, hq, Lib.hid (Below.refl _ _), Lib.hid (by rw [List.drop_zero])⟩
          case round =>
            obtain ⟨k3, q3, hk3, rfl, rfl, hq3, Hi, HQ⟩ := hrel
            have hsi := Hi.out.size
            have z10 := (Hi.out.cell (p := ⟨G, 10, none⟩) hze).trans x10
            by_cases hlt3 : k3 < na3
            · obtain ⟨a, ha, hin⟩ := get_at (l := esa) (k := k3) (by rw [← HN3.out]; exact hlt3)
              obtain ⟨rfl, hbe⟩ := Ke.out.resolve_left (by omega)
              have hge : be < wr.heap.size := by omega
              obtain ⟨vx, cx, ix⟩ := PE.Row.get (PE.Row.below ((DK2.out _ Hi.out).mono hB0) hbe Re.out) ha
              obtain ⟨pb0, nb0, qb0, pb1, nb1, qb1, rfl⟩ := ix.shape
              have e0 : wr.cell? ⟨be, oe + k3 * 8, none⟩ = some (.int .u8 a.op) := cx 0 _ rfl
              have e1 : wr.cell? ⟨be, oe + k3 * 8 + 1, none⟩ = some (.int .i64 a.int) := cx 1 _ rfl
              have e2 : wr.cell? ⟨be, oe + k3 * 8 + 2, none⟩ = some (.string a.name) := cx 2 _ rfl
              have e3 : wr.cell? ⟨be, oe + k3 * 8 + 3, none⟩ = some (.string a.second) := cx 3 _ rfl
              have e4 : wr.cell? ⟨be, oe + k3 * 8 + 4, none⟩ = some (.string a.place.name) := cx 4 _ rfl
              have e5 : wr.cell? ⟨be, oe + k3 * 8 + 5, none⟩ = some (.slice pb0 nb0 qb0) := cx 5 _ rfl
              have e6 : wr.cell? ⟨be, oe + k3 * 8 + 6, none⟩ = some (.slice pb1 nb1 qb1) := cx 6 _ rfl
              have e7 : wr.cell? ⟨be, oe + k3 * 8 + 7, none⟩ = some (.int .i64 a.pos) := cx 7 _ rfl
              have hma := dEs_mem hin
              have HQ2 : Hid (max (max q3 (dE a)) (dEs (esa.drop (k3 + 1))) = max q (dEs esa)) := Lib.hid (by rw [← HQ.out, drop_get ha, dEs]; omega)
              have C : Hid (Calls Tryz.prog 32 #[.agg #[.int .u8 a.op, .int .i64 a.int, .string a.name, .string a.second, .string a.place.name, .slice pb0 nb0 qb0, .slice pb1 nb1 qb1, .int .i64 a.pos]] wr fun e w' => e = .returned (.int .i64 (dE a : Int)) ∧ Below wr.heap.size wr w') := Lib.hid (deepE_calls B a ⟨.slice pb0 nb0 qb0, .slice pb1 nb1 qb1⟩ wr (by omega) ix (by omega))
              have hq2 : max q3 (dE a) ≤ 1000000 := by omega
              have MC := Lib.hid (fun w' => most_calls q3 (dE a) w')
              generalize dE a = da at *
              clear ha cx hin HQ hma ix
              go_wp2_with fail
              refine C.out.mono ?_
              rintro e u2 ⟨rfl, b2⟩
              have B2 := Lib.hid (Hi.out.trans (b2.mono (by omega)))
              clear b2 e0 e1 e2 e3 e4 e5 e6 e7 z10 C Hi
              go_wp2_with fail
              refine (MC.out _).mono ?_
              rintro e u3 ⟨rfl, b3⟩
              have B3 := Lib.hid (B2.out.trans (b3.mono (by have := B2.out.size; omega)))
              generalize max q3 da = q4 at *
              clear b3 B2 MC
              go_wp2
              go_roundw
              case rel => exact ⟨k3 + 1, q4, by omega, by go_num, rfl, hq2, B3, HQ2⟩
              case measure => simp [intOf]; omega
            · obtain rfl : k3 = na3 := by omega
              have hq1 : q3 = max q (dEs esa) := by have := HQ.out; rw [HN3.out, drop_end, dEs] at this; omega
              have z0 := (Hi.out.cell (p := ⟨G, 0, none⟩) hze).trans x0
              have z4 := (Hi.out.cell (p := ⟨G, 4, none⟩) hze).trans x4
              have z5 := (Hi.out.cell (p := ⟨G, 5, none⟩) hze).trans x5
              have z6 := (Hi.out.cell (p := ⟨G, 6, none⟩) hze).trans x6
              have ht := PT.In.below ((DK2.out _ Hi.out).mono hB0) Hty.out
              have BW : Hid (Below w.heap.size w wr) := Lib.hid (BD2.out.trans (Hi.out.mono (by omega)))
              have hBr : B ≤ wr.heap.size := by omega
              clear HQ Ke Re DK2 BD2 Hi x0 x4 x5 x6 x10 Hty HN3 HN6 hsi hsz
              by_cases h12 : opa = 12
              · subst h12
                rw [if_pos rfl] at hda HM2 hm2
                have C := Lib.hid (deepT_calls B tya (.slice pa1 na1 qa1) wr hBr ht (by omega))
                have MC := Lib.hid (fun w' => most_calls q3 (dT tya) w')
                have hmx : max q (max (dEs esa) (dT tya)) + 1 = max q3 (dT tya) + 1 := by omega
                rw [hmx] at hda HM2 hm2
                generalize dT tya = dt at *
                clear ht hmx hq1
                go_wp2_with fail
                refine C.out.mono ?_
                rintro e u2 ⟨rfl, b2⟩
                have B2 := Lib.hid (BW.out.trans (b2.mono (by have := BW.out.size; omega)))
                clear b2 C BW z0 z4 z5 z6 z10
                go_wp2_with fail
                refine (MC.out _).mono ?_
                rintro e u3 ⟨rfl, b3⟩
                have B3 := Lib.hid (B2.out.trans (b3.mono (by have := B2.out.size; omega)))
                generalize max q3 dt = q5 at *
                have MD := Lib.hid (fun w' => most_calls m (q5 + 1) w')
                have e5 : ((q5 + 1 : Nat) : Int) = (q5 : Int) + 1 := by omega
                rw [e5] at MD
                clear b3 B2 MC e5
                go_wp2_with fail
                refine (MD.out _).mono ?_
                rintro e u4 ⟨rfl, b4⟩
                have B4 := Lib.hid (B3.out.trans (b4.mono (by have := B3.out.size; omega)))
                generalize max m (q5 + 1) = m2 at *
                clear b4 B3 MD
                go_wp2
                go_roundw
                case rel => exact ⟨k + 1, m2, by omega, by go_num, rfl, hm2, B4, HM2⟩
                case measure => simp [intOf]; omega
              · rw [if_neg h12] at hda HM2 hm2
                have hmx : max q (max (dEs esa) 0) + 1 = q3 + 1 := by omega
                rw [hmx] at hda HM2 hm2
                have MD := Lib.hid (fun w' => most_calls m (q3 + 1) w')
                have e5 : ((q3 + 1 : Nat) : Int) = (q3 : Int) + 1 := by omega
                rw [e5] at MD
                have e12 : (opa == 12) = false := beq_eq_false_iff_ne.2 h12
                clear e5 ht hmx h12 hq1
                go_wp2_with fail
                refine (MD.out _).mono ?_
                rintro e u4 ⟨rfl, b4⟩
                have B4 := Lib.hid (BW.out.trans (b4.mono (by have := BW.out.size; omega)))
                generalize max m (q3 + 1) = m2 at *
                clear b4 BW MD
                go_wp2
                go_roundw
                case rel => exact ⟨k + 1, m2, by omega, by go_num, rfl, hm2, B4, HM2⟩
                case measure => simp [intOf]; omega
    · obtain rfl : k = n := by omega
      obtain rfl : m = R := by have := HM.out; rw [Hx.out, drop_end, dSs] at this; omega
      go_wp2
      go_ret
      exact ⟨rfl, Hw.out⟩
theorem subD_all (B : Nat) (a : PS) : SubD B a :=
  PS.rec (motive_1 := SubD B) (motive_2 := SubDA B) (motive_3 := fun l => ∀ x, x ∈ l → SubD B x) (motive_4 := fun l => ∀ x, x ∈ l → SubDA B x)
    (fun op n s ns t i p es bo el ar pos h1 h2 h3 => ⟨deepS_list B bo h1, deepS_list B el h2, h3⟩) (fun v n bo h => deepS_list B bo h)
    (fun x h => by cases h) (fun a l ha hl x h => by cases h with | head => exact ha | tail _ h => exact hl x h)
    (fun x h => by cases h) (fun a l ha hl x h => by cases h with | head => exact ha | tail _ h => exact hl x h) a
theorem deepS_calls (B : Nat) (l : List PS) : DeepLAt B l := deepS_list B l (fun a _ => subD_all B a)
end Go.Proofs.YtojeijeimpffgaaGreat

