/- The laws' own reckoning of room: statements (made by gen_roomS.py). -/
import Derived.Test.YthilicmhdkmipaaGreatDoorIJoinAQ
import Derived.Deep.Cut
namespace Go.Proofs.YthilicmhdkmipaaGreatDoor
open Go.RowKit
set_option linter.unusedVariables false

def RoomLAt (B R : Nat) (l : List PS) : Prop := ∀ (v : Value) (b o : Nat) (m : Int) (w : World), RB m → B ≤ w.heap.size → RoomAt B R w m → SlV B v l.length b o → PS.Row B w b o l →
  Calls Tryz.prog 38 #[.pointer (some ⟨R, 0, none⟩), v] w fun e w' => e = .returned (.tuple #[]) ∧ RoomAt B R w' (stmtsR l m) ∧ But R w w'
def SubA (B R : Nat) : PA → Prop | .mk _ _ bo => RoomLAt B R bo
def SubS (B R : Nat) : PS → Prop | .mk _ _ _ _ _ _ _ _ bo el ar _ => RoomLAt B R bo ∧ RoomLAt B R el ∧ ∀ a, a ∈ ar → SubA B R a

set_option maxRecDepth 100000 in
set_option maxHeartbeats 4000000 in
theorem roomS_list (B R : Nat) (l : List PS) (H0 : ∀ a, a ∈ l → SubS B R a) : RoomLAt B R l := by
  intro v b o m w hm hB hr s1 rw1
  rw [stmtsR_list]
  obtain ⟨hn, ao, cap, rfl, k1⟩ := s1
  unfold maxLen at hn
  have hBR := hr.1
  obtain ⟨n, hx⟩ : ∃ n, n = l.length := ⟨_, rfl⟩
  have hN : listR stmtR l m = listR stmtR (l.drop 0) m := rfl
  rw [← hx] at hn k1 ⊢
  have Hx := Lib.hid hx
  have Hr := Lib.hid rw1
  have H1 := Lib.hid k1
  have H := Lib.hid H0
  have HN := Lib.hid hN
  have R0 := Lib.hid hr
  generalize listR stmtR l m = res at *
  clear hN hx rw1 k1 hr H0
  go_enter Tryz.func38, Tryz.ntmps38
  go_wp2_with fail
  go_loopw [4] (fun i wr => ∃ (k : Nat) (q : Int), k ≤ n ∧ i = .int .i64 k ∧ RB q ∧ Hid (RoomAt B R wr q) ∧ Hid (But R w wr) ∧ Hid (res = listR stmtR (l.drop k) q))
    (fun i _ => n - (intOf i).toNat)
  case atStart => exact ⟨0, m, by omega, rfl, hm, R0, Lib.hid (But.refl _ _), HN⟩
  case round =>
    clear HN R0
    obtain ⟨k, q, hk, rfl, hq, Hq, Hw, HR⟩ := hrel
    obtain ⟨_, hRw, hc, hf⟩ := Hq.out
    have hsw := Hw.out.size
    by_cases hlt : k < n
    · by_cases hneg : q < 0
      · have hneg' : ¬ 0 ≤ q := by omega
        have e1 : k < n ∧ q < 0 := ⟨hlt, hneg⟩
        have hres := Lib.hid (HR.out.trans (listR_neg hneg))
        go_wp2
        go_end0
        exact ⟨rfl, by rw [hres.out]; exact Hq.out, Hw.out⟩
      · have hpos : 0 ≤ q := by omega
        obtain ⟨a, ha, hin⟩ := get_at (l := l) (k := k) (by rw [← Hx.out]; exact hlt)
        obtain ⟨rfl, hb⟩ := H1.out.resolve_left (by omega)
        have hg : b < wr.heap.size := by omega
        have hbel := Hw.out.below hBR hB
        obtain ⟨va, ca, ia⟩ := PS.Row.get (PS.Row.below hbel (fun _ => hb) Hr.out) ha
        obtain ⟨pa0, na0, qa0, pa1, na1, qa1, pa2, na2, qa2, pa3, na3, qa3, pa4, na4, qa4, pa5, na5, qa5, pa6, na6, qa6, rfl⟩ := ia.shape
        obtain ⟨opa, nma, sca, nsa, tya, iva, pla, esa, boa, ela, ara, ata⟩ := a
        have c0 : wr.cell? ⟨b, o + k * 15, none⟩ = some (.int .u8 opa) := ca 0 _ rfl
        have c1 : wr.cell? ⟨b, o + k * 15 + 1, none⟩ = some (.string nma) := ca 1 _ rfl
        have c2 : wr.cell? ⟨b, o + k * 15 + 2, none⟩ = some (.string sca) := ca 2 _ rfl
        have c3 : wr.cell? ⟨b, o + k * 15 + 3, none⟩ = some (.slice pa0 na0 qa0) := ca 3 _ rfl
        have c4 : wr.cell? ⟨b, o + k * 15 + 4, none⟩ = some (.int .u8 tya.kind) := ca 4 _ rfl
        have c5 : wr.cell? ⟨b, o + k * 15 + 5, none⟩ = some (.string tya.name) := ca 5 _ rfl
        have c6 : wr.cell? ⟨b, o + k * 15 + 6, none⟩ = some (.slice pa1 na1 qa1) := ca 6 _ rfl
        have c7 : wr.cell? ⟨b, o + k * 15 + 7, none⟩ = some (.int .i64 iva) := ca 7 _ rfl
        have c8 : wr.cell? ⟨b, o + k * 15 + 8, none⟩ = some (.string pla.name) := ca 8 _ rfl
        have c9 : wr.cell? ⟨b, o + k * 15 + 9, none⟩ = some (.slice pa2 na2 qa2) := ca 9 _ rfl
        have c10 : wr.cell? ⟨b, o + k * 15 + 10, none⟩ = some (.slice pa3 na3 qa3) := ca 10 _ rfl
        have c11 : wr.cell? ⟨b, o + k * 15 + 11, none⟩ = some (.slice pa4 na4 qa4) := ca 11 _ rfl
        have c12 : wr.cell? ⟨b, o + k * 15 + 12, none⟩ = some (.slice pa5 na5 qa5) := ca 12 _ rfl
        have c13 : wr.cell? ⟨b, o + k * 15 + 13, none⟩ = some (.slice pa6 na6 qa6) := ca 13 _ rfl
        have c14 : wr.cell? ⟨b, o + k * 15 + 14, none⟩ = some (.int .i64 ata) := ca 14 _ rfl
        have HS := Lib.hid (H.out _ hin)
        have Ia := Lib.hid ia
        have HR2 := Lib.hid (HR.out.trans (by rw [drop_at ha, listR_cons hpos]))
        clear ha hin HR ca ia hbel
        go_upto_region 4 with (fail)
        as_aux_lemma =>
          obtain ⟨w0, hw0⟩ : ∃ w0, w0 = wr.alloc (.cells #[.int .u8 opa, .string nma, .string sca, .slice pa0 na0 qa0, .int .u8 tya.kind, .string tya.name, .slice pa1 na1 qa1, .int .i64 iva, .string pla.name, .slice pa2 na2 qa2, .slice pa3 na3 qa3, .slice pa4 na4 qa4, .slice pa5 na5 qa5, .slice pa6 na6 qa6, .int .i64 ata] 130) := ⟨_, rfl⟩
          rw [← hw0]
          have x0_1 : w0.cell? ⟨wr.heap.size, 1, none⟩ = some (.string nma) := by rw [hw0]; go_simp
          have x0_2 : w0.cell? ⟨wr.heap.size, 2, none⟩ = some (.string sca) := by rw [hw0]; go_simp
          have x0_3 : w0.cell? ⟨wr.heap.size, 3, none⟩ = some (.slice pa0 na0 qa0) := by rw [hw0]; go_simp
          have x0_4 : w0.cell? ⟨wr.heap.size, 4, none⟩ = some (.int .u8 tya.kind) := by rw [hw0]; go_simp
          have x0_5 : w0.cell? ⟨wr.heap.size, 5, none⟩ = some (.string tya.name) := by rw [hw0]; go_simp
          have x0_6 : w0.cell? ⟨wr.heap.size, 6, none⟩ = some (.slice pa1 na1 qa1) := by rw [hw0]; go_simp
          have x0_8 : w0.cell? ⟨wr.heap.size, 8, none⟩ = some (.string pla.name) := by rw [hw0]; go_simp
          have x0_9 : w0.cell? ⟨wr.heap.size, 9, none⟩ = some (.slice pa2 na2 qa2) := by rw [hw0]; go_simp
          have x0_10 : w0.cell? ⟨wr.heap.size, 10, none⟩ = some (.slice pa3 na3 qa3) := by rw [hw0]; go_simp
          have x0_11 : w0.cell? ⟨wr.heap.size, 11, none⟩ = some (.slice pa4 na4 qa4) := by rw [hw0]; go_simp
          have x0_12 : w0.cell? ⟨wr.heap.size, 12, none⟩ = some (.slice pa5 na5 qa5) := by rw [hw0]; go_simp
          have x0_13 : w0.cell? ⟨wr.heap.size, 13, none⟩ = some (.slice pa6 na6 qa6) := by rw [hw0]; go_simp
          have hz0 : wr.heap.size < w0.heap.size := by rw [hw0]; simp
          have r0 : RoomAt B R w0 q := by rw [hw0]; exact Hq.out.below ((Below.refl _ wr).alloc (Nat.le_refl _) _)
          have y0 : But R wr w0 := by rw [hw0]; exact But.alloc _ _
          have hGR : wr.heap.size ≠ R := by omega
          have hGB : B ≤ wr.heap.size := by omega
          have YB := Lib.hid (fun (w' : World) (h : But R wr w') => h.below hBR hGB)
          obtain ⟨_, hns, hty, hpl, ⟨be, oe, ⟨hne, aoe, cape, hve, ke⟩, re⟩, ⟨bb, ob, sb, rb⟩, ⟨bl, ol, sl, rl⟩, bm, om, ⟨hnm, aom, capm, hvm, km⟩, rm⟩ := Ia.out
          simp only [Value.slice.injEq] at hve hvm
          obtain ⟨rfl, hn3, rfl⟩ := hve
          obtain ⟨rfl, hn6, rfl⟩ := hvm
          unfold maxLen at hne hnm
          rw [← hn3] at hne ke
          rw [← hn6] at hnm km
          have hm1 := nameR_rb hq nma.size
          have hm2 := nameR_b hm1 sca.size
          have hm2' := nameR_rb hm1 sca.size
          have hm3 := namesR_rb (l := nsa) hm2.1 hm2.2
          have hm4 := typeR_rb tya _ hm3
          have hm5 := placeR_rb pla hm4
          have hm6 := exprsR_rb esa _ hm5
          have C1 := Lib.hid (fun w h => room_name B R q nma hq w h)
          have C2 := Lib.hid (fun w h => room_name B R _ sca hm1 w h)
          have C3 := Lib.hid (fun w hB h hl => room_names B R nsa (.slice pa0 na0 qa0) _ hm2.1 hm2.2 w hB h hl)
          have C4 := Lib.hid (fun w hB h hl => roomT_calls B R tya (.slice pa1 na1 qa1) _ w hm3 hB h hl)
          have C5 := Lib.hid (fun w hB h hl => roomP_calls B R pla (.slice pa2 na2 qa2) _ w hm4 hB h hl)
          have E1 : Hid (stmtR (.mk opa nma sca nsa tya iva pla esa boa ela ara ata) q = armsR ara (stmtsR ela (stmtsR boa (exprsR esa (placeR pla (typeR tya (namesR nsa (nameR (nameR q nma.size) sca.size)))))))) := Lib.hid (by rw [stmtR])
          have E2 := Lib.hid (exprsR_list esa (placeR pla (typeR tya (namesR nsa (nameR (nameR q nma.size) sca.size)))))
          have HNs := Lib.hid hns
          have HTy := Lib.hid hty
          have HPl := Lib.hid hpl
          have HN3 := Lib.hid hn3
          have HN6 := Lib.hid hn6
          have Ke := Lib.hid ke
          have Km := Lib.hid km
          have Re := Lib.hid re
          have Sb := Lib.hid sb
          have Rb := Lib.hid rb
          have Sl := Lib.hid sl
          have Rl := Lib.hid rl
          have Rm := Lib.hid rm
          have Y0 := Lib.hid y0
          have HQ := Lib.hid (Hq.out)
          generalize exprsR esa (placeR pla (typeR tya (namesR nsa (nameR (nameR q nma.size) sca.size)))) = qe at *
          generalize placeR pla (typeR tya (namesR nsa (nameR (nameR q nma.size) sca.size))) = m5 at *
          generalize typeR tya (namesR nsa (nameR (nameR q nma.size) sca.size)) = m4 at *
          generalize namesR nsa (nameR (nameR q nma.size) sca.size) = m3 at *
          generalize nameR (nameR q nma.size) sca.size = m2 at *
          generalize nameR q nma.size = m1 at *
          have Hwr := Hw
          generalize wr.heap.size = G at *
          clear hns hty hpl re sb rb sl rl rm ke km hn3 hn6 y0 hw0 hc hf c0 c1 c2 c3 c4 c5 c6 c7 c8 c9 c10 c11 c12 c13 c14 Hq HQ
          go_wp2_with fail
          refine (C1.out _ r0).mono ?_
          rintro e w1 ⟨rfl, r1, b1⟩
          have hz1 : G < w1.heap.size := by have := b1.size; omega
          have x1_2 : w1.cell? ⟨G, 2, none⟩ = some (.string sca) := (b1.cell G 2 hz0 hGR).trans x0_2
          have x1_3 : w1.cell? ⟨G, 3, none⟩ = some (.slice pa0 na0 qa0) := (b1.cell G 3 hz0 hGR).trans x0_3
          have x1_4 : w1.cell? ⟨G, 4, none⟩ = some (.int .u8 tya.kind) := (b1.cell G 4 hz0 hGR).trans x0_4
          have x1_5 : w1.cell? ⟨G, 5, none⟩ = some (.string tya.name) := (b1.cell G 5 hz0 hGR).trans x0_5
          have x1_6 : w1.cell? ⟨G, 6, none⟩ = some (.slice pa1 na1 qa1) := (b1.cell G 6 hz0 hGR).trans x0_6
          have x1_8 : w1.cell? ⟨G, 8, none⟩ = some (.string pla.name) := (b1.cell G 8 hz0 hGR).trans x0_8
          have x1_9 : w1.cell? ⟨G, 9, none⟩ = some (.slice pa2 na2 qa2) := (b1.cell G 9 hz0 hGR).trans x0_9
          have x1_10 : w1.cell? ⟨G, 10, none⟩ = some (.slice pa3 na3 qa3) := (b1.cell G 10 hz0 hGR).trans x0_10
          have x1_11 : w1.cell? ⟨G, 11, none⟩ = some (.slice pa4 na4 qa4) := (b1.cell G 11 hz0 hGR).trans x0_11
          have x1_12 : w1.cell? ⟨G, 12, none⟩ = some (.slice pa5 na5 qa5) := (b1.cell G 12 hz0 hGR).trans x0_12
          have x1_13 : w1.cell? ⟨G, 13, none⟩ = some (.slice pa6 na6 qa6) := (b1.cell G 13 hz0 hGR).trans x0_13
          have y1 := Y0.out.trans b1
          have Y1 := Lib.hid y1
          clear b1 x0_1 x0_2 x0_3 x0_4 x0_5 x0_6 x0_8 x0_9 x0_10 x0_11 x0_12 x0_13 
          go_wp2_with fail
          refine (C2.out _ r1).mono ?_
          rintro e w2 ⟨rfl, r2, b2⟩
          have hz2 : G < w2.heap.size := by have := b2.size; omega
          have x2_3 : w2.cell? ⟨G, 3, none⟩ = some (.slice pa0 na0 qa0) := (b2.cell G 3 hz1 hGR).trans x1_3
          have x2_4 : w2.cell? ⟨G, 4, none⟩ = some (.int .u8 tya.kind) := (b2.cell G 4 hz1 hGR).trans x1_4
          have x2_5 : w2.cell? ⟨G, 5, none⟩ = some (.string tya.name) := (b2.cell G 5 hz1 hGR).trans x1_5
          have x2_6 : w2.cell? ⟨G, 6, none⟩ = some (.slice pa1 na1 qa1) := (b2.cell G 6 hz1 hGR).trans x1_6
          have x2_8 : w2.cell? ⟨G, 8, none⟩ = some (.string pla.name) := (b2.cell G 8 hz1 hGR).trans x1_8
          have x2_9 : w2.cell? ⟨G, 9, none⟩ = some (.slice pa2 na2 qa2) := (b2.cell G 9 hz1 hGR).trans x1_9
          have x2_10 : w2.cell? ⟨G, 10, none⟩ = some (.slice pa3 na3 qa3) := (b2.cell G 10 hz1 hGR).trans x1_10
          have x2_11 : w2.cell? ⟨G, 11, none⟩ = some (.slice pa4 na4 qa4) := (b2.cell G 11 hz1 hGR).trans x1_11
          have x2_12 : w2.cell? ⟨G, 12, none⟩ = some (.slice pa5 na5 qa5) := (b2.cell G 12 hz1 hGR).trans x1_12
          have x2_13 : w2.cell? ⟨G, 13, none⟩ = some (.slice pa6 na6 qa6) := (b2.cell G 13 hz1 hGR).trans x1_13
          have y2 := y1.trans b2
          have Y2 := Lib.hid y2
          clear b2 x1_2 x1_3 x1_4 x1_5 x1_6 x1_8 x1_9 x1_10 x1_11 x1_12 x1_13 y1 Y1 r1
          go_wp2_with fail
          refine (C3.out _ (by omega) r2 (HNs.out.below (YB.out _ Y2.out))).mono ?_
          rintro e w3 ⟨rfl, r3, b3⟩
          have hz3 : G < w3.heap.size := by have := b3.size; omega
          have x3_4 : w3.cell? ⟨G, 4, none⟩ = some (.int .u8 tya.kind) := (b3.cell G 4 hz2 hGR).trans x2_4
          have x3_5 : w3.cell? ⟨G, 5, none⟩ = some (.string tya.name) := (b3.cell G 5 hz2 hGR).trans x2_5
          have x3_6 : w3.cell? ⟨G, 6, none⟩ = some (.slice pa1 na1 qa1) := (b3.cell G 6 hz2 hGR).trans x2_6
          have x3_8 : w3.cell? ⟨G, 8, none⟩ = some (.string pla.name) := (b3.cell G 8 hz2 hGR).trans x2_8
          have x3_9 : w3.cell? ⟨G, 9, none⟩ = some (.slice pa2 na2 qa2) := (b3.cell G 9 hz2 hGR).trans x2_9
          have x3_10 : w3.cell? ⟨G, 10, none⟩ = some (.slice pa3 na3 qa3) := (b3.cell G 10 hz2 hGR).trans x2_10
          have x3_11 : w3.cell? ⟨G, 11, none⟩ = some (.slice pa4 na4 qa4) := (b3.cell G 11 hz2 hGR).trans x2_11
          have x3_12 : w3.cell? ⟨G, 12, none⟩ = some (.slice pa5 na5 qa5) := (b3.cell G 12 hz2 hGR).trans x2_12
          have x3_13 : w3.cell? ⟨G, 13, none⟩ = some (.slice pa6 na6 qa6) := (b3.cell G 13 hz2 hGR).trans x2_13
          have y3 := y2.trans b3
          have Y3 := Lib.hid y3
          clear b3 x2_3 x2_4 x2_5 x2_6 x2_8 x2_9 x2_10 x2_11 x2_12 x2_13 y2 Y2 r2
          go_wp2_with fail
          refine (C4.out _ (by omega) r3 (PT.In.below (YB.out _ Y3.out) HTy.out)).mono ?_
          rintro e w4 ⟨rfl, r4, b4⟩
          have hz4 : G < w4.heap.size := by have := b4.size; omega
          have x4_8 : w4.cell? ⟨G, 8, none⟩ = some (.string pla.name) := (b4.cell G 8 hz3 hGR).trans x3_8
          have x4_9 : w4.cell? ⟨G, 9, none⟩ = some (.slice pa2 na2 qa2) := (b4.cell G 9 hz3 hGR).trans x3_9
          have x4_10 : w4.cell? ⟨G, 10, none⟩ = some (.slice pa3 na3 qa3) := (b4.cell G 10 hz3 hGR).trans x3_10
          have x4_11 : w4.cell? ⟨G, 11, none⟩ = some (.slice pa4 na4 qa4) := (b4.cell G 11 hz3 hGR).trans x3_11
          have x4_12 : w4.cell? ⟨G, 12, none⟩ = some (.slice pa5 na5 qa5) := (b4.cell G 12 hz3 hGR).trans x3_12
          have x4_13 : w4.cell? ⟨G, 13, none⟩ = some (.slice pa6 na6 qa6) := (b4.cell G 13 hz3 hGR).trans x3_13
          have y4 := y3.trans b4
          have Y4 := Lib.hid y4
          clear b4 x3_4 x3_5 x3_6 x3_8 x3_9 x3_10 x3_11 x3_12 x3_13 y3 Y3 r3
          go_wp2_with fail
          refine (C5.out _ (by omega) r4 (HPl.out.below (YB.out _ Y4.out))).mono ?_
          rintro e w5 ⟨rfl, r5, b5⟩
          have hz5 : G < w5.heap.size := by have := b5.size; omega
          have x5_10 : w5.cell? ⟨G, 10, none⟩ = some (.slice pa3 na3 qa3) := (b5.cell G 10 hz4 hGR).trans x4_10
          have x5_11 : w5.cell? ⟨G, 11, none⟩ = some (.slice pa4 na4 qa4) := (b5.cell G 11 hz4 hGR).trans x4_11
          have x5_12 : w5.cell? ⟨G, 12, none⟩ = some (.slice pa5 na5 qa5) := (b5.cell G 12 hz4 hGR).trans x4_12
          have x5_13 : w5.cell? ⟨G, 13, none⟩ = some (.slice pa6 na6 qa6) := (b5.cell G 13 hz4 hGR).trans x4_13
          have y5 := y4.trans b5
          have Y5 := Lib.hid y5
          clear b5 x4_8 x4_9 x4_10 x4_11 x4_12 x4_13 y4 Y4 r4
          have R5 := Lib.hid r5
          have hs5 := y5.size
          clear r5 y5
          go_wp2_with fail
          go_loopw [6] (fun i wi => ∃ (k2 : Nat) (t : Int), k2 ≤ na3 ∧ i = .int .i64 k2 ∧ RB t ∧ Hid (RoomAt B R wi t) ∧ Hid (But R w5 wi) ∧ Hid (qe = listR exprR (esa.drop k2) t))
            (fun i _ => na3 - (intOf i).toNat)
          case atStart => exact ⟨0, m5, by omega, rfl, hm5, R5, Lib.hid (But.refl _ _), E2⟩
          case round =>
            clear E2 R5
            obtain ⟨k2, t, hk2, rfl, ht, Hq, Hw, HE⟩ := hrel
            obtain ⟨_, hRw, hc, hf⟩ := Hq.out
            have hsw5 := Hw.out.size
            have z10 : wr.cell? ⟨G, 10, none⟩ = some (.slice pa3 na3 qa3) := (Hw.out.cell G 10 hz5 hGR).trans x5_10
            by_cases hneg : t < 0
            · have hneg' : ¬ 0 ≤ t := by omega
              have HE2 : Hid (qe = t) := Lib.hid (HE.out.trans (listR_neg hneg))
              have hres : Hid (res = t) := Lib.hid (by rw [HR2.out, E1.out, HE2.out, stmtsR_neg hneg, stmtsR_neg hneg, armsR_neg hneg, listR_neg hneg])
              clear HE HE2 HR2 E1 x5_10 x5_11 x5_12 x5_13
              by_cases hlt2 : k2 < na3
              · have e1 : k2 < na3 ∧ t < 0 := ⟨hlt2, hneg⟩
                go_wp2
                exact bodyPost_ret (v := .tuple #[]) (by simp [results, Tryz.results38, go_sem]) rfl ⟨rfl, by rw [hres.out]; exact Hq.out, Hwr.out.trans (Y5.out.trans Hw.out)⟩
              · go_wp2
                exact bodyPost_ret (v := .tuple #[]) (by simp [results, Tryz.results38, go_sem]) rfl ⟨rfl, by rw [hres.out]; exact Hq.out, Hwr.out.trans (Y5.out.trans Hw.out)⟩
            · have hpos2 : 0 ≤ t := by omega
              by_cases hlt2 : k2 < na3
              · obtain ⟨x, hx, hxin⟩ := get_at (l := esa) (k := k2) (by rw [← HN3.out]; exact hlt2)
                obtain ⟨rfl, hbe⟩ := Ke.out.resolve_left (by omega)
                have hge : be < wr.heap.size := by omega
                obtain ⟨vx, cx, ix⟩ := PE.Row.get (PE.Row.below ((YB.out _ (Y5.out.trans Hw.out))) hbe Re.out) hx
                obtain ⟨pb0, nb0, qb0, pb1, nb1, qb1, rfl⟩ := ix.shape
                have e0 : wr.cell? ⟨be, oe + k2 * 8, none⟩ = some (.int .u8 x.op) := cx 0 _ rfl
                have e1 : wr.cell? ⟨be, oe + k2 * 8 + 1, none⟩ = some (.int .i64 x.int) := cx 1 _ rfl
                have e2 : wr.cell? ⟨be, oe + k2 * 8 + 2, none⟩ = some (.string x.name) := cx 2 _ rfl
                have e3 : wr.cell? ⟨be, oe + k2 * 8 + 3, none⟩ = some (.string x.second) := cx 3 _ rfl
                have e4 : wr.cell? ⟨be, oe + k2 * 8 + 4, none⟩ = some (.string x.place.name) := cx 4 _ rfl
                have e5 : wr.cell? ⟨be, oe + k2 * 8 + 5, none⟩ = some (.slice pb0 nb0 qb0) := cx 5 _ rfl
                have e6 : wr.cell? ⟨be, oe + k2 * 8 + 6, none⟩ = some (.slice pb1 nb1 qb1) := cx 6 _ rfl
                have e7 : wr.cell? ⟨be, oe + k2 * 8 + 7, none⟩ = some (.int .i64 x.pos) := cx 7 _ rfl
                have C : Hid (Calls Tryz.prog 39 #[.pointer (some ⟨R, 0, none⟩), .agg #[.int .u8 x.op, .int .i64 x.int, .string x.name, .string x.second, .string x.place.name, .slice pb0 nb0 qb0, .slice pb1 nb1 qb1, .int .i64 x.pos]] wr fun e w' => e = .returned (.tuple #[]) ∧ RoomAt B R w' (exprR x t) ∧ But R wr w') := Lib.hid (roomE_calls B R x ⟨.slice pb0 nb0 qb0, .slice pb1 nb1 qb1⟩ t wr ht (by omega) Hq.out ix)
                have HE2 := Lib.hid (HE.out.trans (by rw [drop_at hx, listR_cons hpos2]))
                have ht2 := exprR_rb x t ht
                generalize exprR x t = t2 at *
                clear hx cx ix hxin HE
                go_wp2_with fail
                refine C.out.mono ?_
                rintro e u2 ⟨rfl, r2, b2⟩
                have R2 := Lib.hid r2
                have B2 := Lib.hid (Hw.out.trans b2)
                clear r2 b2 e0 e1 e2 e3 e4 e5 e6 e7 hc hf z10
                go_wp2
                go_roundw
                case rel => exact ⟨k2 + 1, t2, by omega, by go_num, ht2, R2, B2, HE2⟩
                case measure => simp [intOf]; omega
              · obtain rfl : k2 = na3 := by omega
                have HE2 : Hid (qe = t) := Lib.hid (HE.out.trans (by rw [List.drop_of_length_le (by rw [← HN3.out]; exact Nat.le_refl _)]; rfl))
                clear HE
                have z11 : wr.cell? ⟨G, 11, none⟩ = some (.slice pa4 na4 qa4) := (Hw.out.cell G 11 hz5 hGR).trans x5_11
                have z12 : wr.cell? ⟨G, 12, none⟩ = some (.slice pa5 na5 qa5) := (Hw.out.cell G 12 hz5 hGR).trans x5_12
                have z13 : wr.cell? ⟨G, 13, none⟩ = some (.slice pa6 na6 qa6) := (Hw.out.cell G 13 hz5 hGR).trans x5_13
                obtain ⟨HS1, HS2, HS3⟩ := HS.out
                have y6 := Y5.out.trans Hw.out
                have h6 := stmtsR_rb boa _ ht
                have h7 := stmtsR_rb ela _ h6
                have C6 := Lib.hid (HS1 (.slice pa4 na4 qa4) bb ob t wr ht (by omega) Hq.out Sb.out (PS.Row.below' (YB.out _ y6) Sb.out Rb.out))
                have C7 := Lib.hid (fun w' hB' h' hx' => HS2 (.slice pa5 na5 qa5) bl ol _ w' h6 hB' h' Sl.out (PS.Row.below' (YB.out w' hx') Sl.out Rl.out))
                have H3 := Lib.hid HS3
                have EA := Lib.hid (armsR_list ara (stmtsR ela (stmtsR boa t)))
                have HR3 : Hid (res = listR stmtR (l.drop (k + 1)) (armsR ara (stmtsR ela (stmtsR boa t)))) := Lib.hid (by rw [HR2.out, E1.out, HE2.out])
                generalize armsR ara (stmtsR ela (stmtsR boa t)) = qa at *
                generalize stmtsR ela (stmtsR boa t) = t7 at *
                generalize stmtsR boa t = t6 at *
                have Y6 := Lib.hid y6
                clear HS1 HS2 HS3 HE2 HR2 E1 y6 x5_10 x5_11 x5_12 x5_13
                have hzw : G < wr.heap.size := by omega
                go_wp2_with fail
                refine C6.out.mono ?_
                rintro e w6 ⟨rfl, r6, b6⟩
                have hz6 : G < w6.heap.size := by have := b6.size; omega
                have u12 : w6.cell? ⟨G, 12, none⟩ = some (.slice pa5 na5 qa5) := (b6.cell G 12 hzw hGR).trans z12
                have u13 : w6.cell? ⟨G, 13, none⟩ = some (.slice pa6 na6 qa6) := (b6.cell G 13 hzw hGR).trans z13
                have Y7 := Lib.hid (Y6.out.trans b6)
                have Rr6 := Lib.hid r6
                clear b6 z10 z11 z12 z13 C6 r6 hc hf
                go_wp2_with fail
                refine (C7.out _ (by omega) Rr6.out Y7.out).mono ?_
                rintro e w7 ⟨rfl, r7, b7⟩
                have hz7 : G < w7.heap.size := by have := b7.size; omega
                have v13 : w7.cell? ⟨G, 13, none⟩ = some (.slice pa6 na6 qa6) := (b7.cell G 13 hz6 hGR).trans u13
                have Y8 := Lib.hid (Y7.out.trans b7)
                have Rr7 := Lib.hid r7
                clear b7 u12 u13 C7 r7
                go_wp2_with fail
                as_aux_lemma =>
                  go_loopw [7] (fun i wi => ∃ (k3 : Nat) (t : Int), k3 ≤ na6 ∧ i = .int .i64 k3 ∧ RB t ∧ Hid (RoomAt B R wi t) ∧ Hid (But R w7 wi) ∧ Hid (qa = listR armR (ara.drop k3) t))
                    (fun i _ => na6 - (intOf i).toNat)
                  case atStart => exact ⟨0, t7, by omega, rfl, h7, Rr7, Lib.hid (But.refl _ _), EA⟩
                  case round =>
                    clear EA Rr7
                    obtain ⟨k3, t3, hk3, rfl, ht3, Hq, Hw, HE⟩ := hrel
                    obtain ⟨_, hRw, hc, hf⟩ := Hq.out
                    have hsw7 := Hw.out.size
                    have z13 : wr.cell? ⟨G, 13, none⟩ = some (.slice pa6 na6 qa6) := (Hw.out.cell G 13 hz7 hGR).trans v13
                    by_cases hneg3 : t3 < 0
                    · have hneg' : ¬ 0 ≤ t3 := by omega
                      have hres : Hid (qa = t3) := Lib.hid (HE.out.trans (listR_neg hneg3))
                      clear HE v13
                      by_cases hlt3 : k3 < na6
                      · have e1 : k3 < na6 ∧ t3 < 0 := ⟨hlt3, hneg3⟩
                        go_wp2
                        go_roundw
                        case rel => exact ⟨k + 1, qa, by omega, by go_num, by rw [hres.out]; exact ht3, Lib.hid (by rw [hres.out]; exact Hq.out), Lib.hid (Hwr.out.trans (Y8.out.trans Hw.out)), HR3⟩
                        case measure => simp [intOf]; omega
                      · have hlt3' : ¬ k3 < na6 := hlt3
                        go_wp2
                        go_roundw
                        case rel => exact ⟨k + 1, qa, by omega, by go_num, by rw [hres.out]; exact ht3, Lib.hid (by rw [hres.out]; exact Hq.out), Lib.hid (Hwr.out.trans (Y8.out.trans Hw.out)), HR3⟩
                        case measure => simp [intOf]; omega
                    · have hpos3 : 0 ≤ t3 := by omega
                      by_cases hlt3 : k3 < na6
                      · obtain ⟨x, hx, hxin⟩ := get_at (l := ara) (k := k3) (by rw [← HN6.out]; exact hlt3)
                        obtain ⟨rfl, hbm⟩ := Km.out.resolve_left (by omega)
                        have hgm : bm < wr.heap.size := by omega
                        have hmR : bm ≠ R := by omega
                        obtain ⟨vx, cx, ix⟩ := PA.Row.get (PA.Row.below (YB.out _ (Y8.out.trans Hw.out)) (fun _ => hbm) Rm.out) hx
                        obtain ⟨pb0, nb0, qb0, rfl⟩ := ix.shape
                        have hsub := H3.out _ hxin
                        obtain ⟨xv, xn, xb⟩ := x
                        obtain ⟨_, b2, o2, s2, r2⟩ := ix
                        have e0 : wr.cell? ⟨bm, om + k3 * 3, none⟩ = some (.string xv) := cx 0 _ rfl
                        have e1 : wr.cell? ⟨bm, om + k3 * 3 + 1, none⟩ = some (.string xn) := cx 1 _ rfl
                        have e2 : wr.cell? ⟨bm, om + k3 * 3 + 2, none⟩ = some (.slice pb0 nb0 qb0) := cx 2 _ rfl
                        have hn1 := nameR_rb ht3 xv.size
                        have hn2 := nameR_rb hn1 xn.size
                        have D1 := Lib.hid (room_name B R t3 xv ht3 wr Hq.out)
                        have D2 := Lib.hid (fun w h => room_name B R _ xn hn1 w h)
                        have D3 := Lib.hid (fun w' hB' h' (hx' : But R wr w') => hsub (.slice pb0 nb0 qb0) b2 o2 _ w' hn2 hB' h' s2 (PS.Row.below' (hx'.below hBR (by omega)) s2 r2))
                        have HE2 := Lib.hid (HE.out.trans (by rw [drop_at hx, listR_cons hpos3]))
                        have EX : Hid (armR (.mk xv xn xb) t3 = stmtsR xb (nameR (nameR t3 xv.size) xn.size)) := Lib.hid (by rw [armR])
                        have ht4 := armR_rb (.mk xv xn xb) t3 ht3
                        generalize stmtsR xb (nameR (nameR t3 xv.size) xn.size) = t6' at *
                        generalize nameR (nameR t3 xv.size) xn.size = t5' at *
                        generalize nameR t3 xv.size = t4' at *
                        generalize armR (.mk xv xn xb) t3 = t4 at *
                        clear hx cx hxin HE r2 hsub
                        have hzg : G < wr.heap.size := by omega
                        go_wp2_with fail
                        refine D1.out.mono ?_
                        rintro e wa ⟨rfl, ra, ba⟩
                        have hsa := ba.size
                        have f1 : wa.cell? ⟨bm, om + k3 * 3 + 1, none⟩ = some (.string xn) := (ba.cell _ _ hgm hmR).trans e1
                        have f2 : wa.cell? ⟨bm, om + k3 * 3 + 2, none⟩ = some (.slice pb0 nb0 qb0) := (ba.cell _ _ hgm hmR).trans e2
                        have fz : wa.cell? ⟨G, 13, none⟩ = some (.slice (some ⟨bm, om, none⟩) na6 qa6) := (ba.cell G 13 hzg hGR).trans z13
                        have Ba := Lib.hid ba
                        have Ra := Lib.hid ra
                        clear ba ra e0 e1 e2 z13 hc hf D1
                        go_wp2_with fail
                        refine (D2.out _ Ra.out).mono ?_
                        rintro e wb ⟨rfl, rb, bb'⟩
                        have hsb := bb'.size
                        have g2 : wb.cell? ⟨bm, om + k3 * 3 + 2, none⟩ = some (.slice pb0 nb0 qb0) := (bb'.cell _ _ (by omega) hmR).trans f2
                        have gz : wb.cell? ⟨G, 13, none⟩ = some (.slice (some ⟨bm, om, none⟩) na6 qa6) := (bb'.cell G 13 (by omega) hGR).trans fz
                        have Bb := Lib.hid (Ba.out.trans bb')
                        have Rb' := Lib.hid rb
                        clear bb' rb f1 f2 fz D2
                        go_wp2_with fail
                        refine (D3.out _ (by omega) Rb'.out Bb.out).mono ?_
                        rintro e wc ⟨rfl, rc, bc⟩
                        have Rc := Lib.hid (show RoomAt B R wc t4 by rw [EX.out]; exact rc)
                        have Bc := Lib.hid (Hw.out.trans (Bb.out.trans bc))
                        clear rc bc g2 gz D3
                        go_wp2
                        go_roundw
                        case rel => exact ⟨k3 + 1, t4, by omega, by go_num, ht4, Rc, Bc, HE2⟩
                        case measure => simp [intOf]; omega
                      · obtain rfl : k3 = na6 := by omega
                        have hres : Hid (qa = t3) := Lib.hid (HE.out.trans (by rw [List.drop_of_length_le (by rw [← HN6.out]; exact Nat.le_refl _)]; rfl))
                        clear HE v13
                        go_wp2
                        go_roundw
                        case rel => exact ⟨k + 1, qa, by omega, by go_num, by rw [hres.out]; exact ht3, Lib.hid (by rw [hres.out]; exact Hq.out), Lib.hid (Hwr.out.trans (Y8.out.trans Hw.out)), HR3⟩
                        case measure => simp [intOf]; omega
    · obtain rfl : k = n := by omega
      have hres := Lib.hid (HR.out.trans (by rw [List.drop_of_length_le (by rw [← Hx.out]; exact Nat.le_refl _)]))
      go_wp2
      go_end0
      exact ⟨rfl, by rw [hres.out]; exact Hq.out, Hw.out⟩

theorem subS_all (B R : Nat) (a : PS) : SubS B R a :=
  PS.rec (motive_1 := SubS B R) (motive_2 := SubA B R) (motive_3 := fun l => ∀ x, x ∈ l → SubS B R x) (motive_4 := fun l => ∀ x, x ∈ l → SubA B R x)
    (fun op n s ns t i p es bo el ar pos h1 h2 h3 => ⟨roomS_list B R bo h1, roomS_list B R el h2, h3⟩) (fun v n bo h => roomS_list B R bo h)
    (fun x h => by cases h) (fun a l ha hl x h => by cases h with | head => exact ha | tail _ h => exact hl x h)
    (fun x h => by cases h) (fun a l ha hl x h => by cases h with | head => exact ha | tail _ h => exact hl x h) a
theorem roomS_calls (B R : Nat) (l : List PS) : RoomLAt B R l := roomS_list B R l (fun a _ => subS_all B R a)
end Go.Proofs.YthilicmhdkmipaaGreatDoor

