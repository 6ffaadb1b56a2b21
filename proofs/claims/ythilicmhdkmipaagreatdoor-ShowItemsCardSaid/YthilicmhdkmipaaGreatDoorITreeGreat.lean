/- The laws' own reckoning of room: programs (made by gen_roomS.py). -/
import Derived.Test.YthilicmhdkmipaaGreatDoorITreeRoomS
namespace Go.Proofs.YthilicmhdkmipaaGreatDoor
open Go.RowKit
set_option linter.unusedVariables false

set_option maxRecDepth 100000 in
set_option maxHeartbeats 4000000 in
theorem great_calls (B : Nat) (l : List PI) (v : Value) (w : World) (hB : B ≤ w.heap.size) (hl : ProgIn B w l v) :
    Calls Tryz.prog 10 #[.agg #[v]] w fun e w' => e = .returned (.bool (decide (progR l 20000 < 0))) ∧ Below w.heap.size w w' := by
  obtain ⟨b, o, ⟨hn, ao, cap, rfl, k1⟩, rw1⟩ := hl
  unfold maxLen at hn
  obtain ⟨n, hx⟩ : ∃ n, n = l.length := ⟨_, rfl⟩
  have hN : progR l 20000 = listR itemR (l.drop 0) 20000 := rfl
  rw [← hx] at hn k1 ⊢
  have Hx := Lib.hid hx
  have Hr := Lib.hid rw1
  have H1 := Lib.hid k1
  have HN := Lib.hid hN
  generalize progR l 20000 = res at *
  clear hN hx rw1 k1
  go_enter Tryz.func10, Tryz.ntmps10
  go_wp2_with fail
  have R0 : RoomAt B (w.heap.size + 1) ((w.alloc (.cells #[.slice ao n cap] 24)).alloc (.cells #[.int .i64 20000] 64)) 20000 := by
    have h := room_new B (w.alloc (.cells #[.slice ao n cap] 24)) (by simp; omega) 64 20000
    simpa using h
  have X0 := Lib.hid (show (((w.alloc (.cells #[.slice ao n cap] 24)).alloc (.cells #[.int .i64 20000] 64)).cell? ⟨w.heap.size, 0, none⟩ = some (.slice ao n cap)) by go_simp)
  have B0 := Lib.hid (box2 w (.cells #[.slice ao n cap] 24) (.cells #[.int .i64 20000] 64))
  have hz0 : ((w.alloc (.cells #[.slice ao n cap] 24)).alloc (.cells #[.int .i64 20000] 64)).heap.size = w.heap.size + 1 + 1 := by simp
  generalize ((w.alloc (.cells #[.slice ao n cap] 24)).alloc (.cells #[.int .i64 20000] 64)) = W at *
  have Rh := Lib.hid R0
  clear R0
  go_loopw [4] (fun i wr => ∃ (k : Nat) (q : Int), k ≤ n ∧ i = .int .i64 k ∧ RB q ∧ Hid (RoomAt B (w.heap.size + 1) wr q) ∧ Hid (But (w.heap.size + 1) W wr) ∧ Hid (res = listR itemR (l.drop k) q))
    (fun i _ => n - (intOf i).toNat)
  case atStart => exact ⟨0, 20000, by omega, rfl, ⟨by omega, by omega⟩, Rh, Lib.hid (But.refl _ _), HN⟩
  case round =>
    clear HN Rh
    obtain ⟨k, q, hk, rfl, hq, Hq, Hw, HR⟩ := hrel
    obtain ⟨hBR, hRw, hc, hf⟩ := Hq.out
    have hsw := Hw.out.size
    have z0 : wr.cell? ⟨w.heap.size, 0, none⟩ = some (.slice ao n cap) := (Hw.out.cell _ _ (by omega) (by omega)).trans X0.out
    have hfin := Lib.hid (B0.out.trans ((Hw.out.below (B := w.heap.size) (by omega) (by omega)).mono (Nat.le_refl _)))
    by_cases hlt : k < n
    · by_cases hneg : q < 0
      · have hneg' : ¬ 0 ≤ q := by omega
        have e1 : k < n ∧ q < 0 := ⟨hlt, hneg⟩
        have hres := Lib.hid (HR.out.trans (listR_neg hneg))
        go_wp2
        go_ret
        exact ⟨ret_bool (by rw [hres.out]; simp [hneg]), hfin.out⟩
      · have hpos : 0 ≤ q := by omega
        obtain ⟨a, ha, hin⟩ := get_at (l := l) (k := k) (by rw [← Hx.out]; exact hlt)
        obtain ⟨rfl, hb⟩ := H1.out.resolve_left (by omega)
        have hg : b < wr.heap.size := by omega
        have hbel := (B0.out.mono hB).trans (Hw.out.below hBR (by omega))
        obtain ⟨va, ca, ia⟩ := PI.Row.get (PI.Row.below hbel hb Hr.out) ha
        obtain ⟨pa0, na0, qa0, pa1, na1, qa1, pa2, na2, qa2, pa3, na3, qa3, pa4, na4, qa4, rfl⟩ := ia.shape
        obtain ⟨kda, nma, fsa, rta, boa, rxa, ata⟩ := a
        have c0 : wr.cell? ⟨b, o + k * 16, none⟩ = some (.int .u8 kda) := ca 0 _ rfl
        have c1 : wr.cell? ⟨b, o + k * 16 + 1, none⟩ = some (.string nma) := ca 1 _ rfl
        have c2 : wr.cell? ⟨b, o + k * 16 + 2, none⟩ = some (.slice pa0 na0 qa0) := ca 2 _ rfl
        have c3 : wr.cell? ⟨b, o + k * 16 + 3, none⟩ = some (.int .u8 rta.kind) := ca 3 _ rfl
        have c4 : wr.cell? ⟨b, o + k * 16 + 4, none⟩ = some (.string rta.name) := ca 4 _ rfl
        have c5 : wr.cell? ⟨b, o + k * 16 + 5, none⟩ = some (.slice pa1 na1 qa1) := ca 5 _ rfl
        have c6 : wr.cell? ⟨b, o + k * 16 + 6, none⟩ = some (.slice pa2 na2 qa2) := ca 6 _ rfl
        have c7 : wr.cell? ⟨b, o + k * 16 + 7, none⟩ = some (.int .u8 rxa.op) := ca 7 _ rfl
        have c8 : wr.cell? ⟨b, o + k * 16 + 8, none⟩ = some (.int .i64 rxa.int) := ca 8 _ rfl
        have c9 : wr.cell? ⟨b, o + k * 16 + 9, none⟩ = some (.string rxa.name) := ca 9 _ rfl
        have c10 : wr.cell? ⟨b, o + k * 16 + 10, none⟩ = some (.string rxa.second) := ca 10 _ rfl
        have c11 : wr.cell? ⟨b, o + k * 16 + 11, none⟩ = some (.string rxa.place.name) := ca 11 _ rfl
        have c12 : wr.cell? ⟨b, o + k * 16 + 12, none⟩ = some (.slice pa3 na3 qa3) := ca 12 _ rfl
        have c13 : wr.cell? ⟨b, o + k * 16 + 13, none⟩ = some (.slice pa4 na4 qa4) := ca 13 _ rfl
        have c14 : wr.cell? ⟨b, o + k * 16 + 14, none⟩ = some (.int .i64 rxa.pos) := ca 14 _ rfl
        have c15 : wr.cell? ⟨b, o + k * 16 + 15, none⟩ = some (.int .i64 ata) := ca 15 _ rfl
        have Ia := Lib.hid ia
        have HR2 := Lib.hid (HR.out.trans (by rw [drop_at ha, listR_cons hpos]))
        clear ha hin HR ca ia hbel hfin
        go_upto_region 6 with (fail)
        as_aux_lemma =>
          obtain ⟨w0, hw0⟩ : ∃ w0, w0 = wr.alloc (.cells #[.int .u8 kda, .string nma, .slice pa0 na0 qa0, .int .u8 rta.kind, .string rta.name, .slice pa1 na1 qa1, .slice pa2 na2 qa2, .int .u8 rxa.op, .int .i64 rxa.int, .string rxa.name, .string rxa.second, .string rxa.place.name, .slice pa3 na3 qa3, .slice pa4 na4 qa4, .int .i64 rxa.pos, .int .i64 ata] 68) := ⟨_, rfl⟩
          rw [← hw0]
          have x0_1 : w0.cell? ⟨wr.heap.size, 1, none⟩ = some (.string nma) := by rw [hw0]; go_simp
          have x0_2 : w0.cell? ⟨wr.heap.size, 2, none⟩ = some (.slice pa0 na0 qa0) := by rw [hw0]; go_simp
          have x0_3 : w0.cell? ⟨wr.heap.size, 3, none⟩ = some (.int .u8 rta.kind) := by rw [hw0]; go_simp
          have x0_4 : w0.cell? ⟨wr.heap.size, 4, none⟩ = some (.string rta.name) := by rw [hw0]; go_simp
          have x0_5 : w0.cell? ⟨wr.heap.size, 5, none⟩ = some (.slice pa1 na1 qa1) := by rw [hw0]; go_simp
          have x0_6 : w0.cell? ⟨wr.heap.size, 6, none⟩ = some (.slice pa2 na2 qa2) := by rw [hw0]; go_simp
          have x0_7 : w0.cell? ⟨wr.heap.size, 7, none⟩ = some (.int .u8 rxa.op) := by rw [hw0]; go_simp
          have x0_8 : w0.cell? ⟨wr.heap.size, 8, none⟩ = some (.int .i64 rxa.int) := by rw [hw0]; go_simp
          have x0_9 : w0.cell? ⟨wr.heap.size, 9, none⟩ = some (.string rxa.name) := by rw [hw0]; go_simp
          have x0_10 : w0.cell? ⟨wr.heap.size, 10, none⟩ = some (.string rxa.second) := by rw [hw0]; go_simp
          have x0_11 : w0.cell? ⟨wr.heap.size, 11, none⟩ = some (.string rxa.place.name) := by rw [hw0]; go_simp
          have x0_12 : w0.cell? ⟨wr.heap.size, 12, none⟩ = some (.slice pa3 na3 qa3) := by rw [hw0]; go_simp
          have x0_13 : w0.cell? ⟨wr.heap.size, 13, none⟩ = some (.slice pa4 na4 qa4) := by rw [hw0]; go_simp
          have x0_14 : w0.cell? ⟨wr.heap.size, 14, none⟩ = some (.int .i64 rxa.pos) := by rw [hw0]; go_simp
          have hz0' : wr.heap.size < w0.heap.size := by rw [hw0]; simp
          have r0 : RoomAt B (w.heap.size + 1) w0 q := by rw [hw0]; exact Hq.out.below ((Below.refl _ wr).alloc (Nat.le_refl _) _)
          have y0 : But (w.heap.size + 1) wr w0 := by rw [hw0]; exact But.alloc _ _
          have hGR : wr.heap.size ≠ w.heap.size + 1 := by omega
          have hGB : B ≤ wr.heap.size := by omega
          have YB := Lib.hid (fun (w' : World) (h : But (w.heap.size + 1) wr w') => h.below hBR hGB)
          obtain ⟨_, ⟨bf, of', sf, rf⟩, hty, ⟨bb, ob, sb, rb⟩, hrx⟩ := Ia.out
          have hm1 := nameR_rb hq nma.size
          have hm2 := fieldsR_rb fsa _ hm1
          have hm3 := typeR_rb rta _ hm2
          have hm4 := stmtsR_rb boa _ hm3
          have hm5 := exprR_rb rxa _ hm4
          have C1 := Lib.hid (fun w' h => room_name B (w.heap.size + 1) q nma hq w' h)
          have C2 := Lib.hid (fun w' hB' h' (hx' : But (w.heap.size + 1) wr w') => roomF_calls B (w.heap.size + 1) fsa (.slice pa0 na0 qa0) _ hm1 w' hB' h' bf of' sf (PF.Row.below' (YB.out w' hx') sf rf))
          have C3 := Lib.hid (fun w' hB' h' (hx' : But (w.heap.size + 1) wr w') => roomT_calls B (w.heap.size + 1) rta (.slice pa1 na1 qa1) _ w' hm2 hB' h' (PT.In.below (YB.out w' hx') hty))
          have C4 := Lib.hid (fun w' hB' h' (hx' : But (w.heap.size + 1) wr w') => roomS_calls B (w.heap.size + 1) boa (.slice pa2 na2 qa2) bb ob _ w' hm3 hB' h' sb (PS.Row.below' (YB.out w' hx') sb rb))
          have C5 : Hid (∀ w', B ≤ w'.heap.size → RoomAt B (w.heap.size + 1) w' (stmtsR boa (typeR rta (fieldsR fsa (nameR q nma.size)))) → But (w.heap.size + 1) wr w' → Calls Tryz.prog 39 #[.pointer (some ⟨w.heap.size + 1, 0, none⟩), .agg #[.int .u8 rxa.op, .int .i64 rxa.int, .string rxa.name, .string rxa.second, .string rxa.place.name, .slice pa3 na3 qa3, .slice pa4 na4 qa4, .int .i64 rxa.pos]] w' fun e w'' => e = .returned (.tuple #[]) ∧ RoomAt B (w.heap.size + 1) w'' (exprR rxa (stmtsR boa (typeR rta (fieldsR fsa (nameR q nma.size))))) ∧ But (w.heap.size + 1) w' w'') :=
            Lib.hid (fun w' hB' h' hx' => roomE_calls B (w.heap.size + 1) rxa ⟨.slice pa3 na3 qa3, .slice pa4 na4 qa4⟩ _ w' hm4 hB' h' (PE.In.below (YB.out w' hx') hrx))
          have E1 : Hid (itemR ⟨kda, nma, fsa, rta, boa, rxa, ata⟩ q = exprR rxa (stmtsR boa (typeR rta (fieldsR fsa (nameR q nma.size))))) := Lib.hid rfl
          have Y0 := Lib.hid y0
          generalize exprR rxa (stmtsR boa (typeR rta (fieldsR fsa (nameR q nma.size)))) = m5 at *
          generalize stmtsR boa (typeR rta (fieldsR fsa (nameR q nma.size))) = m4 at *
          generalize typeR rta (fieldsR fsa (nameR q nma.size)) = m3 at *
          generalize fieldsR fsa (nameR q nma.size) = m2 at *
          generalize nameR q nma.size = m1 at *
          have Hwr := Hw
          generalize wr.heap.size = G at *
          clear hty hrx sf rf sb rb y0 hw0 hc hf z0 c0 c1 c2 c3 c4 c5 c6 c7 c8 c9 c10 c11 c12 c13 c14 c15 Hq
          go_wp2_with fail
          refine (C1.out _ r0).mono ?_
          rintro e w1 ⟨rfl, r1, b1⟩
          have hz1' : G < w1.heap.size := by have := b1.size; omega
          have x1_2 : w1.cell? ⟨G, 2, none⟩ = some (.slice pa0 na0 qa0) := (b1.cell G 2 hz0' hGR).trans x0_2
          have x1_3 : w1.cell? ⟨G, 3, none⟩ = some (.int .u8 rta.kind) := (b1.cell G 3 hz0' hGR).trans x0_3
          have x1_4 : w1.cell? ⟨G, 4, none⟩ = some (.string rta.name) := (b1.cell G 4 hz0' hGR).trans x0_4
          have x1_5 : w1.cell? ⟨G, 5, none⟩ = some (.slice pa1 na1 qa1) := (b1.cell G 5 hz0' hGR).trans x0_5
          have x1_6 : w1.cell? ⟨G, 6, none⟩ = some (.slice pa2 na2 qa2) := (b1.cell G 6 hz0' hGR).trans x0_6
          have x1_7 : w1.cell? ⟨G, 7, none⟩ = some (.int .u8 rxa.op) := (b1.cell G 7 hz0' hGR).trans x0_7
          have x1_8 : w1.cell? ⟨G, 8, none⟩ = some (.int .i64 rxa.int) := (b1.cell G 8 hz0' hGR).trans x0_8
          have x1_9 : w1.cell? ⟨G, 9, none⟩ = some (.string rxa.name) := (b1.cell G 9 hz0' hGR).trans x0_9
          have x1_10 : w1.cell? ⟨G, 10, none⟩ = some (.string rxa.second) := (b1.cell G 10 hz0' hGR).trans x0_10
          have x1_11 : w1.cell? ⟨G, 11, none⟩ = some (.string rxa.place.name) := (b1.cell G 11 hz0' hGR).trans x0_11
          have x1_12 : w1.cell? ⟨G, 12, none⟩ = some (.slice pa3 na3 qa3) := (b1.cell G 12 hz0' hGR).trans x0_12
          have x1_13 : w1.cell? ⟨G, 13, none⟩ = some (.slice pa4 na4 qa4) := (b1.cell G 13 hz0' hGR).trans x0_13
          have x1_14 : w1.cell? ⟨G, 14, none⟩ = some (.int .i64 rxa.pos) := (b1.cell G 14 hz0' hGR).trans x0_14
          have y1 := Y0.out.trans b1
          have Y1 := Lib.hid y1
          clear b1 x0_1 x0_2 x0_3 x0_4 x0_5 x0_6 x0_7 x0_8 x0_9 x0_10 x0_11 x0_12 x0_13 x0_14 
          go_wp2_with fail
          refine (C2.out _ (by omega) r1 Y1.out).mono ?_
          rintro e w2 ⟨rfl, r2, b2⟩
          have hz2' : G < w2.heap.size := by have := b2.size; omega
          have x2_3 : w2.cell? ⟨G, 3, none⟩ = some (.int .u8 rta.kind) := (b2.cell G 3 hz1' hGR).trans x1_3
          have x2_4 : w2.cell? ⟨G, 4, none⟩ = some (.string rta.name) := (b2.cell G 4 hz1' hGR).trans x1_4
          have x2_5 : w2.cell? ⟨G, 5, none⟩ = some (.slice pa1 na1 qa1) := (b2.cell G 5 hz1' hGR).trans x1_5
          have x2_6 : w2.cell? ⟨G, 6, none⟩ = some (.slice pa2 na2 qa2) := (b2.cell G 6 hz1' hGR).trans x1_6
          have x2_7 : w2.cell? ⟨G, 7, none⟩ = some (.int .u8 rxa.op) := (b2.cell G 7 hz1' hGR).trans x1_7
          have x2_8 : w2.cell? ⟨G, 8, none⟩ = some (.int .i64 rxa.int) := (b2.cell G 8 hz1' hGR).trans x1_8
          have x2_9 : w2.cell? ⟨G, 9, none⟩ = some (.string rxa.name) := (b2.cell G 9 hz1' hGR).trans x1_9
          have x2_10 : w2.cell? ⟨G, 10, none⟩ = some (.string rxa.second) := (b2.cell G 10 hz1' hGR).trans x1_10
          have x2_11 : w2.cell? ⟨G, 11, none⟩ = some (.string rxa.place.name) := (b2.cell G 11 hz1' hGR).trans x1_11
          have x2_12 : w2.cell? ⟨G, 12, none⟩ = some (.slice pa3 na3 qa3) := (b2.cell G 12 hz1' hGR).trans x1_12
          have x2_13 : w2.cell? ⟨G, 13, none⟩ = some (.slice pa4 na4 qa4) := (b2.cell G 13 hz1' hGR).trans x1_13
          have x2_14 : w2.cell? ⟨G, 14, none⟩ = some (.int .i64 rxa.pos) := (b2.cell G 14 hz1' hGR).trans x1_14
          have y2 := y1.trans b2
          have Y2 := Lib.hid y2
          clear b2 x1_2 x1_3 x1_4 x1_5 x1_6 x1_7 x1_8 x1_9 x1_10 x1_11 x1_12 x1_13 x1_14 y1 Y1 r1
          go_wp2_with fail
          refine (C3.out _ (by omega) r2 Y2.out).mono ?_
          rintro e w3 ⟨rfl, r3, b3⟩
          have hz3' : G < w3.heap.size := by have := b3.size; omega
          have x3_6 : w3.cell? ⟨G, 6, none⟩ = some (.slice pa2 na2 qa2) := (b3.cell G 6 hz2' hGR).trans x2_6
          have x3_7 : w3.cell? ⟨G, 7, none⟩ = some (.int .u8 rxa.op) := (b3.cell G 7 hz2' hGR).trans x2_7
          have x3_8 : w3.cell? ⟨G, 8, none⟩ = some (.int .i64 rxa.int) := (b3.cell G 8 hz2' hGR).trans x2_8
          have x3_9 : w3.cell? ⟨G, 9, none⟩ = some (.string rxa.name) := (b3.cell G 9 hz2' hGR).trans x2_9
          have x3_10 : w3.cell? ⟨G, 10, none⟩ = some (.string rxa.second) := (b3.cell G 10 hz2' hGR).trans x2_10
          have x3_11 : w3.cell? ⟨G, 11, none⟩ = some (.string rxa.place.name) := (b3.cell G 11 hz2' hGR).trans x2_11
          have x3_12 : w3.cell? ⟨G, 12, none⟩ = some (.slice pa3 na3 qa3) := (b3.cell G 12 hz2' hGR).trans x2_12
          have x3_13 : w3.cell? ⟨G, 13, none⟩ = some (.slice pa4 na4 qa4) := (b3.cell G 13 hz2' hGR).trans x2_13
          have x3_14 : w3.cell? ⟨G, 14, none⟩ = some (.int .i64 rxa.pos) := (b3.cell G 14 hz2' hGR).trans x2_14
          have y3 := y2.trans b3
          have Y3 := Lib.hid y3
          clear b3 x2_3 x2_4 x2_5 x2_6 x2_7 x2_8 x2_9 x2_10 x2_11 x2_12 x2_13 x2_14 y2 Y2 r2
          go_wp2_with fail
          refine (C4.out _ (by omega) r3 Y3.out).mono ?_
          rintro e w4 ⟨rfl, r4, b4⟩
          have hz4' : G < w4.heap.size := by have := b4.size; omega
          have x4_7 : w4.cell? ⟨G, 7, none⟩ = some (.int .u8 rxa.op) := (b4.cell G 7 hz3' hGR).trans x3_7
          have x4_8 : w4.cell? ⟨G, 8, none⟩ = some (.int .i64 rxa.int) := (b4.cell G 8 hz3' hGR).trans x3_8
          have x4_9 : w4.cell? ⟨G, 9, none⟩ = some (.string rxa.name) := (b4.cell G 9 hz3' hGR).trans x3_9
          have x4_10 : w4.cell? ⟨G, 10, none⟩ = some (.string rxa.second) := (b4.cell G 10 hz3' hGR).trans x3_10
          have x4_11 : w4.cell? ⟨G, 11, none⟩ = some (.string rxa.place.name) := (b4.cell G 11 hz3' hGR).trans x3_11
          have x4_12 : w4.cell? ⟨G, 12, none⟩ = some (.slice pa3 na3 qa3) := (b4.cell G 12 hz3' hGR).trans x3_12
          have x4_13 : w4.cell? ⟨G, 13, none⟩ = some (.slice pa4 na4 qa4) := (b4.cell G 13 hz3' hGR).trans x3_13
          have x4_14 : w4.cell? ⟨G, 14, none⟩ = some (.int .i64 rxa.pos) := (b4.cell G 14 hz3' hGR).trans x3_14
          have y4 := y3.trans b4
          have Y4 := Lib.hid y4
          clear b4 x3_6 x3_7 x3_8 x3_9 x3_10 x3_11 x3_12 x3_13 x3_14 y3 Y3 r3
          go_wp2_with fail
          refine (C5.out _ (by omega) r4 Y4.out).mono ?_
          rintro e w5 ⟨rfl, r5, b5⟩
          have hz5' : G < w5.heap.size := by have := b5.size; omega
          have y5 := y4.trans b5
          have Y5 := Lib.hid y5
          clear b5 x4_7 x4_8 x4_9 x4_10 x4_11 x4_12 x4_13 x4_14 y4 Y4 r4
          have hmm := hm5
          have R5 := Lib.hid (show RoomAt B (w.heap.size + 1) w5 (itemR ⟨kda, nma, fsa, rta, boa, rxa, ata⟩ q) by rw [E1.out]; exact r5)
          have Bf := Lib.hid (Hwr.out.trans y5)
          have hq5 : RB (itemR ⟨kda, nma, fsa, rta, boa, rxa, ata⟩ q) := by rw [E1.out]; exact hm5
          generalize itemR ⟨kda, nma, fsa, rta, boa, rxa, ata⟩ q = q2 at *
          clear r5 y5
          go_wp2
          go_roundw
          case rel => exact ⟨k + 1, q2, by omega, by go_num, hq5, R5, Bf, HR2⟩
          case measure => simp [intOf]; omega
    · obtain rfl : k = n := by omega
      have hres : Hid (res = q) := Lib.hid (HR.out.trans (by rw [List.drop_of_length_le (by rw [← Hx.out]; exact Nat.le_refl _)]; rfl))
      have hq1 := hq.1
      have hq2 := hq.2
      clear HR
      by_cases hneg : q < 0
      · go_wp2
        go_ret
        exact ⟨ret_bool (by rw [hres.out]; simp [hneg]), hfin.out⟩
      · have hpos : 0 ≤ q := by omega
        go_wp2
        go_ret
        exact ⟨ret_bool (by rw [hres.out]; simp [hneg]), hfin.out⟩
end Go.Proofs.YthilicmhdkmipaaGreatDoor

