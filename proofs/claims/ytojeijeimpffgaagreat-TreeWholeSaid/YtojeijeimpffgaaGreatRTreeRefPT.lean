/- The document's own answer, sameness: programs (made by gen_refP.py). -/
import Derived.Test.YtojeijeimpffgaaGreatRTreeRefST
namespace Go.Proofs.YtojeijeimpffgaaGreat
open Go.RowKit
set_option linter.unusedVariables false

theorem range_one {w : World} {g : Nat} {v : Value} (h : w.rangeAt g 0 [v]) : w.cell? ⟨g, 0, none⟩ = some v := h 0 _ rfl
theorem one_range {w : World} {g : Nat} {v : Value} (h : w.cell? ⟨g, 0, none⟩ = some v) : w.rangeAt g 0 [v] := by
  intro j u hu
  rcases j with _|j
  · simp at hu; subst hu; exact h
  · simp at hu

set_option maxRecDepth 100000 in
set_option maxHeartbeats 8000000 in
theorem refProg_callsT (B : Nat) (xs ys : List PI) (v1 v2 : Value) (w : World) (hB : B ≤ w.heap.size) (hp : ProgIn B w xs v1) (hq : ProgIn B w ys v2) :
    Calls Tryz.prog 13 #[.agg #[v1], .agg #[v2], .bool true] w fun e w' => e = .returned (.bool (sameProg true xs ys)) ∧ Below w.heap.size w w' := by
  obtain ⟨b1, o1, s1, r1⟩ := hp
  obtain ⟨b2, o2, s2, r2⟩ := hq
  unfold sameProg
  obtain ⟨m1, ao1, cap1, rfl, h1⟩ := s1
  obtain ⟨m2, ao2, cap2, rfl, h2⟩ := s2
  unfold maxLen at m1 m2
  by_cases hn : xs.length = ys.length
  · have hyes := fun h => allW_yes (f := sameI true) hn h
    obtain ⟨n, hx⟩ : ∃ n, n = xs.length := ⟨_, rfl⟩
    have hy : n = ys.length := hx.trans hn
    rw [← hx] at m1 h1 ⊢
    rw [← hy] at m2 h2 ⊢
    have Hyes := Lib.hid hyes
    have Hx := Lib.hid hx
    have Hy := Lib.hid hy
    have Hr := Lib.hid r1
    have Hs := Lib.hid r2
    have H1 := Lib.hid h1
    have H2 := Lib.hid h2
    clear hyes hn hx hy r1 r2 h1 h2
    go_enter Tryz.func13, Tryz.ntmps13
    go_wp2_with fail
    obtain ⟨W0, hW0⟩ : ∃ W0, W0 = (w.alloc (.cells #[.slice ao1 n cap1] 24)).alloc (.cells #[.slice ao2 n cap2] 24) := ⟨_, rfl⟩
    rw [← hW0]
    have k1 : W0.cell? ⟨w.heap.size, 0, none⟩ = some (.slice ao1 n cap1) := by rw [hW0]; go_simp
    have k2 : W0.cell? ⟨w.heap.size + 1, 0, none⟩ = some (.slice ao2 n cap2) := by rw [hW0]; go_simp
    have hz : W0.heap.size = w.heap.size + 2 := by rw [hW0]; simp
    have B0 : Below w.heap.size w W0 := by rw [hW0]; exact box2 w _ _
    clear hW0
    have YG := Lib.hid (fun (W : World) (h : Below W0.heap.size W0 W) => (show Below w.heap.size w W from B0.trans (h.mono (by omega))))
    go_loopw [7] (fun i wr => ∃ k : Nat, k ≤ n ∧ i = .int .i64 k ∧ Below W0.heap.size W0 wr ∧ Hid (∀ (j : Nat) x y, j < k → xs[j]? = some x → ys[j]? = some y → sameI true x y = true))
      (fun i _ => n - (intOf i).toNat)
    case atStart => exact ⟨0, by omega, rfl, Below.refl _ _, Lib.hid fun j x y hj => by omega⟩
    case round =>
      obtain ⟨k, hk, rfl, hbel, HK⟩ := hrel
      have hsz := hbel.size
      have hbB : Below B w wr := (B0.mono hB).trans (hbel.mono (by omega))
      have q1 : wr.cell? ⟨w.heap.size, 0, none⟩ = some (.slice ao1 n cap1) := (hbel.cell (p := ⟨w.heap.size, 0, none⟩) (by show w.heap.size < _; omega)).trans (k1)
      have q2 : wr.cell? ⟨w.heap.size + 1, 0, none⟩ = some (.slice ao2 n cap2) := (hbel.cell (p := ⟨w.heap.size + 1, 0, none⟩) (by show w.heap.size + 1 < _; omega)).trans k2
      by_cases hlt : k < n
      · obtain ⟨a, ha, hin⟩ := get_at (l := xs) (k := k) (by rw [← Hx.out]; exact hlt)
        obtain ⟨b, hb, _⟩ := get_at (l := ys) (k := k) (by rw [← Hy.out]; exact hlt)
        obtain ⟨rfl, hb1⟩ := H1.out.resolve_left (by omega)
        obtain ⟨rfl, hb2⟩ := H2.out.resolve_left (by omega)
        obtain ⟨va, ca, ia⟩ := PI.Row.get (PI.Row.below hbB hb1 Hr.out) ha
        obtain ⟨vb, cb, ib⟩ := PI.Row.get (PI.Row.below hbB hb2 Hs.out) hb
        obtain ⟨pa0, na0, qa0, pa1, na1, qa1, pa2, na2, qa2, pa3, na3, qa3, pa4, na4, qa4, rfl⟩ := ia.shape
        obtain ⟨pb0, nb0, qb0, pb1, nb1, qb1, pb2, nb2, qb2, pb3, nb3, qb3, pb4, nb4, qb4, rfl⟩ := ib.shape
        obtain ⟨kda, nma, fsa, rta, boa, rxa, ata⟩ := a
        obtain ⟨kdb, nmb, fsb, rtb, bob, rxb, atb⟩ := b
        have c0 : wr.cell? ⟨b1, o1 + k * 16, none⟩ = some (.int .u8 kda) := ca 0 _ rfl
        have c1 : wr.cell? ⟨b1, o1 + k * 16 + 1, none⟩ = some (.string nma) := ca 1 _ rfl
        have c2 : wr.cell? ⟨b1, o1 + k * 16 + 2, none⟩ = some (.slice pa0 na0 qa0) := ca 2 _ rfl
        have c3 : wr.cell? ⟨b1, o1 + k * 16 + 3, none⟩ = some (.int .u8 rta.kind) := ca 3 _ rfl
        have c4 : wr.cell? ⟨b1, o1 + k * 16 + 4, none⟩ = some (.string rta.name) := ca 4 _ rfl
        have c5 : wr.cell? ⟨b1, o1 + k * 16 + 5, none⟩ = some (.slice pa1 na1 qa1) := ca 5 _ rfl
        have c6 : wr.cell? ⟨b1, o1 + k * 16 + 6, none⟩ = some (.slice pa2 na2 qa2) := ca 6 _ rfl
        have c7 : wr.cell? ⟨b1, o1 + k * 16 + 7, none⟩ = some (.int .u8 rxa.op) := ca 7 _ rfl
        have c8 : wr.cell? ⟨b1, o1 + k * 16 + 8, none⟩ = some (.int .i64 rxa.int) := ca 8 _ rfl
        have c9 : wr.cell? ⟨b1, o1 + k * 16 + 9, none⟩ = some (.string rxa.name) := ca 9 _ rfl
        have c10 : wr.cell? ⟨b1, o1 + k * 16 + 10, none⟩ = some (.string rxa.second) := ca 10 _ rfl
        have c11 : wr.cell? ⟨b1, o1 + k * 16 + 11, none⟩ = some (.string rxa.place.name) := ca 11 _ rfl
        have c12 : wr.cell? ⟨b1, o1 + k * 16 + 12, none⟩ = some (.slice pa3 na3 qa3) := ca 12 _ rfl
        have c13 : wr.cell? ⟨b1, o1 + k * 16 + 13, none⟩ = some (.slice pa4 na4 qa4) := ca 13 _ rfl
        have c14 : wr.cell? ⟨b1, o1 + k * 16 + 14, none⟩ = some (.int .i64 rxa.pos) := ca 14 _ rfl
        have c15 : wr.cell? ⟨b1, o1 + k * 16 + 15, none⟩ = some (.int .i64 ata) := ca 15 _ rfl
        have d0 : wr.cell? ⟨b2, o2 + k * 16, none⟩ = some (.int .u8 kdb) := cb 0 _ rfl
        have d1 : wr.cell? ⟨b2, o2 + k * 16 + 1, none⟩ = some (.string nmb) := cb 1 _ rfl
        have d2 : wr.cell? ⟨b2, o2 + k * 16 + 2, none⟩ = some (.slice pb0 nb0 qb0) := cb 2 _ rfl
        have d3 : wr.cell? ⟨b2, o2 + k * 16 + 3, none⟩ = some (.int .u8 rtb.kind) := cb 3 _ rfl
        have d4 : wr.cell? ⟨b2, o2 + k * 16 + 4, none⟩ = some (.string rtb.name) := cb 4 _ rfl
        have d5 : wr.cell? ⟨b2, o2 + k * 16 + 5, none⟩ = some (.slice pb1 nb1 qb1) := cb 5 _ rfl
        have d6 : wr.cell? ⟨b2, o2 + k * 16 + 6, none⟩ = some (.slice pb2 nb2 qb2) := cb 6 _ rfl
        have d7 : wr.cell? ⟨b2, o2 + k * 16 + 7, none⟩ = some (.int .u8 rxb.op) := cb 7 _ rfl
        have d8 : wr.cell? ⟨b2, o2 + k * 16 + 8, none⟩ = some (.int .i64 rxb.int) := cb 8 _ rfl
        have d9 : wr.cell? ⟨b2, o2 + k * 16 + 9, none⟩ = some (.string rxb.name) := cb 9 _ rfl
        have d10 : wr.cell? ⟨b2, o2 + k * 16 + 10, none⟩ = some (.string rxb.second) := cb 10 _ rfl
        have d11 : wr.cell? ⟨b2, o2 + k * 16 + 11, none⟩ = some (.string rxb.place.name) := cb 11 _ rfl
        have d12 : wr.cell? ⟨b2, o2 + k * 16 + 12, none⟩ = some (.slice pb3 nb3 qb3) := cb 12 _ rfl
        have d13 : wr.cell? ⟨b2, o2 + k * 16 + 13, none⟩ = some (.slice pb4 nb4 qb4) := cb 13 _ rfl
        have d14 : wr.cell? ⟨b2, o2 + k * 16 + 14, none⟩ = some (.int .i64 rxb.pos) := cb 14 _ rfl
        have d15 : wr.cell? ⟨b2, o2 + k * 16 + 15, none⟩ = some (.int .i64 atb) := cb 15 _ rfl
        have g1 : b1 < wr.heap.size := by omega
        have g2 : b2 < wr.heap.size := by omega
        have Ia := Lib.hid ia
        have Ib := Lib.hid ib
        have Ha := Lib.hid ha
        have Hb := Lib.hid hb
        have hk1 : (k : Int) < (n : Int) := by omega
        have hk0 : 0 ≤ (k : Int) := by omega
        clear ha hb ca cb ia ib hin
        go_upto_region 6 with (fail)
        go_cut [8, 9] from 17 to 89 (fun s8 s9 wc => ∃ x y : Nat, s8 = .pointer (some ⟨x, 0, none⟩) ∧ s9 = .pointer (some ⟨y, 0, none⟩) ∧ wr.heap.size ≤ x ∧ wr.heap.size ≤ y ∧ x < wc.heap.size ∧ y < wc.heap.size ∧ Hid (CellsAt wc x 0 [.int .u8 kda, .string nma, .slice pa0 na0 qa0, .int .u8 rta.kind, .string rta.name, .slice pa1 na1 qa1, .slice pa2 na2 qa2, .int .u8 rxa.op, .int .i64 rxa.int, .string rxa.name, .string rxa.second, .string rxa.place.name, .slice pa3 na3 qa3, .slice pa4 na4 qa4, .int .i64 rxa.pos, .int .i64 ata]) ∧ Hid (CellsAt wc y 0 [.int .u8 kdb, .string nmb, .slice pb0 nb0 qb0, .int .u8 rtb.kind, .string rtb.name, .slice pb1 nb1 qb1, .slice pb2 nb2 qb2, .int .u8 rxb.op, .int .i64 rxb.int, .string rxb.name, .string rxb.second, .string rxb.place.name, .slice pb3 nb3 qb3, .slice pb4 nb4 qb4, .int .i64 rxb.pos, .int .i64 atb]) ∧ Hid (Below wr.heap.size wr wc))
        case first =>
          rename_i J K' hJ hK'
          clear Ia Ib Ha Hb Hyes Hx Hy Hr Hs HK
          have RA : wr.rangeAt b1 (o1 + k * 16) [.int .u8 kda, .string nma, .slice pa0 na0 qa0, .int .u8 rta.kind, .string rta.name, .slice pa1 na1 qa1, .slice pa2 na2 qa2, .int .u8 rxa.op, .int .i64 rxa.int, .string rxa.name, .string rxa.second, .string rxa.place.name, .slice pa3 na3 qa3, .slice pa4 na4 qa4, .int .i64 rxa.pos, .int .i64 ata] := by
            intro j v hv
            rcases j with _|_|_|_|_|_|_|_|_|_|_|_|_|_|_|_|j <;> simp at hv <;> subst hv <;> assumption
          have RB : wr.rangeAt b2 (o2 + k * 16) [.int .u8 kdb, .string nmb, .slice pb0 nb0 qb0, .int .u8 rtb.kind, .string rtb.name, .slice pb1 nb1 qb1, .slice pb2 nb2 qb2, .int .u8 rxb.op, .int .i64 rxb.int, .string rxb.name, .string rxb.second, .string rxb.place.name, .slice pb3 nb3 qb3, .slice pb4 nb4 qb4, .int .i64 rxb.pos, .int .i64 atb] := by
            intro j v hv
            rcases j with _|_|_|_|_|_|_|_|_|_|_|_|_|_|_|_|j <;> simp at hv <;> subst hv <;> assumption
          have RGA := one_range q1
          have RGB := one_range q2
          generalize hcsA : ([.int .u8 kda, .string nma, .slice pa0 na0 qa0, .int .u8 rta.kind, .string rta.name, .slice pa1 na1 qa1, .slice pa2 na2 qa2, .int .u8 rxa.op, .int .i64 rxa.int, .string rxa.name, .string rxa.second, .string rxa.place.name, .slice pa3 na3 qa3, .slice pa4 na4 qa4, .int .i64 rxa.pos, .int .i64 ata] : List Value) = csA at RA
          generalize hcsB : ([.int .u8 kdb, .string nmb, .slice pb0 nb0 qb0, .int .u8 rtb.kind, .string rtb.name, .slice pb1 nb1 qb1, .slice pb2 nb2 qb2, .int .u8 rxb.op, .int .i64 rxb.int, .string rxb.name, .string rxb.second, .string rxb.place.name, .slice pb3 nb3 qb3, .slice pb4 nb4 qb4, .int .i64 rxb.pos, .int .i64 atb] : List Value) = csB at RB
          have LA : csA.length = 16 := by rw [← hcsA]; rfl
          have LB : csB.length = 16 := by rw [← hcsB]; rfl
          have OA : ∀ v ∈ csA, v.oneCell' = true := by rw [← hcsA]; simp [Value.oneCell']
          have OB : ∀ v ∈ csB, v.oneCell' = true := by rw [← hcsB]; simp [Value.oneCell']
          clear q1 q2 c0 c1 c2 c3 c4 c5 c6 c7 c8 c9 c10 c11 c12 c13 c14 c15 d0 d1 d2 d3 d4 d5 d6 d7 d8 d9 d10 d11 d12 d13 d14 d15
          as_aux_lemma =>
            refine wp_region_held_drew (S := fun W => W.rangeAt b1 (o1 + k * 16) csA ∧ W.rangeAt b2 (o2 + k * 16) csB ∧ W.rangeAt w.heap.size 0 [.slice (some ⟨b1, o1, none⟩) n cap1] ∧ W.rangeAt (w.heap.size + 1) 0 [.slice (some ⟨b2, o2, none⟩) n cap2] ∧ Hid (Below wr.heap.size wr W)) (by kernel_rfl) ?_ (fun hHeld => ?_)
            · exact ⟨(World.rangeAt_drew _ _ _ _).2 RA, (World.rangeAt_drew _ _ _ _).2 RB, (World.rangeAt_drew _ _ _ _).2 RGA, (World.rangeAt_drew _ _ _ _).2 RGB, Lib.hid (Below.refl _ _).drew⟩
            have hDs : wr.heap.size = wr.drew.heap.size := rfl
            obtain ⟨D, hD⟩ : ∃ D, D = wr.drew := ⟨_, rfl⟩
            rw [← hD] at hHeld hDs ⊢
            clear hD
            refine take_listT (i := 0) (v := ?_) rfl (by kernel_rfl) (by kernel_rfl) (by kernel_rfl) (fun _ _ _ h => h) (Or.inl ⟨by rfl, ?_⟩) hHeld ?_
            rotate_left 1
            · (intro w hSw; obtain ⟨_, _, hga, hgb, _⟩ := hSw; have hga1 := range_one hga; have hgb1 := range_one hgb; clear hga hgb; go_simp; try with_reducible rfl)
            simp only [Act.put, List.setIfInBounds_toArray, List.set_cons_zero, List.set_cons_succ]
            refine take_listT (i := 1) (v := ?_) rfl (by kernel_rfl) (by kernel_rfl) (by kernel_rfl) (fun _ _ _ h => h) (Or.inl ⟨by rfl, ?_⟩) hHeld ?_
            rotate_left 1
            · (intro w hSw; obtain ⟨_, _, hga, hgb, _⟩ := hSw; have hga1 := range_one hga; have hgb1 := range_one hgb; clear hga hgb; go_simp; try with_reducible rfl)
            simp only [Act.put, List.setIfInBounds_toArray, List.set_cons_zero, List.set_cons_succ]
            refine take_listT (i := 2) (v := ?_) rfl (by kernel_rfl) (by kernel_rfl) (by kernel_rfl) (fun _ _ _ h => h) (Or.inl ⟨by rfl, ?_⟩) hHeld ?_
            rotate_left 1
            · (intro w hSw; obtain ⟨_, _, hga, hgb, _⟩ := hSw; have hga1 := range_one hga; have hgb1 := range_one hgb; clear hga hgb; go_simp; try with_reducible rfl)
            simp only [Act.put, List.setIfInBounds_toArray, List.set_cons_zero, List.set_cons_succ]
            refine take_listT (i := 3) (v := ?_) rfl (by kernel_rfl) (by kernel_rfl) (by kernel_rfl) (fun _ _ _ h => h) (Or.inl ⟨by rfl, ?_⟩) hHeld ?_
            rotate_left 1
            · (intro w hSw; obtain ⟨_, _, hga, hgb, _⟩ := hSw; have hga1 := range_one hga; have hgb1 := range_one hgb; clear hga hgb; go_simp; try with_reducible rfl)
            simp only [Act.put, List.setIfInBounds_toArray, List.set_cons_zero, List.set_cons_succ]
            refine take_listT (i := 4) (v := .agg (List.toArray csA)) rfl (by kernel_rfl) (by kernel_rfl) (by kernel_rfl) (fun _ _ _ h => h) (yieldsIf_load_mid (by rfl) 47 _ rfl _ _ rfl csA _ (fun w hSw => by (try dsimp only at hSw); go_split_ands; assumption) rfl rfl (by rw [LA]; rfl)) hHeld ?_
            simp only [Act.put, List.setIfInBounds_toArray, List.set_cons_zero, List.set_cons_succ]
            refine take_listT (i := 5) (v := ?_) rfl (by kernel_rfl) (by kernel_rfl) (by kernel_rfl) (fun _ _ _ h => h) (Or.inl ⟨by rfl, ?_⟩) hHeld ?_
            rotate_left 1
            · (intro w hSw; obtain ⟨_, _, hga, hgb, _⟩ := hSw; have hga1 := range_one hga; have hgb1 := range_one hgb; clear hga hgb; go_simp; try with_reducible rfl)
            simp only [Act.put, List.setIfInBounds_toArray, List.set_cons_zero, List.set_cons_succ]
            refine take_listT (i := 6) (v := ?_) rfl (by kernel_rfl) (by kernel_rfl) (by kernel_rfl) (fun _ _ _ h => h) (Or.inl ⟨by rfl, ?_⟩) hHeld ?_
            rotate_left 1
            · (intro w hSw; obtain ⟨_, _, hga, hgb, _⟩ := hSw; have hga1 := range_one hga; have hgb1 := range_one hgb; clear hga hgb; go_simp; try with_reducible rfl)
            simp only [Act.put, List.setIfInBounds_toArray, List.set_cons_zero, List.set_cons_succ]
            refine take_listT (i := 7) (v := ?_) rfl (by kernel_rfl) (by kernel_rfl) (by kernel_rfl) (fun _ _ _ h => h) (Or.inl ⟨by rfl, ?_⟩) hHeld ?_
            rotate_left 1
            · (intro w hSw; obtain ⟨_, _, hga, hgb, _⟩ := hSw; have hga1 := range_one hga; have hgb1 := range_one hgb; clear hga hgb; go_simp; try with_reducible rfl)
            simp only [Act.put, List.setIfInBounds_toArray, List.set_cons_zero, List.set_cons_succ]
            refine take_listT (i := 8) (v := ?_) rfl (by kernel_rfl) (by kernel_rfl) (by kernel_rfl) (fun _ _ _ h => h) (Or.inl ⟨by rfl, ?_⟩) hHeld ?_
            rotate_left 1
            · (intro w hSw; obtain ⟨_, _, hga, hgb, _⟩ := hSw; have hga1 := range_one hga; have hgb1 := range_one hgb; clear hga hgb; go_simp; try with_reducible rfl)
            simp only [Act.put, List.setIfInBounds_toArray, List.set_cons_zero, List.set_cons_succ]
            refine take_listT (i := 9) (v := .agg (List.toArray csB)) rfl (by kernel_rfl) (by kernel_rfl) (by kernel_rfl) (fun _ _ _ h => h) (yieldsIf_load_mid (by rfl) 47 _ rfl _ _ rfl csB _ (fun w hSw => by (try dsimp only at hSw); go_split_ands; assumption) rfl rfl (by rw [LB]; rfl)) hHeld ?_
            simp only [Act.put, List.setIfInBounds_toArray, List.set_cons_zero, List.set_cons_succ]
            refine wpAnyH_ready (rs := [10, 11]) (by kernel_rfl) (by simp) ?_
            have hsD : wr.heap.size ≤ D.heap.size := hHeld.2.2.2.2.out.size
            refine AllReadyH.cons rfl (fun K hK => ?_) (AllReadyH.cons rfl (fun K hK => ?_) AllReadyH.nil)
            · rw [if_pos (by rfl)]
              go_simp
              refine alloc_stepT ?_
              intro W1 z1 t1 m1 n1 e1
              refine hK.out _ _ ⟨m1 _ _ _ hHeld.1, m1 _ _ _ hHeld.2.1, m1 _ _ _ hHeld.2.2.1, m1 _ _ _ hHeld.2.2.2.1, Lib.hid (e1 _ _ hsD hHeld.2.2.2.2.out)⟩ (fun hH1 => ?_)
              clear hK K
              refine wpAnyH_ready (rs := [11]) (by kernel_rfl) (by simp) ?_
              refine AllReadyH.cons rfl (fun K hK => ?_) AllReadyH.nil
              rw [if_pos (by rfl)]
              go_simp
              refine alloc_stepT ?_
              intro W2 z2 t2 m2 n2 e2
              rw [z1] at t2 z2
              refine hK.out _ _ ⟨m2 _ _ _ hH1.1, m2 _ _ _ hH1.2.1, m2 _ _ _ hH1.2.2.1, m2 _ _ _ hH1.2.2.2.1, Lib.hid (e2 _ _ (by omega) hH1.2.2.2.2.out)⟩ (fun hH2 => ?_)
              clear hK K
              refine wpAnyH_ready (rs := [12]) (by kernel_rfl) (by simp) ?_
              refine AllReadyH.cons (o := { dst := none, op := Op.store 47 (Operand.tmp 8) (Operand.tmp 28), type := 0, pos := _, after := _, guard := none }) rfl (fun K hK => ?_) AllReadyH.nil
              rw [if_pos (by rfl)]
              have tA : W2.there (D.heap.size) 0 csA.length := by rw [LA]; first | exact t2 | exact n2 _ _ _ t1
              have tB : W2.there (D.heap.size + 1) 0 csB.length := by rw [LB]; first | exact t2 | exact n2 _ _ _ t1
              refine wp_store_mid 47 _ _ rfl (D.heap.size) 0 (List.toArray csA) rfl rfl (by rw [List.size_toArray]; exact tA) (by rw [List.size_toArray, LA]; rfl) (all_oneCell_toArray OA) ?_
              simp only [Act.put]
              refine store_stepT tA ?_
              intro W3 z3 r3 m3 n3 e3
              refine hK.out _ _ ⟨m3 _ _ _ (by omega) hH2.1, m3 _ _ _ (by omega) hH2.2.1, m3 _ _ _ (by omega) hH2.2.2.1, m3 _ _ _ (by omega) hH2.2.2.2.1, Lib.hid (e3 _ _ (by omega) hH2.2.2.2.2.out)⟩ (fun hH3 => ?_)
              clear hK K
              refine wpAnyH_ready (rs := [13]) (by kernel_rfl) (by simp) ?_
              refine AllReadyH.cons (o := { dst := none, op := Op.store 47 (Operand.tmp 9) (Operand.tmp 33), type := 0, pos := _, after := _, guard := none }) rfl (fun K hK => ?_) AllReadyH.nil
              rw [if_pos (by rfl)]
              refine wp_store_mid 47 _ _ rfl (D.heap.size + 1) 0 (List.toArray csB) rfl rfl (by rw [List.size_toArray]; exact n3 _ _ _ tB) (by rw [List.size_toArray, LB]; rfl) (all_oneCell_toArray OB) ?_
              simp only [Act.put]
              refine store_stepT (n3 _ _ _ tB) ?_
              intro W4 z4 r4 m4 n4 e4
              refine hK.out _ _ ⟨m4 _ _ _ (by omega) hH3.1, m4 _ _ _ (by omega) hH3.2.1, m4 _ _ _ (by omega) hH3.2.2.1, m4 _ _ _ (by omega) hH3.2.2.2.1, Lib.hid (e4 _ _ (by omega) hH3.2.2.2.2.out)⟩ (fun hH4 => ?_)
              clear hK K
              refine wpAnyH_done (by kernel_rfl) ?_ _
              have rA : W4.rangeAt (D.heap.size) 0 csA := m4 _ _ _ (by omega) r3
              subst hcsA hcsB
              refine hK' _ _ (Met.intro (hJ _ _ ?_))
              repeat apply Exists.intro
              refine ⟨?rel, rfl⟩
              case rel => exact ⟨_, _, rfl, rfl, by omega, by omega, by omega, by omega, Lib.hid rA, Lib.hid r4, hH4.2.2.2.2⟩
            · rw [if_pos (by rfl)]
              go_simp
              refine alloc_stepT ?_
              intro W1 z1 t1 m1 n1 e1
              refine hK.out _ _ ⟨m1 _ _ _ hHeld.1, m1 _ _ _ hHeld.2.1, m1 _ _ _ hHeld.2.2.1, m1 _ _ _ hHeld.2.2.2.1, Lib.hid (e1 _ _ hsD hHeld.2.2.2.2.out)⟩ (fun hH1 => ?_)
              clear hK K
              refine wpAnyH_ready (rs := [10]) (by kernel_rfl) (by simp) ?_
              refine AllReadyH.cons rfl (fun K hK => ?_) AllReadyH.nil
              rw [if_pos (by rfl)]
              go_simp
              refine alloc_stepT ?_
              intro W2 z2 t2 m2 n2 e2
              rw [z1] at t2 z2
              refine hK.out _ _ ⟨m2 _ _ _ hH1.1, m2 _ _ _ hH1.2.1, m2 _ _ _ hH1.2.2.1, m2 _ _ _ hH1.2.2.2.1, Lib.hid (e2 _ _ (by omega) hH1.2.2.2.2.out)⟩ (fun hH2 => ?_)
              clear hK K
              refine wpAnyH_ready (rs := [12]) (by kernel_rfl) (by simp) ?_
              refine AllReadyH.cons (o := { dst := none, op := Op.store 47 (Operand.tmp 8) (Operand.tmp 28), type := 0, pos := _, after := _, guard := none }) rfl (fun K hK => ?_) AllReadyH.nil
              rw [if_pos (by rfl)]
              have tA : W2.there (D.heap.size + 1) 0 csA.length := by rw [LA]; first | exact t2 | exact n2 _ _ _ t1
              have tB : W2.there (D.heap.size) 0 csB.length := by rw [LB]; first | exact t2 | exact n2 _ _ _ t1
              refine wp_store_mid 47 _ _ rfl (D.heap.size + 1) 0 (List.toArray csA) rfl rfl (by rw [List.size_toArray]; exact tA) (by rw [List.size_toArray, LA]; rfl) (all_oneCell_toArray OA) ?_
              simp only [Act.put]
              refine store_stepT tA ?_
              intro W3 z3 r3 m3 n3 e3
              refine hK.out _ _ ⟨m3 _ _ _ (by omega) hH2.1, m3 _ _ _ (by omega) hH2.2.1, m3 _ _ _ (by omega) hH2.2.2.1, m3 _ _ _ (by omega) hH2.2.2.2.1, Lib.hid (e3 _ _ (by omega) hH2.2.2.2.2.out)⟩ (fun hH3 => ?_)
              clear hK K
              refine wpAnyH_ready (rs := [13]) (by kernel_rfl) (by simp) ?_
              refine AllReadyH.cons (o := { dst := none, op := Op.store 47 (Operand.tmp 9) (Operand.tmp 33), type := 0, pos := _, after := _, guard := none }) rfl (fun K hK => ?_) AllReadyH.nil
              rw [if_pos (by rfl)]
              refine wp_store_mid 47 _ _ rfl (D.heap.size) 0 (List.toArray csB) rfl rfl (by rw [List.size_toArray]; exact n3 _ _ _ tB) (by rw [List.size_toArray, LB]; rfl) (all_oneCell_toArray OB) ?_
              simp only [Act.put]
              refine store_stepT (n3 _ _ _ tB) ?_
              intro W4 z4 r4 m4 n4 e4
              refine hK.out _ _ ⟨m4 _ _ _ (by omega) hH3.1, m4 _ _ _ (by omega) hH3.2.1, m4 _ _ _ (by omega) hH3.2.2.1, m4 _ _ _ (by omega) hH3.2.2.2.1, Lib.hid (e4 _ _ (by omega) hH3.2.2.2.2.out)⟩ (fun hH4 => ?_)
              clear hK K
              refine wpAnyH_done (by kernel_rfl) ?_ _
              have rA : W4.rangeAt (D.heap.size + 1) 0 csA := m4 _ _ _ (by omega) r3
              subst hcsA hcsB
              refine hK' _ _ (Met.intro (hJ _ _ ?_))
              repeat apply Exists.intro
              refine ⟨?rel, rfl⟩
              case rel => exact ⟨_, _, rfl, rfl, by omega, by omega, by omega, by omega, Lib.hid rA, Lib.hid r4, hH4.2.2.2.2⟩
        case rest =>
          as_aux_lemma =>
            obtain ⟨x, y, rfl, rfl, hx0, hy0, hxz, hyz, HXc, HYc, HBl⟩ := hcut
            have hbl := HBl.out.size
            have x0 : wc.cell? ⟨x, 0, none⟩ = some (.int .u8 kda) := HXc.out 0 _ rfl
            have y0 : wc.cell? ⟨y, 0, none⟩ = some (.int .u8 kdb) := HYc.out 0 _ rfl
            have x1 : wc.cell? ⟨x, 1, none⟩ = some (.string nma) := HXc.out 1 _ rfl
            have y1 : wc.cell? ⟨y, 1, none⟩ = some (.string nmb) := HYc.out 1 _ rfl
            have x2 : wc.cell? ⟨x, 2, none⟩ = some (.slice pa0 na0 qa0) := HXc.out 2 _ rfl
            have y2 : wc.cell? ⟨y, 2, none⟩ = some (.slice pb0 nb0 qb0) := HYc.out 2 _ rfl
            have x3 : wc.cell? ⟨x, 3, none⟩ = some (.int .u8 rta.kind) := HXc.out 3 _ rfl
            have y3 : wc.cell? ⟨y, 3, none⟩ = some (.int .u8 rtb.kind) := HYc.out 3 _ rfl
            have x4 : wc.cell? ⟨x, 4, none⟩ = some (.string rta.name) := HXc.out 4 _ rfl
            have y4 : wc.cell? ⟨y, 4, none⟩ = some (.string rtb.name) := HYc.out 4 _ rfl
            have x5 : wc.cell? ⟨x, 5, none⟩ = some (.slice pa1 na1 qa1) := HXc.out 5 _ rfl
            have y5 : wc.cell? ⟨y, 5, none⟩ = some (.slice pb1 nb1 qb1) := HYc.out 5 _ rfl
            have x6 : wc.cell? ⟨x, 6, none⟩ = some (.slice pa2 na2 qa2) := HXc.out 6 _ rfl
            have y6 : wc.cell? ⟨y, 6, none⟩ = some (.slice pb2 nb2 qb2) := HYc.out 6 _ rfl
            have x7 : wc.cell? ⟨x, 7, none⟩ = some (.int .u8 rxa.op) := HXc.out 7 _ rfl
            have y7 : wc.cell? ⟨y, 7, none⟩ = some (.int .u8 rxb.op) := HYc.out 7 _ rfl
            have x8 : wc.cell? ⟨x, 8, none⟩ = some (.int .i64 rxa.int) := HXc.out 8 _ rfl
            have y8 : wc.cell? ⟨y, 8, none⟩ = some (.int .i64 rxb.int) := HYc.out 8 _ rfl
            have x9 : wc.cell? ⟨x, 9, none⟩ = some (.string rxa.name) := HXc.out 9 _ rfl
            have y9 : wc.cell? ⟨y, 9, none⟩ = some (.string rxb.name) := HYc.out 9 _ rfl
            have x10 : wc.cell? ⟨x, 10, none⟩ = some (.string rxa.second) := HXc.out 10 _ rfl
            have y10 : wc.cell? ⟨y, 10, none⟩ = some (.string rxb.second) := HYc.out 10 _ rfl
            have x11 : wc.cell? ⟨x, 11, none⟩ = some (.string rxa.place.name) := HXc.out 11 _ rfl
            have y11 : wc.cell? ⟨y, 11, none⟩ = some (.string rxb.place.name) := HYc.out 11 _ rfl
            have x12 : wc.cell? ⟨x, 12, none⟩ = some (.slice pa3 na3 qa3) := HXc.out 12 _ rfl
            have y12 : wc.cell? ⟨y, 12, none⟩ = some (.slice pb3 nb3 qb3) := HYc.out 12 _ rfl
            have x13 : wc.cell? ⟨x, 13, none⟩ = some (.slice pa4 na4 qa4) := HXc.out 13 _ rfl
            have y13 : wc.cell? ⟨y, 13, none⟩ = some (.slice pb4 nb4 qb4) := HYc.out 13 _ rfl
            have x14 : wc.cell? ⟨x, 14, none⟩ = some (.int .i64 rxa.pos) := HXc.out 14 _ rfl
            have y14 : wc.cell? ⟨y, 14, none⟩ = some (.int .i64 rxb.pos) := HYc.out 14 _ rfl
            have x15 : wc.cell? ⟨x, 15, none⟩ = some (.int .i64 ata) := HXc.out 15 _ rfl
            have y15 : wc.cell? ⟨y, 15, none⟩ = some (.int .i64 atb) := HYc.out 15 _ rfl
            have YF := Lib.hid (fun (W : World) (h : Below wc.heap.size wc W) => (show Below W0.heap.size W0 W from hbel.trans ((HBl.out.mono hsz).trans (h.mono (by omega)))))
            have YB := Lib.hid (fun (W : World) (h : Below wc.heap.size wc W) => (show Below B wr W from (HBl.out.mono (by omega)).trans (h.mono (by omega))))
            obtain ⟨_, ⟨bfa, ofa, sfa, rfa⟩, hta, ⟨bza, oza, sza, rza⟩, hra⟩ := Ia.out
            obtain ⟨_, ⟨bfb, ofb, sfb, rfb⟩, htb, ⟨bzb, ozb, szb, rzb⟩, hrb⟩ := Ib.out
            have bel0 := Below.refl wc.heap.size wc
            have HNO := Lib.hid (fun (hs : sameI true (PI.mk kda nma fsa rta boa rxa ata) (PI.mk kdb nmb fsb rtb bob rxb atb) = false) => (allW_no (f := sameI true) Ha.out Hb.out hs).symm)
            have C1 := Lib.hid (fun W (h : Below wc.heap.size wc W) (hB' : B ≤ W.heap.size) => refFs_calls B fsa fsb bfa ofa bfb ofb _ _ W hB' sfa (PF.Row.below' (YB.out W h) sfa rfa) sfb (PF.Row.below' (YB.out W h) sfb rfb))
            have C2 := Lib.hid (fun W (h : Below wc.heap.size wc W) (hB' : B ≤ W.heap.size) => refT_calls B rta rtb _ _ W hB' (PT.In.below (YB.out W h) hta) (PT.In.below (YB.out W h) htb))
            have C3 := Lib.hid (fun W (h : Below wc.heap.size wc W) (hB' : B ≤ W.heap.size) => refS_callsT B boa bob _ _ bza oza bzb ozb W hB' sza (PS.Row.below' (YB.out W h) sza rza) szb (PS.Row.below' (YB.out W h) szb rzb))
            have C4 := Lib.hid (fun W (h : Below wc.heap.size wc W) (hB' : B ≤ W.heap.size) => (show Calls Tryz.prog 40 #[.agg #[.int .u8 rxa.op, .int .i64 rxa.int, .string rxa.name, .string rxa.second, .string rxa.place.name, .slice pa3 na3 qa3, .slice pa4 na4 qa4, .int .i64 rxa.pos], .agg #[.int .u8 rxb.op, .int .i64 rxb.int, .string rxb.name, .string rxb.second, .string rxb.place.name, .slice pb3 nb3 qb3, .slice pb4 nb4 qb4, .int .i64 rxb.pos], .bool true] W fun e w'' => e = .returned (.bool (sameE true rxa rxb)) ∧ Below W.heap.size W w'' from refE_calls B true rxa rxb ⟨.slice pa3 na3 qa3, .slice pa4 na4 qa4⟩ ⟨.slice pb3 nb3 qb3, .slice pb4 nb4 qb4⟩ W hB' (PE.In.below (YB.out W h) hra) (PE.In.below (YB.out W h) hrb)))
            clear rfa rfb hta htb rza rzb hra hrb sfa sfb sza szb HBl hbel hbB q1 q2 k1 k2 c0 c1 c2 c3 c4 c5 c6 c7 c8 c9 c10 c11 c12 c13 c14 c15 d0 d1 d2 d3 d4 d5 d6 d7 d8 d9 d10 d11 d12 d13 d14 d15
            go_wp2_with fail
            all_goals try (go_ret; exact ⟨ret_bool (HNO.out (by simp [sameI_mk, sameW_toList, *])), YG.out _ (YF.out _ bel0)⟩)
            refine (C1.out _ bel0 (by omega)).mono ?_
            rintro e w1 ⟨rfl, t1⟩
            have bel1 := bel0.trans (t1.mono (by omega))
            have hs1 : wc.heap.size ≤ w1.heap.size := bel1.size
            have hc1 := old_cells bel1
            clear t1
            go_wp2_with fail
            all_goals try (go_ret; exact ⟨ret_bool (HNO.out (by simp [sameI_mk, sameW_toList, *])), YG.out _ (YF.out _ bel1)⟩)
            refine (C2.out _ bel1 (by omega)).mono ?_
            rintro e w2 ⟨rfl, t2⟩
            have bel2 := bel1.trans (t2.mono (by omega))
            have hs2 : wc.heap.size ≤ w2.heap.size := bel2.size
            have hc2 := old_cells bel2
            clear t2 hc1
            go_wp2_with fail
            all_goals try (go_ret; exact ⟨ret_bool (HNO.out (by simp [sameI_mk, sameW_toList, *])), YG.out _ (YF.out _ bel2)⟩)
            refine (C3.out _ bel2 (by omega)).mono ?_
            rintro e w3 ⟨rfl, t3⟩
            have bel3 := bel2.trans (t3.mono (by omega))
            have hs3 : wc.heap.size ≤ w3.heap.size := bel3.size
            have hc3 := old_cells bel3
            clear t3 hc2
            go_wp2_with fail
            all_goals try (go_ret; exact ⟨ret_bool (HNO.out (by simp [sameI_mk, sameW_toList, *])), YG.out _ (YF.out _ bel3)⟩)
            refine (C4.out _ bel3 (by omega)).mono ?_
            rintro e w4 ⟨rfl, t4⟩
            have bel4 := bel3.trans (t4.mono (by omega))
            have hs4 : wc.heap.size ≤ w4.heap.size := bel4.size
            have hc4 := old_cells bel4
            clear t4 hc3
            cases hq : sameE true rxa rxb
            · have HF := Lib.hid (HNO.out (by simp [sameI_mk, sameW_toList, *]))
              go_wp2
              go_ret
              exact ⟨ret_bool HF.out, YG.out _ (YF.out _ bel4)⟩
            · have HK2 := Lib.hid (allW_step HK.out Ha.out Hb.out (show sameI true (PI.mk kda nma fsa rta boa rxa ata) (PI.mk kdb nmb fsb rtb bob rxb atb) = true by simp [sameI_mk, sameW_toList, *]))
              go_wp2
              go_roundw
              case rel => (first | exact ⟨k + 1, by omega, by go_num, YF.out _ bel4, HK2⟩ | ((repeat apply Exists.intro); exact ⟨⟨k + 1, by omega, by go_num, YF.out _ bel4, HK2⟩, rfl⟩))
              case measure => simp [intOf]; omega
      · obtain rfl : k = n := by omega
        have hres := Lib.hid (Hyes.out fun j x y hx hy => HK.out j x y (by rw [Hx.out]; exact (List.getElem?_eq_some_iff.1 hx).1) hx hy)
        go_wp2
        go_ret
        exact ⟨ret_bool hres.out.symm, YG.out _ hbel⟩
  · have e1 : ((xs.length : Int) != (ys.length : Int)) = true := by rw [bne_iff_ne]; omega
    rw [allW_len hn]
    clear hn
    go_enter Tryz.func13, Tryz.ntmps13
    go_wp2
    go_ret
    exact ⟨rfl, box2 _ _ _⟩
end Go.Proofs.YtojeijeimpffgaaGreat

