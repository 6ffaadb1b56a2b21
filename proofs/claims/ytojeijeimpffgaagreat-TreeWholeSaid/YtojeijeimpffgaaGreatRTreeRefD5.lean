/- The document's own way of saying how deep, how large a program is. -/
import Derived.Test.YtojeijeimpffgaaGreatRTreeRefD3
import Derived.Test.YtojeijeimpffgaaGreatRTreeRefD4
import Derived.Test.YtojeijeimpffgaaGreatRJoinA
namespace Go.Proofs.YtojeijeimpffgaaGreat
open Go.RowKit
set_option linter.unusedVariables false

def dFs : List PF → Nat
  | [] => 0
  | f :: l => max (dT f.type) (dFs l)
def dI (x : PI) : Nat := max (max (dT x.result) (max (dE x.ret) (dSs x.body))) (dFs x.fields) + 1
def dIs : List PI → Nat
  | [] => 0
  | x :: l => max (dI x) (dIs l)
def nI (x : PI) : Nat := 1 + nSs x.body + (if x.kind = 3 then nE x.ret else 0)
def nIs : List PI → Nat
  | [] => 0
  | x :: l => nI x + nIs l
theorem dFs_mem : ∀ {l : List PF} {a : PF}, a ∈ l → dT a.type ≤ dFs l
  | x :: l, a, h => by
    rw [dFs]
    rcases List.mem_cons.1 h with rfl | h1
    · omega
    · have := dFs_mem h1; omega
theorem dIs_mem : ∀ {l : List PI} {a : PI}, a ∈ l → dI a ≤ dIs l
  | x :: l, a, h => by
    rw [dIs]
    rcases List.mem_cons.1 h with rfl | h1
    · omega
    · have := dIs_mem h1; omega
theorem one_add (n : Nat) : ((n + 1 : Nat) : Int) = (n : Int) + 1 := by omega
set_option maxRecDepth 100000 in
set_option maxHeartbeats 4000000 in
theorem refDepth_calls (B : Nat) (l : List PI) (v : Value) (w : World) (hB : B ≤ w.heap.size) (hp : ProgIn B w l v) (hd : dIs l + 1 ≤ 1000000) :
    Calls Tryz.prog 10 #[.agg #[v]] w fun e w' => e = .returned (.int .i64 ((dIs l + 1 : Nat) : Int)) ∧ Below w.heap.size w w' := by
  obtain ⟨b, o, ⟨hn, ao, cap, rfl, k1⟩, rw1⟩ := hp
  unfold maxLen at hn
  obtain ⟨n, hx⟩ : ∃ n, n = l.length := ⟨_, rfl⟩
  rw [← hx] at hn k1 ⊢
  have Hx := Lib.hid hx
  have Hr := Lib.hid rw1
  have H1 := Lib.hid k1
  have Hm := Lib.hid (fun a (h : a ∈ l) => dIs_mem h)
  obtain ⟨R, hR⟩ : ∃ R, R = dIs l := ⟨_, rfl⟩
  rw [← hR] at hd ⊢
  rw [one_add]
  have HR := Lib.hid hR
  have hd' : R ≤ 1000000 := by omega
  clear hx rw1 k1 hR hd
  go_enter Tryz.func10, Tryz.ntmps10
  go_wp2_with fail
  go_loopw [3, 4] (fun q i wr => ∃ (k m : Nat), k ≤ n ∧ i = .int .i64 k ∧ q = .int .i64 m ∧ m ≤ R ∧ w.heap.size < wr.heap.size ∧ wr.cell? ⟨w.heap.size, 0, none⟩ = some (.slice ao n cap) ∧ Hid (Below w.heap.size w wr) ∧ Hid (max m (dIs (l.drop k)) = R))
    (fun _ i _ => n - (intOf i).toNat)
  case atStart => exact ⟨0, 0, by omega, rfl, rfl, by omega, by simp, by go_simp, Lib.hid ((Below.refl _ w).alloc (Nat.le_refl _) _), Lib.hid (by rw [List.drop_zero, HR.out]; omega)⟩
  case round =>
    obtain ⟨k, m, hk, rfl, rfl, hmR, hz, hc, Hw, HM⟩ := hrel
    have hsz := Hw.out.size
    by_cases hlt : k < n
    · obtain ⟨a, ha, hin⟩ := get_at (l := l) (k := k) (by rw [← Hx.out]; exact hlt)
      obtain ⟨rfl, hb⟩ := H1.out.resolve_left (by omega)
      have hg : b < wr.heap.size := by omega
      obtain ⟨va, ca, ia⟩ := PI.Row.get (PI.Row.below (Hw.out.mono hB) hb Hr.out) ha
      obtain ⟨pa0, na0, qa0, pa1, na1, qa1, pa2, na2, qa2, pa3, na3, qa3, pa4, na4, qa4, rfl⟩ := ia.shape
      have hda := Hm.out a hin
      rw [← HR.out] at hda
      have HM2 : Hid (max (max m (dI a)) (dIs (l.drop (k + 1))) = R) := Lib.hid (by rw [← HM.out, drop_get ha, dIs]; omega)
      have hm2 : max m (dI a) ≤ R := by omega
      obtain ⟨kda, nma, fsa, rta, boa, rxa, ata⟩ := a
      have c0 : wr.cell? ⟨b, o + k * 16, none⟩ = some (.int .u8 kda) := ca 0 _ rfl
      have c1 : wr.cell? ⟨b, o + k * 16 + 1, none⟩ = some (.string nma) := ca 1 _ rfl
      have c2 : wr.cell? ⟨b, o + k * 16 + 2, none⟩ = some (.slice pa0 na0 qa0) := ca 2 _ rfl
      have c3 : wr.cell? ⟨b, o + k * 16 + 3, none⟩ = some (.int .u8 rta.kind) := ca 3 _ rfl
      have c4 : wr.cell? ⟨b, o + k * 16 + 4, none⟩ = some (.string rta.name) := ca 4 _ rfl
      have c5 : wr.cell? ⟨b, o + k * 16 + 5, none⟩ = some (.slice pa1 na1 qa1) := ca 5 _ rfl
      have c6 : wr.cell? ⟨b, o + k * 16 + 6, none⟩ = some (.slice pa2 na2 qa2) := ca 6 _ rfl
      have c7 : wr.cell? ⟨b, o + k * 16 + 7, none⟩ = some (.int .u8 rxa.op) := ca 7 _ rfl
      have c8 : wr.cell? ⟨b, o + k * 16 + 8, none⟩ = some (.int .i64 rxa.int) := ca 8 _ rfl
      have c9 : wr.cell? ⟨b, o + k * 16 + 9, none⟩ = some (.string rxa.name) := ca 9 _ rfl
      have c10 : wr.cell? ⟨b, o + k * 16 + 10, none⟩ = some (.string rxa.second) := ca 10 _ rfl
      have c11 : wr.cell? ⟨b, o + k * 16 + 11, none⟩ = some (.string rxa.place.name) := ca 11 _ rfl
      have c12 : wr.cell? ⟨b, o + k * 16 + 12, none⟩ = some (.slice pa3 na3 qa3) := ca 12 _ rfl
      have c13 : wr.cell? ⟨b, o + k * 16 + 13, none⟩ = some (.slice pa4 na4 qa4) := ca 13 _ rfl
      have c14 : wr.cell? ⟨b, o + k * 16 + 14, none⟩ = some (.int .i64 rxa.pos) := ca 14 _ rfl
      have c15 : wr.cell? ⟨b, o + k * 16 + 15, none⟩ = some (.int .i64 ata) := ca 15 _ rfl
      have Ia := Lib.hid ia
      clear ha hin HM ca ia
      go_upto_region 6 with (fail)
      obtain ⟨w0, hw0⟩ : ∃ w0, w0 = wr.alloc (.cells #[.int .u8 kda, .string nma, .slice pa0 na0 qa0, .int .u8 rta.kind, .string rta.name, .slice pa1 na1 qa1, .slice pa2 na2 qa2, .int .u8 rxa.op, .int .i64 rxa.int, .string rxa.name, .string rxa.second, .string rxa.place.name, .slice pa3 na3 qa3, .slice pa4 na4 qa4, .int .i64 rxa.pos, .int .i64 ata] 47) := ⟨_, rfl⟩
      rw [← hw0]
      obtain ⟨G, hG⟩ : ∃ G, G = wr.heap.size := ⟨_, rfl⟩
      have hz0 : G < w0.heap.size := by rw [hw0, hG]; simp
      have x2 : w0.cell? ⟨G, 2, none⟩ = some (.slice pa0 na0 qa0) := by rw [hw0, hG]; go_simp
      have x3 : w0.cell? ⟨G, 3, none⟩ = some (.int .u8 rta.kind) := by rw [hw0, hG]; go_simp
      have x4 : w0.cell? ⟨G, 4, none⟩ = some (.string rta.name) := by rw [hw0, hG]; go_simp
      have x5 : w0.cell? ⟨G, 5, none⟩ = some (.slice pa1 na1 qa1) := by rw [hw0, hG]; go_simp
      have x6 : w0.cell? ⟨G, 6, none⟩ = some (.slice pa2 na2 qa2) := by rw [hw0, hG]; go_simp
      have x7 : w0.cell? ⟨G, 7, none⟩ = some (.int .u8 rxa.op) := by rw [hw0, hG]; go_simp
      have x8 : w0.cell? ⟨G, 8, none⟩ = some (.int .i64 rxa.int) := by rw [hw0, hG]; go_simp
      have x9 : w0.cell? ⟨G, 9, none⟩ = some (.string rxa.name) := by rw [hw0, hG]; go_simp
      have x10 : w0.cell? ⟨G, 10, none⟩ = some (.string rxa.second) := by rw [hw0, hG]; go_simp
      have x11 : w0.cell? ⟨G, 11, none⟩ = some (.string rxa.place.name) := by rw [hw0, hG]; go_simp
      have x12 : w0.cell? ⟨G, 12, none⟩ = some (.slice pa3 na3 qa3) := by rw [hw0, hG]; go_simp
      have x13 : w0.cell? ⟨G, 13, none⟩ = some (.slice pa4 na4 qa4) := by rw [hw0, hG]; go_simp
      have x14 : w0.cell? ⟨G, 14, none⟩ = some (.int .i64 rxa.pos) := by rw [hw0, hG]; go_simp
      rw [← hG]
      clear hG
      have y0 : Below wr.heap.size wr w0 := by rw [hw0]; exact (Below.refl _ wr).alloc (Nat.le_refl _) _
      have hc0 := (y0.cell (p := ⟨w.heap.size, 0, none⟩) hz).trans hc
      have hzw : w.heap.size < w0.heap.size := by have := y0.size; omega
      have B0 : Hid (Below w.heap.size w w0) := Lib.hid (Hw.out.trans (y0.mono (by omega)))
      have I0 := Lib.hid (Ia.out.below (y0.mono (by omega)))
      obtain ⟨_, ⟨bf, of, ⟨hnf, aof, capf, hvf, kf⟩, rf⟩, hrt, ⟨bb, ob, sb, rb⟩, hrx⟩ := I0.out
      simp only [Value.slice.injEq] at hvf
      obtain ⟨rfl, hn0, rfl⟩ := hvf
      unfold maxLen at hnf
      rw [← hn0] at hnf kf
      have hdI : dI ⟨kda, nma, fsa, rta, boa, rxa, ata⟩ = max (max (dT rta) (max (dE rxa) (dSs boa))) (dFs fsa) + 1 := rfl
      rw [hdI] at hda HM2 hm2
      have hB0 : B ≤ w0.heap.size := by omega
      have A1 : Hid (∀ n' : Over w0, Calls Tryz.prog 31 #[.agg #[.int .u8 rta.kind, .string rta.name, .slice pa1 na1 qa1]] n'.w fun e w'' => e = .returned (.int .i64 (dT rta : Int)) ∧ ∃ m' : Over w0, w'' = m'.w) := Lib.hid fun n' => over_calls (deepT_calls B rta _ n'.w (by have := n'.h.size; omega) (PT.In.below (n'.h.mono hB0) hrt) (by omega))
      have A2 : Hid (∀ n' : Over w0, Calls Tryz.prog 32 #[.agg #[.int .u8 rxa.op, .int .i64 rxa.int, .string rxa.name, .string rxa.second, .string rxa.place.name, .slice pa3 na3 qa3, .slice pa4 na4 qa4, .int .i64 rxa.pos]] n'.w fun e w'' => e = .returned (.int .i64 (dE rxa : Int)) ∧ ∃ m' : Over w0, w'' = m'.w) := Lib.hid fun n' => over_calls (deepE_calls B rxa ⟨.slice pa3 na3 qa3, .slice pa4 na4 qa4⟩ n'.w (by have := n'.h.size; omega) (PE.In.below (n'.h.mono hB0) hrx) (by omega))
      have A3 : Hid (∀ n' : Over w0, Calls Tryz.prog 33 #[.slice pa2 na2 qa2] n'.w fun e w'' => e = .returned (.int .i64 (dSs boa : Int)) ∧ ∃ m' : Over w0, w'' = m'.w) := Lib.hid fun n' => over_calls (deepS_calls B boa _ bb ob n'.w (by have := n'.h.size; omega) sb (PS.Row.below' (n'.h.mono hB0) sb rb) (by omega))
      have A4 : Hid (∀ n' : Over w0, Calls Tryz.prog 30 #[.int .i64 (dE rxa : Int), .int .i64 (dSs boa : Int)] n'.w fun e w'' => e = .returned (.int .i64 ((max (dE rxa) (dSs boa) : Nat) : Int)) ∧ ∃ m' : Over w0, w'' = m'.w) := Lib.hid fun n' => over_calls (most_calls _ _ n'.w)
      have A5 : Hid (∀ n' : Over w0, Calls Tryz.prog 30 #[.int .i64 (dT rta : Int), .int .i64 ((max (dE rxa) (dSs boa) : Nat) : Int)] n'.w fun e w'' => e = .returned (.int .i64 ((max (dT rta) (max (dE rxa) (dSs boa)) : Nat) : Int)) ∧ ∃ m' : Over w0, w'' = m'.w) := Lib.hid fun n' => over_calls (most_calls _ _ n'.w)
      have Kf := Lib.hid kf
      have Rf := Lib.hid rf
      have HN0 := Lib.hid hn0
      have MA := Lib.hid (fun a (h : a ∈ fsa) => dFs_mem h)
      generalize hDB : max (dT rta) (max (dE rxa) (dSs boa)) = DB at *
      generalize hDC : max (dE rxa) (dSs boa) = DC at *
      clear hDB hDC hrt hrx sb rb rf kf hn0 y0 hw0 Ia I0 hdI hc c0 c1 c2 c3 c4 c5 c6 c7 c8 c9 c10 c11 c12 c13 c14 c15
      generalize dT rta = xt at *
      generalize dE rxa = xe at *
      generalize dSs boa = xs at *
      have hF := Over.cells (W0 := w0)
      refine wp_region_over (by kernel_rfl) (by kernel_rfl) ?_
      repeat (go_big_quiet_step ((first | (go_at_call 31; with_reducible exact A1.out _) | (go_at_call 32; with_reducible exact A2.out _) | (go_at_call 33; with_reducible exact A3.out _) | (go_at_call 30; with_reducible exact A4.out _) | (go_at_call 30; with_reducible exact A5.out _))))
      refine wpQuiet_nil ?_
      rintro _ ⟨m', rfl⟩
      replace x2 := (m'.cells G 2 hz0).trans x2
      replace hc0 := (m'.cells w.heap.size 0 hzw).trans hc0
      have hzd : G < m'.w.heap.size := by have := m'.h.size; omega
      have hzv : w.heap.size < m'.w.heap.size := by have := m'.h.size; omega
      have BD : Hid (Below w.heap.size w m'.w) := Lib.hid (B0.out.trans (m'.h.mono (by omega)))
      have RF : Hid (PF.Row B m'.w bf of fsa) := Lib.hid (by
        by_cases h6 : na0 = 0
        · have : fsa = [] := List.eq_nil_of_length_eq_zero (by rw [← HN0.out]; exact h6)
          subst this; trivial
        · exact PF.Row.below (m'.h.mono hB0) (Kf.out.resolve_left h6).2 Rf.out)
      clear A1 A2 A3 A4 A5 hF x3 x4 x5 x6 x7 x8 x9 x10 x11 x12 x13 x14 B0 hz0 hzw Rf Hw hz
      generalize m'.w = wd at *
      have hBd : B ≤ wd.heap.size := by omega
      go_wp2_with fail
      go_loopw [6, 7] (fun dv i wi => ∃ (k2 q : Nat), k2 ≤ na0 ∧ i = .int .i64 k2 ∧ dv = .int .i64 q ∧ q ≤ 1000000 ∧ Hid (Below wd.heap.size wd wi) ∧ Hid (max q (dFs (fsa.drop k2)) = max DB (dFs fsa)))
        (fun _ i _ => na0 - (intOf i).toNat)
      case atStart => exact ⟨0, DB, by omega, rfl, rfl, by omega, Lib.hid (Below.refl _ wd), Lib.hid (by rw [List.drop_zero])⟩
      case round =>
        obtain ⟨k2, q, hk2, rfl, rfl, hq, Hi, HQ⟩ := hrel
        have hsi := Hi.out.size
        have z2 := (Hi.out.cell (p := ⟨G, 2, none⟩) hzd).trans x2
        by_cases hlt2 : k2 < na0
        · obtain ⟨a, ha, hin⟩ := get_at (l := fsa) (k := k2) (by rw [← HN0.out]; exact hlt2)
          obtain ⟨rfl, hbf⟩ := Kf.out.resolve_left (by omega)
          have hgf : bf < wr.heap.size := by omega
          obtain ⟨vf, cf, jf⟩ := PF.Row.get (PF.Row.below (Hi.out.mono hBd) hbf RF.out) ha
          obtain ⟨p7, n7, q7, rfl⟩ := jf.shape
          have hma := MA.out a hin
          have HQ2 : Hid (max (max q (dT a.type)) (dFs (fsa.drop (k2 + 1))) = max DB (dFs fsa)) := Lib.hid (by rw [← HQ.out, drop_get ha, dFs]; omega)
          obtain ⟨fn, ft⟩ := a
          have d1 : wr.cell? ⟨bf, of + k2 * 4 + 1, none⟩ = some (.int .u8 ft.kind) := cf 1 _ rfl
          have d2 : wr.cell? ⟨bf, of + k2 * 4 + 2, none⟩ = some (.string ft.name) := cf 2 _ rfl
          have d3 : wr.cell? ⟨bf, of + k2 * 4 + 3, none⟩ = some (.slice p7 n7 q7) := cf 3 _ rfl
          have C : Hid (Calls Tryz.prog 31 #[.agg #[.int .u8 ft.kind, .string ft.name, .slice p7 n7 q7]] wr fun e w' => e = .returned (.int .i64 (dT ft : Int)) ∧ Below wr.heap.size wr w') := Lib.hid (deepT_calls B ft _ wr (by omega) jf.2 (by show dT ft ≤ _; have : dT ft ≤ dFs fsa := hma; omega))
          have hq2 : max q (dT ft) ≤ 1000000 := by have : dT ft ≤ dFs fsa := hma; omega
          have MC := Lib.hid (fun w' => most_calls q (dT ft) w')
          replace HQ2 : Hid (max (max q (dT ft)) (dFs (fsa.drop (k2 + 1))) = max DB (dFs fsa)) := HQ2
          clear hma
          generalize dT ft = da at *
          clear ha cf hin HQ jf
          go_wp2_with fail
          refine C.out.mono ?_
          rintro e u2 ⟨rfl, b2⟩
          have B2 := Lib.hid (Hi.out.trans (b2.mono (by omega)))
          clear b2 d1 d2 d3 z2 C Hi
          go_wp2_with fail
          refine (MC.out _).mono ?_
          rintro e u3 ⟨rfl, b3⟩
          have B3 := Lib.hid (B2.out.trans (b3.mono (by have := B2.out.size; omega)))
          generalize max q da = q3 at *
          clear b3 B2 MC
          go_wp2
          go_roundw
          case rel => exact ⟨k2 + 1, q3, by omega, by go_num, rfl, hq2, B3, HQ2⟩
          case measure => simp [intOf]; omega
        · obtain rfl : k2 = na0 := by omega
          have hq1 : q = max DB (dFs fsa) := by have := HQ.out; rw [HN0.out, drop_end, dFs] at this; omega
          rw [← hq1] at hda HM2 hm2
          have MD := Lib.hid (fun w' => most_calls m (q + 1) w')
          have e5 : ((q + 1 : Nat) : Int) = (q : Int) + 1 := by omega
          rw [e5] at MD
          have c9 := (Hi.out.cell (p := ⟨w.heap.size, 0, none⟩) hzv).trans hc0
          have z9 : w.heap.size < wr.heap.size := by omega
          have BW : Hid (Below w.heap.size w wr) := Lib.hid (BD.out.trans (Hi.out.mono (by omega)))
          clear e5 hq1 HQ Kf RF MA Hi BD hc0
          go_wp2_with fail
          refine (MD.out _).mono ?_
          rintro e u4 ⟨rfl, b4⟩
          have c8 := (b4.cell (p := ⟨w.heap.size, 0, none⟩) z9).trans c9
          have z8 : w.heap.size < u4.heap.size := by have := b4.size; omega
          have B4 := Lib.hid (BW.out.trans (b4.mono (by omega)))
          generalize max m (q + 1) = m2 at *
          clear b4 BW MD
          go_wp2
          go_roundw
          case rel => exact ⟨k + 1, m2, by omega, by go_num, rfl, hm2, z8, c8, B4, HM2⟩
          case measure => simp [intOf]; omega
    · obtain rfl : k = n := by omega
      obtain rfl : m = R := by have := HM.out; rw [Hx.out, drop_end, dIs] at this; omega
      go_wp2
      go_ret
      exact ⟨rfl, Hw.out⟩
theorem reads_ofD {w w' : World} (h : Below w.heap.size w w') : Reads w w' := fun a v hc => (h.cell (World.block_lt_of_cell? w a hc)).trans hc
set_option maxRecDepth 100000 in
set_option maxHeartbeats 4000000 in
theorem refSize_calls (B : Nat) (l : List PI) (v : Value) (w : World) (hB : B ≤ w.heap.size) (hp : ProgIn B w l v) (hd : nIs l ≤ 1000000) :
    Calls Tryz.prog 12 #[.agg #[v]] w fun e w' => e = .returned (.int .i64 (nIs l : Int)) ∧ Below w.heap.size w w' := by
  obtain ⟨b, o, ⟨hn, ao, cap, rfl, k1⟩, rw1⟩ := hp
  unfold maxLen at hn
  obtain ⟨n, hx⟩ : ∃ n, n = l.length := ⟨_, rfl⟩
  rw [← hx] at hn k1 ⊢
  have Hx := Lib.hid hx
  have Hr := Lib.hid rw1
  have H1 := Lib.hid k1
  obtain ⟨R, hR⟩ : ∃ R, R = nIs l := ⟨_, rfl⟩
  rw [← hR] at hd ⊢
  have HR := Lib.hid hR
  clear hx rw1 k1 hR
  go_enter Tryz.func12, Tryz.ntmps12
  go_wp2_with fail
  go_loopw [3, 4] (fun q i wr => ∃ (k m : Nat), k ≤ n ∧ i = .int .i64 k ∧ q = .int .i64 m ∧ m ≤ R ∧ w.heap.size < wr.heap.size ∧ wr.cell? ⟨w.heap.size, 0, none⟩ = some (.slice ao n cap) ∧ Hid (Below w.heap.size w wr) ∧ Hid (m + nIs (l.drop k) = R))
    (fun _ i _ => n - (intOf i).toNat)
  case atStart => exact ⟨0, 0, by omega, rfl, rfl, by omega, by simp, by go_simp, Lib.hid ((Below.refl _ w).alloc (Nat.le_refl _) _), Lib.hid (by rw [List.drop_zero, HR.out]; omega)⟩
  case round =>
    obtain ⟨k, m, hk, rfl, rfl, hmR, hz, hc, Hw, HM⟩ := hrel
    have hsz := Hw.out.size
    by_cases hlt : k < n
    · obtain ⟨a, ha, hin⟩ := get_at (l := l) (k := k) (by rw [← Hx.out]; exact hlt)
      obtain ⟨rfl, hb⟩ := H1.out.resolve_left (by omega)
      have hg : b < wr.heap.size := by omega
      obtain ⟨va, ca, ia⟩ := PI.Row.get (PI.Row.below (Hw.out.mono hB) hb Hr.out) ha
      obtain ⟨pa0, na0, qa0, pa1, na1, qa1, pa2, na2, qa2, pa3, na3, qa3, pa4, na4, qa4, rfl⟩ := ia.shape
      have h0 := HM.out
      rw [drop_get ha, nIs] at h0
      obtain ⟨kda, nma, fsa, rta, boa, rxa, ata⟩ := a
      have hnI : nI ⟨kda, nma, fsa, rta, boa, rxa, ata⟩ = 1 + nSs boa + (if kda = 3 then nE rxa else 0) := rfl
      rw [hnI] at h0
      have c0 : wr.cell? ⟨b, o + k * 16, none⟩ = some (.int .u8 kda) := ca 0 _ rfl
      have c6 : wr.cell? ⟨b, o + k * 16 + 6, none⟩ = some (.slice pa2 na2 qa2) := ca 6 _ rfl
      have c7 : wr.cell? ⟨b, o + k * 16 + 7, none⟩ = some (.int .u8 rxa.op) := ca 7 _ rfl
      have c8 : wr.cell? ⟨b, o + k * 16 + 8, none⟩ = some (.int .i64 rxa.int) := ca 8 _ rfl
      have c9 : wr.cell? ⟨b, o + k * 16 + 9, none⟩ = some (.string rxa.name) := ca 9 _ rfl
      have c10 : wr.cell? ⟨b, o + k * 16 + 10, none⟩ = some (.string rxa.second) := ca 10 _ rfl
      have c11 : wr.cell? ⟨b, o + k * 16 + 11, none⟩ = some (.string rxa.place.name) := ca 11 _ rfl
      have c12 : wr.cell? ⟨b, o + k * 16 + 12, none⟩ = some (.slice pa3 na3 qa3) := ca 12 _ rfl
      have c13 : wr.cell? ⟨b, o + k * 16 + 13, none⟩ = some (.slice pa4 na4 qa4) := ca 13 _ rfl
      have c14 : wr.cell? ⟨b, o + k * 16 + 14, none⟩ = some (.int .i64 rxa.pos) := ca 14 _ rfl
      obtain ⟨_, _, hrt, ⟨bb, ob, sb, rb⟩, hrx⟩ := ia
      have C := Lib.hid (numS_calls B boa _ bb ob wr (by omega) sb rb (by omega))
      obtain ⟨T, hT⟩ : ∃ T, T = m + 1 + nSs boa := ⟨_, rfl⟩
      have eT : (T : Int) = (m : Int) + 1 + (nSs boa : Int) := by omega
      have HRX := Lib.hid hrx
      have s1 : nSs boa ≤ 1000000 := by omega
      have h1 : T + (if kda = 3 then nE rxa else 0) + nIs (l.drop (k + 1)) = R := by omega
      have ET := Lib.hid eT
      clear ha hin HM ca sb rb hrt hrx hnI h0 hT eT
      generalize nSs boa = xb at *
      have G0 := Lib.hid h1
      have hTR : T ≤ R := by omega
      by_cases h3 : kda = 3
      · subst h3
        rw [if_pos rfl] at h1
        have hxe : nE rxa ≤ 1000000 := by omega
        obtain ⟨T2, hT2⟩ : ∃ T2, T2 = T + nE rxa := ⟨_, rfl⟩
        have HM2 : Hid (T2 + nIs (l.drop (k + 1)) = R) := Lib.hid (by omega)
        have e2 : (T2 : Int) = (m : Int) + 1 + (xb : Int) + (nE rxa : Int) := by have := ET.out; omega
        have E2 := Lib.hid e2
        have hm2 : T2 ≤ R := by omega
        clear h1 hT2 e2 G0
        go_wp2_with fail
        refine C.out.mono ?_
        rintro e w2 ⟨rfl, b2⟩
        have hs2 := b2.size
        replace c0 := (b2.cell (p := ⟨b, o + k * 16, none⟩) hg).trans c0
        replace c7 := (b2.cell (p := ⟨b, o + k * 16 + 7, none⟩) hg).trans c7
        replace c8 := (b2.cell (p := ⟨b, o + k * 16 + 8, none⟩) hg).trans c8
        replace c9 := (b2.cell (p := ⟨b, o + k * 16 + 9, none⟩) hg).trans c9
        replace c10 := (b2.cell (p := ⟨b, o + k * 16 + 10, none⟩) hg).trans c10
        replace c11 := (b2.cell (p := ⟨b, o + k * 16 + 11, none⟩) hg).trans c11
        replace c12 := (b2.cell (p := ⟨b, o + k * 16 + 12, none⟩) hg).trans c12
        replace c13 := (b2.cell (p := ⟨b, o + k * 16 + 13, none⟩) hg).trans c13
        replace c14 := (b2.cell (p := ⟨b, o + k * 16 + 14, none⟩) hg).trans c14
        have hc2 := (b2.cell (p := ⟨w.heap.size, 0, none⟩) hz).trans hc
        have hz2 : w.heap.size < w2.heap.size := by omega
        have hg2 : b < w2.heap.size := by omega
        have B2 := Lib.hid (Hw.out.trans (b2.mono (by omega)))
        have X2 := Lib.hid (PE.In.below (b2.mono (by omega)) HRX.out)
        clear b2 hc C Hw HRX c6
        go_wp2_with fail
        obtain ⟨w3, hw3⟩ : ∃ w3, w3 = w2.alloc (.cells #[.int .u8 rxa.op, .int .i64 rxa.int, .string rxa.name, .string rxa.second, .string rxa.place.name, .slice pa3 na3 qa3, .slice pa4 na4 qa4, .int .i64 rxa.pos] 45) := ⟨_, rfl⟩
        rw [← hw3]
        have y3 : Below w2.heap.size w2 w3 := by rw [hw3]; exact (Below.refl _ w2).alloc (Nat.le_refl _) _
        have z3 : w2.heap.size < w3.heap.size := by rw [hw3]; simp
        have hcs : CellsAt w3 w2.heap.size 0 (rxa.cells ⟨.slice pa3 na3 qa3, .slice pa4 na4 qa4⟩) := by
          intro i u hi
          rw [hw3]
          have := cell_of_row _ _ (0 + i) _ _ _ (heap_alloc_new w2 (.cells #[.int .u8 rxa.op, .int .i64 rxa.int, .string rxa.name, .string rxa.second, .string rxa.place.name, .slice pa3 na3 qa3, .slice pa4 na4 qa4, .int .i64 rxa.pos] 45))
          rw [this, Nat.zero_add]
          simpa [PE.cells] using hi
        have hin3 : PE.In w3.heap.size w3 rxa ⟨.slice pa3 na3 qa3, .slice pa4 na4 qa4⟩ := PE.In.reads (by omega) (reads_ofD y3) X2.out
        have C2 : Hid (Calls Tryz.prog 36 #[.slice (some ⟨w2.heap.size, 0, none⟩) 1 1] w3 fun e w' => e = .returned (.int .i64 (nE rxa : Int)) ∧ Below w3.heap.size w3 w') := Lib.hid (by
          have h := numE_calls w3.heap.size [rxa] (.slice (some ⟨w2.heap.size, 0, none⟩) 1 1) w2.heap.size 0 w3 (Nat.le_refl _) ⟨by unfold maxLen; simp, _, 1, rfl, .inr ⟨rfl, z3⟩⟩ ⟨⟨_, hcs, hin3⟩, trivial⟩ (by rw [nEs, nEs]; omega)
          rw [nEs, nEs, Nat.add_zero] at h
          exact h)
        have cw3 := (y3.cell (p := ⟨w.heap.size, 0, none⟩) hz2).trans hc2
        have z8 : w.heap.size < w3.heap.size := by omega
        have B3 := Lib.hid (B2.out.trans (y3.mono (by omega)))
        clear hw3 hcs hin3 y3 X2 c0 c7 c8 c9 c10 c11 c12 c13 c14
        generalize nE rxa = xe at *
        go_wp2_with fail
        refine C2.out.mono ?_
        rintro e u4 ⟨rfl, b4⟩
        have cw4 := (b4.cell (p := ⟨w.heap.size, 0, none⟩) z8).trans cw3
        have z9 : w.heap.size < u4.heap.size := by have := b4.size; omega
        have B4 := Lib.hid (B3.out.trans (b4.mono (by omega)))
        clear b4 B3 C2 B2
        go_wp2
        go_roundw
        case rel => exact ⟨k + 1, T2, by omega, by go_num, by rw [E2.out], hm2, z9, cw4, B4, HM2⟩
        case measure => simp [intOf]; omega
      · rw [if_neg h3] at h1
        have HM2 : Hid (T + nIs (l.drop (k + 1)) = R) := Lib.hid (by omega)
        have e3 : (kda == 3) = false := beq_eq_false_iff_ne.2 h3
        clear h1 h3 G0
        go_wp2_with fail
        refine C.out.mono ?_
        rintro e w2 ⟨rfl, b2⟩
        have hs2 := b2.size
        replace c0 := (b2.cell (p := ⟨b, o + k * 16, none⟩) hg).trans c0
        have hc2 := (b2.cell (p := ⟨w.heap.size, 0, none⟩) hz).trans hc
        have hz2 : w.heap.size < w2.heap.size := by omega
        have hg2 : b < w2.heap.size := by omega
        have B2 := Lib.hid (Hw.out.trans (b2.mono (by omega)))
        clear b2 hc C Hw HRX c6 c7 c8 c9 c10 c11 c12 c13 c14
        go_wp2
        go_roundw
        case rel => exact ⟨k + 1, T, by omega, by go_num, by rw [ET.out], hTR, hz2, hc2, B2, HM2⟩
        case measure => simp [intOf]; omega
    · obtain rfl : k = n := by omega
      obtain rfl : m = R := by have := HM.out; rw [Hx.out, drop_end, nIs] at this; omega
      go_wp2
      go_ret
      exact ⟨rfl, Hw.out⟩
end Go.Proofs.YtojeijeimpffgaaGreat

