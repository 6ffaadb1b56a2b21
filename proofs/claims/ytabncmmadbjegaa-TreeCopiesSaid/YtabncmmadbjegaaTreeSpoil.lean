/- The law's spoil (made by gen_spoil.py). -/
import Derived.Test.YtabncmmadbjegaaTreeSpoilMath
import Derived.Test.YtabncmmadbjegaaTreeCopyS
namespace Go.Proofs.Ytabncmmadbjegaa
open Go.RowKit
set_option linter.unusedVariables false

attribute [local go_sem ↓] Go.wp_at_zero Go.wp_at_succ
set_option maxRecDepth 100000 in
set_option maxHeartbeats 12800000 in
theorem spoil_calls (m : Nat) (l : List PI) (v : Value) (hB : Nat) (W : World) (h : IsB m hB W l v) (hWW : hB ≤ W.heap.size) :
    Calls Try.prog 9 #[.agg #[v]] W fun e w' => e = .returned (.tuple #[]) ∧ Spoil m hB W w' := by
  obtain ⟨b1, o1, s1, r1⟩ := h
  obtain ⟨ao, cap, rfl⟩ := s1.shape
  obtain ⟨n, hn⟩ : ∃ n, n = l.length := ⟨_, rfl⟩
  rw [← hn] at s1 ⊢
  obtain ⟨_, y1, x1⟩ := slv_len s1
  unfold maxLen at y1
  have Z1 := Lib.hid hn
  have X1 := Lib.hid x1
  have R1 := Lib.hid r1
  clear s1 r1 x1 hn
  go_enter Try.func9, Try.ntmps9
  go_wp2_with fail
  go_loopw [2] (fun i wy => ∃ kk : Nat, kk ≤ n ∧ i = .int .i64 kk ∧ wy.cell? ⟨W.heap.size, 0, none⟩ = some (.slice ao n cap) ∧ W.heap.size + 1 ≤ wy.heap.size ∧ Hid (Spoil m hB W wy) ∧ Hid (wy.heap[W.heap.size]? = some (.cells #[.slice ao n cap] 24 (0, 0))))
    (fun i _ => n - (intOf i).toNat)
  case atStart => exact ⟨0, Nat.zero_le _, rfl, by go_simp, by simp, Lib.hid ((Spoil.refl _ _ W).alloc _), Lib.hid (heap_alloc_new W _)⟩
  case round =>
    obtain ⟨k, hk, rfl, cxk, hz, HSp, HP⟩ := hrel
    obtain ⟨wo, hwo⟩ : ∃ W1 : World, W1 = wr := ⟨_, rfl⟩
    subst hwo
    by_cases hlt : k < n
    · obtain ⟨t, ht, hin⟩ := get_at (l := l) (k := k) (by rw [← Z1.out]; exact hlt)
      obtain ⟨had, hb1⟩ := X1.out.resolve_left (by omega)
      subst had
      obtain ⟨vt, ct, it⟩ := PI.Row.get R1.out ht
      obtain ⟨kd, nm, fs, ty, bo, ret, pos⟩ := t
      obtain ⟨tk, tn, tl⟩ := ty
      obtain ⟨ro, rint, rn, rs, rp, rl, rpos⟩ := ret
      obtain ⟨d1, n1, c1, d2, n2, c2, d3, n3, c3, d4, n4, c4, d5, n5, c5, rfl⟩ := it.shape
      obtain ⟨_, ⟨b2, o2, s2, r2⟩, ⟨_, b3, o3, s3, r3⟩, ⟨b4, o4, s4, r4⟩, ⟨_, _, b5, o5, s5, r5⟩⟩ := it
      obtain ⟨z2, y2, x2⟩ := slv_len s2
      unfold maxLen at y2
      have Z2 := Lib.hid z2
      have X2 := Lib.hid x2
      have R2 := Lib.hid r2
      clear s2 z2 x2 r2
      obtain ⟨z3, y3, x3⟩ := slv_len s3
      unfold maxLen at y3
      have Z3 := Lib.hid z3
      have X3 := Lib.hid x3
      have R3 := Lib.hid r3
      clear s3 z3 x3 r3
      obtain ⟨z4, y4, x4⟩ := slv_len s4
      unfold maxLen at y4
      have Z4 := Lib.hid z4
      have X4 := Lib.hid x4
      have R4 := Lib.hid r4
      clear s4 z4 x4 r4
      obtain ⟨z5, y5, x5⟩ := slv_len s5
      unfold maxLen at y5
      have Z5 := Lib.hid z5
      have X5 := Lib.hid x5
      have R5 := Lib.hid r5
      clear s5 z5 x5 r5
      obtain ⟨kd', e0, _⟩ := HSp.out.byte (ct 0 _ rfl)
      have e0 : wo.cell? ⟨b1, o1 + k * 16, none⟩ = some (.int .u8 kd') := e0
      obtain ⟨nm', e1, _⟩ := HSp.out.str (ct 1 _ rfl)
      have e1 : wo.cell? ⟨b1, o1 + k * 16 + 1, none⟩ = some (.string nm') := e1
      have e2 : wo.cell? ⟨b1, o1 + k * 16 + 2, none⟩ = some (.slice d1 n1 c1) := HSp.out.sl (ct 2 _ rfl)
      obtain ⟨tk', e3, _⟩ := HSp.out.byte (ct 3 _ rfl)
      have e3 : wo.cell? ⟨b1, o1 + k * 16 + 3, none⟩ = some (.int .u8 tk') := e3
      obtain ⟨tn', e4, _⟩ := HSp.out.str (ct 4 _ rfl)
      have e4 : wo.cell? ⟨b1, o1 + k * 16 + 4, none⟩ = some (.string tn') := e4
      have e5 : wo.cell? ⟨b1, o1 + k * 16 + 5, none⟩ = some (.slice d2 n2 c2) := HSp.out.sl (ct 5 _ rfl)
      have e6 : wo.cell? ⟨b1, o1 + k * 16 + 6, none⟩ = some (.slice d3 n3 c3) := HSp.out.sl (ct 6 _ rfl)
      obtain ⟨ro', e7, _⟩ := HSp.out.byte (ct 7 _ rfl)
      have e7 : wo.cell? ⟨b1, o1 + k * 16 + 7, none⟩ = some (.int .u8 ro') := e7
      have e8 : wo.cell? ⟨b1, o1 + k * 16 + 8, none⟩ = some (.int .i64 rint) := HSp.out.num (ct 8 _ rfl)
      obtain ⟨rn', e9, _⟩ := HSp.out.str (ct 9 _ rfl)
      have e9 : wo.cell? ⟨b1, o1 + k * 16 + 9, none⟩ = some (.string rn') := e9
      obtain ⟨rs', e10, _⟩ := HSp.out.str (ct 10 _ rfl)
      have e10 : wo.cell? ⟨b1, o1 + k * 16 + 10, none⟩ = some (.string rs') := e10
      obtain ⟨rp', e11, _⟩ := HSp.out.str (ct 11 _ rfl)
      have e11 : wo.cell? ⟨b1, o1 + k * 16 + 11, none⟩ = some (.string rp') := e11
      have e12 : wo.cell? ⟨b1, o1 + k * 16 + 12, none⟩ = some (.slice d4 n4 c4) := HSp.out.sl (ct 12 _ rfl)
      have e13 : wo.cell? ⟨b1, o1 + k * 16 + 13, none⟩ = some (.slice d5 n5 c5) := HSp.out.sl (ct 13 _ rfl)
      have e14 : wo.cell? ⟨b1, o1 + k * 16 + 14, none⟩ = some (.int .i64 rpos) := HSp.out.num (ct 14 _ rfl)
      have e15 : wo.cell? ⟨b1, o1 + k * 16 + 15, none⟩ = some (.int .i64 pos) := HSp.out.num (ct 15 _ rfl)
      have hk0 : (0 : Int) ≤ (k : Int) := Int.natCast_nonneg _
      have hk1 : (k : Int) < (n : Int) := by omega
      have Hct := Lib.hid ct
      clear ct ht hin
      go_wp2_with fail
      obtain ⟨wcur, hwcur⟩ : ∃ W1, W1 = wo.alloc (Obj.cells #[.int .u8 kd', .string nm', .slice d1 n1 c1, .int .u8 tk', .string tn', .slice d2 n2 c2, .slice d3 n3 c3, .int .u8 ro', .int .i64 rint, .string rn', .string rs', .string rp', .slice d4 n4 c4, .slice d5 n5 c5, .int .i64 rpos, .int .i64 pos] 45) := ⟨_, rfl⟩
      rw [← hwcur]
      have hzc : wo.heap.size < wcur.heap.size := by rw [hwcur]; simp
      have HSp : Hid (Spoil m hB W wcur) := Lib.hid (hwcur ▸ HSp.out.alloc _)
      have HP : Hid (wcur.heap[W.heap.size]? = some (.cells #[.slice (some ⟨b1, o1, none⟩) n cap] 24 (0, 0))) := Lib.hid (hwcur ▸ (Below.heap_alloc wo _ W.heap.size (by omega)).trans HP.out)
      have HX : Hid (wcur.heap[wo.heap.size]? = some (.cells #[.int .u8 kd', .string nm', .slice d1 n1 c1, .int .u8 tk', .string tn', .slice d2 n2 c2, .slice d3 n3 c3, .int .u8 ro', .int .i64 rint, .string rn', .string rs', .string rp', .slice d4 n4 c4, .slice d5 n5 c5, .int .i64 rpos, .int .i64 pos] 45 (0, 0))) := Lib.hid (hwcur ▸ heap_alloc_new wo _)
      clear hwcur cxk e0 e1 e2 e3 e4 e5 e6 e7 e8 e9 e10 e11 e12 e13 e14 e15
      have cs1 := cell_of_row _ _ 2 _ _ _ HX.out
      have cs1 : wcur.cell? ⟨wo.heap.size, 2, none⟩ = some (.slice d1 n1 c1) := cs1
      go_wp2_with fail
      go_loopw [4] (fun i wy => ∃ kk : Nat, kk ≤ n1 ∧ i = .int .i64 kk ∧ wy.cell? ⟨wo.heap.size, 2, none⟩ = some (.slice d1 n1 c1) ∧ wcur.heap.size ≤ wy.heap.size ∧ Hid (Spoil m hB W wy) ∧ Hid (wy.heap[W.heap.size]? = some (.cells #[.slice (some ⟨b1, o1, none⟩) n cap] 24 (0, 0))) ∧ Hid (wy.heap[wo.heap.size]? = some (.cells #[.int .u8 kd', .string nm', .slice d1 n1 c1, .int .u8 tk', .string tn', .slice d2 n2 c2, .slice d3 n3 c3, .int .u8 ro', .int .i64 rint, .string rn', .string rs', .string rp', .slice d4 n4 c4, .slice d5 n5 c5, .int .i64 rpos, .int .i64 pos] 45 (0, 0))))
        (fun i _ => n1 - (intOf i).toNat)
      case atStart => exact ⟨0, Nat.zero_le _, rfl, cs1, Nat.le_refl _, HSp, HP, HX⟩
      case round =>
        obtain ⟨j1, hk1, rfl, cxj1, hz1, HSp, HP, HX⟩ := hrel
        clear cs1
        by_cases hl1 : j1 < n1
        · obtain ⟨te, hte, hine⟩ := get_at (l := fs) (k := j1) (by rw [← Z2.out]; exact hl1)
          obtain ⟨had, hbx⟩ := X2.out.resolve_left (by omega)
          subst had
          obtain ⟨vq, cq, _⟩ := PF.Row.get R2.out hte
          have hc := cq 0 _ rfl
          obtain ⟨tv, h1, h2, h3, h4⟩ := HSp.out.str hc
          have h1 : wr.cell? ⟨b2, o2 + j1 * 4, none⟩ = some (.string tv) := h1
          have h2 : wr.frozen? ⟨b2, o2 + j1 * 4, none⟩ = false := h2
          have hj0 : (0 : Int) ≤ (j1 : Int) := Int.natCast_nonneg _
          have hj1 : (j1 : Int) < (n1 : Int) := by omega
          clear hc cq hte hine
          go_wp2_with fail
          go_round
          case rel => exact ⟨j1 + 1, by omega, by go_num, (World.cell?_of_block (Below.heap_setCell _ _ _ _ (by simp; omega))).trans cxj1, by simp; omega, Lib.hid (HSp.out.set h1 (.str _ _) h3 h4), Lib.hid ((Below.heap_setCell _ _ _ _ (by simp; omega)).trans HP.out), Lib.hid ((Below.heap_setCell _ _ _ _ (by simp; omega)).trans HX.out)⟩
          case measure => simp [intOf]; omega
        · obtain rfl : n1 = j1 := by omega
          obtain ⟨wcur, hwcur⟩ : ∃ W1 : World, W1 = wr := ⟨_, rfl⟩
          subst hwcur
          have hzc1 : wo.heap.size < wcur.heap.size := by omega
          have csb : wcur.cell? ⟨wo.heap.size, 6, none⟩ = some (.slice d3 n3 c3) := cell_of_row _ _ 6 _ _ _ HX.out
          obtain ⟨wbod, hwbod⟩ : ∃ W1 : World, W1 = wcur := ⟨_, rfl⟩
          subst hwbod
          go_wp2_with fail
          go_loopw [5] (fun i wy => ∃ kk : Nat, kk ≤ n3 ∧ i = .int .i64 kk ∧ wy.cell? ⟨wo.heap.size, 6, none⟩ = some (.slice d3 n3 c3) ∧ wbod.heap.size ≤ wy.heap.size ∧ Hid (Spoil m hB W wy) ∧ Hid (wy.heap[W.heap.size]? = some (.cells #[.slice (some ⟨b1, o1, none⟩) n cap] 24 (0, 0))) ∧ Hid (wy.heap[wo.heap.size]? = some (.cells #[.int .u8 kd', .string nm', .slice d1 n1 c1, .int .u8 tk', .string tn', .slice d2 n2 c2, .slice d3 n3 c3, .int .u8 ro', .int .i64 rint, .string rn', .string rs', .string rp', .slice d4 n4 c4, .slice d5 n5 c5, .int .i64 rpos, .int .i64 pos] 45 (0, 0))))
            (fun i _ => n3 - (intOf i).toNat)
          case atStart => exact ⟨0, Nat.zero_le _, rfl, csb, Nat.le_refl _, HSp, HP, HX⟩
          case round =>
            obtain ⟨kb, hkb, rfl, cxkb, hzb, HSp, HP, HX⟩ := hrel
            clear csb
            obtain ⟨wk, hwk⟩ : ∃ W1 : World, W1 = wr := ⟨_, rfl⟩
            subst hwk
            by_cases hltb : kb < n3
            · obtain ⟨s, hs, hins⟩ := get_at (l := bo) (k := kb) (by rw [← Z4.out]; exact hltb)
              obtain ⟨had, hb4⟩ := X4.out.resolve_left (by omega)
              subst had
              obtain ⟨vs, cs, is⟩ := PS.Row.get R4.out hs
              obtain ⟨so, sn, ss, sns, sty, sint, spl, ses, sbo, sel, sar, spos⟩ := s
              obtain ⟨sk, st, stl⟩ := sty
              obtain ⟨a1, m1, q1, a2, m2, q2, a3, m3, q3, a4, m4, q4, a5, m5, q5, a6, m6, q6, a7, m7, q7, rfl⟩ := is.shape
              obtain ⟨_, ⟨g1, p1, k1, l1⟩, _, ⟨_, g2, p2, k2, l2⟩, ⟨g3, p3, k3, l3⟩, ⟨g4, p4, k4, l4⟩, _, g5, p5, k5, l5⟩ := is
              obtain ⟨u1, v1, w1⟩ := slv_len k1
              unfold maxLen at v1
              have ZS1 := Lib.hid u1
              have XS1 := Lib.hid w1
              have RS1 := Lib.hid l1
              clear k1 u1 w1 l1
              obtain ⟨u2, v2, w2⟩ := slv_len k2
              unfold maxLen at v2
              have ZS2 := Lib.hid u2
              have XS2 := Lib.hid w2
              have RS2 := Lib.hid l2
              clear k2 u2 w2 l2
              obtain ⟨u3, v3, w3⟩ := slv_len k3
              unfold maxLen at v3
              have ZS3 := Lib.hid u3
              have XS3 := Lib.hid w3
              have RS3 := Lib.hid l3
              clear k3 u3 w3 l3
              obtain ⟨u4, v4, w4⟩ := slv_len k4
              unfold maxLen at v4
              have ZS4 := Lib.hid u4
              have XS4 := Lib.hid w4
              have RS4 := Lib.hid l4
              clear k4 u4 w4 l4
              obtain ⟨u5, v5, w5⟩ := slv_len k5
              unfold maxLen at v5
              have ZS5 := Lib.hid u5
              have XS5 := Lib.hid w5
              have RS5 := Lib.hid l5
              clear k5 u5 w5 l5
              obtain ⟨so', f0, _⟩ := HSp.out.byte (cs 0 _ rfl)
              have f0 : wk.cell? ⟨b4, o4 + kb * 15, none⟩ = some (.int .u8 so') := f0
              obtain ⟨sn', f1, _⟩ := HSp.out.str (cs 1 _ rfl)
              have f1 : wk.cell? ⟨b4, o4 + kb * 15 + 1, none⟩ = some (.string sn') := f1
              obtain ⟨ss', f2, _⟩ := HSp.out.str (cs 2 _ rfl)
              have f2 : wk.cell? ⟨b4, o4 + kb * 15 + 2, none⟩ = some (.string ss') := f2
              have f3 : wk.cell? ⟨b4, o4 + kb * 15 + 3, none⟩ = some (.slice a1 m1 q1) := HSp.out.sl (cs 3 _ rfl)
              obtain ⟨sk', f4, _⟩ := HSp.out.byte (cs 4 _ rfl)
              have f4 : wk.cell? ⟨b4, o4 + kb * 15 + 4, none⟩ = some (.int .u8 sk') := f4
              obtain ⟨st', f5, _⟩ := HSp.out.str (cs 5 _ rfl)
              have f5 : wk.cell? ⟨b4, o4 + kb * 15 + 5, none⟩ = some (.string st') := f5
              have f6 : wk.cell? ⟨b4, o4 + kb * 15 + 6, none⟩ = some (.slice a2 m2 q2) := HSp.out.sl (cs 6 _ rfl)
              have f7 : wk.cell? ⟨b4, o4 + kb * 15 + 7, none⟩ = some (.int .i64 sint) := HSp.out.num (cs 7 _ rfl)
              obtain ⟨sp', f8, _⟩ := HSp.out.str (cs 8 _ rfl)
              have f8 : wk.cell? ⟨b4, o4 + kb * 15 + 8, none⟩ = some (.string sp') := f8
              have f9 : wk.cell? ⟨b4, o4 + kb * 15 + 9, none⟩ = some (.slice a3 m3 q3) := HSp.out.sl (cs 9 _ rfl)
              have f10 : wk.cell? ⟨b4, o4 + kb * 15 + 10, none⟩ = some (.slice a4 m4 q4) := HSp.out.sl (cs 10 _ rfl)
              have f11 : wk.cell? ⟨b4, o4 + kb * 15 + 11, none⟩ = some (.slice a5 m5 q5) := HSp.out.sl (cs 11 _ rfl)
              have f12 : wk.cell? ⟨b4, o4 + kb * 15 + 12, none⟩ = some (.slice a6 m6 q6) := HSp.out.sl (cs 12 _ rfl)
              have f13 : wk.cell? ⟨b4, o4 + kb * 15 + 13, none⟩ = some (.slice a7 m7 q7) := HSp.out.sl (cs 13 _ rfl)
              have f14 : wk.cell? ⟨b4, o4 + kb * 15 + 14, none⟩ = some (.int .i64 spos) := HSp.out.num (cs 14 _ rfl)
              have hi0 : (0 : Int) ≤ (kb : Int) := Int.natCast_nonneg _
              have hi1 : (kb : Int) < (n3 : Int) := by omega
              have Hcs := Lib.hid cs
              clear cs hs hins
              go_wp2_with fail
              obtain ⟨wcur, hwcur⟩ : ∃ W1, W1 = wk.alloc (Obj.cells #[.int .u8 so', .string sn', .string ss', .slice a1 m1 q1, .int .u8 sk', .string st', .slice a2 m2 q2, .int .i64 sint, .string sp', .slice a3 m3 q3, .slice a4 m4 q4, .slice a5 m5 q5, .slice a6 m6 q6, .slice a7 m7 q7, .int .i64 spos] 73) := ⟨_, rfl⟩
              rw [← hwcur]
              have hzd : wk.heap.size < wcur.heap.size := by rw [hwcur]; simp
              have HSp : Hid (Spoil m hB W wcur) := Lib.hid (hwcur ▸ HSp.out.alloc _)
              have HP : Hid (wcur.heap[W.heap.size]? = some (.cells #[.slice (some ⟨b1, o1, none⟩) n cap] 24 (0, 0))) := Lib.hid (hwcur ▸ (Below.heap_alloc wk _ W.heap.size (by omega)).trans HP.out)
              have HX : Hid (wcur.heap[wo.heap.size]? = some (.cells #[.int .u8 kd', .string nm', .slice d1 n1 c1, .int .u8 tk', .string tn', .slice d2 n2 c2, .slice (some ⟨b4, o4, none⟩) n3 c3, .int .u8 ro', .int .i64 rint, .string rn', .string rs', .string rp', .slice d4 n4 c4, .slice d5 n5 c5, .int .i64 rpos, .int .i64 pos] 45 (0, 0))) := Lib.hid (hwcur ▸ (Below.heap_alloc wk _ wo.heap.size (by omega)).trans HX.out)
              have HY : Hid (wcur.heap[wk.heap.size]? = some (.cells #[.int .u8 so', .string sn', .string ss', .slice a1 m1 q1, .int .u8 sk', .string st', .slice a2 m2 q2, .int .i64 sint, .string sp', .slice a3 m3 q3, .slice a4 m4 q4, .slice a5 m5 q5, .slice a6 m6 q6, .slice a7 m7 q7, .int .i64 spos] 73 (0, 0))) := Lib.hid (hwcur ▸ heap_alloc_new wk _)
              clear hwcur cxkb f0 f1 f2 f3 f4 f5 f6 f7 f8 f9 f10 f11 f12 f13 f14
              have cs2 := cell_of_row _ _ 3 _ _ _ HY.out
              have cs2 : wcur.cell? ⟨wk.heap.size, 3, none⟩ = some (.slice a1 m1 q1) := cs2
              go_wp2_with fail
              go_loopw [7] (fun i wy => ∃ kk : Nat, kk ≤ m1 ∧ i = .int .i64 kk ∧ wy.cell? ⟨wk.heap.size, 3, none⟩ = some (.slice a1 m1 q1) ∧ wcur.heap.size ≤ wy.heap.size ∧ Hid (Spoil m hB W wy) ∧ Hid (wy.heap[W.heap.size]? = some (.cells #[.slice (some ⟨b1, o1, none⟩) n cap] 24 (0, 0))) ∧ Hid (wy.heap[wo.heap.size]? = some (.cells #[.int .u8 kd', .string nm', .slice d1 n1 c1, .int .u8 tk', .string tn', .slice d2 n2 c2, .slice (some ⟨b4, o4, none⟩) n3 c3, .int .u8 ro', .int .i64 rint, .string rn', .string rs', .string rp', .slice d4 n4 c4, .slice d5 n5 c5, .int .i64 rpos, .int .i64 pos] 45 (0, 0))) ∧ Hid (wy.heap[wk.heap.size]? = some (.cells #[.int .u8 so', .string sn', .string ss', .slice a1 m1 q1, .int .u8 sk', .string st', .slice a2 m2 q2, .int .i64 sint, .string sp', .slice a3 m3 q3, .slice a4 m4 q4, .slice a5 m5 q5, .slice a6 m6 q6, .slice a7 m7 q7, .int .i64 spos] 73 (0, 0))))
                (fun i _ => m1 - (intOf i).toNat)
              case atStart => exact ⟨0, Nat.zero_le _, rfl, cs2, Nat.le_refl _, HSp, HP, HX, HY⟩
              case round =>
                obtain ⟨j2, hk2, rfl, cxj2, hz2, HSp, HP, HX, HY⟩ := hrel
                clear cs2
                by_cases hl2 : j2 < m1
                · obtain ⟨te, hte, hine⟩ := get_at (l := sns) (k := j2) (by rw [← ZS1.out]; exact hl2)
                  obtain ⟨had, hbx⟩ := XS1.out.resolve_left (by omega)
                  subst had
                  have hc := NRow.cellsAt RS1.out j2 _ (by rw [List.getElem?_map, hte]; rfl)
                  obtain ⟨tv, h1, h2, h3, h4⟩ := HSp.out.str hc
                  have h1 : wr.cell? ⟨g1, p1 + j2, none⟩ = some (.string tv) := h1
                  have h2 : wr.frozen? ⟨g1, p1 + j2, none⟩ = false := h2
                  have hj0 : (0 : Int) ≤ (j2 : Int) := Int.natCast_nonneg _
                  have hj1 : (j2 : Int) < (m1 : Int) := by omega
                  clear hc hte hine
                  go_wp2_with fail
                  go_round
                  case rel => exact ⟨j2 + 1, by omega, by go_num, (World.cell?_of_block (Below.heap_setCell _ _ _ _ (by simp; omega))).trans cxj2, by simp; omega, Lib.hid (HSp.out.set h1 (.str _ _) h3 h4), Lib.hid ((Below.heap_setCell _ _ _ _ (by simp; omega)).trans HP.out), Lib.hid ((Below.heap_setCell _ _ _ _ (by simp; omega)).trans HX.out), Lib.hid ((Below.heap_setCell _ _ _ _ (by simp; omega)).trans HY.out)⟩
                  case measure => simp [intOf]; omega
                · obtain rfl : m1 = j2 := by omega
                  obtain ⟨wcur, hwcur⟩ : ∃ W1 : World, W1 = wr := ⟨_, rfl⟩
                  subst hwcur
                  have cs3 := cell_of_row _ _ 9 _ _ _ HY.out
                  have cs3 : wcur.cell? ⟨wk.heap.size, 9, none⟩ = some (.slice a3 m3 q3) := cs3
                  go_wp2_with fail
                  go_loopw [8] (fun i wy => ∃ kk : Nat, kk ≤ m3 ∧ i = .int .i64 kk ∧ wy.cell? ⟨wk.heap.size, 9, none⟩ = some (.slice a3 m3 q3) ∧ wcur.heap.size ≤ wy.heap.size ∧ Hid (Spoil m hB W wy) ∧ Hid (wy.heap[W.heap.size]? = some (.cells #[.slice (some ⟨b1, o1, none⟩) n cap] 24 (0, 0))) ∧ Hid (wy.heap[wo.heap.size]? = some (.cells #[.int .u8 kd', .string nm', .slice d1 n1 c1, .int .u8 tk', .string tn', .slice d2 n2 c2, .slice (some ⟨b4, o4, none⟩) n3 c3, .int .u8 ro', .int .i64 rint, .string rn', .string rs', .string rp', .slice d4 n4 c4, .slice d5 n5 c5, .int .i64 rpos, .int .i64 pos] 45 (0, 0))) ∧ Hid (wy.heap[wk.heap.size]? = some (.cells #[.int .u8 so', .string sn', .string ss', .slice a1 m1 q1, .int .u8 sk', .string st', .slice a2 m2 q2, .int .i64 sint, .string sp', .slice a3 m3 q3, .slice a4 m4 q4, .slice a5 m5 q5, .slice a6 m6 q6, .slice a7 m7 q7, .int .i64 spos] 73 (0, 0))))
                    (fun i _ => m3 - (intOf i).toNat)
                  case atStart => exact ⟨0, Nat.zero_le _, rfl, cs3, Nat.le_refl _, HSp, HP, HX, HY⟩
                  case round =>
                    obtain ⟨j3, hk3, rfl, cxj3, hz3, HSp, HP, HX, HY⟩ := hrel
                    clear cs3
                    by_cases hl3 : j3 < m3
                    · obtain ⟨te, hte, hine⟩ := get_at (l := spl.path) (k := j3) (by rw [← ZS2.out]; exact hl3)
                      obtain ⟨had, hbx⟩ := XS2.out.resolve_left (by omega)
                      subst had
                      have hc := NRow.cellsAt RS2.out j3 _ (by rw [List.getElem?_map, hte]; rfl)
                      obtain ⟨tv, h1, h2, h3, h4⟩ := HSp.out.str hc
                      have h1 : wr.cell? ⟨g2, p2 + j3, none⟩ = some (.string tv) := h1
                      have h2 : wr.frozen? ⟨g2, p2 + j3, none⟩ = false := h2
                      have hj0 : (0 : Int) ≤ (j3 : Int) := Int.natCast_nonneg _
                      have hj1 : (j3 : Int) < (m3 : Int) := by omega
                      clear hc hte hine
                      go_wp2_with fail
                      go_round
                      case rel => exact ⟨j3 + 1, by omega, by go_num, (World.cell?_of_block (Below.heap_setCell _ _ _ _ (by simp; omega))).trans cxj3, by simp; omega, Lib.hid (HSp.out.set h1 (.str _ _) h3 h4), Lib.hid ((Below.heap_setCell _ _ _ _ (by simp; omega)).trans HP.out), Lib.hid ((Below.heap_setCell _ _ _ _ (by simp; omega)).trans HX.out), Lib.hid ((Below.heap_setCell _ _ _ _ (by simp; omega)).trans HY.out)⟩
                      case measure => simp [intOf]; omega
                    · obtain rfl : m3 = j3 := by omega
                      obtain ⟨wcur, hwcur⟩ : ∃ W1 : World, W1 = wr := ⟨_, rfl⟩
                      subst hwcur
                      have cs4 := cell_of_row _ _ 10 _ _ _ HY.out
                      have cs4 : wcur.cell? ⟨wk.heap.size, 10, none⟩ = some (.slice a4 m4 q4) := cs4
                      go_wp2_with fail
                      go_loopw [9] (fun i wy => ∃ kk : Nat, kk ≤ m4 ∧ i = .int .i64 kk ∧ wy.cell? ⟨wk.heap.size, 10, none⟩ = some (.slice a4 m4 q4) ∧ wcur.heap.size ≤ wy.heap.size ∧ Hid (Spoil m hB W wy) ∧ Hid (wy.heap[W.heap.size]? = some (.cells #[.slice (some ⟨b1, o1, none⟩) n cap] 24 (0, 0))) ∧ Hid (wy.heap[wo.heap.size]? = some (.cells #[.int .u8 kd', .string nm', .slice d1 n1 c1, .int .u8 tk', .string tn', .slice d2 n2 c2, .slice (some ⟨b4, o4, none⟩) n3 c3, .int .u8 ro', .int .i64 rint, .string rn', .string rs', .string rp', .slice d4 n4 c4, .slice d5 n5 c5, .int .i64 rpos, .int .i64 pos] 45 (0, 0))) ∧ Hid (wy.heap[wk.heap.size]? = some (.cells #[.int .u8 so', .string sn', .string ss', .slice a1 m1 q1, .int .u8 sk', .string st', .slice a2 m2 q2, .int .i64 sint, .string sp', .slice a3 m3 q3, .slice a4 m4 q4, .slice a5 m5 q5, .slice a6 m6 q6, .slice a7 m7 q7, .int .i64 spos] 73 (0, 0))))
                        (fun i _ => m4 - (intOf i).toNat)
                      case atStart => exact ⟨0, Nat.zero_le _, rfl, cs4, Nat.le_refl _, HSp, HP, HX, HY⟩
                      case round =>
                        obtain ⟨j4, hk4, rfl, cxj4, hz4, HSp, HP, HX, HY⟩ := hrel
                        clear cs4
                        by_cases hl4 : j4 < m4
                        · obtain ⟨te, hte, hine⟩ := get_at (l := ses) (k := j4) (by rw [← ZS3.out]; exact hl4)
                          obtain ⟨had, hbx⟩ := XS3.out.resolve_left (by omega)
                          subst had
                          obtain ⟨vq, cq, _⟩ := PE.Row.get RS3.out hte
                          have hc := cq 0 _ rfl
                          obtain ⟨tv, h1, h2, h3, h4⟩ := HSp.out.byte hc
                          have h1 : wr.cell? ⟨g3, p3 + j4 * 8, none⟩ = some (.int .u8 tv) := h1
                          have h2 : wr.frozen? ⟨g3, p3 + j4 * 8, none⟩ = false := h2
                          have hj0 : (0 : Int) ≤ (j4 : Int) := Int.natCast_nonneg _
                          have hj1 : (j4 : Int) < (m4 : Int) := by omega
                          clear hc cq hte hine
                          go_wp2_with fail
                          go_round
                          case rel => exact ⟨j4 + 1, by omega, by go_num, (World.cell?_of_block (Below.heap_setCell _ _ _ _ (by simp; omega))).trans cxj4, by simp; omega, Lib.hid (HSp.out.set h1 (.u8 _ _) h3 h4), Lib.hid ((Below.heap_setCell _ _ _ _ (by simp; omega)).trans HP.out), Lib.hid ((Below.heap_setCell _ _ _ _ (by simp; omega)).trans HX.out), Lib.hid ((Below.heap_setCell _ _ _ _ (by simp; omega)).trans HY.out)⟩
                          case measure => simp [intOf]; omega
                        · obtain rfl : m4 = j4 := by omega
                          obtain ⟨wcur, hwcur⟩ : ∃ W1 : World, W1 = wr := ⟨_, rfl⟩
                          subst hwcur
                          have cs5 := cell_of_row _ _ 11 _ _ _ HY.out
                          have cs5 : wcur.cell? ⟨wk.heap.size, 11, none⟩ = some (.slice a5 m5 q5) := cs5
                          go_wp2_with fail
                          go_loopw [10] (fun i wy => ∃ kk : Nat, kk ≤ m5 ∧ i = .int .i64 kk ∧ wy.cell? ⟨wk.heap.size, 11, none⟩ = some (.slice a5 m5 q5) ∧ wcur.heap.size ≤ wy.heap.size ∧ Hid (Spoil m hB W wy) ∧ Hid (wy.heap[W.heap.size]? = some (.cells #[.slice (some ⟨b1, o1, none⟩) n cap] 24 (0, 0))) ∧ Hid (wy.heap[wo.heap.size]? = some (.cells #[.int .u8 kd', .string nm', .slice d1 n1 c1, .int .u8 tk', .string tn', .slice d2 n2 c2, .slice (some ⟨b4, o4, none⟩) n3 c3, .int .u8 ro', .int .i64 rint, .string rn', .string rs', .string rp', .slice d4 n4 c4, .slice d5 n5 c5, .int .i64 rpos, .int .i64 pos] 45 (0, 0))) ∧ Hid (wy.heap[wk.heap.size]? = some (.cells #[.int .u8 so', .string sn', .string ss', .slice a1 m1 q1, .int .u8 sk', .string st', .slice a2 m2 q2, .int .i64 sint, .string sp', .slice a3 m3 q3, .slice a4 m4 q4, .slice a5 m5 q5, .slice a6 m6 q6, .slice a7 m7 q7, .int .i64 spos] 73 (0, 0))))
                            (fun i _ => m5 - (intOf i).toNat)
                          case atStart => exact ⟨0, Nat.zero_le _, rfl, cs5, Nat.le_refl _, HSp, HP, HX, HY⟩
                          case round =>
                            obtain ⟨j5, hk5, rfl, cxj5, hz5, HSp, HP, HX, HY⟩ := hrel
                            clear cs5
                            by_cases hl5 : j5 < m5
                            · obtain ⟨te, hte, hine⟩ := get_at (l := sbo) (k := j5) (by rw [← ZS4.out]; exact hl5)
                              obtain ⟨had, hbx⟩ := XS4.out.resolve_left (by omega)
                              subst had
                              obtain ⟨so2, sn2, ss2, sns2, sty2, sint2, spl2, ses2, sbo2, sel2, sar2, spos2⟩ := te
                              obtain ⟨vq, cq, _⟩ := PS.Row.get RS4.out hte
                              have hc := cq 0 _ rfl
                              obtain ⟨tv, h1, h2, h3, h4⟩ := HSp.out.byte hc
                              have h1 : wr.cell? ⟨g4, p4 + j5 * 15, none⟩ = some (.int .u8 tv) := h1
                              have h2 : wr.frozen? ⟨g4, p4 + j5 * 15, none⟩ = false := h2
                              have hj0 : (0 : Int) ≤ (j5 : Int) := Int.natCast_nonneg _
                              have hj1 : (j5 : Int) < (m5 : Int) := by omega
                              clear hc cq hte hine
                              go_wp2_with fail
                              go_round
                              case rel => exact ⟨j5 + 1, by omega, by go_num, (World.cell?_of_block (Below.heap_setCell _ _ _ _ (by simp; omega))).trans cxj5, by simp; omega, Lib.hid (HSp.out.set h1 (.u8 _ _) h3 h4), Lib.hid ((Below.heap_setCell _ _ _ _ (by simp; omega)).trans HP.out), Lib.hid ((Below.heap_setCell _ _ _ _ (by simp; omega)).trans HX.out), Lib.hid ((Below.heap_setCell _ _ _ _ (by simp; omega)).trans HY.out)⟩
                              case measure => simp [intOf]; omega
                            · obtain rfl : m5 = j5 := by omega
                              obtain ⟨wcur, hwcur⟩ : ∃ W1 : World, W1 = wr := ⟨_, rfl⟩
                              subst hwcur
                              have cs6 := cell_of_row _ _ 13 _ _ _ HY.out
                              have cs6 : wcur.cell? ⟨wk.heap.size, 13, none⟩ = some (.slice a7 m7 q7) := cs6
                              go_wp2_with fail
                              go_loopw [11] (fun i wy => ∃ kk : Nat, kk ≤ m7 ∧ i = .int .i64 kk ∧ wy.cell? ⟨wk.heap.size, 13, none⟩ = some (.slice a7 m7 q7) ∧ wcur.heap.size ≤ wy.heap.size ∧ Hid (Spoil m hB W wy) ∧ Hid (wy.heap[W.heap.size]? = some (.cells #[.slice (some ⟨b1, o1, none⟩) n cap] 24 (0, 0))) ∧ Hid (wy.heap[wo.heap.size]? = some (.cells #[.int .u8 kd', .string nm', .slice d1 n1 c1, .int .u8 tk', .string tn', .slice d2 n2 c2, .slice (some ⟨b4, o4, none⟩) n3 c3, .int .u8 ro', .int .i64 rint, .string rn', .string rs', .string rp', .slice d4 n4 c4, .slice d5 n5 c5, .int .i64 rpos, .int .i64 pos] 45 (0, 0))) ∧ Hid (wy.heap[wk.heap.size]? = some (.cells #[.int .u8 so', .string sn', .string ss', .slice a1 m1 q1, .int .u8 sk', .string st', .slice a2 m2 q2, .int .i64 sint, .string sp', .slice a3 m3 q3, .slice a4 m4 q4, .slice a5 m5 q5, .slice a6 m6 q6, .slice a7 m7 q7, .int .i64 spos] 73 (0, 0))))
                                (fun i _ => m7 - (intOf i).toNat)
                              case atStart => exact ⟨0, Nat.zero_le _, rfl, cs6, Nat.le_refl _, HSp, HP, HX, HY⟩
                              case round =>
                                obtain ⟨j6, hk6, rfl, cxj6, hz6, HSp, HP, HX, HY⟩ := hrel
                                clear cs6
                                by_cases hl6 : j6 < m7
                                · obtain ⟨te, hte, hine⟩ := get_at (l := sar) (k := j6) (by rw [← ZS5.out]; exact hl6)
                                  obtain ⟨had, hbx⟩ := XS5.out.resolve_left (by omega)
                                  subst had
                                  obtain ⟨av2, an2, abo2⟩ := te
                                  obtain ⟨vq, cq, _⟩ := PA.Row.get RS5.out hte
                                  have hc := cq 1 _ rfl
                                  obtain ⟨tv, h1, h2, h3, h4⟩ := HSp.out.str hc
                                  have h1 : wr.cell? ⟨g5, p5 + j6 * 3 + 1, none⟩ = some (.string tv) := h1
                                  have h2 : wr.frozen? ⟨g5, p5 + j6 * 3 + 1, none⟩ = false := h2
                                  have hj0 : (0 : Int) ≤ (j6 : Int) := Int.natCast_nonneg _
                                  have hj1 : (j6 : Int) < (m7 : Int) := by omega
                                  clear hc cq hte hine
                                  go_wp2_with fail
                                  go_round
                                  case rel => exact ⟨j6 + 1, by omega, by go_num, (World.cell?_of_block (Below.heap_setCell _ _ _ _ (by simp; omega))).trans cxj6, by simp; omega, Lib.hid (HSp.out.set h1 (.str _ _) h3 h4), Lib.hid ((Below.heap_setCell _ _ _ _ (by simp; omega)).trans HP.out), Lib.hid ((Below.heap_setCell _ _ _ _ (by simp; omega)).trans HX.out), Lib.hid ((Below.heap_setCell _ _ _ _ (by simp; omega)).trans HY.out)⟩
                                  case measure => simp [intOf]; omega
                                · obtain rfl : m7 = j6 := by omega
                                  obtain ⟨wcur, hwcur⟩ : ∃ W1 : World, W1 = wr := ⟨_, rfl⟩
                                  subst hwcur
                                  have c6 : wcur.cell? ⟨wo.heap.size, 6, none⟩ = some (.slice (some ⟨b4, o4, none⟩) n3 c3) := cell_of_row _ _ 6 _ _ _ HX.out
                                  obtain ⟨tv, h1, h2, h3, h4⟩ := HSp.out.byte (Hcs.out 0 _ rfl)
                                  have h1 : wcur.cell? ⟨b4, o4 + kb * 15, none⟩ = some (.int .u8 tv) := h1
                                  have h2 : wcur.frozen? ⟨b4, o4 + kb * 15, none⟩ = false := h2
                                  go_wp2_with fail
                                  go_round
                                  case rel => exact ⟨kb + 1, by omega, by go_num, (World.cell?_of_block (Below.heap_setCell _ _ _ _ (by simp; omega))).trans c6, by simp; omega, Lib.hid (HSp.out.set h1 (.u8 _ _) h3 h4), Lib.hid ((Below.heap_setCell _ _ _ _ (by simp; omega)).trans HP.out), Lib.hid ((Below.heap_setCell _ _ _ _ (by simp; omega)).trans HX.out)⟩
                                  case measure => simp [intOf]; omega
            · obtain rfl : n3 = kb := by omega
              obtain ⟨wcur, hwcur⟩ : ∃ W1 : World, W1 = wk := ⟨_, rfl⟩
              subst hwcur
              have cs7 := cell_of_row _ _ 13 _ _ _ HX.out
              have cs7 : wcur.cell? ⟨wo.heap.size, 13, none⟩ = some (.slice d5 n5 c5) := cs7
              go_wp2_with fail
              go_loopw [12] (fun i wy => ∃ kk : Nat, kk ≤ n5 ∧ i = .int .i64 kk ∧ wy.cell? ⟨wo.heap.size, 13, none⟩ = some (.slice d5 n5 c5) ∧ wcur.heap.size ≤ wy.heap.size ∧ Hid (Spoil m hB W wy) ∧ Hid (wy.heap[W.heap.size]? = some (.cells #[.slice (some ⟨b1, o1, none⟩) n cap] 24 (0, 0))) ∧ Hid (wy.heap[wo.heap.size]? = some (.cells #[.int .u8 kd', .string nm', .slice d1 n1 c1, .int .u8 tk', .string tn', .slice d2 n2 c2, .slice d3 n3 c3, .int .u8 ro', .int .i64 rint, .string rn', .string rs', .string rp', .slice d4 n4 c4, .slice d5 n5 c5, .int .i64 rpos, .int .i64 pos] 45 (0, 0))))
                (fun i _ => n5 - (intOf i).toNat)
              case atStart => exact ⟨0, Nat.zero_le _, rfl, cs7, Nat.le_refl _, HSp, HP, HX⟩
              case round =>
                obtain ⟨j7, hk7, rfl, cxj7, hz7, HSp, HP, HX⟩ := hrel
                clear cs7
                by_cases hl7 : j7 < n5
                · obtain ⟨te, hte, hine⟩ := get_at (l := rl) (k := j7) (by rw [← Z5.out]; exact hl7)
                  obtain ⟨had, hbx⟩ := X5.out.resolve_left (by omega)
                  subst had
                  obtain ⟨vq, cq, _⟩ := PE.Row.get R5.out hte
                  have hc := cq 0 _ rfl
                  obtain ⟨tv, h1, h2, h3, h4⟩ := HSp.out.byte hc
                  have h1 : wr.cell? ⟨b5, o5 + j7 * 8, none⟩ = some (.int .u8 tv) := h1
                  have h2 : wr.frozen? ⟨b5, o5 + j7 * 8, none⟩ = false := h2
                  have hj0 : (0 : Int) ≤ (j7 : Int) := Int.natCast_nonneg _
                  have hj1 : (j7 : Int) < (n5 : Int) := by omega
                  clear hc cq hte hine
                  go_wp2_with fail
                  go_round
                  case rel => exact ⟨j7 + 1, by omega, by go_num, (World.cell?_of_block (Below.heap_setCell _ _ _ _ (by simp; omega))).trans cxj7, by simp; omega, Lib.hid (HSp.out.set h1 (.u8 _ _) h3 h4), Lib.hid ((Below.heap_setCell _ _ _ _ (by simp; omega)).trans HP.out), Lib.hid ((Below.heap_setCell _ _ _ _ (by simp; omega)).trans HX.out)⟩
                  case measure => simp [intOf]; omega
                · obtain rfl : n5 = j7 := by omega
                  obtain ⟨wcur, hwcur⟩ : ∃ W1 : World, W1 = wr := ⟨_, rfl⟩
                  subst hwcur
                  have cs8 := cell_of_row _ _ 5 _ _ _ HX.out
                  have cs8 : wcur.cell? ⟨wo.heap.size, 5, none⟩ = some (.slice d2 n2 c2) := cs8
                  go_wp2_with fail
                  go_loopw [13] (fun i wy => ∃ kk : Nat, kk ≤ n2 ∧ i = .int .i64 kk ∧ wy.cell? ⟨wo.heap.size, 5, none⟩ = some (.slice d2 n2 c2) ∧ wcur.heap.size ≤ wy.heap.size ∧ Hid (Spoil m hB W wy) ∧ Hid (wy.heap[W.heap.size]? = some (.cells #[.slice (some ⟨b1, o1, none⟩) n cap] 24 (0, 0))) ∧ Hid (wy.heap[wo.heap.size]? = some (.cells #[.int .u8 kd', .string nm', .slice d1 n1 c1, .int .u8 tk', .string tn', .slice d2 n2 c2, .slice d3 n3 c3, .int .u8 ro', .int .i64 rint, .string rn', .string rs', .string rp', .slice d4 n4 c4, .slice d5 n5 c5, .int .i64 rpos, .int .i64 pos] 45 (0, 0))))
                    (fun i _ => n2 - (intOf i).toNat)
                  case atStart => exact ⟨0, Nat.zero_le _, rfl, cs8, Nat.le_refl _, HSp, HP, HX⟩
                  case round =>
                    obtain ⟨j8, hk8, rfl, cxj8, hz8, HSp, HP, HX⟩ := hrel
                    clear cs8
                    by_cases hl8 : j8 < n2
                    · obtain ⟨te, hte, hine⟩ := get_at (l := tl) (k := j8) (by rw [← Z3.out]; exact hl8)
                      obtain ⟨had, hbx⟩ := X3.out.resolve_left (by omega)
                      subst had
                      obtain ⟨vq, cq, _⟩ := PT.Row.get R3.out hte
                      have hc := cq 0 _ rfl
                      obtain ⟨tv, h1, h2, h3, h4⟩ := HSp.out.byte hc
                      have h1 : wr.cell? ⟨b3, o3 + j8 * 3, none⟩ = some (.int .u8 tv) := h1
                      have h2 : wr.frozen? ⟨b3, o3 + j8 * 3, none⟩ = false := h2
                      have hj0 : (0 : Int) ≤ (j8 : Int) := Int.natCast_nonneg _
                      have hj1 : (j8 : Int) < (n2 : Int) := by omega
                      clear hc cq hte hine
                      go_wp2_with fail
                      go_round
                      case rel => exact ⟨j8 + 1, by omega, by go_num, (World.cell?_of_block (Below.heap_setCell _ _ _ _ (by simp; omega))).trans cxj8, by simp; omega, Lib.hid (HSp.out.set h1 (.u8 _ _) h3 h4), Lib.hid ((Below.heap_setCell _ _ _ _ (by simp; omega)).trans HP.out), Lib.hid ((Below.heap_setCell _ _ _ _ (by simp; omega)).trans HX.out)⟩
                      case measure => simp [intOf]; omega
                    · obtain rfl : n2 = j8 := by omega
                      obtain ⟨wcur, hwcur⟩ : ∃ W1 : World, W1 = wr := ⟨_, rfl⟩
                      subst hwcur
                      have c0 : wcur.cell? ⟨W.heap.size, 0, none⟩ = some (.slice (some ⟨b1, o1, none⟩) n cap) := cell_of_row _ _ 0 _ _ _ HP.out
                      obtain ⟨tv, h1, h2, h3, h4⟩ := HSp.out.str (Hct.out 1 _ rfl)
                      have h1 : wcur.cell? ⟨b1, o1 + k * 16 + 1, none⟩ = some (.string tv) := h1
                      have h2 : wcur.frozen? ⟨b1, o1 + k * 16 + 1, none⟩ = false := h2
                      go_wp2_with fail
                      go_round
                      case rel => exact ⟨k + 1, by omega, by go_num, (World.cell?_of_block (Below.heap_setCell _ _ _ _ (by simp; omega))).trans c0, by simp; omega, Lib.hid (HSp.out.set h1 (.str _ _) h3 h4), Lib.hid ((Below.heap_setCell _ _ _ _ (by simp; omega)).trans HP.out)⟩
                      case measure => simp [intOf]; omega
    · obtain rfl : n = k := by omega
      go_wp2_with fail
      go_end0
      exact ⟨rfl, HSp.out⟩
end Go.Proofs.Ytabncmmadbjegaa
