/- TreeJoined: the walk. -/
import Derived.Test.YtabncmmadbjegaaGreatTreeAwake
import Derived.Test.YtabncmmadbjegaaGreatTreeJoinedMath
import Derived.Test.YtabncmmadbjegaaGreatTreeGreat
import Derived.Deep.Cut
import Derived.Test.YtabncmmadbjegaaGreatJoinD
namespace Go.Proofs.YtabncmmadbjegaaGreat
open Go.RowKit Go.Shelf
set_option linter.unusedVariables false

theorem progIn_shape {B : Nat} {W : World} {l : List PI} {v : Value} (h : ProgIn B W l v) : ∃ ao n c, v = .slice ao n c := by
  obtain ⟨b, o, ⟨_, ao, c, e, _⟩, _⟩ := h
  exact ⟨ao, _, c, e⟩
set_option maxRecDepth 100000 in
set_option maxHeartbeats 8000000 in
theorem treeJoined1_walk (p q : List PI) (p1 : Option Addr) (n1 c1 : Nat) (p2 : Option Addr) (n2 c2 : Nat) (w : World) (hp : ProgIn w.heap.size w p (.slice p1 n1 c1)) (hq : ProgIn w.heap.size w q (.slice p2 n2 c2)) (hz1 : p1 = none → n1 = 0 ∧ c1 = 0) (hz2 : p2 = none → n2 = 0 ∧ c2 = 0)
    (AW : Hid (∀ W, Below w.heap.size w W → Calls Tryz.prog 17 #[] W fun e w' => e = .returned (.bool true) ∧ Below W.heap.size W w'))
    (GP : Hid (∀ W v, Below w.heap.size w W → ProgIn W.heap.size W p v → Calls Tryz.prog 8 #[.agg #[v]] W fun e w' => e = .returned (.bool true) ∧ Below W.heap.size W w')) :
    Calls Tryz.prog 5 #[.agg #[.slice p1 n1 c1], .agg #[.slice p2 n2 c2]] w fun r w' => r = .returned (.bool true) ∧ Below w.heap.size w w' := by
  have PP := Lib.hid (fun (W : World) (h : Below w.heap.size w W) => (show ProgIn W.heap.size W p (.slice p1 n1 c1) from by
    obtain ⟨b, o, h1, h2⟩ := hp; exact ⟨b, o, h1.up h.size, PI.Row.reads h.size (fun a v hc => (h.cell (World.block_lt_of_cell? w a hc)).trans hc) h2⟩))
  have bx := Lib.hid (box2 w (.cells #[.slice p1 n1 c1] 24) (.cells #[.slice p2 n2 c2] 24))
  clear hp hq hz1 hz2
  go_enter Tryz.func5, Tryz.ntmps5
  go_wp2_with fail
  refine (AW.out _ bx.out).mono ?_; rintro e w1 ⟨rfl, b1⟩
  have bel1 := Lib.hid (up_tr bx.out b1)
  have hc1 := old_cells b1
  go_wp2_with fail
  refine (GP.out _ _ bel1.out (PP.out _ bel1.out)).mono ?_; rintro e w2 ⟨rfl, b2⟩
  have bel2 := Lib.hid (up_tr bel1.out b2)
  clear b2
  go_wp2
  go_ret
  exact ⟨rfl, bel2.out⟩
set_option maxRecDepth 100000 in
set_option maxHeartbeats 8000000 in
theorem treeJoined2_walk (p q : List PI) (p1 : Option Addr) (n1 c1 : Nat) (p2 : Option Addr) (n2 c2 : Nat) (w : World) (hp : ProgIn w.heap.size w p (.slice p1 n1 c1)) (hq : ProgIn w.heap.size w q (.slice p2 n2 c2)) (hz1 : p1 = none → n1 = 0 ∧ c1 = 0) (hz2 : p2 = none → n2 = 0 ∧ c2 = 0)
    (AW : Hid (∀ W, Below w.heap.size w W → Calls Tryz.prog 17 #[] W fun e w' => e = .returned (.bool true) ∧ Below W.heap.size W w'))
    (GP : Hid (∀ W v, Below w.heap.size w W → ProgIn W.heap.size W p v → Calls Tryz.prog 8 #[.agg #[v]] W fun e w' => e = .returned (.bool false) ∧ Below W.heap.size W w'))
    (GQ : Hid (∀ W v, Below w.heap.size w W → ProgIn W.heap.size W q v → Calls Tryz.prog 8 #[.agg #[v]] W fun e w' => e = .returned (.bool true) ∧ Below W.heap.size W w')) :
    Calls Tryz.prog 5 #[.agg #[.slice p1 n1 c1], .agg #[.slice p2 n2 c2]] w fun r w' => r = .returned (.bool true) ∧ Below w.heap.size w w' := by
  have PP := Lib.hid (fun (W : World) (h : Below w.heap.size w W) => (show ProgIn W.heap.size W p (.slice p1 n1 c1) from by
    obtain ⟨b, o, h1, h2⟩ := hp; exact ⟨b, o, h1.up h.size, PI.Row.reads h.size (fun a v hc => (h.cell (World.block_lt_of_cell? w a hc)).trans hc) h2⟩))
  have PQ := Lib.hid (fun (W : World) (h : Below w.heap.size w W) => (show ProgIn W.heap.size W q (.slice p2 n2 c2) from by
    obtain ⟨b, o, h1, h2⟩ := hq; exact ⟨b, o, h1.up h.size, PI.Row.reads h.size (fun a v hc => (h.cell (World.block_lt_of_cell? w a hc)).trans hc) h2⟩))
  have bx := Lib.hid (box2 w (.cells #[.slice p1 n1 c1] 24) (.cells #[.slice p2 n2 c2] 24))
  clear hp hq hz1 hz2
  go_enter Tryz.func5, Tryz.ntmps5
  go_wp2_with fail
  refine (AW.out _ bx.out).mono ?_; rintro e w1 ⟨rfl, b1⟩
  have bel1 := Lib.hid (up_tr bx.out b1)
  have hc1 := old_cells b1
  go_wp2_with fail
  refine (GP.out _ _ bel1.out (PP.out _ bel1.out)).mono ?_; rintro e w2 ⟨rfl, b2⟩
  have bel2 := Lib.hid (up_tr bel1.out b2)
  have qq := up_tr b1 b2
  have hc2 := old_cells qq
  clear hc1 b1 b2
  go_wp2_with fail
  refine (GQ.out _ _ bel2.out (PQ.out _ bel2.out)).mono ?_; rintro e w3 ⟨rfl, b3⟩
  have bel3 := Lib.hid (up_tr bel2.out b3)
  clear b3
  go_wp2
  go_ret
  exact ⟨rfl, bel3.out⟩
set_option maxRecDepth 100000 in
set_option maxHeartbeats 8000000 in
theorem treeJoined0_walk (p q : List PI) (p1 : Option Addr) (n1 c1 : Nat) (p2 : Option Addr) (n2 c2 : Nat) (w : World) (hp : ProgIn w.heap.size w p (.slice p1 n1 c1)) (hq : ProgIn w.heap.size w q (.slice p2 n2 c2)) (hz1 : p1 = none → n1 = 0 ∧ c1 = 0) (hz2 : p2 = none → n2 = 0 ∧ c2 = 0) (lp : p.length ≤ 20000) (lq : q.length ≤ 20000) (dp dq sp sq : Nat) (wp wq : Bool)
    (AW : Hid (∀ W, Below w.heap.size w W → Calls Tryz.prog 17 #[] W fun e w' => e = .returned (.bool true) ∧ Below W.heap.size W w'))
    (GP : Hid (∀ W v, Below w.heap.size w W → ProgIn W.heap.size W p v → Calls Tryz.prog 8 #[.agg #[v]] W fun e w' => e = .returned (.bool false) ∧ Below W.heap.size W w'))
    (GQ : Hid (∀ W v, Below w.heap.size w W → ProgIn W.heap.size W q v → Calls Tryz.prog 8 #[.agg #[v]] W fun e w' => e = .returned (.bool false) ∧ Below W.heap.size W w'))
    (DP : Hid (∀ W v, Below w.heap.size w W → ProgIn W.heap.size W p v → Calls Tryz.prog 12 #[.agg #[v]] W fun e w' => e = .returned (.int .i64 (dp : Int)) ∧ Below W.heap.size W w'))
    (DQ : Hid (∀ W v, Below w.heap.size w W → ProgIn W.heap.size W q v → Calls Tryz.prog 12 #[.agg #[v]] W fun e w' => e = .returned (.int .i64 (dq : Int)) ∧ Below W.heap.size W w'))
    (DA : Hid (∀ W v, Below w.heap.size w W → ProgIn W.heap.size W (p ++ q) v → Calls Tryz.prog 12 #[.agg #[v]] W fun e w' => e = .returned (.int .i64 ((max dp dq : Nat) : Int)) ∧ Below W.heap.size W w'))
    (SP : Hid (∀ W v, Below w.heap.size w W → ProgIn W.heap.size W p v → Calls Tryz.prog 14 #[.agg #[v]] W fun e w' => e = .returned (.int .i64 (sp : Int)) ∧ Below W.heap.size W w'))
    (SQ : Hid (∀ W v, Below w.heap.size w W → ProgIn W.heap.size W q v → Calls Tryz.prog 14 #[.agg #[v]] W fun e w' => e = .returned (.int .i64 (sq : Int)) ∧ Below W.heap.size W w'))
    (SA : Hid (∀ W v, Below w.heap.size w W → ProgIn W.heap.size W (p ++ q) v → Calls Tryz.prog 14 #[.agg #[v]] W fun e w' => e = .returned (.int .i64 ((sp : Int) + sq)) ∧ Below W.heap.size W w'))
    (WP : Hid (∀ W v, Below w.heap.size w W → ProgIn W.heap.size W p v → Calls Tryz.prog 10 #[.agg #[v]] W fun e w' => e = .returned (.bool wp) ∧ Below W.heap.size W w'))
    (WQ : Hid (∀ W v, Below w.heap.size w W → ProgIn W.heap.size W q v → Calls Tryz.prog 10 #[.agg #[v]] W fun e w' => e = .returned (.bool wq) ∧ Below W.heap.size W w'))
    (WA : Hid (∀ W v, Below w.heap.size w W → ProgIn W.heap.size W (p ++ q) v → Calls Tryz.prog 10 #[.agg #[v]] W fun e w' => e = .returned (.bool (wp && (wq && decide (p.length + q.length ≤ 30)))) ∧ Below W.heap.size W w'))
    (hdp : dp ≤ 20001) (hdq : dq ≤ 20001) (hsp : sp ≤ 20001) (hsq : sq ≤ 20001) :
    Calls Tryz.prog 5 #[.agg #[.slice p1 n1 c1], .agg #[.slice p2 n2 c2]] w fun r w' => r = .returned (.bool true) ∧ Below w.heap.size w w' := by
  obtain ⟨hn1, cs, k1, k2, k3, k4⟩ := prog_cells hp
  obtain ⟨hn2, ds, m1, m2, m3, m4⟩ := prog_cells hq
  have PP := Lib.hid (fun (W : World) (h : Below w.heap.size w W) => (show ProgIn W.heap.size W p (.slice p1 n1 c1) from by
    obtain ⟨b, o, h1, h2⟩ := hp; exact ⟨b, o, h1.up h.size, PI.Row.reads h.size (fun a v hc => (h.cell (World.block_lt_of_cell? w a hc)).trans hc) h2⟩))
  have PQ := Lib.hid (fun (W : World) (h : Below w.heap.size w W) => (show ProgIn W.heap.size W q (.slice p2 n2 c2) from by
    obtain ⟨b, o, h1, h2⟩ := hq; exact ⟨b, o, h1.up h.size, PI.Row.reads h.size (fun a v hc => (h.cell (World.block_lt_of_cell? w a hc)).trans hc) h2⟩))
  have K3 := Lib.hid k3
  have K4 := Lib.hid k4
  have M3 := Lib.hid m3
  have M4 := Lib.hid m4
  have Z1 := Lib.hid hz1
  have Z2 := Lib.hid hz2
  have K1 := Lib.hid k1
  have M1 := Lib.hid m1
  have HN1 := Lib.hid hn1
  have HN2 := Lib.hid hn2
  have LN1 : n1 ≤ 20000 := by omega
  have LN2 : n2 ≤ 20000 := by omega
  have K2 := Lib.hid k2
  have M2 := Lib.hid m2
  have bx := Lib.hid (box2 w (.cells #[.slice p1 n1 c1] 24) (.cells #[.slice p2 n2 c2] 24))
  clear hp hq k3 k4 m3 m4 hz1 hz2 k2 m2 k1 m1 hn1 hn2 lp lq
  go_enter Tryz.func5, Tryz.ntmps5
  go_wp2_with fail
  refine (AW.out _ bx.out).mono ?_; rintro e w1 ⟨rfl, b1⟩
  have bel1 := Lib.hid (up_tr bx.out b1)
  have hc1 := old_cells b1
  go_wp2_with fail
  refine (GP.out _ _ bel1.out (PP.out _ bel1.out)).mono ?_; rintro e w2 ⟨rfl, b2⟩
  have bel2 := Lib.hid (up_tr bel1.out b2)
  have qq := up_tr b1 b2
  have hc2 := old_cells qq
  clear hc1 b1 b2
  go_wp2_with fail
  refine (GQ.out _ _ bel2.out (PQ.out _ bel2.out)).mono ?_; rintro e w3 ⟨rfl, b3⟩
  have bel3 := Lib.hid (up_tr bel2.out b3)
  have q3 := up_tr qq b3
  have z0 : w.heap.size + 2 ≤ w3.heap.size := by have := q3.size; simpa using this
  have t2 : w3.cell? ⟨w.heap.size, 0, none⟩ = some (.slice p1 n1 c1) := (q3.cell (p := ⟨w.heap.size, 0, none⟩) (by first | (simp; done) | (simp; omega))).trans (by go_simp)
  have t3 : w3.cell? ⟨w.heap.size + 1, 0, none⟩ = some (.slice p2 n2 c2) := (q3.cell (p := ⟨w.heap.size + 1, 0, none⟩) (by first | (simp; done) | (simp; omega))).trans (by go_simp)
  have y1 : w.heap.size < w3.heap.size := by omega
  have y2 : w.heap.size + 1 < w3.heap.size := by omega
  clear hc2 b3 qq q3 bel1 bel2 GP GQ AW bx
  go_upto_region 6 with (fail)
  obtain ⟨s5, hs5⟩ : ∃ s5, s5 = w3.heap.size := ⟨_, rfl⟩
  obtain ⟨W5, hW5⟩ : ∃ W5, W5 = w3.alloc (.cells #[.slice none 0 0] 24) := ⟨_, rfl⟩
  rw [← hW5, ← hs5]
  have z5 : W5.heap.size = s5 + 1 := by rw [hW5, hs5]; simp
  have b35 : Below w3.heap.size w3 W5 := by rw [hW5]; exact box1 w3 _
  have t5 : W5.cell? ⟨s5, 0, none⟩ = some (.slice none 0 0) := by rw [hW5, hs5]; go_simp
  have f5 : W5.frozen? ⟨s5, 0, none⟩ = false := by rw [hW5, hs5]; go_simp
  replace t2 := (b35.cell (p := ⟨w.heap.size, 0, none⟩) (by simp; omega)).trans t2
  replace t3 := (b35.cell (p := ⟨w.heap.size + 1, 0, none⟩) (by simp; omega)).trans t3
  have z3 : w.heap.size + 2 ≤ s5 := by omega
  have bw5 : Below w.heap.size w W5 := bel3.out.trans (b35.mono (by omega))
  have BW5 := Lib.hid bw5
  clear hW5 b35 bw5 bel3 hs5 y1 y2 z0
  obtain ⟨i0, hi, hz0, hz1, hz2⟩ := info_parts infoItem
  go_upto_region 7 with (at_builtin; refine wpList_append_any (P := Tryz.prog) rfl _ _ 22 rfl (s5 + 1) 46 i0 _ 16 248 Tryz.underlying22 hi hz0 hz1 hz2 rfl (by decide) _ _ _ rfl (World.ownsRow_nil _ _ _ _) p1 n1 c1 cs rfl Z1.out K1.out (K3.out _ BW5.out) K2.out ?ac1 ?ac2 ?ac3 ?_)
  case ac1 => unfold maxLen; omega
  case ac2 => omega
  case ac3 => omega
  intro v1 w6 ho hg
  obtain ⟨ax, cx, e1⟩ := owns_slice ho
  subst e1
  have zg := hg.size
  have b56 : Below W5.heap.size W5 w6 := ⟨hg.os, hg.tape, hg.output, hg.size, fun b hb => hg.block b hb (by simp [Value.ownBlock])⟩
  replace t2 := (b56.cell (p := ⟨w.heap.size, 0, none⟩) (by simp; omega)).trans t2
  replace t3 := (b56.cell (p := ⟨w.heap.size + 1, 0, none⟩) (by simp; omega)).trans t3
  replace t5 := (b56.cell (p := ⟨s5, 0, none⟩) (by simp; omega)).trans t5
  replace f5 : w6.frozen? ⟨s5, 0, none⟩ = false := (World.frozen?_of_block (b56.block s5 (by omega))).trans f5
  have BW6 : Hid (Below w.heap.size w w6) := Lib.hid (BW5.out.trans (b56.mono (by omega)))
  have HO := Lib.hid ho
  have y5 : s5 < w6.heap.size := by omega
  clear hg zg b56 BW5 ho z5
  go_upto_region 7 with (fail)
  obtain ⟨W7, hW7⟩ : ∃ W7, W7 = w6.setCell ⟨s5, 0, none⟩ (.slice ax n1 cx) := ⟨_, rfl⟩
  rw [← hW7]
  have z7 : W7.heap.size = w6.heap.size := by rw [hW7]; simp
  have bw7 : Below w.heap.size w W7 := by rw [hW7]; exact BW6.out.setCell (by simp; omega) _
  have HO7 : Hid (W7.ownsRow (s5 + 1) 46 16 (.slice ax n1 cx) n1 cs) := Lib.hid (by rw [hW7]; exact owns_set HO.out (by omega) _)
  have BW7 := Lib.hid bw7
  replace t2 : W7.cell? ⟨w.heap.size, 0, none⟩ = some (.slice p1 n1 c1) := by rw [hW7]; exact (World.cell?_setCell_other _ _ _ _ (by first | (simp; done) | (simp; omega))).trans t2
  replace t3 : W7.cell? ⟨w.heap.size + 1, 0, none⟩ = some (.slice p2 n2 c2) := by rw [hW7]; exact (World.cell?_setCell_other _ _ _ _ (by first | (simp; done) | (simp; omega))).trans t3
  have u5 : W7.cell? ⟨s5, 0, none⟩ = some (.slice ax n1 cx) := by rw [hW7]; exact World.cell?_setCell_same' _ _ _ (by rw [t5]; rfl)
  have g5 : W7.frozen? ⟨s5, 0, none⟩ = false := by rw [hW7]; simpa using f5
  have y7 : s5 < W7.heap.size := by omega
  clear hW7 bw7 HO BW6 t5 f5 y5 z7
  go_upto_region 8 with (at_builtin; refine wpList_append_any (P := Tryz.prog) rfl _ _ 22 rfl (s5 + 1) 46 i0 _ 16 248 Tryz.underlying22 hi hz0 hz1 hz2 rfl (by decide) _ _ _ rfl HO7.out p2 n2 c2 ds rfl Z2.out M1.out (M3.out _ BW7.out) M2.out ?bc1 ?bc2 ?bc3 ?_)
  case bc1 => unfold maxLen; omega
  case bc2 => omega
  case bc3 => omega
  intro v2 w8 ho hg
  have zg := hg.size
  have hlt := HO7.out.lt
  have bkeep : ∀ b, b ≤ s5 → w8.heap[b]? = W7.heap[b]? := fun b hb => hg.block b (by omega) (fun e => by have := (hlt b e.symm).1; omega)
  have bw8 : Below w.heap.size w w8 := ⟨hg.os.trans BW7.out.os, hg.tape.trans BW7.out.tape, hg.output.trans BW7.out.output, by have := BW7.out.size; omega, fun b hb => (bkeep b (by omega)).trans (BW7.out.block b hb)⟩
  replace t2 := (World.cell?_of_block (a := ⟨w.heap.size, 0, none⟩) (bkeep _ (by simp; omega))).trans t2
  replace t3 := (World.cell?_of_block (a := ⟨w.heap.size + 1, 0, none⟩) (bkeep _ (by simp; omega))).trans t3
  replace u5 := (World.cell?_of_block (a := ⟨s5, 0, none⟩) (bkeep _ (by simp))).trans u5
  replace g5 := (World.frozen?_of_block (a := ⟨s5, 0, none⟩) (bkeep _ (by simp))).trans g5
  have BW8 := Lib.hid bw8
  have HO8 := Lib.hid ho
  obtain ⟨ay, cy, e2⟩ := owns_slice ho
  subst e2
  have y8 : s5 < w8.heap.size := by omega
  clear hg zg hlt bkeep bw8 ho HO7 BW7 y7
  go_upto_region 8 with (fail)
  generalize hN : n1 + n2 = N at *
  obtain ⟨W9, hW9⟩ : ∃ W9, W9 = w8.setCell ⟨s5, 0, none⟩ (.slice ay N cy) := ⟨_, rfl⟩
  rw [← hW9]
  have bw9 : Below w.heap.size w W9 := by rw [hW9]; exact BW8.out.setCell (by simp; omega) _
  have HO9 : W9.ownsRow (s5 + 1) 46 16 (.slice ay N cy) N (cs ++ ds) := by rw [hW9]; exact owns_set HO8.out (by omega) _
  replace t2 : W9.cell? ⟨w.heap.size, 0, none⟩ = some (.slice p1 n1 c1) := by rw [hW9]; exact (World.cell?_setCell_other _ _ _ _ (by first | (simp; done) | (simp; omega))).trans t2
  replace t3 : W9.cell? ⟨w.heap.size + 1, 0, none⟩ = some (.slice p2 n2 c2) := by rw [hW9]; exact (World.cell?_setCell_other _ _ _ _ (by first | (simp; done) | (simp; omega))).trans t3
  replace u5 : W9.cell? ⟨s5, 0, none⟩ = some (.slice ay N cy) := by rw [hW9]; exact World.cell?_setCell_same' _ _ _ (by rw [u5]; rfl)
  have z9 : s5 < W9.heap.size := by rw [hW9]; simpa using y8
  have pa9 : ProgIn W9.heap.size W9 (p ++ q) (.slice ay N cy) := by
    rw [← hN, HN1.out, HN2.out] at HO9 ⊢
    exact owns_prog HO9 (by have h1 := HN1.out; have h2 := HN2.out; unfold maxLen; omega) bw9.size bw9 (by rw [K1.out, HN1.out]) K4.out M4.out
  have hs9 := bw9.size
  have hF := Over.cells (W0 := W9)
  have K9 : Hid (∀ n : Over W9, Below w.heap.size w n.w) := Lib.hid fun n => bw9.trans (n.h.mono hs9)
  have PA : Hid (∀ n : Over W9, ProgIn n.w.heap.size n.w (p ++ q) (.slice ay N cy)) := Lib.hid fun n => by
    obtain ⟨b, o, h1, h2⟩ := pa9; exact ⟨b, o, h1.up n.h.size, PI.Row.reads n.h.size (fun a v hc => (n.h.cell (World.block_lt_of_cell? W9 a hc)).trans hc) h2⟩
  rw [← HN1.out, ← HN2.out, hN] at WA
  have x2 : w.heap.size < W9.heap.size := by omega
  have x3 : w.heap.size + 1 < W9.heap.size := by omega
  have A1 : Hid (∀ n : Over W9, Calls Tryz.prog 10 #[.agg #[.slice ay N cy]] n.w fun e w'' => e = .returned (.bool (wp && (wq && decide (N ≤ 30)))) ∧ ∃ m : Over W9, w'' = m.w) := Lib.hid fun n => over_calls (WA.out _ _ (K9.out n) (PA.out n))
  have A2 : Hid (∀ n : Over W9, Calls Tryz.prog 10 #[.agg #[.slice p1 n1 c1]] n.w fun e w'' => e = .returned (.bool wp) ∧ ∃ m : Over W9, w'' = m.w) := Lib.hid fun n => over_calls (WP.out _ _ (K9.out n) (PP.out _ (K9.out n)))
  have A3 : Hid (∀ n : Over W9, Calls Tryz.prog 10 #[.agg #[.slice p2 n2 c2]] n.w fun e w'' => e = .returned (.bool wq) ∧ ∃ m : Over W9, w'' = m.w) := Lib.hid fun n => over_calls (WQ.out _ _ (K9.out n) (PQ.out _ (K9.out n)))
  have A4 : Hid (∀ n : Over W9, Calls Tryz.prog 12 #[.agg #[.slice ay N cy]] n.w fun e w'' => e = .returned (.int .i64 ((max dp dq : Nat) : Int)) ∧ ∃ m : Over W9, w'' = m.w) := Lib.hid fun n => over_calls (DA.out _ _ (K9.out n) (PA.out n))
  have A5 : Hid (∀ n : Over W9, Calls Tryz.prog 12 #[.agg #[.slice p1 n1 c1]] n.w fun e w'' => e = .returned (.int .i64 (dp : Int)) ∧ ∃ m : Over W9, w'' = m.w) := Lib.hid fun n => over_calls (DP.out _ _ (K9.out n) (PP.out _ (K9.out n)))
  have A6 : Hid (∀ n : Over W9, Calls Tryz.prog 12 #[.agg #[.slice p2 n2 c2]] n.w fun e w'' => e = .returned (.int .i64 (dq : Int)) ∧ ∃ m : Over W9, w'' = m.w) := Lib.hid fun n => over_calls (DQ.out _ _ (K9.out n) (PQ.out _ (K9.out n)))
  have A7 : Hid (∀ n : Over W9, Calls Tryz.prog 14 #[.agg #[.slice ay N cy]] n.w fun e w'' => e = .returned (.int .i64 ((sp : Int) + sq)) ∧ ∃ m : Over W9, w'' = m.w) := Lib.hid fun n => over_calls (SA.out _ _ (K9.out n) (PA.out n))
  have A8 : Hid (∀ n : Over W9, Calls Tryz.prog 14 #[.agg #[.slice p1 n1 c1]] n.w fun e w'' => e = .returned (.int .i64 (sp : Int)) ∧ ∃ m : Over W9, w'' = m.w) := Lib.hid fun n => over_calls (SP.out _ _ (K9.out n) (PP.out _ (K9.out n)))
  have A9 : Hid (∀ n : Over W9, Calls Tryz.prog 14 #[.agg #[.slice p2 n2 c2]] n.w fun e w'' => e = .returned (.int .i64 (sq : Int)) ∧ ∃ m : Over W9, w'' = m.w) := Lib.hid fun n => over_calls (SQ.out _ _ (K9.out n) (PQ.out _ (K9.out n)))
  clear PA PP PQ WA WP WQ DA DP DQ SA SP SQ hs9 pa9 HO9 bw9 hW9 HN1 HN2 K1 M1 K2 M2 K3 K4 M3 M4 Z1 Z2 BW8 HO8 hi hz0 hz1 hz2 y8 g5
  have hmx : ((max dp dq : Nat) : Int) = max (dp : Int) (dq : Int) := by omega
  rw [hmx] at A4
  clear hmx
  cases wp
  · simp only [Bool.false_and] at A1
    as_aux_lemma =>
      refine wp_region_over (by kernel_rfl) (by kernel_rfl) ?_
      repeat (go_big_quiet_step ((first | (go_at_call 10; exact A1.out _) | (go_at_call 10; exact A2.out _) | (go_at_call 10; exact A3.out _) | (go_at_call 12; exact A4.out _) | (go_at_call 12; exact A5.out _) | (go_at_call 12; exact A6.out _) | (go_at_call 14; exact A7.out _) | (go_at_call 14; exact A8.out _) | (go_at_call 14; exact A9.out _))))
      refine wpQuiet_nil ?_
      rintro _ ⟨m, rfl⟩
      have HFm := Lib.hid (K9.out m)
      go_wp2
      go_ret
      exact ⟨rfl, HFm.out⟩
  · cases wq
    · simp only [Bool.false_and, Bool.true_and] at A1
      as_aux_lemma =>
        refine wp_region_over (by kernel_rfl) (by kernel_rfl) ?_
        repeat (go_big_quiet_step ((first | (go_at_call 10; exact A1.out _) | (go_at_call 10; exact A2.out _) | (go_at_call 10; exact A3.out _) | (go_at_call 12; exact A4.out _) | (go_at_call 12; exact A5.out _) | (go_at_call 12; exact A6.out _) | (go_at_call 14; exact A7.out _) | (go_at_call 14; exact A8.out _) | (go_at_call 14; exact A9.out _))))
        refine wpQuiet_nil ?_
        rintro _ ⟨m, rfl⟩
        have HFm := Lib.hid (K9.out m)
        go_wp2
        go_ret
        exact ⟨rfl, HFm.out⟩
    · by_cases hD : N ≤ 30
      · rw [decide_eq_true hD] at A1
        simp only [Bool.true_and] at A1
        have lD : decide ((N : Int) ≤ 30) = true := by simpa using (by omega : (N : Int) ≤ 30)
        clear hD
        as_aux_lemma =>
          refine wp_region_over (by kernel_rfl) (by kernel_rfl) ?_
          repeat (go_big_quiet_step ((first | (go_at_call 10; exact A1.out _) | (go_at_call 10; exact A2.out _) | (go_at_call 10; exact A3.out _) | (go_at_call 12; exact A4.out _) | (go_at_call 12; exact A5.out _) | (go_at_call 12; exact A6.out _) | (go_at_call 14; exact A7.out _) | (go_at_call 14; exact A8.out _) | (go_at_call 14; exact A9.out _))))
          refine wpQuiet_nil ?_
          rintro _ ⟨m, rfl⟩
          have HFm := Lib.hid (K9.out m)
          go_wp2
          go_ret
          exact ⟨rfl, HFm.out⟩
      · rw [decide_eq_false hD] at A1
        simp only [Bool.and_false] at A1
        have lD : decide ((N : Int) ≤ 30) = false := by simpa using (by omega : 30 < (N : Int))
        clear hD
        as_aux_lemma =>
          refine wp_region_over (by kernel_rfl) (by kernel_rfl) ?_
          repeat (go_big_quiet_step ((first | (go_at_call 10; exact A1.out _) | (go_at_call 10; exact A2.out _) | (go_at_call 10; exact A3.out _) | (go_at_call 12; exact A4.out _) | (go_at_call 12; exact A5.out _) | (go_at_call 12; exact A6.out _) | (go_at_call 14; exact A7.out _) | (go_at_call 14; exact A8.out _) | (go_at_call 14; exact A9.out _))))
          refine wpQuiet_nil ?_
          rintro _ ⟨m, rfl⟩
          have HFm := Lib.hid (K9.out m)
          go_wp2
          go_ret
          exact ⟨rfl, HFm.out⟩

set_option maxHeartbeats 2000000 in
theorem treeJoined_walk (p q : List PI) (p1 : Option Addr) (n1 c1 : Nat) (p2 : Option Addr) (n2 c2 : Nat) (w : World) (hm : MaxOk w) (hp : ProgIn w.heap.size w p (.slice p1 n1 c1)) (hq : ProgIn w.heap.size w q (.slice p2 n2 c2)) (hz1 : p1 = none → n1 = 0 ∧ c1 = 0) (hz2 : p2 = none → n2 = 0 ∧ c2 = 0) :
    Calls Tryz.prog 5 #[.agg #[.slice p1 n1 c1], .agg #[.slice p2 n2 c2]] w fun r w' => r = .returned (.bool true) ∧ Below w.heap.size w w' := by
  have AW := Lib.hid (fun (W : World) (h : Below w.heap.size w W) => awake_calls W (hm.below h))
  have G : ∀ (l : List PI) (b : Bool), decide (progR l 20000 < 0) = b → Hid (∀ W v, Below w.heap.size w W → ProgIn W.heap.size W l v → Calls Tryz.prog 8 #[.agg #[v]] W fun e w' => e = .returned (.bool b) ∧ Below W.heap.size W w') := fun l b hb => Lib.hid fun W v _ h => by
    have := great_calls W.heap.size l v W (Nat.le_refl _) h
    rwa [hb] at this
  by_cases g1 : progR p 20000 < 0
  · exact treeJoined1_walk p q p1 n1 c1 p2 n2 c2 w hp hq hz1 hz2 AW (G p true (decide_eq_true g1))
  by_cases g2 : progR q 20000 < 0
  · exact treeJoined2_walk p q p1 n1 c1 p2 n2 c2 w hp hq hz1 hz2 AW (G p false (decide_eq_false g1)) (G q true (decide_eq_true g2))
  obtain ⟨d1, s1⟩ := prog_bound g1
  obtain ⟨d2, s2⟩ := prog_bound g2
  have e1 := depth_joined p q
  have e2 := size_joined p q
  have e3 := whole_joined p q
  have D : ∀ (l : List PI), depthR (rtP l) ≤ 1000000 → Hid (∀ W v, Below w.heap.size w W → ProgIn W.heap.size W l v → Calls Tryz.prog 12 #[.agg #[v]] W fun e w' => e = .returned (.int .i64 ((depthR (rtP l) : Nat) : Int)) ∧ Below W.heap.size W w') := fun l hl => Lib.hid fun W v b h => by
    obtain ⟨ao, n, c, rfl⟩ := progIn_shape h
    exact topDepth_calls W.heap.size _ ao n c W (Nat.le_refl _) (hm.below b) h hl
  have S : ∀ (l : List PI), sizeR (rtP l) ≤ 1000000 → Hid (∀ W v, Below w.heap.size w W → ProgIn W.heap.size W l v → Calls Tryz.prog 14 #[.agg #[v]] W fun e w' => e = .returned (.int .i64 ((sizeR (rtP l) : Nat) : Int)) ∧ Below W.heap.size W w') := fun l hl => Lib.hid fun W v b h => by
    obtain ⟨ao, n, c, rfl⟩ := progIn_shape h
    exact topSize_calls W.heap.size _ ao n c W (Nat.le_refl _) (hm.below b) h hl
  have Y : ∀ (l : List PI), Hid (∀ W v, Below w.heap.size w W → ProgIn W.heap.size W l v → Calls Tryz.prog 10 #[.agg #[v]] W fun e w' => e = .returned (.bool (wholeR 40 (rtP l))) ∧ Below W.heap.size W w') := fun l => Lib.hid fun W v b h => by
    obtain ⟨ao, n, c, rfl⟩ := progIn_shape h
    exact topWhole_calls W.heap.size _ ao n c W (Nat.le_refl _) (hm.below b) h
  have DA := D (p ++ q) (by rw [e1]; omega)
  have SA := S (p ++ q) (by rw [e2]; omega)
  have WA := Y (p ++ q)
  rw [e1] at DA
  rw [e2, Int.natCast_add] at SA
  rw [e3, List.length_append] at WA
  exact treeJoined0_walk p q p1 n1 c1 p2 n2 c2 w hp hq hz1 hz2 (prog_len g1) (prog_len g2) _ _ _ _ _ _ AW (G p false (decide_eq_false g1)) (G q false (decide_eq_false g2)) (D p (by omega)) (D q (by omega)) DA (S p (by omega)) (S q (by omega)) SA (Y p) (Y q) WA d1 d2 s1 s2
end Go.Proofs.YtabncmmadbjegaaGreat
