/- ShowItems: the walks (over abstract contracts), the law. -/
import Derived.Test.YthilicmhdkmipaaGreatDoorIShowItemAll
import Derived.Test.YthilicmhdkmipaaGreatDoorIJoinAI
import Derived.Test.YthilicmhdkmipaaGreatDoorIJoinAU
import Derived.Test.YthilicmhdkmipaaGreatDoorIShowAwake3
import Derived.Test.YthilicmhdkmipaaGreatDoorITreeGreat
import Derived.Test.YthilicmhdkmipaaGreatDoorIJoinAL
import Derived.Deep.Cut
import Derived.Laws.Concat
namespace Go.Proofs.YthilicmhdkmipaaGreatDoor
open Go.RowKit Go.Shelf
set_option linter.unusedVariables false

set_option maxRecDepth 100000 in
set_option maxHeartbeats 8000000 in
theorem showItems_early (p q : List PI) (p1 : Option Addr) (n1 c1 : Nat) (p2 : Option Addr) (n2 c2 : Nat) (w : World) (hp : ProgIn w.heap.size w p (.slice p1 n1 c1)) (hq : ProgIn w.heap.size w q (.slice p2 n2 c2)) (hz1 : p1 = none → n1 = 0 ∧ c1 = 0) (hz2 : p2 = none → n2 = 0 ∧ c2 = 0) (g1 g2 h1 h2 : Bool)
    (AW : Hid (∀ W, Below w.heap.size w W → Calls Tryz.prog 28 #[] W fun e w' => e = .returned (.bool true) ∧ Below W.heap.size W w'))
    (GP : Hid (∀ W v, Below w.heap.size w W → ProgIn W.heap.size W p v → Calls Tryz.prog 10 #[.agg #[v]] W fun e w' => e = .returned (.bool g1) ∧ Below W.heap.size W w'))
    (GQ : Hid (∀ W v, Below w.heap.size w W → ProgIn W.heap.size W q v → Calls Tryz.prog 10 #[.agg #[v]] W fun e w' => e = .returned (.bool g2) ∧ Below W.heap.size W w'))
    (WP : Hid (∀ W v, Below w.heap.size w W → ProgIn W.heap.size W p v → Calls Tryz.prog 29 #[.agg #[v]] W fun e w' => e = .returned (.bool h1) ∧ Below W.heap.size W w'))
    (WQ : Hid (∀ W v, Below w.heap.size w W → ProgIn W.heap.size W q v → Calls Tryz.prog 29 #[.agg #[v]] W fun e w' => e = .returned (.bool h2) ∧ Below W.heap.size W w'))
    (hc : g1 = true ∨ (g1 = false ∧ g2 = true) ∨ (g1 = false ∧ g2 = false ∧ 15 < n1) ∨ (g1 = false ∧ g2 = false ∧ n1 ≤ 15 ∧ 15 < n2) ∨ (g1 = false ∧ g2 = false ∧ n1 ≤ 15 ∧ n2 ≤ 15 ∧ h1 = false) ∨ (g1 = false ∧ g2 = false ∧ n1 ≤ 15 ∧ n2 ≤ 15 ∧ h1 = true ∧ h2 = false)) :
    Calls Tryz.prog 6 #[.agg #[.slice p1 n1 c1], .agg #[.slice p2 n2 c2]] w fun r w' => r = .returned (.bool true) ∧ Below w.heap.size w w' := by
  have PP := Lib.hid (fun (W : World) (h : Below w.heap.size w W) => ProgIn.wider h.size (ProgIn.below h hp))
  have PQ := Lib.hid (fun (W : World) (h : Below w.heap.size w W) => ProgIn.wider h.size (ProgIn.below h hq))
  have bx := Lib.hid (box2 w (.cells #[.slice p1 n1 c1] 24) (.cells #[.slice p2 n2 c2] 24))
  have l1 : n1 ≤ 9223372036854775807 := by obtain ⟨_, _, ⟨h, _, _, e, _⟩, _⟩ := hp; injection e with _ e2 _; unfold maxLen at h; omega
  have l2 : n2 ≤ 9223372036854775807 := by obtain ⟨_, _, ⟨h, _, _, e, _⟩, _⟩ := hq; injection e with _ e2 _; unfold maxLen at h; omega
  clear hp hq hz1 hz2
  rcases hc with rfl | ⟨rfl, rfl⟩ | ⟨rfl, rfl, hn⟩ | ⟨rfl, rfl, hn, hn'⟩ | ⟨rfl, rfl, hn, hn', rfl⟩ | ⟨rfl, rfl, hn, hn', rfl, rfl⟩
  · go_enter Tryz.func6, Tryz.ntmps6
    go_wp2_with fail
    refine (AW.out _ bx.out).mono ?_; rintro e u0 ⟨rfl, b0⟩
    have bel0 := Lib.hid (up_tr bx.out b0)
    have q0 := b0
    have hc0 := old_cells q0
    go_wp2_with fail
    refine (GP.out _ _ bel0.out (PP.out _ bel0.out)).mono ?_; rintro e u1 ⟨rfl, b1⟩
    have bel1 := Lib.hid (up_tr bel0.out b1)
    have q1 := up_tr q0 b1
    have hc1 := old_cells q1
    clear hc0 b1
    go_wp2
    all_goals (go_ret; exact ⟨rfl, bel1.out⟩)
  · go_enter Tryz.func6, Tryz.ntmps6
    go_wp2_with fail
    refine (AW.out _ bx.out).mono ?_; rintro e u0 ⟨rfl, b0⟩
    have bel0 := Lib.hid (up_tr bx.out b0)
    have q0 := b0
    have hc0 := old_cells q0
    go_wp2_with fail
    refine (GP.out _ _ bel0.out (PP.out _ bel0.out)).mono ?_; rintro e u1 ⟨rfl, b1⟩
    have bel1 := Lib.hid (up_tr bel0.out b1)
    have q1 := up_tr q0 b1
    have hc1 := old_cells q1
    clear hc0 b1
    go_wp2_with fail
    refine (GQ.out _ _ bel1.out (PQ.out _ bel1.out)).mono ?_; rintro e u2 ⟨rfl, b2⟩
    have bel2 := Lib.hid (up_tr bel1.out b2)
    have q2 := up_tr q1 b2
    have hc2 := old_cells q2
    clear hc1 b2
    go_wp2
    all_goals (go_ret; exact ⟨rfl, bel2.out⟩)
  · have f1 : (15 : Int) < (n1 : Int) := by omega
    go_enter Tryz.func6, Tryz.ntmps6
    go_wp2_with fail
    refine (AW.out _ bx.out).mono ?_; rintro e u0 ⟨rfl, b0⟩
    have bel0 := Lib.hid (up_tr bx.out b0)
    have q0 := b0
    have hc0 := old_cells q0
    go_wp2_with fail
    refine (GP.out _ _ bel0.out (PP.out _ bel0.out)).mono ?_; rintro e u1 ⟨rfl, b1⟩
    have bel1 := Lib.hid (up_tr bel0.out b1)
    have q1 := up_tr q0 b1
    have hc1 := old_cells q1
    clear hc0 b1
    go_wp2_with fail
    refine (GQ.out _ _ bel1.out (PQ.out _ bel1.out)).mono ?_; rintro e u2 ⟨rfl, b2⟩
    have bel2 := Lib.hid (up_tr bel1.out b2)
    have q2 := up_tr q1 b2
    have hc2 := old_cells q2
    clear hc1 b2
    go_wp2
    all_goals (go_ret; exact ⟨rfl, bel2.out⟩)
  · have f1 : (n1 : Int) ≤ 15 := by omega
    have f2 : (15 : Int) < (n2 : Int) := by omega
    go_enter Tryz.func6, Tryz.ntmps6
    go_wp2_with fail
    refine (AW.out _ bx.out).mono ?_; rintro e u0 ⟨rfl, b0⟩
    have bel0 := Lib.hid (up_tr bx.out b0)
    have q0 := b0
    have hc0 := old_cells q0
    go_wp2_with fail
    refine (GP.out _ _ bel0.out (PP.out _ bel0.out)).mono ?_; rintro e u1 ⟨rfl, b1⟩
    have bel1 := Lib.hid (up_tr bel0.out b1)
    have q1 := up_tr q0 b1
    have hc1 := old_cells q1
    clear hc0 b1
    go_wp2_with fail
    refine (GQ.out _ _ bel1.out (PQ.out _ bel1.out)).mono ?_; rintro e u2 ⟨rfl, b2⟩
    have bel2 := Lib.hid (up_tr bel1.out b2)
    have q2 := up_tr q1 b2
    have hc2 := old_cells q2
    clear hc1 b2
    go_wp2
    all_goals (go_ret; exact ⟨rfl, bel2.out⟩)
  · have f1 : (n1 : Int) ≤ 15 := by omega
    have f2 : (n2 : Int) ≤ 15 := by omega
    go_enter Tryz.func6, Tryz.ntmps6
    go_wp2_with fail
    refine (AW.out _ bx.out).mono ?_; rintro e u0 ⟨rfl, b0⟩
    have bel0 := Lib.hid (up_tr bx.out b0)
    have q0 := b0
    have hc0 := old_cells q0
    go_wp2_with fail
    refine (GP.out _ _ bel0.out (PP.out _ bel0.out)).mono ?_; rintro e u1 ⟨rfl, b1⟩
    have bel1 := Lib.hid (up_tr bel0.out b1)
    have q1 := up_tr q0 b1
    have hc1 := old_cells q1
    clear hc0 b1
    go_wp2_with fail
    refine (GQ.out _ _ bel1.out (PQ.out _ bel1.out)).mono ?_; rintro e u2 ⟨rfl, b2⟩
    have bel2 := Lib.hid (up_tr bel1.out b2)
    have q2 := up_tr q1 b2
    have hc2 := old_cells q2
    clear hc1 b2
    go_wp2_with fail
    refine (WP.out _ _ bel2.out (PP.out _ bel2.out)).mono ?_; rintro e u3 ⟨rfl, b3⟩
    have bel3 := Lib.hid (up_tr bel2.out b3)
    have q3 := up_tr q2 b3
    have hc3 := old_cells q3
    clear hc2 b3
    go_wp2
    all_goals (go_ret; exact ⟨rfl, bel3.out⟩)
  · have f1 : (n1 : Int) ≤ 15 := by omega
    have f2 : (n2 : Int) ≤ 15 := by omega
    go_enter Tryz.func6, Tryz.ntmps6
    go_wp2_with fail
    refine (AW.out _ bx.out).mono ?_; rintro e u0 ⟨rfl, b0⟩
    have bel0 := Lib.hid (up_tr bx.out b0)
    have q0 := b0
    have hc0 := old_cells q0
    go_wp2_with fail
    refine (GP.out _ _ bel0.out (PP.out _ bel0.out)).mono ?_; rintro e u1 ⟨rfl, b1⟩
    have bel1 := Lib.hid (up_tr bel0.out b1)
    have q1 := up_tr q0 b1
    have hc1 := old_cells q1
    clear hc0 b1
    go_wp2_with fail
    refine (GQ.out _ _ bel1.out (PQ.out _ bel1.out)).mono ?_; rintro e u2 ⟨rfl, b2⟩
    have bel2 := Lib.hid (up_tr bel1.out b2)
    have q2 := up_tr q1 b2
    have hc2 := old_cells q2
    clear hc1 b2
    go_wp2_with fail
    refine (WP.out _ _ bel2.out (PP.out _ bel2.out)).mono ?_; rintro e u3 ⟨rfl, b3⟩
    have bel3 := Lib.hid (up_tr bel2.out b3)
    have q3 := up_tr q2 b3
    have hc3 := old_cells q3
    clear hc2 b3
    go_wp2_with fail
    refine (WQ.out _ _ bel3.out (PQ.out _ bel3.out)).mono ?_; rintro e u4 ⟨rfl, b4⟩
    have bel4 := Lib.hid (up_tr bel3.out b4)
    have q4 := up_tr q3 b4
    have hc4 := old_cells q4
    clear hc3 b4
    go_wp2
    all_goals (go_ret; exact ⟨rfl, bel4.out⟩)
set_option maxRecDepth 100000 in
set_option maxHeartbeats 8000000 in
theorem showItems0_walk (p q : List PI) (p1 : Option Addr) (n1 c1 : Nat) (p2 : Option Addr) (n2 c2 : Nat) (w : World) (hp : ProgIn w.heap.size w p (.slice p1 n1 c1)) (hq : ProgIn w.heap.size w q (.slice p2 n2 c2)) (hz1 : p1 = none → n1 = 0 ∧ c1 = 0) (hz2 : p2 = none → n2 = 0 ∧ c2 = 0) (s1 s2 : ByteArray) (hn15 : n1 ≤ 15) (hm15 : n2 ≤ 15) (hs1 : s1.size ≤ 1000000000) (hs2 : s2.size ≤ 1000000000)
    (AW : Hid (∀ W, Below w.heap.size w W → Calls Tryz.prog 28 #[] W fun e w' => e = .returned (.bool true) ∧ Below W.heap.size W w'))
    (GP : Hid (∀ W v, Below w.heap.size w W → ProgIn W.heap.size W p v → Calls Tryz.prog 10 #[.agg #[v]] W fun e w' => e = .returned (.bool false) ∧ Below W.heap.size W w'))
    (GQ : Hid (∀ W v, Below w.heap.size w W → ProgIn W.heap.size W q v → Calls Tryz.prog 10 #[.agg #[v]] W fun e w' => e = .returned (.bool false) ∧ Below W.heap.size W w'))
    (WP : Hid (∀ W v, Below w.heap.size w W → ProgIn W.heap.size W p v → Calls Tryz.prog 29 #[.agg #[v]] W fun e w' => e = .returned (.bool true) ∧ Below W.heap.size W w'))
    (WQ : Hid (∀ W v, Below w.heap.size w W → ProgIn W.heap.size W q v → Calls Tryz.prog 29 #[.agg #[v]] W fun e w' => e = .returned (.bool true) ∧ Below W.heap.size W w'))
    (S1 : Hid (∀ W v, Below w.heap.size w W → ProgIn W.heap.size W p v → Calls Tryz.prog 12 #[.agg #[v]] W fun e w' => e = .returned (.string s1) ∧ Below W.heap.size W w'))
    (S2 : Hid (∀ W v, Below w.heap.size w W → ProgIn W.heap.size W q v → Calls Tryz.prog 12 #[.agg #[v]] W fun e w' => e = .returned (.string s2) ∧ Below W.heap.size W w'))
    (SA : Hid (∀ W v, Below w.heap.size w W → ProgIn W.heap.size W (p ++ q) v → Calls Tryz.prog 12 #[.agg #[v]] W fun e w' => e = .returned (.string (s1 ++ s2)) ∧ Below W.heap.size W w')) :
    Calls Tryz.prog 6 #[.agg #[.slice p1 n1 c1], .agg #[.slice p2 n2 c2]] w fun r w' => r = .returned (.bool true) ∧ Below w.heap.size w w' := by
  obtain ⟨hn1, cs, k1, k2, k3, k4⟩ := prog_cells hp
  obtain ⟨hn2, ds, m1, m2, m3, m4⟩ := prog_cells hq
  have PP := Lib.hid (fun (W : World) (h : Below w.heap.size w W) => ProgIn.wider h.size (ProgIn.below h hp))
  have PQ := Lib.hid (fun (W : World) (h : Below w.heap.size w W) => ProgIn.wider h.size (ProgIn.below h hq))
  have K3 := Lib.hid k3
  have K4 := Lib.hid k4
  have M3 := Lib.hid m3
  have M4 := Lib.hid m4
  have Z1 := Lib.hid hz1
  have Z2 := Lib.hid hz2
  have K1 := Lib.hid k1
  have M1 := Lib.hid m1
  have HN1 := Lib.hid hn1
  have HN2 := Lib.hid hn2
  have LN1 : n1 ≤ 20000 := by omega
  have f1 : (n1 : Int) ≤ 15 := by omega
  have LN2 : n2 ≤ 20000 := by omega
  have f2 : (n2 : Int) ≤ 15 := by omega
  have K2 := Lib.hid k2
  have M2 := Lib.hid m2
  have bx := Lib.hid (box2 w (.cells #[.slice p1 n1 c1] 24) (.cells #[.slice p2 n2 c2] 24))
  clear hp hq k3 k4 m3 m4 hz1 hz2 k2 m2 k1 m1 hn1 hn2
  go_enter Tryz.func6, Tryz.ntmps6
  go_wp2_with fail
  refine (AW.out _ bx.out).mono ?_; rintro e u0 ⟨rfl, b0⟩
  have bel0 := Lib.hid (up_tr bx.out b0)
  have q0 := b0
  have hc0 := old_cells q0
  go_wp2_with fail
  refine (GP.out _ _ bel0.out (PP.out _ bel0.out)).mono ?_; rintro e u1 ⟨rfl, b1⟩
  have bel1 := Lib.hid (up_tr bel0.out b1)
  have q1 := up_tr q0 b1
  have hc1 := old_cells q1
  clear hc0 b1
  go_wp2_with fail
  refine (GQ.out _ _ bel1.out (PQ.out _ bel1.out)).mono ?_; rintro e u2 ⟨rfl, b2⟩
  have bel2 := Lib.hid (up_tr bel1.out b2)
  have q2 := up_tr q1 b2
  have hc2 := old_cells q2
  clear hc1 b2
  go_wp2_with fail
  refine (WP.out _ _ bel2.out (PP.out _ bel2.out)).mono ?_; rintro e u3 ⟨rfl, b3⟩
  have bel3 := Lib.hid (up_tr bel2.out b3)
  have q3 := up_tr q2 b3
  have hc3 := old_cells q3
  clear hc2 b3
  go_wp2_with fail
  refine (WQ.out _ _ bel3.out (PQ.out _ bel3.out)).mono ?_; rintro e u4 ⟨rfl, b4⟩
  have bel4 := Lib.hid (up_tr bel3.out b4)
  have q4 := up_tr q3 b4
  have hc4 := old_cells q4
  clear hc3 b4
  obtain ⟨w3, hw3⟩ : ∃ x, x = u4 := ⟨_, rfl⟩
  rw [← hw3]
  rw [← hw3] at q4 bel4
  clear hw3 hc4
  have q3 := q4
  have bel3 := bel4
  have z0 : w.heap.size + 2 ≤ w3.heap.size := by have := q3.size; simpa using this
  have t2 : w3.cell? ⟨w.heap.size, 0, none⟩ = some (.slice p1 n1 c1) := (q3.cell (p := ⟨w.heap.size, 0, none⟩) (by first | (simp; done) | (simp; omega))).trans (by go_simp)
  have t3 : w3.cell? ⟨w.heap.size + 1, 0, none⟩ = some (.slice p2 n2 c2) := (q3.cell (p := ⟨w.heap.size + 1, 0, none⟩) (by first | (simp; done) | (simp; omega))).trans (by go_simp)
  have y1 : w.heap.size < w3.heap.size := by omega
  have y2 : w.heap.size + 1 < w3.heap.size := by omega
  clear q3 q4 q2 q1 q0 bel0 bel1 bel2 bel4 GP GQ WP WQ AW bx f1 f2
  go_upto_region 6 with (fail)
  obtain ⟨s5, hs5⟩ : ∃ s5, s5 = w3.heap.size := ⟨_, rfl⟩
  obtain ⟨W5, hW5⟩ : ∃ W5, W5 = w3.alloc (.cells #[.slice none 0 0] 24) := ⟨_, rfl⟩
  rw [← hW5, ← hs5]
  have z5 : W5.heap.size = s5 + 1 := by rw [hW5, hs5]; simp
  have b35 : Below w3.heap.size w3 W5 := by rw [hW5]; exact box1 w3 _
  have t5 : W5.cell? ⟨s5, 0, none⟩ = some (.slice none 0 0) := by rw [hW5, hs5]; go_simp
  have f5 : W5.frozen? ⟨s5, 0, none⟩ = false := by rw [hW5, hs5]; go_simp
  replace t2 := (b35.cell (p := ⟨w.heap.size, 0, none⟩) (by simp; omega)).trans t2
  replace t3 := (b35.cell (p := ⟨w.heap.size + 1, 0, none⟩) (by simp; omega)).trans t3
  have z3 : w.heap.size + 2 ≤ s5 := by omega
  have bw5 : Below w.heap.size w W5 := bel3.out.trans (b35.mono (by omega))
  have BW5 := Lib.hid bw5
  clear hW5 b35 bw5 bel3 hs5 y1 y2 z0
  obtain ⟨i0, hi, hz0, hz1, hz2⟩ := info_parts infoItemJ
  go_upto_region 7 with (at_builtin; refine wpList_append_any (P := Tryz.prog) rfl _ _ 22 rfl (s5 + 1) 68 i0 _ 16 248 Tryz.underlying22 hi hz0 hz1 hz2 rfl (by decide) _ _ _ rfl (World.ownsRow_nil _ _ _ _) p1 n1 c1 cs rfl Z1.out K1.out (K3.out _ BW5.out) K2.out ?ac1 ?ac2 ?ac3 ?_)
  case ac1 => unfold maxLen; omega
  case ac2 => omega
  case ac3 => omega
  intro v1 w6 ho hg
  obtain ⟨ax, cx, e1⟩ := owns_slice ho
  subst e1
  have zg := hg.size
  have b56 : Below W5.heap.size W5 w6 := ⟨hg.os, hg.tape, hg.output, hg.size, fun b hb => hg.block b hb (by simp [Value.ownBlock])⟩
  replace t2 := (b56.cell (p := ⟨w.heap.size, 0, none⟩) (by simp; omega)).trans t2
  replace t3 := (b56.cell (p := ⟨w.heap.size + 1, 0, none⟩) (by simp; omega)).trans t3
  replace t5 := (b56.cell (p := ⟨s5, 0, none⟩) (by simp; omega)).trans t5
  replace f5 : w6.frozen? ⟨s5, 0, none⟩ = false := (World.frozen?_of_block (b56.block s5 (by omega))).trans f5
  have BW6 : Hid (Below w.heap.size w w6) := Lib.hid (BW5.out.trans (b56.mono (by omega)))
  have HO := Lib.hid ho
  have y5 : s5 < w6.heap.size := by omega
  clear hg zg b56 BW5 ho z5
  go_upto_region 7 with (fail)
  obtain ⟨W7, hW7⟩ : ∃ W7, W7 = w6.setCell ⟨s5, 0, none⟩ (.slice ax n1 cx) := ⟨_, rfl⟩
  rw [← hW7]
  have z7 : W7.heap.size = w6.heap.size := by rw [hW7]; simp
  have bw7 : Below w.heap.size w W7 := by rw [hW7]; exact BW6.out.setCell (by simp; omega) _
  have HO7 : Hid (W7.ownsRow (s5 + 1) 68 16 (.slice ax n1 cx) n1 cs) := Lib.hid (by rw [hW7]; exact owns_set HO.out (by omega) _)
  have BW7 := Lib.hid bw7
  replace t2 : W7.cell? ⟨w.heap.size, 0, none⟩ = some (.slice p1 n1 c1) := by rw [hW7]; exact (World.cell?_setCell_other _ _ _ _ (by first | (simp; done) | (simp; omega))).trans t2
  replace t3 : W7.cell? ⟨w.heap.size + 1, 0, none⟩ = some (.slice p2 n2 c2) := by rw [hW7]; exact (World.cell?_setCell_other _ _ _ _ (by first | (simp; done) | (simp; omega))).trans t3
  have u5 : W7.cell? ⟨s5, 0, none⟩ = some (.slice ax n1 cx) := by rw [hW7]; exact World.cell?_setCell_same' _ _ _ (by rw [t5]; rfl)
  have g5 : W7.frozen? ⟨s5, 0, none⟩ = false := by rw [hW7]; simpa using f5
  have y7 : s5 < W7.heap.size := by omega
  clear hW7 bw7 HO BW6 t5 f5 y5 z7
  go_upto_region 8 with (at_builtin; refine wpList_append_any (P := Tryz.prog) rfl _ _ 22 rfl (s5 + 1) 68 i0 _ 16 248 Tryz.underlying22 hi hz0 hz1 hz2 rfl (by decide) _ _ _ rfl HO7.out p2 n2 c2 ds rfl Z2.out M1.out (M3.out _ BW7.out) M2.out ?bc1 ?bc2 ?bc3 ?_)
  case bc1 => unfold maxLen; omega
  case bc2 => omega
  case bc3 => omega
  intro v2 w8 ho hg
  have zg := hg.size
  have hlt := HO7.out.lt
  have bkeep : ∀ b, b ≤ s5 → w8.heap[b]? = W7.heap[b]? := fun b hb => hg.block b (by omega) (fun e => by have := (hlt b e.symm).1; omega)
  have bw8 : Below w.heap.size w w8 := ⟨hg.os.trans BW7.out.os, hg.tape.trans BW7.out.tape, hg.output.trans BW7.out.output, by have := BW7.out.size; omega, fun b hb => (bkeep b (by omega)).trans (BW7.out.block b hb)⟩
  replace t2 := (World.cell?_of_block (a := ⟨w.heap.size, 0, none⟩) (bkeep _ (by simp; omega))).trans t2
  replace t3 := (World.cell?_of_block (a := ⟨w.heap.size + 1, 0, none⟩) (bkeep _ (by simp; omega))).trans t3
  replace u5 := (World.cell?_of_block (a := ⟨s5, 0, none⟩) (bkeep _ (by simp))).trans u5
  replace g5 := (World.frozen?_of_block (a := ⟨s5, 0, none⟩) (bkeep _ (by simp))).trans g5
  have BW8 := Lib.hid bw8
  have HO8 := Lib.hid ho
  obtain ⟨ay, cy, e2⟩ := owns_slice ho
  subst e2
  have y8 : s5 < w8.heap.size := by omega
  clear hg zg hlt bkeep bw8 ho HO7 BW7 y7
  go_upto_region 8 with (fail)
  generalize hN : n1 + n2 = N at *
  obtain ⟨W9, hW9⟩ : ∃ W9, W9 = w8.setCell ⟨s5, 0, none⟩ (.slice ay N cy) := ⟨_, rfl⟩
  rw [← hW9]
  have bw9 : Below w.heap.size w W9 := by rw [hW9]; exact BW8.out.setCell (by simp; omega) _
  have HO9 : W9.ownsRow (s5 + 1) 68 16 (.slice ay N cy) N (cs ++ ds) := by rw [hW9]; exact owns_set HO8.out (by omega) _
  replace t2 : W9.cell? ⟨w.heap.size, 0, none⟩ = some (.slice p1 n1 c1) := by rw [hW9]; exact (World.cell?_setCell_other _ _ _ _ (by first | (simp; done) | (simp; omega))).trans t2
  replace t3 : W9.cell? ⟨w.heap.size + 1, 0, none⟩ = some (.slice p2 n2 c2) := by rw [hW9]; exact (World.cell?_setCell_other _ _ _ _ (by first | (simp; done) | (simp; omega))).trans t3
  replace u5 : W9.cell? ⟨s5, 0, none⟩ = some (.slice ay N cy) := by rw [hW9]; exact World.cell?_setCell_same' _ _ _ (by rw [u5]; rfl)
  have z9 : s5 < W9.heap.size := by rw [hW9]; simpa using y8
  have pa9 : ProgIn W9.heap.size W9 (p ++ q) (.slice ay N cy) := by
    rw [← hN, HN1.out, HN2.out] at HO9 ⊢
    exact owns_prog HO9 (by have h1 := HN1.out; have h2 := HN2.out; unfold maxLen; omega) bw9.size bw9 (by rw [K1.out, HN1.out]) K4.out M4.out
  have hs9 := bw9.size
  have hF := Over.cells (W0 := W9)
  have K9 : Hid (∀ n : Over W9, Below w.heap.size w n.w) := Lib.hid fun n => bw9.trans (n.h.mono hs9)
  have PA : Hid (∀ n : Over W9, ProgIn n.w.heap.size n.w (p ++ q) (.slice ay N cy)) := Lib.hid fun n => ProgIn.wider n.h.size (ProgIn.below n.h pa9)
  have x2 : w.heap.size < W9.heap.size := by omega
  have x3 : w.heap.size + 1 < W9.heap.size := by omega
  have A1 : Hid (∀ n : Over W9, Calls Tryz.prog 12 #[.agg #[.slice ay N cy]] n.w fun e w'' => e = .returned (.string (s1 ++ s2)) ∧ ∃ m : Over W9, w'' = m.w) := Lib.hid fun n => over_calls (SA.out _ _ (K9.out n) (PA.out n))
  have A2 : Hid (∀ n : Over W9, Calls Tryz.prog 12 #[.agg #[.slice p1 n1 c1]] n.w fun e w'' => e = .returned (.string s1) ∧ ∃ m : Over W9, w'' = m.w) := Lib.hid fun n => over_calls (S1.out _ _ (K9.out n) (PP.out _ (K9.out n)))
  have A3 : Hid (∀ n : Over W9, Calls Tryz.prog 12 #[.agg #[.slice p2 n2 c2]] n.w fun e w'' => e = .returned (.string s2) ∧ ∃ m : Over W9, w'' = m.w) := Lib.hid fun n => over_calls (S2.out _ _ (K9.out n) (PQ.out _ (K9.out n)))
  clear PA PP PQ S1 S2 SA hs9 pa9 HO9 bw9 hW9 HN1 HN2 K1 M1 K2 M2 K3 K4 M3 M4 Z1 Z2 BW8 HO8 hi hz0 hz1 hz2 y8 g5
  have eb : ((s1 ++ s2).toList == (s1 ++ s2).toList) = true := beq_self_eq_true _
  refine wp_region_over (by kernel_rfl) (by kernel_rfl) ?_
  repeat (go_big_quiet_step ((first | (go_at_call 12; with_reducible exact A1.out _) | (go_at_call 12; with_reducible exact A2.out _) | (go_at_call 12; with_reducible exact A3.out _))))
  refine wpQuiet_nil ?_
  rintro _ ⟨m, rfl⟩
  have HFm := Lib.hid (K9.out m)
  go_wp2
  go_ret
  exact ⟨rfl, HFm.out⟩
end Go.Proofs.YthilicmhdkmipaaGreatDoor

