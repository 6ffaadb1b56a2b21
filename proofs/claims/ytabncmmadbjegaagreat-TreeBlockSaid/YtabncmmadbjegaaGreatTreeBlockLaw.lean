/- TreeBlock: the walk. -/
import Derived.Test.YtabncmmadbjegaaGreatTreeAwake
import Derived.Test.YtabncmmadbjegaaGreatTreeBlockMath
import Derived.Test.YtabncmmadbjegaaGreatTreeGreat
import Derived.Deep.Cut
import Derived.Test.YtabncmmadbjegaaGreatJoinD
namespace Go.Proofs.YtabncmmadbjegaaGreat
open Go.RowKit Go.Shelf
set_option linter.unusedVariables false

theorem progIn_shape {B : Nat} {W : World} {l : List PI} {v : Value} (h : ProgIn B W l v) : ∃ ao n c, v = .slice ao n c := by
  obtain ⟨b, o, ⟨_, ao, c, e, _⟩, _⟩ := h
  exact ⟨ao, _, c, e⟩
set_option maxRecDepth 100000 in
set_option maxHeartbeats 8000000 in
theorem treeBlock1_walk (l : List PS) (al : Option Addr) (nl ql : Nat) (w : World) (hl : SLIn w.heap.size w l (.slice al nl ql)) (hnn : nl ≤ maxLen)
    (AW : Hid (Calls Tryz.prog 17 #[] w fun e w' => e = .returned (.bool true) ∧ Below w.heap.size w w'))
    (SM : Hid (∀ W, Calls Tryz.prog 25 #[] W fun e w' => ∃ g, e = .returned (.agg #[.slice (some ⟨g, 0, none⟩) 1 1]) ∧ W.heap.size ≤ g ∧ g < w'.heap.size ∧ w'.heap[g]? = some (.cells (bodyCells (.slice none 0 0)).toArray 46 (0, 0)) ∧ Below W.heap.size W w'))
    (GR : Hid (∀ W v, Below w.heap.size w W → ProgIn W.heap.size W [bodyI l] v → Calls Tryz.prog 8 #[.agg #[v]] W fun e w' => e = .returned (.bool true) ∧ Below W.heap.size W w')) :
    Calls Tryz.prog 7 #[.slice al nl ql] w fun r w' => r = .returned (.bool true) ∧ Below w.heap.size w w' := by
  have HL := Lib.hid hl
  clear hl
  go_enter Tryz.func7, Tryz.ntmps7
  go_wp2_with fail
  refine (AW.out).mono ?_; rintro e w1 ⟨rfl, b1⟩
  have B1 := Lib.hid b1
  clear b1 AW
  go_wp2_with fail
  refine (SM.out _).mono ?_
  rintro e w2 ⟨g1, rfl, h11, h12, h13, b2⟩
  have P1 := Lib.hid h13
  have B2 := Lib.hid b2
  have b2' := Lib.hid b2
  clear h13 b2
  go_wp2_with fail
  refine (SM.out _).mono ?_
  rintro e w3 ⟨g2, rfl, h21, h22, h23, b3⟩
  have P2 := Lib.hid h23
  have B3 := Lib.hid b3
  have hs2 : w1.heap.size ≤ w2.heap.size := b2'.out.size
  have hs3 : w2.heap.size ≤ w3.heap.size := b3.size
  have hs1 : w.heap.size ≤ w1.heap.size := B1.out.size
  have p1 : w3.heap[g1]? = some (.cells (bodyCells (.slice none 0 0)).toArray 46 (0, 0)) := (b3.block g1 h12).trans P1.out
  have bw3 : Below w.heap.size w w3 := (B1.out.trans (B2.out.mono (by omega))).trans (b3.mono (by omega))
  have Q1 := Lib.hid p1
  clear h23 b3 p1 P1
  go_upto_region 4 with (fail)
  obtain ⟨W4, hW4⟩ : ∃ W4, W4 = (w3.alloc (.cells #[.slice (some ⟨g1, 0, none⟩) 1 1] 24)).alloc (.cells #[.slice (some ⟨g2, 0, none⟩) 1 1] 24) := ⟨_, rfl⟩
  rw [← hW4]
  have b34 : Below w3.heap.size w3 W4 := by rw [hW4]; exact ((Below.refl _ w3).alloc (Nat.le_refl _) _).alloc (by simp) _
  have z4 : w3.heap.size + 2 ≤ W4.heap.size := by rw [hW4]; simp
  have q1 : W4.heap[g1]? = some (.cells (bodyCells (.slice none 0 0)).toArray 46 (0, 0)) := (b34.block g1 (by omega)).trans Q1.out
  have q2 : W4.heap[g2]? = some (.cells (bodyCells (.slice none 0 0)).toArray 46 (0, 0)) := (b34.block g2 (by omega)).trans P2.out
  have t3 : W4.cell? ⟨w3.heap.size, 0, none⟩ = some (.slice (some ⟨g1, 0, none⟩) 1 1) := by rw [hW4]; go_simp
  have t4 : W4.cell? ⟨w3.heap.size + 1, 0, none⟩ = some (.slice (some ⟨g2, 0, none⟩) 1 1) := by rw [hW4]; go_simp
  have c16 : W4.cell? ⟨g1, 6, none⟩ = some (.slice none 0 0) := by have := block_cells q1 6 _ rfl; simpa using this
  have f16 : W4.frozen? ⟨g1, 6, none⟩ = false := box_frozen1 q1
  have bw4 : Below w.heap.size w W4 := bw3.trans (b34.mono (by omega))
  have Q1 := Lib.hid q1
  have Q2 := Lib.hid q2
  have BW4 := Lib.hid bw4
  obtain ⟨s3, hs3'⟩ : ∃ s3, s3 = w3.heap.size := ⟨_, rfl⟩
  rw [← hs3'] at t3 t4 z4 h22 ⊢
  have y1 : g1 < s3 := by omega
  have y2 : w.heap.size ≤ g1 := by omega
  have y3 : w.heap.size ≤ g2 := by omega
  have y4 : g1 ≠ g2 := by omega
  clear q1 q2 bw4 bw3 hW4 b34 P2 B1 B2 B3 SM hs1 hs2 hs3 hs3' h11 h12 h21
  go_upto_region 5 with (fail)
  obtain ⟨W5, hW5⟩ : ∃ W5, W5 = W4.setCell ⟨g1, 6, none⟩ (.slice al nl ql) := ⟨_, rfl⟩
  rw [← hW5]
  have z5 : s3 + 2 ≤ W5.heap.size := by rw [hW5]; simpa using z4
  have bw5 : Below w.heap.size w W5 := by rw [hW5]; exact BW4.out.setCell (by simpa using y2) _
  have cg1 : CellsAt W5 g1 0 (bodyCells (.slice al nl ql)) := by rw [hW5]; exact set6 _ Q1.out
  have q2 : W5.heap[g2]? = some (.cells (bodyCells (.slice none 0 0)).toArray 46 (0, 0)) := by rw [hW5]; exact (Below.heap_setCell _ _ _ _ (by simpa using (Ne.symm y4))).trans Q2.out
  replace t3 : W5.cell? ⟨s3, 0, none⟩ = some (.slice (some ⟨g1, 0, none⟩) 1 1) := by rw [hW5]; exact (World.cell?_setCell_other _ _ _ _ (by first | (simp; done) | (simp; omega))).trans t3
  replace t4 : W5.cell? ⟨s3 + 1, 0, none⟩ = some (.slice (some ⟨g2, 0, none⟩) 1 1) := by rw [hW5]; exact (World.cell?_setCell_other _ _ _ _ (by first | (simp; done) | (simp; omega))).trans t4
  have hs5 : w.heap.size ≤ W5.heap.size := bw5.size
  have PI1 : Hid (∀ W, Below W5.heap.size W5 W → ProgIn W.heap.size W [bodyI l] (.slice (some ⟨g1, 0, none⟩) 1 1)) := Lib.hid fun W h => body_in (by have := h.size; omega) (cg1.below (by omega) h) ((HL.out.below (bw5.trans (h.mono hs5))).later (by have := h.size; omega))
  have Q2' := Lib.hid q2
  have CG1 := Lib.hid cg1
  have BW5 := Lib.hid bw5
  clear hW5 Q1 Q2 BW4 c16 f16 q2 cg1 bw5 z4
  go_wp2_with (go_at_call 8; (with_reducible refine (GR.out W5 _ BW5.out ?c1).mono ?_))
  case c1 => exact PI1.out _ (Below.refl _ _)
  rintro e w6 ⟨rfl, b6⟩
  have bw6 := Lib.hid (BW5.out.trans (b6.mono hs5))
  clear b6
  go_wp2
  go_ret
  exact ⟨rfl, bw6.out⟩
set_option maxRecDepth 100000 in
set_option maxHeartbeats 8000000 in
theorem treeBlock0_walk (l : List PS) (al : Option Addr) (nl ql : Nat) (w : World) (hl : SLIn w.heap.size w l (.slice al nl ql)) (hnn : nl ≤ maxLen) (d d' s : Nat) (wp wq : Bool)
    (AW : Hid (Calls Tryz.prog 17 #[] w fun e w' => e = .returned (.bool true) ∧ Below w.heap.size w w'))
    (SM : Hid (∀ W, Calls Tryz.prog 25 #[] W fun e w' => ∃ g, e = .returned (.agg #[.slice (some ⟨g, 0, none⟩) 1 1]) ∧ W.heap.size ≤ g ∧ g < w'.heap.size ∧ w'.heap[g]? = some (.cells (bodyCells (.slice none 0 0)).toArray 46 (0, 0)) ∧ Below W.heap.size W w'))
    (GR : Hid (∀ W v, Below w.heap.size w W → ProgIn W.heap.size W [bodyI l] v → Calls Tryz.prog 8 #[.agg #[v]] W fun e w' => e = .returned (.bool false) ∧ Below W.heap.size W w'))
    (DP : Hid (∀ W v, Below w.heap.size w W → ProgIn W.heap.size W [bodyI l] v → Calls Tryz.prog 12 #[.agg #[v]] W fun e w' => e = .returned (.int .i64 (d : Int)) ∧ Below W.heap.size W w'))
    (DQ : Hid (∀ W v, Below w.heap.size w W → ProgIn W.heap.size W [bodyI [blockS l]] v → Calls Tryz.prog 12 #[.agg #[v]] W fun e w' => e = .returned (.int .i64 (d' : Int)) ∧ Below W.heap.size W w'))
    (SP : Hid (∀ W v, Below w.heap.size w W → ProgIn W.heap.size W [bodyI l] v → Calls Tryz.prog 14 #[.agg #[v]] W fun e w' => e = .returned (.int .i64 (s : Int)) ∧ Below W.heap.size W w'))
    (SQ : Hid (∀ W v, Below w.heap.size w W → ProgIn W.heap.size W [bodyI [blockS l]] v → Calls Tryz.prog 14 #[.agg #[v]] W fun e w' => e = .returned (.int .i64 ((s : Int) + 1)) ∧ Below W.heap.size W w'))
    (WP : Hid (∀ W v, Below w.heap.size w W → ProgIn W.heap.size W [bodyI l] v → Calls Tryz.prog 10 #[.agg #[v]] W fun e w' => e = .returned (.bool wp) ∧ Below W.heap.size W w'))
    (WQ : Hid (∀ W v, Below w.heap.size w W → ProgIn W.heap.size W [bodyI [blockS l]] v → Calls Tryz.prog 10 #[.agg #[v]] W fun e w' => e = .returned (.bool wq) ∧ Below W.heap.size W w'))
    (hd : d' = d + (if nl = 0 then 0 else 1)) (hb : d ≤ 20001) (hs : s ≤ 20001) (hq : wq = (wp && decide (d' ≤ 40))) :
    Calls Tryz.prog 7 #[.slice al nl ql] w fun r w' => r = .returned (.bool true) ∧ Below w.heap.size w w' := by
  have HL := Lib.hid hl
  clear hl
  go_enter Tryz.func7, Tryz.ntmps7
  go_wp2_with fail
  refine (AW.out).mono ?_; rintro e w1 ⟨rfl, b1⟩
  have B1 := Lib.hid b1
  clear b1 AW
  go_wp2_with fail
  refine (SM.out _).mono ?_
  rintro e w2 ⟨g1, rfl, h11, h12, h13, b2⟩
  have P1 := Lib.hid h13
  have B2 := Lib.hid b2
  have b2' := Lib.hid b2
  clear h13 b2
  go_wp2_with fail
  refine (SM.out _).mono ?_
  rintro e w3 ⟨g2, rfl, h21, h22, h23, b3⟩
  have P2 := Lib.hid h23
  have B3 := Lib.hid b3
  have hs2 : w1.heap.size ≤ w2.heap.size := b2'.out.size
  have hs3 : w2.heap.size ≤ w3.heap.size := b3.size
  have hs1 : w.heap.size ≤ w1.heap.size := B1.out.size
  have p1 : w3.heap[g1]? = some (.cells (bodyCells (.slice none 0 0)).toArray 46 (0, 0)) := (b3.block g1 h12).trans P1.out
  have bw3 : Below w.heap.size w w3 := (B1.out.trans (B2.out.mono (by omega))).trans (b3.mono (by omega))
  have Q1 := Lib.hid p1
  clear h23 b3 p1 P1
  go_upto_region 4 with (fail)
  obtain ⟨W4, hW4⟩ : ∃ W4, W4 = (w3.alloc (.cells #[.slice (some ⟨g1, 0, none⟩) 1 1] 24)).alloc (.cells #[.slice (some ⟨g2, 0, none⟩) 1 1] 24) := ⟨_, rfl⟩
  rw [← hW4]
  have b34 : Below w3.heap.size w3 W4 := by rw [hW4]; exact ((Below.refl _ w3).alloc (Nat.le_refl _) _).alloc (by simp) _
  have z4 : w3.heap.size + 2 ≤ W4.heap.size := by rw [hW4]; simp
  have q1 : W4.heap[g1]? = some (.cells (bodyCells (.slice none 0 0)).toArray 46 (0, 0)) := (b34.block g1 (by omega)).trans Q1.out
  have q2 : W4.heap[g2]? = some (.cells (bodyCells (.slice none 0 0)).toArray 46 (0, 0)) := (b34.block g2 (by omega)).trans P2.out
  have t3 : W4.cell? ⟨w3.heap.size, 0, none⟩ = some (.slice (some ⟨g1, 0, none⟩) 1 1) := by rw [hW4]; go_simp
  have t4 : W4.cell? ⟨w3.heap.size + 1, 0, none⟩ = some (.slice (some ⟨g2, 0, none⟩) 1 1) := by rw [hW4]; go_simp
  have c16 : W4.cell? ⟨g1, 6, none⟩ = some (.slice none 0 0) := by have := block_cells q1 6 _ rfl; simpa using this
  have f16 : W4.frozen? ⟨g1, 6, none⟩ = false := box_frozen1 q1
  have bw4 : Below w.heap.size w W4 := bw3.trans (b34.mono (by omega))
  have Q1 := Lib.hid q1
  have Q2 := Lib.hid q2
  have BW4 := Lib.hid bw4
  obtain ⟨s3, hs3'⟩ : ∃ s3, s3 = w3.heap.size := ⟨_, rfl⟩
  rw [← hs3'] at t3 t4 z4 h22 ⊢
  have y1 : g1 < s3 := by omega
  have y2 : w.heap.size ≤ g1 := by omega
  have y3 : w.heap.size ≤ g2 := by omega
  have y4 : g1 ≠ g2 := by omega
  clear q1 q2 bw4 bw3 hW4 b34 P2 B1 B2 B3 SM hs1 hs2 hs3 hs3' h11 h12 h21
  go_upto_region 5 with (fail)
  obtain ⟨W5, hW5⟩ : ∃ W5, W5 = W4.setCell ⟨g1, 6, none⟩ (.slice al nl ql) := ⟨_, rfl⟩
  rw [← hW5]
  have z5 : s3 + 2 ≤ W5.heap.size := by rw [hW5]; simpa using z4
  have bw5 : Below w.heap.size w W5 := by rw [hW5]; exact BW4.out.setCell (by simpa using y2) _
  have cg1 : CellsAt W5 g1 0 (bodyCells (.slice al nl ql)) := by rw [hW5]; exact set6 _ Q1.out
  have q2 : W5.heap[g2]? = some (.cells (bodyCells (.slice none 0 0)).toArray 46 (0, 0)) := by rw [hW5]; exact (Below.heap_setCell _ _ _ _ (by simpa using (Ne.symm y4))).trans Q2.out
  replace t3 : W5.cell? ⟨s3, 0, none⟩ = some (.slice (some ⟨g1, 0, none⟩) 1 1) := by rw [hW5]; exact (World.cell?_setCell_other _ _ _ _ (by first | (simp; done) | (simp; omega))).trans t3
  replace t4 : W5.cell? ⟨s3 + 1, 0, none⟩ = some (.slice (some ⟨g2, 0, none⟩) 1 1) := by rw [hW5]; exact (World.cell?_setCell_other _ _ _ _ (by first | (simp; done) | (simp; omega))).trans t4
  have hs5 : w.heap.size ≤ W5.heap.size := bw5.size
  have PI1 : Hid (∀ W, Below W5.heap.size W5 W → ProgIn W.heap.size W [bodyI l] (.slice (some ⟨g1, 0, none⟩) 1 1)) := Lib.hid fun W h => body_in (by have := h.size; omega) (cg1.below (by omega) h) ((HL.out.below (bw5.trans (h.mono hs5))).later (by have := h.size; omega))
  have Q2' := Lib.hid q2
  have CG1 := Lib.hid cg1
  have BW5 := Lib.hid bw5
  clear hW5 Q1 Q2 BW4 c16 f16 q2 cg1 bw5 z4
  go_wp2_with (go_at_call 8; (with_reducible refine (GR.out W5 _ BW5.out ?c1).mono ?_))
  case c1 => exact PI1.out _ (Below.refl _ _)
  rintro e w6 ⟨rfl, b6⟩
  have B6 := Lib.hid b6
  have hs6 := b6.size
  replace t3 := (b6.cell (p := ⟨s3, 0, none⟩) (by simp; omega)).trans t3
  replace t4 := (b6.cell (p := ⟨s3 + 1, 0, none⟩) (by simp; omega)).trans t4
  have q2 : w6.heap[g2]? = some (.cells (bodyCells (.slice none 0 0)).toArray 46 (0, 0)) := (b6.block g2 (by omega)).trans Q2'.out
  have c26 : w6.cell? ⟨g2, 6, none⟩ = some (.slice none 0 0) := by have := block_cells q2 6 _ rfl; simpa using this
  have f26 : w6.frozen? ⟨g2, 6, none⟩ = false := box_frozen1 q2
  have Q2 := Lib.hid q2
  have bw6 : Below w.heap.size w w6 := BW5.out.trans (b6.mono (by omega))
  have BW6 := Lib.hid bw6
  have CG6 : Hid (CellsAt w6 g1 0 (bodyCells (.slice al nl ql))) := Lib.hid (CG1.out.below (by omega) b6)
  have y5 : s3 + 1 < w6.heap.size := by omega
  have y6 : g2 < w6.heap.size := by omega
  clear b6 q2 Q2' bw6 BW5 CG1 PI1 GR
  go_upto_region 8 with (fail)
  obtain ⟨W7, hW7⟩ : ∃ W7, W7 = (w6.setCell ⟨g2, 6, none⟩ (.slice (some ⟨w6.heap.size, 0, none⟩) 1 1)).alloc (.cells #[.int .u8 13, .string ⟨#[]⟩, .string ⟨#[]⟩, .slice none 0 0, .int .u8 0, .string ⟨#[]⟩, .slice none 0 0, .int .i64 0, .string ⟨#[]⟩, .slice none 0 0, .slice none 0 0, .slice al nl ql, .slice none 0 0, .slice none 0 0, .int .i64 0] 51) := ⟨_, rfl⟩
  rw [← hW7]
  have z7 : w6.heap.size + 1 ≤ W7.heap.size := by rw [hW7]; simp
  have bx : Below w6.heap.size (w6.setCell ⟨g2, 6, none⟩ (.slice (some ⟨w6.heap.size, 0, none⟩) 1 1)) W7 := by rw [hW7]; exact (Below.refl _ _).alloc (by simp) _
  have bw7 : Below w.heap.size w W7 := by rw [hW7]; exact (BW6.out.setCell (by simpa using y3) _).alloc (by have := BW6.out.size; simpa using this) _
  have cg2 : CellsAt W7 g2 0 (bodyCells (.slice (some ⟨w6.heap.size, 0, none⟩) 1 1)) := (set6 _ Q2.out).below y6 bx
  have cb : CellsAt W7 w6.heap.size 0 (blockCells (.slice al nl ql)) := by
    have := block_cells (heap_alloc_new (w6.setCell ⟨g2, 6, none⟩ (.slice (some ⟨w6.heap.size, 0, none⟩) 1 1)) (.cells (blockCells (.slice al nl ql)).toArray 51))
    have e : (w6.setCell ⟨g2, 6, none⟩ (.slice (some ⟨w6.heap.size, 0, none⟩) 1 1)).heap.size = w6.heap.size := by simp
    rw [e] at this
    rw [hW7]; exact this
  have cg1 : CellsAt W7 g1 0 (bodyCells (.slice al nl ql)) := by
    intro i v hi
    exact (bx.cell (p := ⟨g1, 0 + i, none⟩) (by simp; omega)).trans ((World.cell?_setCell_other _ _ _ _ (by intro e; have := congrArg Addr.block e; exact y4 (by simpa using this.symm))).trans (CG6.out i v hi))
  replace t3 : W7.cell? ⟨s3, 0, none⟩ = some (.slice (some ⟨g1, 0, none⟩) 1 1) := (bx.cell (p := ⟨s3, 0, none⟩) (by simp; omega)).trans ((World.cell?_setCell_other _ _ _ _ (by first | (simp; done) | (simp; omega))).trans t3)
  replace t4 : W7.cell? ⟨s3 + 1, 0, none⟩ = some (.slice (some ⟨g2, 0, none⟩) 1 1) := (bx.cell (p := ⟨s3 + 1, 0, none⟩) (by simp; omega)).trans ((World.cell?_setCell_other _ _ _ _ (by first | (simp; done) | (simp; omega))).trans t4)
  have hs7 : w.heap.size ≤ W7.heap.size := bw7.size
  have LI : Hid (∀ W, Below W7.heap.size W7 W → SLIn W.heap.size W l (.slice al nl ql)) := Lib.hid fun W h => (HL.out.below (bw7.trans (h.mono hs7))).later (by have := h.size; omega)
  have PI1 : Hid (∀ W, Below W7.heap.size W7 W → ProgIn W.heap.size W [bodyI l] (.slice (some ⟨g1, 0, none⟩) 1 1)) := Lib.hid fun W h => body_in (by have := h.size; omega) (cg1.below (by omega) h) (LI.out W h)
  have PI2 : Hid (∀ W, Below W7.heap.size W7 W → ProgIn W.heap.size W [bodyI [blockS l]] (.slice (some ⟨g2, 0, none⟩) 1 1)) := Lib.hid fun W h => body_in (by have := h.size; omega) (cg2.below (by omega) h) (block_in (by have := h.size; omega) (cb.below (by omega) h) (LI.out W h))
  have KO : Hid (∀ W, Below W7.heap.size W7 W → Below w.heap.size w W) := Lib.hid fun W h => bw7.trans (h.mono hs7)
  obtain ⟨s6, hs6'⟩ : ∃ s6, s6 = w6.heap.size := ⟨_, rfl⟩
  rw [← hs6'] at z7 y5 y6 ⊢
  have x3 : s3 < W7.heap.size := by omega
  have x4 : s3 + 1 < W7.heap.size := by omega
  clear hW7 bx bw7 cg2 cb cg1 LI CG6 Q2 c26 f26 BW6 B6 HL hs6 hs6' z5 hs5
  go_upto_region 9 with (go_at_call 12; (with_reducible refine (DP.out W7 _ (KO.out _ (Below.refl _ _)) ?c1).mono ?_); (try exact PI1.out _ (Below.refl _ _)); rintro e w8 ⟨rfl, b8⟩)
  have B8 := Lib.hid b8
  have hs8 := b8.size
  replace t3 := (b8.cell (p := ⟨s3, 0, none⟩) (by simp; omega)).trans t3
  replace t4 := (b8.cell (p := ⟨s3 + 1, 0, none⟩) (by simp; omega)).trans t4
  replace x3 : s3 < w8.heap.size := by omega
  replace x4 : s3 + 1 < w8.heap.size := by omega
  clear b8 y1 y2 y3 y4 y5 y6 z7 hs7 h22
  have hF := Over.cells (W0 := w8)
  have KB : Hid (∀ n : Over w8, Below W7.heap.size W7 n.w) := Lib.hid fun n => B8.out.trans (n.h.mono hs8)
  have K8 : Hid (∀ n : Over w8, Below w.heap.size w n.w) := Lib.hid fun n => KO.out _ (KB.out n)
  have A1 : Hid (∀ n : Over w8, Calls Tryz.prog 14 #[.agg #[.slice (some ⟨g2, 0, none⟩) 1 1]] n.w fun e w'' => e = .returned (.int .i64 ((s : Int) + 1)) ∧ ∃ m : Over w8, w'' = m.w) := Lib.hid fun n => over_calls (SQ.out _ _ (K8.out n) (PI2.out _ (KB.out n)))
  have A2 : Hid (∀ n : Over w8, Calls Tryz.prog 14 #[.agg #[.slice (some ⟨g1, 0, none⟩) 1 1]] n.w fun e w'' => e = .returned (.int .i64 (s : Int)) ∧ ∃ m : Over w8, w'' = m.w) := Lib.hid fun n => over_calls (SP.out _ _ (K8.out n) (PI1.out _ (KB.out n)))
  have A3 : Hid (∀ n : Over w8, Calls Tryz.prog 12 #[.agg #[.slice (some ⟨g2, 0, none⟩) 1 1]] n.w fun e w'' => e = .returned (.int .i64 (d' : Int)) ∧ ∃ m : Over w8, w'' = m.w) := Lib.hid fun n => over_calls (DQ.out _ _ (K8.out n) (PI2.out _ (KB.out n)))
  have A4 : Hid (∀ n : Over w8, Calls Tryz.prog 10 #[.agg #[.slice (some ⟨g2, 0, none⟩) 1 1]] n.w fun e w'' => e = .returned (.bool wq) ∧ ∃ m : Over w8, w'' = m.w) := Lib.hid fun n => over_calls (WQ.out _ _ (K8.out n) (PI2.out _ (KB.out n)))
  have A5 : Hid (∀ n : Over w8, Calls Tryz.prog 10 #[.agg #[.slice (some ⟨g1, 0, none⟩) 1 1]] n.w fun e w'' => e = .returned (.bool wp) ∧ ∃ m : Over w8, w'' = m.w) := Lib.hid fun n => over_calls (WP.out _ _ (K8.out n) (PI1.out _ (KB.out n)))
  clear KO KB B8 PI1 PI2 SP SQ DP DQ WP WQ hs8
  by_cases hz : nl = 0
  · subst hz
    obtain rfl : d' = d := by simpa using hd
    clear hd hnn
    go_upto_region 11 with (fail)
    cases wp
    · obtain rfl : wq = false := by simpa using hq
      clear hq
      as_aux_lemma =>
        refine wp_region_over (by kernel_rfl) (by kernel_rfl) ?_
        repeat (go_big_quiet_step ((first | (go_at_call 14; exact A1.out _) | (go_at_call 14; exact A2.out _) | (go_at_call 12; exact A3.out _) | (go_at_call 10; exact A4.out _) | (go_at_call 10; exact A5.out _))))
        refine wpQuiet_nil ?_
        rintro _ ⟨m, rfl⟩
        have HFm := Lib.hid (K8.out m)
        go_wp2
        go_ret
        exact ⟨rfl, HFm.out⟩
    · by_cases hD : d' ≤ 40
      · obtain rfl : wq = true := by simpa [hD] using hq
        have lD : decide ((d' : Int) ≤ 40) = true := by simpa using (by omega : (d' : Int) ≤ 40)
        clear hq hD
        as_aux_lemma =>
          refine wp_region_over (by kernel_rfl) (by kernel_rfl) ?_
          repeat (go_big_quiet_step ((first | (go_at_call 14; exact A1.out _) | (go_at_call 14; exact A2.out _) | (go_at_call 12; exact A3.out _) | (go_at_call 10; exact A4.out _) | (go_at_call 10; exact A5.out _))))
          refine wpQuiet_nil ?_
          rintro _ ⟨m, rfl⟩
          have HFm := Lib.hid (K8.out m)
          go_wp2
          go_ret
          exact ⟨rfl, HFm.out⟩
      · obtain rfl : wq = false := by simpa [hD] using hq
        have lD : decide ((d' : Int) ≤ 40) = false := by simpa using (by omega : 40 < (d' : Int))
        clear hq hD
        as_aux_lemma =>
          refine wp_region_over (by kernel_rfl) (by kernel_rfl) ?_
          repeat (go_big_quiet_step ((first | (go_at_call 14; exact A1.out _) | (go_at_call 14; exact A2.out _) | (go_at_call 12; exact A3.out _) | (go_at_call 10; exact A4.out _) | (go_at_call 10; exact A5.out _))))
          refine wpQuiet_nil ?_
          rintro _ ⟨m, rfl⟩
          have HFm := Lib.hid (K8.out m)
          go_wp2
          go_ret
          exact ⟨rfl, HFm.out⟩
  · obtain rfl : d' = d + 1 := by simpa [hz] using hd
    have hgt : (0 : Int) < (nl : Int) := by omega
    clear hd hz
    go_upto_region 11 with (fail)
    simp only [Int.natCast_add, Int.cast_ofNat_Int] at A3
    cases wp
    · obtain rfl : wq = false := by simpa using hq
      clear hq
      as_aux_lemma =>
        refine wp_region_over (by kernel_rfl) (by kernel_rfl) ?_
        repeat (go_big_quiet_step ((first | (go_at_call 14; exact A1.out _) | (go_at_call 14; exact A2.out _) | (go_at_call 12; exact A3.out _) | (go_at_call 10; exact A4.out _) | (go_at_call 10; exact A5.out _))))
        refine wpQuiet_nil ?_
        rintro _ ⟨m, rfl⟩
        have HFm := Lib.hid (K8.out m)
        go_wp2
        go_ret
        exact ⟨rfl, HFm.out⟩
    · by_cases hD : d + 1 ≤ 40
      · obtain rfl : wq = true := by simpa [hD] using hq
        have lD : decide (((d : Int) + 1) ≤ 40) = true := by simpa using (by omega : ((d : Int) + 1) ≤ 40)
        clear hq hD
        as_aux_lemma =>
          refine wp_region_over (by kernel_rfl) (by kernel_rfl) ?_
          repeat (go_big_quiet_step ((first | (go_at_call 14; exact A1.out _) | (go_at_call 14; exact A2.out _) | (go_at_call 12; exact A3.out _) | (go_at_call 10; exact A4.out _) | (go_at_call 10; exact A5.out _))))
          refine wpQuiet_nil ?_
          rintro _ ⟨m, rfl⟩
          have HFm := Lib.hid (K8.out m)
          go_wp2
          go_ret
          exact ⟨rfl, HFm.out⟩
      · obtain rfl : wq = false := by simpa [hD] using hq
        have lD : decide (((d : Int) + 1) ≤ 40) = false := by simpa using (by omega : 40 < ((d : Int) + 1))
        clear hq hD
        as_aux_lemma =>
          refine wp_region_over (by kernel_rfl) (by kernel_rfl) ?_
          repeat (go_big_quiet_step ((first | (go_at_call 14; exact A1.out _) | (go_at_call 14; exact A2.out _) | (go_at_call 12; exact A3.out _) | (go_at_call 10; exact A4.out _) | (go_at_call 10; exact A5.out _))))
          refine wpQuiet_nil ?_
          rintro _ ⟨m, rfl⟩
          have HFm := Lib.hid (K8.out m)
          go_wp2
          go_ret
          exact ⟨rfl, HFm.out⟩

set_option maxHeartbeats 2000000 in
theorem treeBlock_walk (l : List PS) (al : Option Addr) (nl ql : Nat) (w : World) (hm : MaxOk w) (hl : SLIn w.heap.size w l (.slice al nl ql)) :
    Calls Tryz.prog 7 #[.slice al nl ql] w fun r w' => r = .returned (.bool true) ∧ Below w.heap.size w w' := by
  obtain ⟨hn, hnn, _⟩ : nl = l.length ∧ nl ≤ maxLen ∧ True := by
    obtain ⟨b, o, h1, _⟩ := hl
    exact ⟨(slv_len h1).1, (slv_len h1).2.1, trivial⟩
  have SM : Hid (∀ W, Calls Tryz.prog 25 #[] W fun e w' => ∃ g, e = .returned (.agg #[.slice (some ⟨g, 0, none⟩) 1 1]) ∧ W.heap.size ≤ g ∧ g < w'.heap.size ∧ w'.heap[g]? = some (.cells (bodyCells (.slice none 0 0)).toArray 46 (0, 0)) ∧ Below W.heap.size W w') := Lib.hid fun W => small_calls W
  by_cases hg : progR [bodyI l] 20000 < 0
  · exact treeBlock1_walk l al nl ql w hl hnn (Lib.hid (awake_calls w hm)) SM (Lib.hid fun W v b h => by
      have := great_calls W.heap.size [bodyI l] v W (Nat.le_refl _) h
      rwa [decide_eq_true hg] at this)
  · obtain ⟨hb, hs⟩ := nbody_size hg
    have hd := depth_block l
    have hz := size_block l
    rw [← hn] at hd
    refine treeBlock0_walk l al nl ql w hl hnn (depthR (rtP [bodyI l])) (depthR (rtP [bodyI [blockS l]])) (sizeR (rtP [bodyI l])) (wholeR 40 (rtP [bodyI l])) (wholeR 40 (rtP [bodyI [blockS l]])) (Lib.hid (awake_calls w hm)) SM (Lib.hid fun W v b h => by
      have := great_calls W.heap.size [bodyI l] v W (Nat.le_refl _) h
      rwa [decide_eq_false hg] at this) (Lib.hid fun W v b h => ?_) (Lib.hid fun W v b h => ?_) (Lib.hid fun W v b h => ?_) (Lib.hid fun W v b h => ?_) (Lib.hid fun W v b h => ?_) (Lib.hid fun W v b h => ?_) hd hb hs (whole_block l)
    all_goals (obtain ⟨ao, n, c, rfl⟩ := progIn_shape h)
    · exact topDepth_calls W.heap.size _ ao n c W (Nat.le_refl _) (hm.below b) h (by omega)
    · exact topDepth_calls W.heap.size _ ao n c W (Nat.le_refl _) (hm.below b) h (by rw [hd]; split <;> omega)
    · exact topSize_calls W.heap.size _ ao n c W (Nat.le_refl _) (hm.below b) h (by omega)
    · have := topSize_calls W.heap.size _ ao n c W (Nat.le_refl _) (hm.below b) h (by omega)
      rw [hz] at this
      simpa using this
    · exact topWhole_calls W.heap.size _ ao n c W (Nat.le_refl _) (hm.below b) h
    · exact topWhole_calls W.heap.size _ ao n c W (Nat.le_refl _) (hm.below b) h
end Go.Proofs.YtabncmmadbjegaaGreat
