/- ShowParts: the walk over abstract contracts. -/
import Derived.Test.YthilicmhdkmipaaGreatDoorQShowTops
namespace Go.Proofs.YthilicmhdkmipaaGreatDoor
open Go.RowKit
set_option linter.unusedVariables false

set_option maxRecDepth 100000 in
set_option maxHeartbeats 8000000 in
theorem showParts_walk (k : Int) (tn : ByteArray) (at1 : Option Addr) (tn1 tq1 : Nat) (op iv : Int) (nm sc pn : ByteArray) (ps : Int) (p0 : Option Addr) (n0 q0 : Nat) (p1 : Option Addr) (n1 q1 : Nat) (w : World) (a l r p : Bool) (SA SE SP : ByteArray)
    (G1 : Hid (∀ W, Below w.heap.size w W → Calls Tryz.prog 15 #[.agg #[.int .u8 k, .string tn, .slice at1 tn1 tq1]] W fun e w' => e = .returned (.bool false) ∧ Below W.heap.size W w'))
    (G2 : Hid (∀ W, Below w.heap.size w W → Calls Tryz.prog 16 #[.agg #[.int .u8 op, .int .i64 iv, .string nm, .string sc, .string pn, .slice p0 n0 q0, .slice p1 n1 q1, .int .i64 ps]] W fun e w' => e = .returned (.bool false) ∧ Below W.heap.size W w'))
    (T1 : Hid (∀ W, Below w.heap.size w W → Calls Tryz.prog 17 #[.agg #[.int .u8 k, .string tn, .slice at1 tn1 tq1], .int .i64 40] W fun e w' => e = .returned (.bool a) ∧ Below W.heap.size W w'))
    (T2 : Hid (∀ W, Below w.heap.size w W → Calls Tryz.prog 20 #[.agg #[.int .u8 op, .int .i64 iv, .string nm, .string sc, .string pn, .slice p0 n0 q0, .slice p1 n1 q1, .int .i64 ps]] W fun e w' => e = .returned (.bool l) ∧ Below W.heap.size W w'))
    (T3 : Hid (∀ W, Below w.heap.size w W → Calls Tryz.prog 21 #[.agg #[.int .u8 op, .int .i64 iv, .string nm, .string sc, .string pn, .slice p0 n0 q0, .slice p1 n1 q1, .int .i64 ps], .int .i64 40] W fun e w' => e = .returned (.bool r) ∧ Below W.heap.size W w'))
    (T4 : Hid (∀ W, Below w.heap.size w W → Calls Tryz.prog 23 #[.agg #[.string pn, .slice p0 n0 q0]] W fun e w' => e = .returned (.bool p) ∧ Below W.heap.size W w'))
    (D1 : Hid (a = true → ∀ W, Below w.heap.size w W → Calls Tryz.prog 19 #[.agg #[.int .u8 k, .string tn, .slice at1 tn1 tq1]] W fun e w' => ∃ u, e = .returned u ∧ Below W.heap.size W w' ∧ Calls Tryz.prog 18 #[u] w' fun e w2 => e = .returned (.string SA) ∧ Below w'.heap.size w' w2))
    (D2 : Hid (r = true → ∀ W, Below w.heap.size w W → Calls Tryz.prog 22 #[.agg #[.int .u8 op, .int .i64 iv, .string nm, .string sc, .string pn, .slice p0 n0 q0, .slice p1 n1 q1, .int .i64 ps]] W fun e w' => ∃ u, e = .returned u ∧ Below W.heap.size W w' ∧ Calls Tryz.prog 18 #[u] w' fun e w2 => e = .returned (.string SE) ∧ Below w'.heap.size w' w2))
    (D3 : Hid (p = true → ∀ W, Below w.heap.size w W → Calls Tryz.prog 24 #[.agg #[.string pn, .slice p0 n0 q0]] W fun e w' => ∃ u, e = .returned u ∧ Below W.heap.size W w' ∧ Calls Tryz.prog 18 #[u] w' fun e w2 => e = .returned (.string SP) ∧ Below w'.heap.size w' w2))
    (S1 : Hid (∀ W, Below w.heap.size w W → Calls Tryz.prog 25 #[.agg #[.int .u8 k, .string tn, .slice at1 tn1 tq1]] W fun e w' => e = .returned (.string (if a then SA else ⟨#[]⟩)) ∧ Below W.heap.size W w'))
    (S2 : Hid (∀ W, Below w.heap.size w W → Calls Tryz.prog 26 #[.agg #[.int .u8 op, .int .i64 iv, .string nm, .string sc, .string pn, .slice p0 n0 q0, .slice p1 n1 q1, .int .i64 ps]] W fun e w' => e = .returned (.string (if (!l && r) then SE else ⟨#[]⟩)) ∧ Below W.heap.size W w'))
    (S3 : Hid (∀ W, Below w.heap.size w W → Calls Tryz.prog 27 #[.agg #[.string pn, .slice p0 n0 q0]] W fun e w' => e = .returned (.string (if p then SP else ⟨#[]⟩)) ∧ Below W.heap.size W w')) :
    Calls Tryz.prog 4 #[.agg #[.int .u8 k, .string tn, .slice at1 tn1 tq1], .agg #[.int .u8 op, .int .i64 iv, .string nm, .string sc, .string pn, .slice p0 n0 q0, .slice p1 n1 q1, .int .i64 ps]] w fun e w' => e = .returned (.bool true) ∧ Below w.heap.size w w' := by
  obtain ⟨w1, hw1⟩ : ∃ w1, w1 = (w.alloc (.cells #[.int .u8 k, .string tn, .slice at1 tn1 tq1] 31)).alloc (.cells #[.int .u8 op, .int .i64 iv, .string nm, .string sc, .string pn, .slice p0 n0 q0, .slice p1 n1 q1, .int .i64 ps] 37) := ⟨_, rfl⟩
  have bx : Below w.heap.size w w1 := by rw [hw1]; exact (new_only _ _).alloc (by simp) _
  have hz1 : w.heap.size + 2 ≤ w1.heap.size := by rw [hw1]; simp
  have hg0 : w1.heap[w.heap.size]? = some (.cells #[.int .u8 k, .string tn, .slice at1 tn1 tq1] 31 (0, 0)) := by
    rw [hw1]; exact (Below.heap_alloc _ _ _ (by simp)).trans (heap_alloc_new w _)
  have hg1 : w1.heap[w.heap.size + 1]? = some (.cells #[.int .u8 op, .int .i64 iv, .string nm, .string sc, .string pn, .slice p0 n0 q0, .slice p1 n1 q1, .int .i64 ps] 37 (0, 0)) := by
    rw [hw1]
    have := heap_alloc_new (w.alloc (.cells #[.int .u8 k, .string tn, .slice at1 tn1 tq1] 31)) (.cells #[.int .u8 op, .int .i64 iv, .string nm, .string sc, .string pn, .slice p0 n0 q0, .slice p1 n1 q1, .int .i64 ps] 37)
    simpa using this
  -- what both boxes hold, at whatever lies over
  have HF : Hid (∀ W, Below (w.heap.size + 2) w1 W → (∀ o, W.cell? ⟨w.heap.size, o, none⟩ = w1.cell? ⟨w.heap.size, o, none⟩) ∧ ∀ o, W.cell? ⟨w.heap.size + 1, o, none⟩ = w1.cell? ⟨w.heap.size + 1, o, none⟩) :=
    Lib.hid fun W h => ⟨fun o => h.cell (p := ⟨w.heap.size, o, none⟩) (by show w.heap.size < w.heap.size + 2; omega), fun o => h.cell (p := ⟨w.heap.size + 1, o, none⟩) (by show w.heap.size + 1 < w.heap.size + 2; omega)⟩
  have f0 : w1.cell? ⟨w.heap.size, 0, none⟩ = some (.int .u8 k) := by rw [cell_of_row _ _ 0 _ _ _ hg0]; rfl
  have f1 : w1.cell? ⟨w.heap.size, 1, none⟩ = some (.string tn) := by rw [cell_of_row _ _ 1 _ _ _ hg0]; rfl
  have f2 : w1.cell? ⟨w.heap.size, 2, none⟩ = some (.slice at1 tn1 tq1) := by rw [cell_of_row _ _ 2 _ _ _ hg0]; rfl
  have d0 : w1.cell? ⟨w.heap.size + 1, 0, none⟩ = some (.int .u8 op) := by rw [cell_of_row _ _ 0 _ _ _ hg1]; rfl
  have d1 : w1.cell? ⟨w.heap.size + 1, 1, none⟩ = some (.int .i64 iv) := by rw [cell_of_row _ _ 1 _ _ _ hg1]; rfl
  have d2 : w1.cell? ⟨w.heap.size + 1, 2, none⟩ = some (.string nm) := by rw [cell_of_row _ _ 2 _ _ _ hg1]; rfl
  have d3 : w1.cell? ⟨w.heap.size + 1, 3, none⟩ = some (.string sc) := by rw [cell_of_row _ _ 3 _ _ _ hg1]; rfl
  have d4 : w1.cell? ⟨w.heap.size + 1, 4, none⟩ = some (.string pn) := by rw [cell_of_row _ _ 4 _ _ _ hg1]; rfl
  have d5 : w1.cell? ⟨w.heap.size + 1, 5, none⟩ = some (.slice p0 n0 q0) := by rw [cell_of_row _ _ 5 _ _ _ hg1]; rfl
  have d6 : w1.cell? ⟨w.heap.size + 1, 6, none⟩ = some (.slice p1 n1 q1) := by rw [cell_of_row _ _ 6 _ _ _ hg1]; rfl
  have d7 : w1.cell? ⟨w.heap.size + 1, 7, none⟩ = some (.int .i64 ps) := by rw [cell_of_row _ _ 7 _ _ _ hg1]; rfl
  have BX := Lib.hid bx
  have Z0 : Hid (Below (w.heap.size + 2) w1 w1) := Lib.hid (Below.refl _ _)
  have y0 : w.heap.size < w1.heap.size := by omega
  have y1 : w.heap.size + 1 < w1.heap.size := by omega
  clear bx hg0 hg1
  go_enter Tryz.func4, Tryz.ntmps4
  go_upto_region 1 with (fail)
  (try simp only [size_alloc])
  rw [← hw1]
  clear hw1
  have Z1 := Z0
  have hc1 := HF.out w1 Z1.out
  have f0_1 := (hc1.1 0).trans f0
  have f1_1 := (hc1.1 1).trans f1
  have f2_1 := (hc1.1 2).trans f2
  have d0_1 := (hc1.2 0).trans d0
  have d1_1 := (hc1.2 1).trans d1
  have d2_1 := (hc1.2 2).trans d2
  have d3_1 := (hc1.2 3).trans d3
  have d4_1 := (hc1.2 4).trans d4
  have d5_1 := (hc1.2 5).trans d5
  have d6_1 := (hc1.2 6).trans d6
  have d7_1 := (hc1.2 7).trans d7
  have y0_1 : w.heap.size < w1.heap.size := by have := Z1.out.size; omega
  have y1_1 : w.heap.size + 1 < w1.heap.size := by have := Z1.out.size; omega
  clear hc1
  go_wp2_with fail
  (with_reducible refine (G1.out w1 (BX.out.trans (Z1.out.mono (by omega)))).mono ?_)
  rintro e w2 ⟨rfl, b2⟩
  have Z2 := Lib.hid (Z1.out.trans (b2.mono (by have := Z1.out.size; omega)))
  clear b2
  have hc2 := HF.out w2 Z2.out
  have f0_2 := (hc2.1 0).trans f0
  have f1_2 := (hc2.1 1).trans f1
  have f2_2 := (hc2.1 2).trans f2
  have d0_2 := (hc2.2 0).trans d0
  have d1_2 := (hc2.2 1).trans d1
  have d2_2 := (hc2.2 2).trans d2
  have d3_2 := (hc2.2 3).trans d3
  have d4_2 := (hc2.2 4).trans d4
  have d5_2 := (hc2.2 5).trans d5
  have d6_2 := (hc2.2 6).trans d6
  have d7_2 := (hc2.2 7).trans d7
  have y0_2 : w.heap.size < w2.heap.size := by have := Z2.out.size; omega
  have y1_2 : w.heap.size + 1 < w2.heap.size := by have := Z2.out.size; omega
  clear hc2
  go_wp2_with fail
  (with_reducible refine (G2.out w2 (BX.out.trans (Z2.out.mono (by omega)))).mono ?_)
  rintro e w3 ⟨rfl, b3⟩
  have Z3 := Lib.hid (Z2.out.trans (b3.mono (by have := Z2.out.size; omega)))
  clear b3
  clear f0_2 f1_2 f2_2 d0_2 d1_2 d2_2 d3_2 d4_2 d5_2 d6_2 d7_2 y0_2 y1_2
  have hc3 := HF.out w3 Z3.out
  have f0_3 := (hc3.1 0).trans f0
  have f1_3 := (hc3.1 1).trans f1
  have f2_3 := (hc3.1 2).trans f2
  have d0_3 := (hc3.2 0).trans d0
  have d1_3 := (hc3.2 1).trans d1
  have d2_3 := (hc3.2 2).trans d2
  have d3_3 := (hc3.2 3).trans d3
  have d4_3 := (hc3.2 4).trans d4
  have d5_3 := (hc3.2 5).trans d5
  have d6_3 := (hc3.2 6).trans d6
  have d7_3 := (hc3.2 7).trans d7
  have y0_3 : w.heap.size < w3.heap.size := by have := Z3.out.size; omega
  have y1_3 : w.heap.size + 1 < w3.heap.size := by have := Z3.out.size; omega
  clear hc3
  go_wp2_with fail
  (with_reducible refine (T1.out w3 (BX.out.trans (Z3.out.mono (by omega)))).mono ?_)
  rintro e w4 ⟨rfl, b4⟩
  have Z4 := Lib.hid (Z3.out.trans (b4.mono (by have := Z3.out.size; omega)))
  clear b4
  clear f0_3 f1_3 f2_3 d0_3 d1_3 d2_3 d3_3 d4_3 d5_3 d6_3 d7_3 y0_3 y1_3
  have hc4 := HF.out w4 Z4.out
  have f0_4 := (hc4.1 0).trans f0
  have f1_4 := (hc4.1 1).trans f1
  have f2_4 := (hc4.1 2).trans f2
  have d0_4 := (hc4.2 0).trans d0
  have d1_4 := (hc4.2 1).trans d1
  have d2_4 := (hc4.2 2).trans d2
  have d3_4 := (hc4.2 3).trans d3
  have d4_4 := (hc4.2 4).trans d4
  have d5_4 := (hc4.2 5).trans d5
  have d6_4 := (hc4.2 6).trans d6
  have d7_4 := (hc4.2 7).trans d7
  have y0_4 : w.heap.size < w4.heap.size := by have := Z4.out.size; omega
  have y1_4 : w.heap.size + 1 < w4.heap.size := by have := Z4.out.size; omega
  clear hc4
  cases a with
  | true =>
    go_wp2_with fail
    (with_reducible refine ((D1.out trivial) w4 (BX.out.trans (Z4.out.mono (by omega)))).mono ?_)
    rintro e w5 ⟨u5, rfl, b5, CL⟩
    have Z5 := Lib.hid (Z4.out.trans (b5.mono (by have := Z4.out.size; omega)))
    have CLH := Lib.hid CL
    clear b5 CL
    go_wp2_with fail
    (with_reducible refine (CLH.out).mono ?_)
    rintro e w6 ⟨rfl, b6⟩
    have Z6 := Lib.hid (Z5.out.trans (b6.mono (by have := Z5.out.size; omega)))
    clear b6 CLH
    clear f0_4 f1_4 f2_4 d0_4 d1_4 d2_4 d3_4 d4_4 d5_4 d6_4 d7_4 y0_4 y1_4
    have hc6 := HF.out w6 Z6.out
    have f0_6 := (hc6.1 0).trans f0
    have f1_6 := (hc6.1 1).trans f1
    have f2_6 := (hc6.1 2).trans f2
    have d0_6 := (hc6.2 0).trans d0
    have d1_6 := (hc6.2 1).trans d1
    have d2_6 := (hc6.2 2).trans d2
    have d3_6 := (hc6.2 3).trans d3
    have d4_6 := (hc6.2 4).trans d4
    have d5_6 := (hc6.2 5).trans d5
    have d6_6 := (hc6.2 6).trans d6
    have d7_6 := (hc6.2 7).trans d7
    have y0_6 : w.heap.size < w6.heap.size := by have := Z6.out.size; omega
    have y1_6 : w.heap.size + 1 < w6.heap.size := by have := Z6.out.size; omega
    clear hc6
    go_wp2_with fail
    (with_reducible refine (T2.out w6 (BX.out.trans (Z6.out.mono (by omega)))).mono ?_)
    rintro e w7 ⟨rfl, b7⟩
    have Z7 := Lib.hid (Z6.out.trans (b7.mono (by have := Z6.out.size; omega)))
    clear b7
    clear f0_6 f1_6 f2_6 d0_6 d1_6 d2_6 d3_6 d4_6 d5_6 d6_6 d7_6 y0_6 y1_6
    have hc7 := HF.out w7 Z7.out
    have f0_7 := (hc7.1 0).trans f0
    have f1_7 := (hc7.1 1).trans f1
    have f2_7 := (hc7.1 2).trans f2
    have d0_7 := (hc7.2 0).trans d0
    have d1_7 := (hc7.2 1).trans d1
    have d2_7 := (hc7.2 2).trans d2
    have d3_7 := (hc7.2 3).trans d3
    have d4_7 := (hc7.2 4).trans d4
    have d5_7 := (hc7.2 5).trans d5
    have d6_7 := (hc7.2 6).trans d6
    have d7_7 := (hc7.2 7).trans d7
    have y0_7 : w.heap.size < w7.heap.size := by have := Z7.out.size; omega
    have y1_7 : w.heap.size + 1 < w7.heap.size := by have := Z7.out.size; omega
    clear hc7
    cases l with
    | true =>
      go_wp2_with fail
      (with_reducible refine (T4.out w7 (BX.out.trans (Z7.out.mono (by omega)))).mono ?_)
      rintro e w8 ⟨rfl, b8⟩
      have Z8 := Lib.hid (Z7.out.trans (b8.mono (by have := Z7.out.size; omega)))
      clear b8
      clear f0_7 f1_7 f2_7 d0_7 d1_7 d2_7 d3_7 d4_7 d5_7 d6_7 d7_7 y0_7 y1_7
      have hc8 := HF.out w8 Z8.out
      have f0_8 := (hc8.1 0).trans f0
      have f1_8 := (hc8.1 1).trans f1
      have f2_8 := (hc8.1 2).trans f2
      have d0_8 := (hc8.2 0).trans d0
      have d1_8 := (hc8.2 1).trans d1
      have d2_8 := (hc8.2 2).trans d2
      have d3_8 := (hc8.2 3).trans d3
      have d4_8 := (hc8.2 4).trans d4
      have d5_8 := (hc8.2 5).trans d5
      have d6_8 := (hc8.2 6).trans d6
      have d7_8 := (hc8.2 7).trans d7
      have y0_8 : w.heap.size < w8.heap.size := by have := Z8.out.size; omega
      have y1_8 : w.heap.size + 1 < w8.heap.size := by have := Z8.out.size; omega
      clear hc8
      cases p with
      | true =>
        go_wp2_with fail
        (with_reducible refine ((D3.out trivial) w8 (BX.out.trans (Z8.out.mono (by omega)))).mono ?_)
        rintro e w9 ⟨u9, rfl, b9, CL⟩
        have Z9 := Lib.hid (Z8.out.trans (b9.mono (by have := Z8.out.size; omega)))
        have CLH := Lib.hid CL
        clear b9 CL
        go_wp2_with fail
        (with_reducible refine (CLH.out).mono ?_)
        rintro e w10 ⟨rfl, b10⟩
        have Z10 := Lib.hid (Z9.out.trans (b10.mono (by have := Z9.out.size; omega)))
        clear b10 CLH
        clear f0_8 f1_8 f2_8 d0_8 d1_8 d2_8 d3_8 d4_8 d5_8 d6_8 d7_8 y0_8 y1_8
        have hc10 := HF.out w10 Z10.out
        have f0_10 := (hc10.1 0).trans f0
        have f1_10 := (hc10.1 1).trans f1
        have f2_10 := (hc10.1 2).trans f2
        have d0_10 := (hc10.2 0).trans d0
        have d1_10 := (hc10.2 1).trans d1
        have d2_10 := (hc10.2 2).trans d2
        have d3_10 := (hc10.2 3).trans d3
        have d4_10 := (hc10.2 4).trans d4
        have d5_10 := (hc10.2 5).trans d5
        have d6_10 := (hc10.2 6).trans d6
        have d7_10 := (hc10.2 7).trans d7
        have y0_10 : w.heap.size < w10.heap.size := by have := Z10.out.size; omega
        have y1_10 : w.heap.size + 1 < w10.heap.size := by have := Z10.out.size; omega
        clear hc10
        go_wp2_with fail
        (with_reducible refine (S1.out w10 (BX.out.trans (Z10.out.mono (by omega)))).mono ?_)
        rintro e w11 ⟨rfl, b11⟩
        have Z11 := Lib.hid (Z10.out.trans (b11.mono (by have := Z10.out.size; omega)))
        clear b11
        clear f0_10 f1_10 f2_10 d0_10 d1_10 d2_10 d3_10 d4_10 d5_10 d6_10 d7_10 y0_10 y1_10
        have hc11 := HF.out w11 Z11.out
        have f0_11 := (hc11.1 0).trans f0
        have f1_11 := (hc11.1 1).trans f1
        have f2_11 := (hc11.1 2).trans f2
        have d0_11 := (hc11.2 0).trans d0
        have d1_11 := (hc11.2 1).trans d1
        have d2_11 := (hc11.2 2).trans d2
        have d3_11 := (hc11.2 3).trans d3
        have d4_11 := (hc11.2 4).trans d4
        have d5_11 := (hc11.2 5).trans d5
        have d6_11 := (hc11.2 6).trans d6
        have d7_11 := (hc11.2 7).trans d7
        have y0_11 : w.heap.size < w11.heap.size := by have := Z11.out.size; omega
        have y1_11 : w.heap.size + 1 < w11.heap.size := by have := Z11.out.size; omega
        clear hc11
        go_wp2_with fail
        (with_reducible refine (S2.out w11 (BX.out.trans (Z11.out.mono (by omega)))).mono ?_)
        rintro e w12 ⟨rfl, b12⟩
        have Z12 := Lib.hid (Z11.out.trans (b12.mono (by have := Z11.out.size; omega)))
        clear b12
        clear f0_11 f1_11 f2_11 d0_11 d1_11 d2_11 d3_11 d4_11 d5_11 d6_11 d7_11 y0_11 y1_11
        have hc12 := HF.out w12 Z12.out
        have f0_12 := (hc12.1 0).trans f0
        have f1_12 := (hc12.1 1).trans f1
        have f2_12 := (hc12.1 2).trans f2
        have d0_12 := (hc12.2 0).trans d0
        have d1_12 := (hc12.2 1).trans d1
        have d2_12 := (hc12.2 2).trans d2
        have d3_12 := (hc12.2 3).trans d3
        have d4_12 := (hc12.2 4).trans d4
        have d5_12 := (hc12.2 5).trans d5
        have d6_12 := (hc12.2 6).trans d6
        have d7_12 := (hc12.2 7).trans d7
        have y0_12 : w.heap.size < w12.heap.size := by have := Z12.out.size; omega
        have y1_12 : w.heap.size + 1 < w12.heap.size := by have := Z12.out.size; omega
        clear hc12
        go_wp2_with fail
        (with_reducible refine (S3.out w12 (BX.out.trans (Z12.out.mono (by omega)))).mono ?_)
        rintro e w13 ⟨rfl, b13⟩
        have Z13 := Lib.hid (Z12.out.trans (b13.mono (by have := Z12.out.size; omega)))
        clear b13
        clear f0_12 f1_12 f2_12 d0_12 d1_12 d2_12 d3_12 d4_12 d5_12 d6_12 d7_12 y0_12 y1_12
        have hc13 := HF.out w13 Z13.out
        have f0_13 := (hc13.1 0).trans f0
        have f1_13 := (hc13.1 1).trans f1
        have f2_13 := (hc13.1 2).trans f2
        have d0_13 := (hc13.2 0).trans d0
        have d1_13 := (hc13.2 1).trans d1
        have d2_13 := (hc13.2 2).trans d2
        have d3_13 := (hc13.2 3).trans d3
        have d4_13 := (hc13.2 4).trans d4
        have d5_13 := (hc13.2 5).trans d5
        have d6_13 := (hc13.2 6).trans d6
        have d7_13 := (hc13.2 7).trans d7
        have y0_13 : w.heap.size < w13.heap.size := by have := Z13.out.size; omega
        have y1_13 : w.heap.size + 1 < w13.heap.size := by have := Z13.out.size; omega
        clear hc13
        go_wp2
        go_ret
        exact ⟨ret_bool (by simp), BX.out.trans (Z13.out.mono (by omega))⟩
      | false =>
        go_wp2_with fail
        (with_reducible refine (S1.out w8 (BX.out.trans (Z8.out.mono (by omega)))).mono ?_)
        rintro e w9 ⟨rfl, b9⟩
        have Z9 := Lib.hid (Z8.out.trans (b9.mono (by have := Z8.out.size; omega)))
        clear b9
        clear f0_8 f1_8 f2_8 d0_8 d1_8 d2_8 d3_8 d4_8 d5_8 d6_8 d7_8 y0_8 y1_8
        have hc9 := HF.out w9 Z9.out
        have f0_9 := (hc9.1 0).trans f0
        have f1_9 := (hc9.1 1).trans f1
        have f2_9 := (hc9.1 2).trans f2
        have d0_9 := (hc9.2 0).trans d0
        have d1_9 := (hc9.2 1).trans d1
        have d2_9 := (hc9.2 2).trans d2
        have d3_9 := (hc9.2 3).trans d3
        have d4_9 := (hc9.2 4).trans d4
        have d5_9 := (hc9.2 5).trans d5
        have d6_9 := (hc9.2 6).trans d6
        have d7_9 := (hc9.2 7).trans d7
        have y0_9 : w.heap.size < w9.heap.size := by have := Z9.out.size; omega
        have y1_9 : w.heap.size + 1 < w9.heap.size := by have := Z9.out.size; omega
        clear hc9
        go_wp2_with fail
        (with_reducible refine (S2.out w9 (BX.out.trans (Z9.out.mono (by omega)))).mono ?_)
        rintro e w10 ⟨rfl, b10⟩
        have Z10 := Lib.hid (Z9.out.trans (b10.mono (by have := Z9.out.size; omega)))
        clear b10
        clear f0_9 f1_9 f2_9 d0_9 d1_9 d2_9 d3_9 d4_9 d5_9 d6_9 d7_9 y0_9 y1_9
        have hc10 := HF.out w10 Z10.out
        have f0_10 := (hc10.1 0).trans f0
        have f1_10 := (hc10.1 1).trans f1
        have f2_10 := (hc10.1 2).trans f2
        have d0_10 := (hc10.2 0).trans d0
        have d1_10 := (hc10.2 1).trans d1
        have d2_10 := (hc10.2 2).trans d2
        have d3_10 := (hc10.2 3).trans d3
        have d4_10 := (hc10.2 4).trans d4
        have d5_10 := (hc10.2 5).trans d5
        have d6_10 := (hc10.2 6).trans d6
        have d7_10 := (hc10.2 7).trans d7
        have y0_10 : w.heap.size < w10.heap.size := by have := Z10.out.size; omega
        have y1_10 : w.heap.size + 1 < w10.heap.size := by have := Z10.out.size; omega
        clear hc10
        go_wp2_with fail
        (with_reducible refine (S3.out w10 (BX.out.trans (Z10.out.mono (by omega)))).mono ?_)
        rintro e w11 ⟨rfl, b11⟩
        have Z11 := Lib.hid (Z10.out.trans (b11.mono (by have := Z10.out.size; omega)))
        clear b11
        clear f0_10 f1_10 f2_10 d0_10 d1_10 d2_10 d3_10 d4_10 d5_10 d6_10 d7_10 y0_10 y1_10
        have hc11 := HF.out w11 Z11.out
        have f0_11 := (hc11.1 0).trans f0
        have f1_11 := (hc11.1 1).trans f1
        have f2_11 := (hc11.1 2).trans f2
        have d0_11 := (hc11.2 0).trans d0
        have d1_11 := (hc11.2 1).trans d1
        have d2_11 := (hc11.2 2).trans d2
        have d3_11 := (hc11.2 3).trans d3
        have d4_11 := (hc11.2 4).trans d4
        have d5_11 := (hc11.2 5).trans d5
        have d6_11 := (hc11.2 6).trans d6
        have d7_11 := (hc11.2 7).trans d7
        have y0_11 : w.heap.size < w11.heap.size := by have := Z11.out.size; omega
        have y1_11 : w.heap.size + 1 < w11.heap.size := by have := Z11.out.size; omega
        clear hc11
        go_wp2
        go_ret
        exact ⟨ret_bool (by simp), BX.out.trans (Z11.out.mono (by omega))⟩
    | false =>
      go_wp2_with fail
      (with_reducible refine (T3.out w7 (BX.out.trans (Z7.out.mono (by omega)))).mono ?_)
      rintro e w8 ⟨rfl, b8⟩
      have Z8 := Lib.hid (Z7.out.trans (b8.mono (by have := Z7.out.size; omega)))
      clear b8
      clear f0_7 f1_7 f2_7 d0_7 d1_7 d2_7 d3_7 d4_7 d5_7 d6_7 d7_7 y0_7 y1_7
      have hc8 := HF.out w8 Z8.out
      have f0_8 := (hc8.1 0).trans f0
      have f1_8 := (hc8.1 1).trans f1
      have f2_8 := (hc8.1 2).trans f2
      have d0_8 := (hc8.2 0).trans d0
      have d1_8 := (hc8.2 1).trans d1
      have d2_8 := (hc8.2 2).trans d2
      have d3_8 := (hc8.2 3).trans d3
      have d4_8 := (hc8.2 4).trans d4
      have d5_8 := (hc8.2 5).trans d5
      have d6_8 := (hc8.2 6).trans d6
      have d7_8 := (hc8.2 7).trans d7
      have y0_8 : w.heap.size < w8.heap.size := by have := Z8.out.size; omega
      have y1_8 : w.heap.size + 1 < w8.heap.size := by have := Z8.out.size; omega
      clear hc8
      cases r with
      | true =>
        go_wp2_with fail
        (with_reducible refine ((D2.out trivial) w8 (BX.out.trans (Z8.out.mono (by omega)))).mono ?_)
        rintro e w9 ⟨u9, rfl, b9, CL⟩
        have Z9 := Lib.hid (Z8.out.trans (b9.mono (by have := Z8.out.size; omega)))
        have CLH := Lib.hid CL
        clear b9 CL
        go_wp2_with fail
        (with_reducible refine (CLH.out).mono ?_)
        rintro e w10 ⟨rfl, b10⟩
        have Z10 := Lib.hid (Z9.out.trans (b10.mono (by have := Z9.out.size; omega)))
        clear b10 CLH
        clear f0_8 f1_8 f2_8 d0_8 d1_8 d2_8 d3_8 d4_8 d5_8 d6_8 d7_8 y0_8 y1_8
        have hc10 := HF.out w10 Z10.out
        have f0_10 := (hc10.1 0).trans f0
        have f1_10 := (hc10.1 1).trans f1
        have f2_10 := (hc10.1 2).trans f2
        have d0_10 := (hc10.2 0).trans d0
        have d1_10 := (hc10.2 1).trans d1
        have d2_10 := (hc10.2 2).trans d2
        have d3_10 := (hc10.2 3).trans d3
        have d4_10 := (hc10.2 4).trans d4
        have d5_10 := (hc10.2 5).trans d5
        have d6_10 := (hc10.2 6).trans d6
        have d7_10 := (hc10.2 7).trans d7
        have y0_10 : w.heap.size < w10.heap.size := by have := Z10.out.size; omega
        have y1_10 : w.heap.size + 1 < w10.heap.size := by have := Z10.out.size; omega
        clear hc10
        go_wp2_with fail
        (with_reducible refine (T4.out w10 (BX.out.trans (Z10.out.mono (by omega)))).mono ?_)
        rintro e w11 ⟨rfl, b11⟩
        have Z11 := Lib.hid (Z10.out.trans (b11.mono (by have := Z10.out.size; omega)))
        clear b11
        clear f0_10 f1_10 f2_10 d0_10 d1_10 d2_10 d3_10 d4_10 d5_10 d6_10 d7_10 y0_10 y1_10
        have hc11 := HF.out w11 Z11.out
        have f0_11 := (hc11.1 0).trans f0
        have f1_11 := (hc11.1 1).trans f1
        have f2_11 := (hc11.1 2).trans f2
        have d0_11 := (hc11.2 0).trans d0
        have d1_11 := (hc11.2 1).trans d1
        have d2_11 := (hc11.2 2).trans d2
        have d3_11 := (hc11.2 3).trans d3
        have d4_11 := (hc11.2 4).trans d4
        have d5_11 := (hc11.2 5).trans d5
        have d6_11 := (hc11.2 6).trans d6
        have d7_11 := (hc11.2 7).trans d7
        have y0_11 : w.heap.size < w11.heap.size := by have := Z11.out.size; omega
        have y1_11 : w.heap.size + 1 < w11.heap.size := by have := Z11.out.size; omega
        clear hc11
        cases p with
        | true =>
          go_wp2_with fail
          (with_reducible refine ((D3.out trivial) w11 (BX.out.trans (Z11.out.mono (by omega)))).mono ?_)
          rintro e w12 ⟨u12, rfl, b12, CL⟩
          have Z12 := Lib.hid (Z11.out.trans (b12.mono (by have := Z11.out.size; omega)))
          have CLH := Lib.hid CL
          clear b12 CL
          go_wp2_with fail
          (with_reducible refine (CLH.out).mono ?_)
          rintro e w13 ⟨rfl, b13⟩
          have Z13 := Lib.hid (Z12.out.trans (b13.mono (by have := Z12.out.size; omega)))
          clear b13 CLH
          clear f0_11 f1_11 f2_11 d0_11 d1_11 d2_11 d3_11 d4_11 d5_11 d6_11 d7_11 y0_11 y1_11
          have hc13 := HF.out w13 Z13.out
          have f0_13 := (hc13.1 0).trans f0
          have f1_13 := (hc13.1 1).trans f1
          have f2_13 := (hc13.1 2).trans f2
          have d0_13 := (hc13.2 0).trans d0
          have d1_13 := (hc13.2 1).trans d1
          have d2_13 := (hc13.2 2).trans d2
          have d3_13 := (hc13.2 3).trans d3
          have d4_13 := (hc13.2 4).trans d4
          have d5_13 := (hc13.2 5).trans d5
          have d6_13 := (hc13.2 6).trans d6
          have d7_13 := (hc13.2 7).trans d7
          have y0_13 : w.heap.size < w13.heap.size := by have := Z13.out.size; omega
          have y1_13 : w.heap.size + 1 < w13.heap.size := by have := Z13.out.size; omega
          clear hc13
          go_wp2_with fail
          (with_reducible refine (S1.out w13 (BX.out.trans (Z13.out.mono (by omega)))).mono ?_)
          rintro e w14 ⟨rfl, b14⟩
          have Z14 := Lib.hid (Z13.out.trans (b14.mono (by have := Z13.out.size; omega)))
          clear b14
          clear f0_13 f1_13 f2_13 d0_13 d1_13 d2_13 d3_13 d4_13 d5_13 d6_13 d7_13 y0_13 y1_13
          have hc14 := HF.out w14 Z14.out
          have f0_14 := (hc14.1 0).trans f0
          have f1_14 := (hc14.1 1).trans f1
          have f2_14 := (hc14.1 2).trans f2
          have d0_14 := (hc14.2 0).trans d0
          have d1_14 := (hc14.2 1).trans d1
          have d2_14 := (hc14.2 2).trans d2
          have d3_14 := (hc14.2 3).trans d3
          have d4_14 := (hc14.2 4).trans d4
          have d5_14 := (hc14.2 5).trans d5
          have d6_14 := (hc14.2 6).trans d6
          have d7_14 := (hc14.2 7).trans d7
          have y0_14 : w.heap.size < w14.heap.size := by have := Z14.out.size; omega
          have y1_14 : w.heap.size + 1 < w14.heap.size := by have := Z14.out.size; omega
          clear hc14
          go_wp2_with fail
          (with_reducible refine (S2.out w14 (BX.out.trans (Z14.out.mono (by omega)))).mono ?_)
          rintro e w15 ⟨rfl, b15⟩
          have Z15 := Lib.hid (Z14.out.trans (b15.mono (by have := Z14.out.size; omega)))
          clear b15
          clear f0_14 f1_14 f2_14 d0_14 d1_14 d2_14 d3_14 d4_14 d5_14 d6_14 d7_14 y0_14 y1_14
          have hc15 := HF.out w15 Z15.out
          have f0_15 := (hc15.1 0).trans f0
          have f1_15 := (hc15.1 1).trans f1
          have f2_15 := (hc15.1 2).trans f2
          have d0_15 := (hc15.2 0).trans d0
          have d1_15 := (hc15.2 1).trans d1
          have d2_15 := (hc15.2 2).trans d2
          have d3_15 := (hc15.2 3).trans d3
          have d4_15 := (hc15.2 4).trans d4
          have d5_15 := (hc15.2 5).trans d5
          have d6_15 := (hc15.2 6).trans d6
          have d7_15 := (hc15.2 7).trans d7
          have y0_15 : w.heap.size < w15.heap.size := by have := Z15.out.size; omega
          have y1_15 : w.heap.size + 1 < w15.heap.size := by have := Z15.out.size; omega
          clear hc15
          go_wp2_with fail
          (with_reducible refine (S3.out w15 (BX.out.trans (Z15.out.mono (by omega)))).mono ?_)
          rintro e w16 ⟨rfl, b16⟩
          have Z16 := Lib.hid (Z15.out.trans (b16.mono (by have := Z15.out.size; omega)))
          clear b16
          clear f0_15 f1_15 f2_15 d0_15 d1_15 d2_15 d3_15 d4_15 d5_15 d6_15 d7_15 y0_15 y1_15
          have hc16 := HF.out w16 Z16.out
          have f0_16 := (hc16.1 0).trans f0
          have f1_16 := (hc16.1 1).trans f1
          have f2_16 := (hc16.1 2).trans f2
          have d0_16 := (hc16.2 0).trans d0
          have d1_16 := (hc16.2 1).trans d1
          have d2_16 := (hc16.2 2).trans d2
          have d3_16 := (hc16.2 3).trans d3
          have d4_16 := (hc16.2 4).trans d4
          have d5_16 := (hc16.2 5).trans d5
          have d6_16 := (hc16.2 6).trans d6
          have d7_16 := (hc16.2 7).trans d7
          have y0_16 : w.heap.size < w16.heap.size := by have := Z16.out.size; omega
          have y1_16 : w.heap.size + 1 < w16.heap.size := by have := Z16.out.size; omega
          clear hc16
          go_wp2
          go_ret
          exact ⟨ret_bool (by simp), BX.out.trans (Z16.out.mono (by omega))⟩
        | false =>
          go_wp2_with fail
          (with_reducible refine (S1.out w11 (BX.out.trans (Z11.out.mono (by omega)))).mono ?_)
          rintro e w12 ⟨rfl, b12⟩
          have Z12 := Lib.hid (Z11.out.trans (b12.mono (by have := Z11.out.size; omega)))
          clear b12
          clear f0_11 f1_11 f2_11 d0_11 d1_11 d2_11 d3_11 d4_11 d5_11 d6_11 d7_11 y0_11 y1_11
          have hc12 := HF.out w12 Z12.out
          have f0_12 := (hc12.1 0).trans f0
          have f1_12 := (hc12.1 1).trans f1
          have f2_12 := (hc12.1 2).trans f2
          have d0_12 := (hc12.2 0).trans d0
          have d1_12 := (hc12.2 1).trans d1
          have d2_12 := (hc12.2 2).trans d2
          have d3_12 := (hc12.2 3).trans d3
          have d4_12 := (hc12.2 4).trans d4
          have d5_12 := (hc12.2 5).trans d5
          have d6_12 := (hc12.2 6).trans d6
          have d7_12 := (hc12.2 7).trans d7
          have y0_12 : w.heap.size < w12.heap.size := by have := Z12.out.size; omega
          have y1_12 : w.heap.size + 1 < w12.heap.size := by have := Z12.out.size; omega
          clear hc12
          go_wp2_with fail
          (with_reducible refine (S2.out w12 (BX.out.trans (Z12.out.mono (by omega)))).mono ?_)
          rintro e w13 ⟨rfl, b13⟩
          have Z13 := Lib.hid (Z12.out.trans (b13.mono (by have := Z12.out.size; omega)))
          clear b13
          clear f0_12 f1_12 f2_12 d0_12 d1_12 d2_12 d3_12 d4_12 d5_12 d6_12 d7_12 y0_12 y1_12
          have hc13 := HF.out w13 Z13.out
          have f0_13 := (hc13.1 0).trans f0
          have f1_13 := (hc13.1 1).trans f1
          have f2_13 := (hc13.1 2).trans f2
          have d0_13 := (hc13.2 0).trans d0
          have d1_13 := (hc13.2 1).trans d1
          have d2_13 := (hc13.2 2).trans d2
          have d3_13 := (hc13.2 3).trans d3
          have d4_13 := (hc13.2 4).trans d4
          have d5_13 := (hc13.2 5).trans d5
          have d6_13 := (hc13.2 6).trans d6
          have d7_13 := (hc13.2 7).trans d7
          have y0_13 : w.heap.size < w13.heap.size := by have := Z13.out.size; omega
          have y1_13 : w.heap.size + 1 < w13.heap.size := by have := Z13.out.size; omega
          clear hc13
          go_wp2_with fail
          (with_reducible refine (S3.out w13 (BX.out.trans (Z13.out.mono (by omega)))).mono ?_)
          rintro e w14 ⟨rfl, b14⟩
          have Z14 := Lib.hid (Z13.out.trans (b14.mono (by have := Z13.out.size; omega)))
          clear b14
          clear f0_13 f1_13 f2_13 d0_13 d1_13 d2_13 d3_13 d4_13 d5_13 d6_13 d7_13 y0_13 y1_13
          have hc14 := HF.out w14 Z14.out
          have f0_14 := (hc14.1 0).trans f0
          have f1_14 := (hc14.1 1).trans f1
          have f2_14 := (hc14.1 2).trans f2
          have d0_14 := (hc14.2 0).trans d0
          have d1_14 := (hc14.2 1).trans d1
          have d2_14 := (hc14.2 2).trans d2
          have d3_14 := (hc14.2 3).trans d3
          have d4_14 := (hc14.2 4).trans d4
          have d5_14 := (hc14.2 5).trans d5
          have d6_14 := (hc14.2 6).trans d6
          have d7_14 := (hc14.2 7).trans d7
          have y0_14 : w.heap.size < w14.heap.size := by have := Z14.out.size; omega
          have y1_14 : w.heap.size + 1 < w14.heap.size := by have := Z14.out.size; omega
          clear hc14
          go_wp2
          go_ret
          exact ⟨ret_bool (by simp), BX.out.trans (Z14.out.mono (by omega))⟩
      | false =>
        go_wp2_with fail
        (with_reducible refine (T4.out w8 (BX.out.trans (Z8.out.mono (by omega)))).mono ?_)
        rintro e w9 ⟨rfl, b9⟩
        have Z9 := Lib.hid (Z8.out.trans (b9.mono (by have := Z8.out.size; omega)))
        clear b9
        clear f0_8 f1_8 f2_8 d0_8 d1_8 d2_8 d3_8 d4_8 d5_8 d6_8 d7_8 y0_8 y1_8
        have hc9 := HF.out w9 Z9.out
        have f0_9 := (hc9.1 0).trans f0
        have f1_9 := (hc9.1 1).trans f1
        have f2_9 := (hc9.1 2).trans f2
        have d0_9 := (hc9.2 0).trans d0
        have d1_9 := (hc9.2 1).trans d1
        have d2_9 := (hc9.2 2).trans d2
        have d3_9 := (hc9.2 3).trans d3
        have d4_9 := (hc9.2 4).trans d4
        have d5_9 := (hc9.2 5).trans d5
        have d6_9 := (hc9.2 6).trans d6
        have d7_9 := (hc9.2 7).trans d7
        have y0_9 : w.heap.size < w9.heap.size := by have := Z9.out.size; omega
        have y1_9 : w.heap.size + 1 < w9.heap.size := by have := Z9.out.size; omega
        clear hc9
        cases p with
        | true =>
          go_wp2_with fail
          (with_reducible refine ((D3.out trivial) w9 (BX.out.trans (Z9.out.mono (by omega)))).mono ?_)
          rintro e w10 ⟨u10, rfl, b10, CL⟩
          have Z10 := Lib.hid (Z9.out.trans (b10.mono (by have := Z9.out.size; omega)))
          have CLH := Lib.hid CL
          clear b10 CL
          go_wp2_with fail
          (with_reducible refine (CLH.out).mono ?_)
          rintro e w11 ⟨rfl, b11⟩
          have Z11 := Lib.hid (Z10.out.trans (b11.mono (by have := Z10.out.size; omega)))
          clear b11 CLH
          clear f0_9 f1_9 f2_9 d0_9 d1_9 d2_9 d3_9 d4_9 d5_9 d6_9 d7_9 y0_9 y1_9
          have hc11 := HF.out w11 Z11.out
          have f0_11 := (hc11.1 0).trans f0
          have f1_11 := (hc11.1 1).trans f1
          have f2_11 := (hc11.1 2).trans f2
          have d0_11 := (hc11.2 0).trans d0
          have d1_11 := (hc11.2 1).trans d1
          have d2_11 := (hc11.2 2).trans d2
          have d3_11 := (hc11.2 3).trans d3
          have d4_11 := (hc11.2 4).trans d4
          have d5_11 := (hc11.2 5).trans d5
          have d6_11 := (hc11.2 6).trans d6
          have d7_11 := (hc11.2 7).trans d7
          have y0_11 : w.heap.size < w11.heap.size := by have := Z11.out.size; omega
          have y1_11 : w.heap.size + 1 < w11.heap.size := by have := Z11.out.size; omega
          clear hc11
          go_wp2_with fail
          (with_reducible refine (S1.out w11 (BX.out.trans (Z11.out.mono (by omega)))).mono ?_)
          rintro e w12 ⟨rfl, b12⟩
          have Z12 := Lib.hid (Z11.out.trans (b12.mono (by have := Z11.out.size; omega)))
          clear b12
          clear f0_11 f1_11 f2_11 d0_11 d1_11 d2_11 d3_11 d4_11 d5_11 d6_11 d7_11 y0_11 y1_11
          have hc12 := HF.out w12 Z12.out
          have f0_12 := (hc12.1 0).trans f0
          have f1_12 := (hc12.1 1).trans f1
          have f2_12 := (hc12.1 2).trans f2
          have d0_12 := (hc12.2 0).trans d0
          have d1_12 := (hc12.2 1).trans d1
          have d2_12 := (hc12.2 2).trans d2
          have d3_12 := (hc12.2 3).trans d3
          have d4_12 := (hc12.2 4).trans d4
          have d5_12 := (hc12.2 5).trans d5
          have d6_12 := (hc12.2 6).trans d6
          have d7_12 := (hc12.2 7).trans d7
          have y0_12 : w.heap.size < w12.heap.size := by have := Z12.out.size; omega
          have y1_12 : w.heap.size + 1 < w12.heap.size := by have := Z12.out.size; omega
          clear hc12
          go_wp2_with fail
          (with_reducible refine (S2.out w12 (BX.out.trans (Z12.out.mono (by omega)))).mono ?_)
          rintro e w13 ⟨rfl, b13⟩
          have Z13 := Lib.hid (Z12.out.trans (b13.mono (by have := Z12.out.size; omega)))
          clear b13
          clear f0_12 f1_12 f2_12 d0_12 d1_12 d2_12 d3_12 d4_12 d5_12 d6_12 d7_12 y0_12 y1_12
          have hc13 := HF.out w13 Z13.out
          have f0_13 := (hc13.1 0).trans f0
          have f1_13 := (hc13.1 1).trans f1
          have f2_13 := (hc13.1 2).trans f2
          have d0_13 := (hc13.2 0).trans d0
          have d1_13 := (hc13.2 1).trans d1
          have d2_13 := (hc13.2 2).trans d2
          have d3_13 := (hc13.2 3).trans d3
          have d4_13 := (hc13.2 4).trans d4
          have d5_13 := (hc13.2 5).trans d5
          have d6_13 := (hc13.2 6).trans d6
          have d7_13 := (hc13.2 7).trans d7
          have y0_13 : w.heap.size < w13.heap.size := by have := Z13.out.size; omega
          have y1_13 : w.heap.size + 1 < w13.heap.size := by have := Z13.out.size; omega
          clear hc13
          go_wp2_with fail
          (with_reducible refine (S3.out w13 (BX.out.trans (Z13.out.mono (by omega)))).mono ?_)
          rintro e w14 ⟨rfl, b14⟩
          have Z14 := Lib.hid (Z13.out.trans (b14.mono (by have := Z13.out.size; omega)))
          clear b14
          clear f0_13 f1_13 f2_13 d0_13 d1_13 d2_13 d3_13 d4_13 d5_13 d6_13 d7_13 y0_13 y1_13
          have hc14 := HF.out w14 Z14.out
          have f0_14 := (hc14.1 0).trans f0
          have f1_14 := (hc14.1 1).trans f1
          have f2_14 := (hc14.1 2).trans f2
          have d0_14 := (hc14.2 0).trans d0
          have d1_14 := (hc14.2 1).trans d1
          have d2_14 := (hc14.2 2).trans d2
          have d3_14 := (hc14.2 3).trans d3
          have d4_14 := (hc14.2 4).trans d4
          have d5_14 := (hc14.2 5).trans d5
          have d6_14 := (hc14.2 6).trans d6
          have d7_14 := (hc14.2 7).trans d7
          have y0_14 : w.heap.size < w14.heap.size := by have := Z14.out.size; omega
          have y1_14 : w.heap.size + 1 < w14.heap.size := by have := Z14.out.size; omega
          clear hc14
          go_wp2
          go_ret
          exact ⟨ret_bool (by simp), BX.out.trans (Z14.out.mono (by omega))⟩
        | false =>
          go_wp2_with fail
          (with_reducible refine (S1.out w9 (BX.out.trans (Z9.out.mono (by omega)))).mono ?_)
          rintro e w10 ⟨rfl, b10⟩
          have Z10 := Lib.hid (Z9.out.trans (b10.mono (by have := Z9.out.size; omega)))
          clear b10
          clear f0_9 f1_9 f2_9 d0_9 d1_9 d2_9 d3_9 d4_9 d5_9 d6_9 d7_9 y0_9 y1_9
          have hc10 := HF.out w10 Z10.out
          have f0_10 := (hc10.1 0).trans f0
          have f1_10 := (hc10.1 1).trans f1
          have f2_10 := (hc10.1 2).trans f2
          have d0_10 := (hc10.2 0).trans d0
          have d1_10 := (hc10.2 1).trans d1
          have d2_10 := (hc10.2 2).trans d2
          have d3_10 := (hc10.2 3).trans d3
          have d4_10 := (hc10.2 4).trans d4
          have d5_10 := (hc10.2 5).trans d5
          have d6_10 := (hc10.2 6).trans d6
          have d7_10 := (hc10.2 7).trans d7
          have y0_10 : w.heap.size < w10.heap.size := by have := Z10.out.size; omega
          have y1_10 : w.heap.size + 1 < w10.heap.size := by have := Z10.out.size; omega
          clear hc10
          go_wp2_with fail
          (with_reducible refine (S2.out w10 (BX.out.trans (Z10.out.mono (by omega)))).mono ?_)
          rintro e w11 ⟨rfl, b11⟩
          have Z11 := Lib.hid (Z10.out.trans (b11.mono (by have := Z10.out.size; omega)))
          clear b11
          clear f0_10 f1_10 f2_10 d0_10 d1_10 d2_10 d3_10 d4_10 d5_10 d6_10 d7_10 y0_10 y1_10
          have hc11 := HF.out w11 Z11.out
          have f0_11 := (hc11.1 0).trans f0
          have f1_11 := (hc11.1 1).trans f1
          have f2_11 := (hc11.1 2).trans f2
          have d0_11 := (hc11.2 0).trans d0
          have d1_11 := (hc11.2 1).trans d1
          have d2_11 := (hc11.2 2).trans d2
          have d3_11 := (hc11.2 3).trans d3
          have d4_11 := (hc11.2 4).trans d4
          have d5_11 := (hc11.2 5).trans d5
          have d6_11 := (hc11.2 6).trans d6
          have d7_11 := (hc11.2 7).trans d7
          have y0_11 : w.heap.size < w11.heap.size := by have := Z11.out.size; omega
          have y1_11 : w.heap.size + 1 < w11.heap.size := by have := Z11.out.size; omega
          clear hc11
          go_wp2_with fail
          (with_reducible refine (S3.out w11 (BX.out.trans (Z11.out.mono (by omega)))).mono ?_)
          rintro e w12 ⟨rfl, b12⟩
          have Z12 := Lib.hid (Z11.out.trans (b12.mono (by have := Z11.out.size; omega)))
          clear b12
          clear f0_11 f1_11 f2_11 d0_11 d1_11 d2_11 d3_11 d4_11 d5_11 d6_11 d7_11 y0_11 y1_11
          have hc12 := HF.out w12 Z12.out
          have f0_12 := (hc12.1 0).trans f0
          have f1_12 := (hc12.1 1).trans f1
          have f2_12 := (hc12.1 2).trans f2
          have d0_12 := (hc12.2 0).trans d0
          have d1_12 := (hc12.2 1).trans d1
          have d2_12 := (hc12.2 2).trans d2
          have d3_12 := (hc12.2 3).trans d3
          have d4_12 := (hc12.2 4).trans d4
          have d5_12 := (hc12.2 5).trans d5
          have d6_12 := (hc12.2 6).trans d6
          have d7_12 := (hc12.2 7).trans d7
          have y0_12 : w.heap.size < w12.heap.size := by have := Z12.out.size; omega
          have y1_12 : w.heap.size + 1 < w12.heap.size := by have := Z12.out.size; omega
          clear hc12
          go_wp2
          go_ret
          exact ⟨ret_bool (by simp), BX.out.trans (Z12.out.mono (by omega))⟩
  | false =>
    go_wp2_with fail
    (with_reducible refine (T2.out w4 (BX.out.trans (Z4.out.mono (by omega)))).mono ?_)
    rintro e w5 ⟨rfl, b5⟩
    have Z5 := Lib.hid (Z4.out.trans (b5.mono (by have := Z4.out.size; omega)))
    clear b5
    clear f0_4 f1_4 f2_4 d0_4 d1_4 d2_4 d3_4 d4_4 d5_4 d6_4 d7_4 y0_4 y1_4
    have hc5 := HF.out w5 Z5.out
    have f0_5 := (hc5.1 0).trans f0
    have f1_5 := (hc5.1 1).trans f1
    have f2_5 := (hc5.1 2).trans f2
    have d0_5 := (hc5.2 0).trans d0
    have d1_5 := (hc5.2 1).trans d1
    have d2_5 := (hc5.2 2).trans d2
    have d3_5 := (hc5.2 3).trans d3
    have d4_5 := (hc5.2 4).trans d4
    have d5_5 := (hc5.2 5).trans d5
    have d6_5 := (hc5.2 6).trans d6
    have d7_5 := (hc5.2 7).trans d7
    have y0_5 : w.heap.size < w5.heap.size := by have := Z5.out.size; omega
    have y1_5 : w.heap.size + 1 < w5.heap.size := by have := Z5.out.size; omega
    clear hc5
    cases l with
    | true =>
      go_wp2_with fail
      (with_reducible refine (T4.out w5 (BX.out.trans (Z5.out.mono (by omega)))).mono ?_)
      rintro e w6 ⟨rfl, b6⟩
      have Z6 := Lib.hid (Z5.out.trans (b6.mono (by have := Z5.out.size; omega)))
      clear b6
      clear f0_5 f1_5 f2_5 d0_5 d1_5 d2_5 d3_5 d4_5 d5_5 d6_5 d7_5 y0_5 y1_5
      have hc6 := HF.out w6 Z6.out
      have f0_6 := (hc6.1 0).trans f0
      have f1_6 := (hc6.1 1).trans f1
      have f2_6 := (hc6.1 2).trans f2
      have d0_6 := (hc6.2 0).trans d0
      have d1_6 := (hc6.2 1).trans d1
      have d2_6 := (hc6.2 2).trans d2
      have d3_6 := (hc6.2 3).trans d3
      have d4_6 := (hc6.2 4).trans d4
      have d5_6 := (hc6.2 5).trans d5
      have d6_6 := (hc6.2 6).trans d6
      have d7_6 := (hc6.2 7).trans d7
      have y0_6 : w.heap.size < w6.heap.size := by have := Z6.out.size; omega
      have y1_6 : w.heap.size + 1 < w6.heap.size := by have := Z6.out.size; omega
      clear hc6
      cases p with
      | true =>
        go_wp2_with fail
        (with_reducible refine ((D3.out trivial) w6 (BX.out.trans (Z6.out.mono (by omega)))).mono ?_)
        rintro e w7 ⟨u7, rfl, b7, CL⟩
        have Z7 := Lib.hid (Z6.out.trans (b7.mono (by have := Z6.out.size; omega)))
        have CLH := Lib.hid CL
        clear b7 CL
        go_wp2_with fail
        (with_reducible refine (CLH.out).mono ?_)
        rintro e w8 ⟨rfl, b8⟩
        have Z8 := Lib.hid (Z7.out.trans (b8.mono (by have := Z7.out.size; omega)))
        clear b8 CLH
        clear f0_6 f1_6 f2_6 d0_6 d1_6 d2_6 d3_6 d4_6 d5_6 d6_6 d7_6 y0_6 y1_6
        have hc8 := HF.out w8 Z8.out
        have f0_8 := (hc8.1 0).trans f0
        have f1_8 := (hc8.1 1).trans f1
        have f2_8 := (hc8.1 2).trans f2
        have d0_8 := (hc8.2 0).trans d0
        have d1_8 := (hc8.2 1).trans d1
        have d2_8 := (hc8.2 2).trans d2
        have d3_8 := (hc8.2 3).trans d3
        have d4_8 := (hc8.2 4).trans d4
        have d5_8 := (hc8.2 5).trans d5
        have d6_8 := (hc8.2 6).trans d6
        have d7_8 := (hc8.2 7).trans d7
        have y0_8 : w.heap.size < w8.heap.size := by have := Z8.out.size; omega
        have y1_8 : w.heap.size + 1 < w8.heap.size := by have := Z8.out.size; omega
        clear hc8
        go_wp2_with fail
        (with_reducible refine (S1.out w8 (BX.out.trans (Z8.out.mono (by omega)))).mono ?_)
        rintro e w9 ⟨rfl, b9⟩
        have Z9 := Lib.hid (Z8.out.trans (b9.mono (by have := Z8.out.size; omega)))
        clear b9
        clear f0_8 f1_8 f2_8 d0_8 d1_8 d2_8 d3_8 d4_8 d5_8 d6_8 d7_8 y0_8 y1_8
        have hc9 := HF.out w9 Z9.out
        have f0_9 := (hc9.1 0).trans f0
        have f1_9 := (hc9.1 1).trans f1
        have f2_9 := (hc9.1 2).trans f2
        have d0_9 := (hc9.2 0).trans d0
        have d1_9 := (hc9.2 1).trans d1
        have d2_9 := (hc9.2 2).trans d2
        have d3_9 := (hc9.2 3).trans d3
        have d4_9 := (hc9.2 4).trans d4
        have d5_9 := (hc9.2 5).trans d5
        have d6_9 := (hc9.2 6).trans d6
        have d7_9 := (hc9.2 7).trans d7
        have y0_9 : w.heap.size < w9.heap.size := by have := Z9.out.size; omega
        have y1_9 : w.heap.size + 1 < w9.heap.size := by have := Z9.out.size; omega
        clear hc9
        go_wp2_with fail
        (with_reducible refine (S2.out w9 (BX.out.trans (Z9.out.mono (by omega)))).mono ?_)
        rintro e w10 ⟨rfl, b10⟩
        have Z10 := Lib.hid (Z9.out.trans (b10.mono (by have := Z9.out.size; omega)))
        clear b10
        clear f0_9 f1_9 f2_9 d0_9 d1_9 d2_9 d3_9 d4_9 d5_9 d6_9 d7_9 y0_9 y1_9
        have hc10 := HF.out w10 Z10.out
        have f0_10 := (hc10.1 0).trans f0
        have f1_10 := (hc10.1 1).trans f1
        have f2_10 := (hc10.1 2).trans f2
        have d0_10 := (hc10.2 0).trans d0
        have d1_10 := (hc10.2 1).trans d1
        have d2_10 := (hc10.2 2).trans d2
        have d3_10 := (hc10.2 3).trans d3
        have d4_10 := (hc10.2 4).trans d4
        have d5_10 := (hc10.2 5).trans d5
        have d6_10 := (hc10.2 6).trans d6
        have d7_10 := (hc10.2 7).trans d7
        have y0_10 : w.heap.size < w10.heap.size := by have := Z10.out.size; omega
        have y1_10 : w.heap.size + 1 < w10.heap.size := by have := Z10.out.size; omega
        clear hc10
        go_wp2_with fail
        (with_reducible refine (S3.out w10 (BX.out.trans (Z10.out.mono (by omega)))).mono ?_)
        rintro e w11 ⟨rfl, b11⟩
        have Z11 := Lib.hid (Z10.out.trans (b11.mono (by have := Z10.out.size; omega)))
        clear b11
        clear f0_10 f1_10 f2_10 d0_10 d1_10 d2_10 d3_10 d4_10 d5_10 d6_10 d7_10 y0_10 y1_10
        have hc11 := HF.out w11 Z11.out
        have f0_11 := (hc11.1 0).trans f0
        have f1_11 := (hc11.1 1).trans f1
        have f2_11 := (hc11.1 2).trans f2
        have d0_11 := (hc11.2 0).trans d0
        have d1_11 := (hc11.2 1).trans d1
        have d2_11 := (hc11.2 2).trans d2
        have d3_11 := (hc11.2 3).trans d3
        have d4_11 := (hc11.2 4).trans d4
        have d5_11 := (hc11.2 5).trans d5
        have d6_11 := (hc11.2 6).trans d6
        have d7_11 := (hc11.2 7).trans d7
        have y0_11 : w.heap.size < w11.heap.size := by have := Z11.out.size; omega
        have y1_11 : w.heap.size + 1 < w11.heap.size := by have := Z11.out.size; omega
        clear hc11
        go_wp2
        go_ret
        exact ⟨ret_bool (by simp), BX.out.trans (Z11.out.mono (by omega))⟩
      | false =>
        go_wp2_with fail
        (with_reducible refine (S1.out w6 (BX.out.trans (Z6.out.mono (by omega)))).mono ?_)
        rintro e w7 ⟨rfl, b7⟩
        have Z7 := Lib.hid (Z6.out.trans (b7.mono (by have := Z6.out.size; omega)))
        clear b7
        clear f0_6 f1_6 f2_6 d0_6 d1_6 d2_6 d3_6 d4_6 d5_6 d6_6 d7_6 y0_6 y1_6
        have hc7 := HF.out w7 Z7.out
        have f0_7 := (hc7.1 0).trans f0
        have f1_7 := (hc7.1 1).trans f1
        have f2_7 := (hc7.1 2).trans f2
        have d0_7 := (hc7.2 0).trans d0
        have d1_7 := (hc7.2 1).trans d1
        have d2_7 := (hc7.2 2).trans d2
        have d3_7 := (hc7.2 3).trans d3
        have d4_7 := (hc7.2 4).trans d4
        have d5_7 := (hc7.2 5).trans d5
        have d6_7 := (hc7.2 6).trans d6
        have d7_7 := (hc7.2 7).trans d7
        have y0_7 : w.heap.size < w7.heap.size := by have := Z7.out.size; omega
        have y1_7 : w.heap.size + 1 < w7.heap.size := by have := Z7.out.size; omega
        clear hc7
        go_wp2_with fail
        (with_reducible refine (S2.out w7 (BX.out.trans (Z7.out.mono (by omega)))).mono ?_)
        rintro e w8 ⟨rfl, b8⟩
        have Z8 := Lib.hid (Z7.out.trans (b8.mono (by have := Z7.out.size; omega)))
        clear b8
        clear f0_7 f1_7 f2_7 d0_7 d1_7 d2_7 d3_7 d4_7 d5_7 d6_7 d7_7 y0_7 y1_7
        have hc8 := HF.out w8 Z8.out
        have f0_8 := (hc8.1 0).trans f0
        have f1_8 := (hc8.1 1).trans f1
        have f2_8 := (hc8.1 2).trans f2
        have d0_8 := (hc8.2 0).trans d0
        have d1_8 := (hc8.2 1).trans d1
        have d2_8 := (hc8.2 2).trans d2
        have d3_8 := (hc8.2 3).trans d3
        have d4_8 := (hc8.2 4).trans d4
        have d5_8 := (hc8.2 5).trans d5
        have d6_8 := (hc8.2 6).trans d6
        have d7_8 := (hc8.2 7).trans d7
        have y0_8 : w.heap.size < w8.heap.size := by have := Z8.out.size; omega
        have y1_8 : w.heap.size + 1 < w8.heap.size := by have := Z8.out.size; omega
        clear hc8
        go_wp2_with fail
        (with_reducible refine (S3.out w8 (BX.out.trans (Z8.out.mono (by omega)))).mono ?_)
        rintro e w9 ⟨rfl, b9⟩
        have Z9 := Lib.hid (Z8.out.trans (b9.mono (by have := Z8.out.size; omega)))
        clear b9
        clear f0_8 f1_8 f2_8 d0_8 d1_8 d2_8 d3_8 d4_8 d5_8 d6_8 d7_8 y0_8 y1_8
        have hc9 := HF.out w9 Z9.out
        have f0_9 := (hc9.1 0).trans f0
        have f1_9 := (hc9.1 1).trans f1
        have f2_9 := (hc9.1 2).trans f2
        have d0_9 := (hc9.2 0).trans d0
        have d1_9 := (hc9.2 1).trans d1
        have d2_9 := (hc9.2 2).trans d2
        have d3_9 := (hc9.2 3).trans d3
        have d4_9 := (hc9.2 4).trans d4
        have d5_9 := (hc9.2 5).trans d5
        have d6_9 := (hc9.2 6).trans d6
        have d7_9 := (hc9.2 7).trans d7
        have y0_9 : w.heap.size < w9.heap.size := by have := Z9.out.size; omega
        have y1_9 : w.heap.size + 1 < w9.heap.size := by have := Z9.out.size; omega
        clear hc9
        go_wp2
        go_ret
        exact ⟨ret_bool (by simp), BX.out.trans (Z9.out.mono (by omega))⟩
    | false =>
      go_wp2_with fail
      (with_reducible refine (T3.out w5 (BX.out.trans (Z5.out.mono (by omega)))).mono ?_)
      rintro e w6 ⟨rfl, b6⟩
      have Z6 := Lib.hid (Z5.out.trans (b6.mono (by have := Z5.out.size; omega)))
      clear b6
      clear f0_5 f1_5 f2_5 d0_5 d1_5 d2_5 d3_5 d4_5 d5_5 d6_5 d7_5 y0_5 y1_5
      have hc6 := HF.out w6 Z6.out
      have f0_6 := (hc6.1 0).trans f0
      have f1_6 := (hc6.1 1).trans f1
      have f2_6 := (hc6.1 2).trans f2
      have d0_6 := (hc6.2 0).trans d0
      have d1_6 := (hc6.2 1).trans d1
      have d2_6 := (hc6.2 2).trans d2
      have d3_6 := (hc6.2 3).trans d3
      have d4_6 := (hc6.2 4).trans d4
      have d5_6 := (hc6.2 5).trans d5
      have d6_6 := (hc6.2 6).trans d6
      have d7_6 := (hc6.2 7).trans d7
      have y0_6 : w.heap.size < w6.heap.size := by have := Z6.out.size; omega
      have y1_6 : w.heap.size + 1 < w6.heap.size := by have := Z6.out.size; omega
      clear hc6
      cases r with
      | true =>
        go_wp2_with fail
        (with_reducible refine ((D2.out trivial) w6 (BX.out.trans (Z6.out.mono (by omega)))).mono ?_)
        rintro e w7 ⟨u7, rfl, b7, CL⟩
        have Z7 := Lib.hid (Z6.out.trans (b7.mono (by have := Z6.out.size; omega)))
        have CLH := Lib.hid CL
        clear b7 CL
        go_wp2_with fail
        (with_reducible refine (CLH.out).mono ?_)
        rintro e w8 ⟨rfl, b8⟩
        have Z8 := Lib.hid (Z7.out.trans (b8.mono (by have := Z7.out.size; omega)))
        clear b8 CLH
        clear f0_6 f1_6 f2_6 d0_6 d1_6 d2_6 d3_6 d4_6 d5_6 d6_6 d7_6 y0_6 y1_6
        have hc8 := HF.out w8 Z8.out
        have f0_8 := (hc8.1 0).trans f0
        have f1_8 := (hc8.1 1).trans f1
        have f2_8 := (hc8.1 2).trans f2
        have d0_8 := (hc8.2 0).trans d0
        have d1_8 := (hc8.2 1).trans d1
        have d2_8 := (hc8.2 2).trans d2
        have d3_8 := (hc8.2 3).trans d3
        have d4_8 := (hc8.2 4).trans d4
        have d5_8 := (hc8.2 5).trans d5
        have d6_8 := (hc8.2 6).trans d6
        have d7_8 := (hc8.2 7).trans d7
        have y0_8 : w.heap.size < w8.heap.size := by have := Z8.out.size; omega
        have y1_8 : w.heap.size + 1 < w8.heap.size := by have := Z8.out.size; omega
        clear hc8
        go_wp2_with fail
        (with_reducible refine (T4.out w8 (BX.out.trans (Z8.out.mono (by omega)))).mono ?_)
        rintro e w9 ⟨rfl, b9⟩
        have Z9 := Lib.hid (Z8.out.trans (b9.mono (by have := Z8.out.size; omega)))
        clear b9
        clear f0_8 f1_8 f2_8 d0_8 d1_8 d2_8 d3_8 d4_8 d5_8 d6_8 d7_8 y0_8 y1_8
        have hc9 := HF.out w9 Z9.out
        have f0_9 := (hc9.1 0).trans f0
        have f1_9 := (hc9.1 1).trans f1
        have f2_9 := (hc9.1 2).trans f2
        have d0_9 := (hc9.2 0).trans d0
        have d1_9 := (hc9.2 1).trans d1
        have d2_9 := (hc9.2 2).trans d2
        have d3_9 := (hc9.2 3).trans d3
        have d4_9 := (hc9.2 4).trans d4
        have d5_9 := (hc9.2 5).trans d5
        have d6_9 := (hc9.2 6).trans d6
        have d7_9 := (hc9.2 7).trans d7
        have y0_9 : w.heap.size < w9.heap.size := by have := Z9.out.size; omega
        have y1_9 : w.heap.size + 1 < w9.heap.size := by have := Z9.out.size; omega
        clear hc9
        cases p with
        | true =>
          go_wp2_with fail
          (with_reducible refine ((D3.out trivial) w9 (BX.out.trans (Z9.out.mono (by omega)))).mono ?_)
          rintro e w10 ⟨u10, rfl, b10, CL⟩
          have Z10 := Lib.hid (Z9.out.trans (b10.mono (by have := Z9.out.size; omega)))
          have CLH := Lib.hid CL
          clear b10 CL
          go_wp2_with fail
          (with_reducible refine (CLH.out).mono ?_)
          rintro e w11 ⟨rfl, b11⟩
          have Z11 := Lib.hid (Z10.out.trans (b11.mono (by have := Z10.out.size; omega)))
          clear b11 CLH
          clear f0_9 f1_9 f2_9 d0_9 d1_9 d2_9 d3_9 d4_9 d5_9 d6_9 d7_9 y0_9 y1_9
          have hc11 := HF.out w11 Z11.out
          have f0_11 := (hc11.1 0).trans f0
          have f1_11 := (hc11.1 1).trans f1
          have f2_11 := (hc11.1 2).trans f2
          have d0_11 := (hc11.2 0).trans d0
          have d1_11 := (hc11.2 1).trans d1
          have d2_11 := (hc11.2 2).trans d2
          have d3_11 := (hc11.2 3).trans d3
          have d4_11 := (hc11.2 4).trans d4
          have d5_11 := (hc11.2 5).trans d5
          have d6_11 := (hc11.2 6).trans d6
          have d7_11 := (hc11.2 7).trans d7
          have y0_11 : w.heap.size < w11.heap.size := by have := Z11.out.size; omega
          have y1_11 : w.heap.size + 1 < w11.heap.size := by have := Z11.out.size; omega
          clear hc11
          go_wp2_with fail
          (with_reducible refine (S1.out w11 (BX.out.trans (Z11.out.mono (by omega)))).mono ?_)
          rintro e w12 ⟨rfl, b12⟩
          have Z12 := Lib.hid (Z11.out.trans (b12.mono (by have := Z11.out.size; omega)))
          clear b12
          clear f0_11 f1_11 f2_11 d0_11 d1_11 d2_11 d3_11 d4_11 d5_11 d6_11 d7_11 y0_11 y1_11
          have hc12 := HF.out w12 Z12.out
          have f0_12 := (hc12.1 0).trans f0
          have f1_12 := (hc12.1 1).trans f1
          have f2_12 := (hc12.1 2).trans f2
          have d0_12 := (hc12.2 0).trans d0
          have d1_12 := (hc12.2 1).trans d1
          have d2_12 := (hc12.2 2).trans d2
          have d3_12 := (hc12.2 3).trans d3
          have d4_12 := (hc12.2 4).trans d4
          have d5_12 := (hc12.2 5).trans d5
          have d6_12 := (hc12.2 6).trans d6
          have d7_12 := (hc12.2 7).trans d7
          have y0_12 : w.heap.size < w12.heap.size := by have := Z12.out.size; omega
          have y1_12 : w.heap.size + 1 < w12.heap.size := by have := Z12.out.size; omega
          clear hc12
          go_wp2_with fail
          (with_reducible refine (S2.out w12 (BX.out.trans (Z12.out.mono (by omega)))).mono ?_)
          rintro e w13 ⟨rfl, b13⟩
          have Z13 := Lib.hid (Z12.out.trans (b13.mono (by have := Z12.out.size; omega)))
          clear b13
          clear f0_12 f1_12 f2_12 d0_12 d1_12 d2_12 d3_12 d4_12 d5_12 d6_12 d7_12 y0_12 y1_12
          have hc13 := HF.out w13 Z13.out
          have f0_13 := (hc13.1 0).trans f0
          have f1_13 := (hc13.1 1).trans f1
          have f2_13 := (hc13.1 2).trans f2
          have d0_13 := (hc13.2 0).trans d0
          have d1_13 := (hc13.2 1).trans d1
          have d2_13 := (hc13.2 2).trans d2
          have d3_13 := (hc13.2 3).trans d3
          have d4_13 := (hc13.2 4).trans d4
          have d5_13 := (hc13.2 5).trans d5
          have d6_13 := (hc13.2 6).trans d6
          have d7_13 := (hc13.2 7).trans d7
          have y0_13 : w.heap.size < w13.heap.size := by have := Z13.out.size; omega
          have y1_13 : w.heap.size + 1 < w13.heap.size := by have := Z13.out.size; omega
          clear hc13
          go_wp2_with fail
          (with_reducible refine (S3.out w13 (BX.out.trans (Z13.out.mono (by omega)))).mono ?_)
          rintro e w14 ⟨rfl, b14⟩
          have Z14 := Lib.hid (Z13.out.trans (b14.mono (by have := Z13.out.size; omega)))
          clear b14
          clear f0_13 f1_13 f2_13 d0_13 d1_13 d2_13 d3_13 d4_13 d5_13 d6_13 d7_13 y0_13 y1_13
          have hc14 := HF.out w14 Z14.out
          have f0_14 := (hc14.1 0).trans f0
          have f1_14 := (hc14.1 1).trans f1
          have f2_14 := (hc14.1 2).trans f2
          have d0_14 := (hc14.2 0).trans d0
          have d1_14 := (hc14.2 1).trans d1
          have d2_14 := (hc14.2 2).trans d2
          have d3_14 := (hc14.2 3).trans d3
          have d4_14 := (hc14.2 4).trans d4
          have d5_14 := (hc14.2 5).trans d5
          have d6_14 := (hc14.2 6).trans d6
          have d7_14 := (hc14.2 7).trans d7
          have y0_14 : w.heap.size < w14.heap.size := by have := Z14.out.size; omega
          have y1_14 : w.heap.size + 1 < w14.heap.size := by have := Z14.out.size; omega
          clear hc14
          go_wp2
          go_ret
          exact ⟨ret_bool (by simp), BX.out.trans (Z14.out.mono (by omega))⟩
        | false =>
          go_wp2_with fail
          (with_reducible refine (S1.out w9 (BX.out.trans (Z9.out.mono (by omega)))).mono ?_)
          rintro e w10 ⟨rfl, b10⟩
          have Z10 := Lib.hid (Z9.out.trans (b10.mono (by have := Z9.out.size; omega)))
          clear b10
          clear f0_9 f1_9 f2_9 d0_9 d1_9 d2_9 d3_9 d4_9 d5_9 d6_9 d7_9 y0_9 y1_9
          have hc10 := HF.out w10 Z10.out
          have f0_10 := (hc10.1 0).trans f0
          have f1_10 := (hc10.1 1).trans f1
          have f2_10 := (hc10.1 2).trans f2
          have d0_10 := (hc10.2 0).trans d0
          have d1_10 := (hc10.2 1).trans d1
          have d2_10 := (hc10.2 2).trans d2
          have d3_10 := (hc10.2 3).trans d3
          have d4_10 := (hc10.2 4).trans d4
          have d5_10 := (hc10.2 5).trans d5
          have d6_10 := (hc10.2 6).trans d6
          have d7_10 := (hc10.2 7).trans d7
          have y0_10 : w.heap.size < w10.heap.size := by have := Z10.out.size; omega
          have y1_10 : w.heap.size + 1 < w10.heap.size := by have := Z10.out.size; omega
          clear hc10
          go_wp2_with fail
          (with_reducible refine (S2.out w10 (BX.out.trans (Z10.out.mono (by omega)))).mono ?_)
          rintro e w11 ⟨rfl, b11⟩
          have Z11 := Lib.hid (Z10.out.trans (b11.mono (by have := Z10.out.size; omega)))
          clear b11
          clear f0_10 f1_10 f2_10 d0_10 d1_10 d2_10 d3_10 d4_10 d5_10 d6_10 d7_10 y0_10 y1_10
          have hc11 := HF.out w11 Z11.out
          have f0_11 := (hc11.1 0).trans f0
          have f1_11 := (hc11.1 1).trans f1
          have f2_11 := (hc11.1 2).trans f2
          have d0_11 := (hc11.2 0).trans d0
          have d1_11 := (hc11.2 1).trans d1
          have d2_11 := (hc11.2 2).trans d2
          have d3_11 := (hc11.2 3).trans d3
          have d4_11 := (hc11.2 4).trans d4
          have d5_11 := (hc11.2 5).trans d5
          have d6_11 := (hc11.2 6).trans d6
          have d7_11 := (hc11.2 7).trans d7
          have y0_11 : w.heap.size < w11.heap.size := by have := Z11.out.size; omega
          have y1_11 : w.heap.size + 1 < w11.heap.size := by have := Z11.out.size; omega
          clear hc11
          go_wp2_with fail
          (with_reducible refine (S3.out w11 (BX.out.trans (Z11.out.mono (by omega)))).mono ?_)
          rintro e w12 ⟨rfl, b12⟩
          have Z12 := Lib.hid (Z11.out.trans (b12.mono (by have := Z11.out.size; omega)))
          clear b12
          clear f0_11 f1_11 f2_11 d0_11 d1_11 d2_11 d3_11 d4_11 d5_11 d6_11 d7_11 y0_11 y1_11
          have hc12 := HF.out w12 Z12.out
          have f0_12 := (hc12.1 0).trans f0
          have f1_12 := (hc12.1 1).trans f1
          have f2_12 := (hc12.1 2).trans f2
          have d0_12 := (hc12.2 0).trans d0
          have d1_12 := (hc12.2 1).trans d1
          have d2_12 := (hc12.2 2).trans d2
          have d3_12 := (hc12.2 3).trans d3
          have d4_12 := (hc12.2 4).trans d4
          have d5_12 := (hc12.2 5).trans d5
          have d6_12 := (hc12.2 6).trans d6
          have d7_12 := (hc12.2 7).trans d7
          have y0_12 : w.heap.size < w12.heap.size := by have := Z12.out.size; omega
          have y1_12 : w.heap.size + 1 < w12.heap.size := by have := Z12.out.size; omega
          clear hc12
          go_wp2
          go_ret
          exact ⟨ret_bool (by simp), BX.out.trans (Z12.out.mono (by omega))⟩
      | false =>
        go_wp2_with fail
        (with_reducible refine (T4.out w6 (BX.out.trans (Z6.out.mono (by omega)))).mono ?_)
        rintro e w7 ⟨rfl, b7⟩
        have Z7 := Lib.hid (Z6.out.trans (b7.mono (by have := Z6.out.size; omega)))
        clear b7
        clear f0_6 f1_6 f2_6 d0_6 d1_6 d2_6 d3_6 d4_6 d5_6 d6_6 d7_6 y0_6 y1_6
        have hc7 := HF.out w7 Z7.out
        have f0_7 := (hc7.1 0).trans f0
        have f1_7 := (hc7.1 1).trans f1
        have f2_7 := (hc7.1 2).trans f2
        have d0_7 := (hc7.2 0).trans d0
        have d1_7 := (hc7.2 1).trans d1
        have d2_7 := (hc7.2 2).trans d2
        have d3_7 := (hc7.2 3).trans d3
        have d4_7 := (hc7.2 4).trans d4
        have d5_7 := (hc7.2 5).trans d5
        have d6_7 := (hc7.2 6).trans d6
        have d7_7 := (hc7.2 7).trans d7
        have y0_7 : w.heap.size < w7.heap.size := by have := Z7.out.size; omega
        have y1_7 : w.heap.size + 1 < w7.heap.size := by have := Z7.out.size; omega
        clear hc7
        cases p with
        | true =>
          go_wp2_with fail
          (with_reducible refine ((D3.out trivial) w7 (BX.out.trans (Z7.out.mono (by omega)))).mono ?_)
          rintro e w8 ⟨u8, rfl, b8, CL⟩
          have Z8 := Lib.hid (Z7.out.trans (b8.mono (by have := Z7.out.size; omega)))
          have CLH := Lib.hid CL
          clear b8 CL
          go_wp2_with fail
          (with_reducible refine (CLH.out).mono ?_)
          rintro e w9 ⟨rfl, b9⟩
          have Z9 := Lib.hid (Z8.out.trans (b9.mono (by have := Z8.out.size; omega)))
          clear b9 CLH
          clear f0_7 f1_7 f2_7 d0_7 d1_7 d2_7 d3_7 d4_7 d5_7 d6_7 d7_7 y0_7 y1_7
          have hc9 := HF.out w9 Z9.out
          have f0_9 := (hc9.1 0).trans f0
          have f1_9 := (hc9.1 1).trans f1
          have f2_9 := (hc9.1 2).trans f2
          have d0_9 := (hc9.2 0).trans d0
          have d1_9 := (hc9.2 1).trans d1
          have d2_9 := (hc9.2 2).trans d2
          have d3_9 := (hc9.2 3).trans d3
          have d4_9 := (hc9.2 4).trans d4
          have d5_9 := (hc9.2 5).trans d5
          have d6_9 := (hc9.2 6).trans d6
          have d7_9 := (hc9.2 7).trans d7
          have y0_9 : w.heap.size < w9.heap.size := by have := Z9.out.size; omega
          have y1_9 : w.heap.size + 1 < w9.heap.size := by have := Z9.out.size; omega
          clear hc9
          go_wp2_with fail
          (with_reducible refine (S1.out w9 (BX.out.trans (Z9.out.mono (by omega)))).mono ?_)
          rintro e w10 ⟨rfl, b10⟩
          have Z10 := Lib.hid (Z9.out.trans (b10.mono (by have := Z9.out.size; omega)))
          clear b10
          clear f0_9 f1_9 f2_9 d0_9 d1_9 d2_9 d3_9 d4_9 d5_9 d6_9 d7_9 y0_9 y1_9
          have hc10 := HF.out w10 Z10.out
          have f0_10 := (hc10.1 0).trans f0
          have f1_10 := (hc10.1 1).trans f1
          have f2_10 := (hc10.1 2).trans f2
          have d0_10 := (hc10.2 0).trans d0
          have d1_10 := (hc10.2 1).trans d1
          have d2_10 := (hc10.2 2).trans d2
          have d3_10 := (hc10.2 3).trans d3
          have d4_10 := (hc10.2 4).trans d4
          have d5_10 := (hc10.2 5).trans d5
          have d6_10 := (hc10.2 6).trans d6
          have d7_10 := (hc10.2 7).trans d7
          have y0_10 : w.heap.size < w10.heap.size := by have := Z10.out.size; omega
          have y1_10 : w.heap.size + 1 < w10.heap.size := by have := Z10.out.size; omega
          clear hc10
          go_wp2_with fail
          (with_reducible refine (S2.out w10 (BX.out.trans (Z10.out.mono (by omega)))).mono ?_)
          rintro e w11 ⟨rfl, b11⟩
          have Z11 := Lib.hid (Z10.out.trans (b11.mono (by have := Z10.out.size; omega)))
          clear b11
          clear f0_10 f1_10 f2_10 d0_10 d1_10 d2_10 d3_10 d4_10 d5_10 d6_10 d7_10 y0_10 y1_10
          have hc11 := HF.out w11 Z11.out
          have f0_11 := (hc11.1 0).trans f0
          have f1_11 := (hc11.1 1).trans f1
          have f2_11 := (hc11.1 2).trans f2
          have d0_11 := (hc11.2 0).trans d0
          have d1_11 := (hc11.2 1).trans d1
          have d2_11 := (hc11.2 2).trans d2
          have d3_11 := (hc11.2 3).trans d3
          have d4_11 := (hc11.2 4).trans d4
          have d5_11 := (hc11.2 5).trans d5
          have d6_11 := (hc11.2 6).trans d6
          have d7_11 := (hc11.2 7).trans d7
          have y0_11 : w.heap.size < w11.heap.size := by have := Z11.out.size; omega
          have y1_11 : w.heap.size + 1 < w11.heap.size := by have := Z11.out.size; omega
          clear hc11
          go_wp2_with fail
          (with_reducible refine (S3.out w11 (BX.out.trans (Z11.out.mono (by omega)))).mono ?_)
          rintro e w12 ⟨rfl, b12⟩
          have Z12 := Lib.hid (Z11.out.trans (b12.mono (by have := Z11.out.size; omega)))
          clear b12
          clear f0_11 f1_11 f2_11 d0_11 d1_11 d2_11 d3_11 d4_11 d5_11 d6_11 d7_11 y0_11 y1_11
          have hc12 := HF.out w12 Z12.out
          have f0_12 := (hc12.1 0).trans f0
          have f1_12 := (hc12.1 1).trans f1
          have f2_12 := (hc12.1 2).trans f2
          have d0_12 := (hc12.2 0).trans d0
          have d1_12 := (hc12.2 1).trans d1
          have d2_12 := (hc12.2 2).trans d2
          have d3_12 := (hc12.2 3).trans d3
          have d4_12 := (hc12.2 4).trans d4
          have d5_12 := (hc12.2 5).trans d5
          have d6_12 := (hc12.2 6).trans d6
          have d7_12 := (hc12.2 7).trans d7
          have y0_12 : w.heap.size < w12.heap.size := by have := Z12.out.size; omega
          have y1_12 : w.heap.size + 1 < w12.heap.size := by have := Z12.out.size; omega
          clear hc12
          go_wp2
          go_ret
          exact ⟨ret_bool (by simp), BX.out.trans (Z12.out.mono (by omega))⟩
        | false =>
          go_wp2_with fail
          (with_reducible refine (S1.out w7 (BX.out.trans (Z7.out.mono (by omega)))).mono ?_)
          rintro e w8 ⟨rfl, b8⟩
          have Z8 := Lib.hid (Z7.out.trans (b8.mono (by have := Z7.out.size; omega)))
          clear b8
          clear f0_7 f1_7 f2_7 d0_7 d1_7 d2_7 d3_7 d4_7 d5_7 d6_7 d7_7 y0_7 y1_7
          have hc8 := HF.out w8 Z8.out
          have f0_8 := (hc8.1 0).trans f0
          have f1_8 := (hc8.1 1).trans f1
          have f2_8 := (hc8.1 2).trans f2
          have d0_8 := (hc8.2 0).trans d0
          have d1_8 := (hc8.2 1).trans d1
          have d2_8 := (hc8.2 2).trans d2
          have d3_8 := (hc8.2 3).trans d3
          have d4_8 := (hc8.2 4).trans d4
          have d5_8 := (hc8.2 5).trans d5
          have d6_8 := (hc8.2 6).trans d6
          have d7_8 := (hc8.2 7).trans d7
          have y0_8 : w.heap.size < w8.heap.size := by have := Z8.out.size; omega
          have y1_8 : w.heap.size + 1 < w8.heap.size := by have := Z8.out.size; omega
          clear hc8
          go_wp2_with fail
          (with_reducible refine (S2.out w8 (BX.out.trans (Z8.out.mono (by omega)))).mono ?_)
          rintro e w9 ⟨rfl, b9⟩
          have Z9 := Lib.hid (Z8.out.trans (b9.mono (by have := Z8.out.size; omega)))
          clear b9
          clear f0_8 f1_8 f2_8 d0_8 d1_8 d2_8 d3_8 d4_8 d5_8 d6_8 d7_8 y0_8 y1_8
          have hc9 := HF.out w9 Z9.out
          have f0_9 := (hc9.1 0).trans f0
          have f1_9 := (hc9.1 1).trans f1
          have f2_9 := (hc9.1 2).trans f2
          have d0_9 := (hc9.2 0).trans d0
          have d1_9 := (hc9.2 1).trans d1
          have d2_9 := (hc9.2 2).trans d2
          have d3_9 := (hc9.2 3).trans d3
          have d4_9 := (hc9.2 4).trans d4
          have d5_9 := (hc9.2 5).trans d5
          have d6_9 := (hc9.2 6).trans d6
          have d7_9 := (hc9.2 7).trans d7
          have y0_9 : w.heap.size < w9.heap.size := by have := Z9.out.size; omega
          have y1_9 : w.heap.size + 1 < w9.heap.size := by have := Z9.out.size; omega
          clear hc9
          go_wp2_with fail
          (with_reducible refine (S3.out w9 (BX.out.trans (Z9.out.mono (by omega)))).mono ?_)
          rintro e w10 ⟨rfl, b10⟩
          have Z10 := Lib.hid (Z9.out.trans (b10.mono (by have := Z9.out.size; omega)))
          clear b10
          clear f0_9 f1_9 f2_9 d0_9 d1_9 d2_9 d3_9 d4_9 d5_9 d6_9 d7_9 y0_9 y1_9
          have hc10 := HF.out w10 Z10.out
          have f0_10 := (hc10.1 0).trans f0
          have f1_10 := (hc10.1 1).trans f1
          have f2_10 := (hc10.1 2).trans f2
          have d0_10 := (hc10.2 0).trans d0
          have d1_10 := (hc10.2 1).trans d1
          have d2_10 := (hc10.2 2).trans d2
          have d3_10 := (hc10.2 3).trans d3
          have d4_10 := (hc10.2 4).trans d4
          have d5_10 := (hc10.2 5).trans d5
          have d6_10 := (hc10.2 6).trans d6
          have d7_10 := (hc10.2 7).trans d7
          have y0_10 : w.heap.size < w10.heap.size := by have := Z10.out.size; omega
          have y1_10 : w.heap.size + 1 < w10.heap.size := by have := Z10.out.size; omega
          clear hc10
          go_wp2
          go_ret
          exact ⟨ret_bool (by simp), BX.out.trans (Z10.out.mono (by omega))⟩
end Go.Proofs.YthilicmhdkmipaaGreatDoor
