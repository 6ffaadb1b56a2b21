/- ShowWraps: the walk over abstract contracts. -/
import Derived.Test.YthilicmhdkmipaaGreatDoorWJoinAW
import Derived.Test.YthilicmhdkmipaaGreatDoorWJoinAH
namespace Go.Proofs.YthilicmhdkmipaaGreatDoor
open Go.RowKit
set_option linter.unusedVariables false

theorem ba_size (a s b : ByteArray) : (a ++ s ++ b).size = a.size + s.size + b.size := by rw [ByteArray.size_append, ByteArray.size_append]
theorem ba_ne {s : ByteArray} (h : s.size ≠ 0) : s.toList.isEmpty = false := by
  rw [ByteArray.toList_eq]
  have : s.data.toList ≠ [] := fun e => h (by show s.data.toList.length = 0; rw [e]; rfl)
  simpa using this
theorem ba_big (a s b : ByteArray) (h : a.size ≠ 0) : (a ++ s ++ b).size ≠ 0 := by rw [ba_size]; omega
theorem ba_around (a s b : ByteArray) (h : a.size ≠ 0) : (a ++ s ++ b).toList.isEmpty = false := ba_ne (by rw [ba_size]; omega)
theorem ba_nil : (⟨#[]⟩ : ByteArray).toList.isEmpty = true := by rw [ByteArray.toList_eq]; rfl
theorem ba_other (a : ByteArray) (h : a.size ≠ 0) : ((⟨#[]⟩ : ByteArray).toList == a.toList) = false := by
  rw [ByteArray.toList_eq, ByteArray.toList_eq, beq_eq_false_iff_ne]
  exact fun e => h (by show a.data.toList.length = 0; rw [← e]; rfl)
set_option maxRecDepth 100000 in
set_option maxHeartbeats 8000000 in
theorem showWraps_great (k : Int) (tn : ByteArray) (at1 : Option Addr) (tn1 tq1 : Nat) (op iv : Int) (nm sc pn : ByteArray) (ps : Int) (p0 : Option Addr) (n0 q0 : Nat) (p1 : Option Addr) (n1 q1 : Nat) (w : World) (x1 x2 : Bool) (hx : x1 = true ∨ (x1 = false ∧ x2 = true))
    (AW : Hid (∀ W, Below w.heap.size w W → Calls Tryz.prog 28 #[] W fun e w' => e = .returned (.bool true) ∧ Below (W).heap.size (W) w'))
    (G1 : Hid (∀ W, Below w.heap.size w W → Calls Tryz.prog 15 #[.agg #[.int .u8 k, .string tn, .slice at1 tn1 tq1]] W fun e w' => e = .returned (.bool x1) ∧ Below (W).heap.size (W) w'))
    (G2 : Hid (∀ W, Below w.heap.size w W → Calls Tryz.prog 16 #[.agg #[.int .u8 op, .int .i64 iv, .string nm, .string sc, .string pn, .slice p0 n0 q0, .slice p1 n1 q1, .int .i64 ps]] W fun e w' => e = .returned (.bool x2) ∧ Below (W).heap.size (W) w')) :
    Calls Tryz.prog 8 #[.agg #[.int .u8 k, .string tn, .slice at1 tn1 tq1], .agg #[.int .u8 op, .int .i64 iv, .string nm, .string sc, .string pn, .slice p0 n0 q0, .slice p1 n1 q1, .int .i64 ps]] w fun e w' => e = .returned (.bool true) ∧ Below w.heap.size w w' := by
  obtain ⟨w1, hw1⟩ : ∃ w1, w1 = (w.alloc (.cells #[.int .u8 k, .string tn, .slice at1 tn1 tq1] 31)).alloc (.cells #[.int .u8 op, .int .i64 iv, .string nm, .string sc, .string pn, .slice p0 n0 q0, .slice p1 n1 q1, .int .i64 ps] 37) := ⟨_, rfl⟩
  have bx1 : Below w.heap.size w w1 := by rw [hw1]; exact (new_only _ _).alloc (by simp) _
  have hz1 : w.heap.size + 2 ≤ w1.heap.size := by rw [hw1]; simp
  have hg0 : w1.heap[w.heap.size]? = some (.cells #[.int .u8 k, .string tn, .slice at1 tn1 tq1] 31 (0, 0)) := by
    rw [hw1]; exact (Below.heap_alloc _ _ _ (by simp)).trans (heap_alloc_new w _)
  have hg1 : w1.heap[w.heap.size + 1]? = some (.cells #[.int .u8 op, .int .i64 iv, .string nm, .string sc, .string pn, .slice p0 n0 q0, .slice p1 n1 q1, .int .i64 ps] 37 (0, 0)) := by
    rw [hw1]
    have := heap_alloc_new (w.alloc (.cells #[.int .u8 k, .string tn, .slice at1 tn1 tq1] 31)) (.cells #[.int .u8 op, .int .i64 iv, .string nm, .string sc, .string pn, .slice p0 n0 q0, .slice p1 n1 q1, .int .i64 ps] 37)
    simpa using this
  have HC0 : Hid (∀ W, Below w1.heap.size w1 W → CellsAt W w.heap.size 0 [.int .u8 k, .string tn, .slice at1 tn1 tq1]) := Lib.hid fun W h => (cells_made hg0).below (by omega) h
  have HC1 : Hid (∀ W, Below w1.heap.size w1 W → CellsAt W (w.heap.size + 1) 0 [.int .u8 op, .int .i64 iv, .string nm, .string sc, .string pn, .slice p0 n0 q0, .slice p1 n1 q1, .int .i64 ps]) := Lib.hid fun W h => (cells_made hg1).below (by omega) h
  have BX := Lib.hid bx1
  have Z1 := Lib.hid (Below.refl w1.heap.size w1)
  clear bx1 hg0 hg1
  rcases hx with rfl | ⟨rfl, rfl⟩
  · go_enter Tryz.func8, Tryz.ntmps8
    go_upto_region 1 with (fail)
    (try simp only [size_alloc])
    rw [← hw1]
    clear hw1
    go_wp2_with fail
    (with_reducible refine (AW.out w1 (BX.out.trans (Z1.out.mono (by omega)))).mono ?_)
    rintro e w2 ⟨rfl, b⟩
    have Z2 := Lib.hid (Z1.out.trans (b.mono (by have := Z1.out.size; omega)))
    clear b
    have f0_2 : w2.cell? ⟨w.heap.size, 0, none⟩ = some (.int .u8 k) := HC0.out w2 Z2.out 0 _ rfl
    have f1_2 : w2.cell? ⟨w.heap.size, 1, none⟩ = some (.string tn) := HC0.out w2 Z2.out 1 _ rfl
    have f2_2 : w2.cell? ⟨w.heap.size, 2, none⟩ = some (.slice at1 tn1 tq1) := HC0.out w2 Z2.out 2 _ rfl
    have y0_2 : w.heap.size < w2.heap.size := by have := Z2.out.size; omega
    go_wp2_with fail
    (with_reducible refine (G1.out w2 (BX.out.trans (Z2.out.mono (by omega)))).mono ?_)
    rintro e w3 ⟨rfl, b⟩
    have Z3 := Lib.hid (Z2.out.trans (b.mono (by have := Z2.out.size; omega)))
    clear b
    go_wp2
    go_ret
    exact ⟨rfl, BX.out.trans (Z3.out.mono (by omega))⟩
  · go_enter Tryz.func8, Tryz.ntmps8
    go_upto_region 1 with (fail)
    (try simp only [size_alloc])
    rw [← hw1]
    clear hw1
    go_wp2_with fail
    (with_reducible refine (AW.out w1 (BX.out.trans (Z1.out.mono (by omega)))).mono ?_)
    rintro e w2 ⟨rfl, b⟩
    have Z2 := Lib.hid (Z1.out.trans (b.mono (by have := Z1.out.size; omega)))
    clear b
    have f0_2 : w2.cell? ⟨w.heap.size, 0, none⟩ = some (.int .u8 k) := HC0.out w2 Z2.out 0 _ rfl
    have f1_2 : w2.cell? ⟨w.heap.size, 1, none⟩ = some (.string tn) := HC0.out w2 Z2.out 1 _ rfl
    have f2_2 : w2.cell? ⟨w.heap.size, 2, none⟩ = some (.slice at1 tn1 tq1) := HC0.out w2 Z2.out 2 _ rfl
    have y0_2 : w.heap.size < w2.heap.size := by have := Z2.out.size; omega
    go_wp2_with fail
    (with_reducible refine (G1.out w2 (BX.out.trans (Z2.out.mono (by omega)))).mono ?_)
    rintro e w3 ⟨rfl, b⟩
    have Z3 := Lib.hid (Z2.out.trans (b.mono (by have := Z2.out.size; omega)))
    clear b
    clear f0_2 f1_2 f2_2 y0_2
    have d0_3 : w3.cell? ⟨w.heap.size + 1, 0, none⟩ = some (.int .u8 op) := HC1.out w3 Z3.out 0 _ rfl
    have d1_3 : w3.cell? ⟨w.heap.size + 1, 1, none⟩ = some (.int .i64 iv) := HC1.out w3 Z3.out 1 _ rfl
    have d2_3 : w3.cell? ⟨w.heap.size + 1, 2, none⟩ = some (.string nm) := HC1.out w3 Z3.out 2 _ rfl
    have d3_3 : w3.cell? ⟨w.heap.size + 1, 3, none⟩ = some (.string sc) := HC1.out w3 Z3.out 3 _ rfl
    have d4_3 : w3.cell? ⟨w.heap.size + 1, 4, none⟩ = some (.string pn) := HC1.out w3 Z3.out 4 _ rfl
    have d5_3 : w3.cell? ⟨w.heap.size + 1, 5, none⟩ = some (.slice p0 n0 q0) := HC1.out w3 Z3.out 5 _ rfl
    have d6_3 : w3.cell? ⟨w.heap.size + 1, 6, none⟩ = some (.slice p1 n1 q1) := HC1.out w3 Z3.out 6 _ rfl
    have d7_3 : w3.cell? ⟨w.heap.size + 1, 7, none⟩ = some (.int .i64 ps) := HC1.out w3 Z3.out 7 _ rfl
    have y1_3 : w.heap.size + 1 < w3.heap.size := by have := Z3.out.size; omega
    go_wp2_with fail
    (with_reducible refine (G2.out w3 (BX.out.trans (Z3.out.mono (by omega)))).mono ?_)
    rintro e w4 ⟨rfl, b⟩
    have Z4 := Lib.hid (Z3.out.trans (b.mono (by have := Z3.out.size; omega)))
    clear b
    go_wp2
    go_ret
    exact ⟨rfl, BX.out.trans (Z4.out.mono (by omega))⟩
set_option maxRecDepth 100000 in
set_option maxHeartbeats 8000000 in
theorem showWraps_walk (k : Int) (tn : ByteArray) (at1 : Option Addr) (tn1 tq1 : Nat) (op iv : Int) (nm sc pn : ByteArray) (ps : Int) (p0 : Option Addr) (n0 q0 : Nat) (p1 : Option Addr) (n1 q1 : Nat) (w : World) (s u bx rf bd : ByteArray)
    (AW : Hid (∀ W, Below w.heap.size w W → Calls Tryz.prog 28 #[] W fun e w' => e = .returned (.bool true) ∧ Below (W).heap.size (W) w'))
    (G1 : Hid (∀ W, Below w.heap.size w W → Calls Tryz.prog 15 #[.agg #[.int .u8 k, .string tn, .slice at1 tn1 tq1]] W fun e w' => e = .returned (.bool false) ∧ Below (W).heap.size (W) w'))
    (G2 : Hid (∀ W, Below w.heap.size w W → Calls Tryz.prog 16 #[.agg #[.int .u8 op, .int .i64 iv, .string nm, .string sc, .string pn, .slice p0 n0 q0, .slice p1 n1 q1, .int .i64 ps]] W fun e w' => e = .returned (.bool false) ∧ Below (W).heap.size (W) w'))
    (S1 : Hid (∀ W, Below w.heap.size w W → Calls Tryz.prog 25 #[.agg #[.int .u8 k, .string tn, .slice at1 tn1 tq1]] W fun e w' => e = .returned (.string s) ∧ Below (W).heap.size (W) w'))
    (S2 : Hid (∀ W, Below w.heap.size w W → Calls Tryz.prog 26 #[.agg #[.int .u8 op, .int .i64 iv, .string nm, .string sc, .string pn, .slice p0 n0 q0, .slice p1 n1 q1, .int .i64 ps]] W fun e w' => e = .returned (.string u) ∧ Below (W).heap.size (W) w'))
    (S3 : Hid (∀ W, Below w.heap.size w W → Calls Tryz.prog 25 #[.agg #[.int .u8 5, .string ⟨#[]⟩, .slice (some ⟨W.heap.size, 0, none⟩) 1 1]] (W.alloc (.cells #[.int .u8 k, .string tn, .slice at1 tn1 tq1] 31)) fun e w' => e = .returned (.string bx) ∧ Below ((W.alloc (.cells #[.int .u8 k, .string tn, .slice at1 tn1 tq1] 31))).heap.size ((W.alloc (.cells #[.int .u8 k, .string tn, .slice at1 tn1 tq1] 31))) w'))
    (S4 : Hid (∀ W, Below w.heap.size w W → Calls Tryz.prog 25 #[.agg #[.int .u8 14, .string ⟨#[]⟩, .slice (some ⟨W.heap.size, 0, none⟩) 1 1]] (W.alloc (.cells #[.int .u8 k, .string tn, .slice at1 tn1 tq1] 31)) fun e w' => e = .returned (.string rf) ∧ Below ((W.alloc (.cells #[.int .u8 k, .string tn, .slice at1 tn1 tq1] 31))).heap.size ((W.alloc (.cells #[.int .u8 k, .string tn, .slice at1 tn1 tq1] 31))) w'))
    (S5 : Hid (∀ W, Below w.heap.size w W → Calls Tryz.prog 26 #[.agg #[.int .u8 21, .int .i64 0, .string ⟨#[]⟩, .string ⟨#[]⟩, .string ⟨#[]⟩, .slice none 0 0, .slice (some ⟨W.heap.size, 0, none⟩) 1 1, .int .i64 0]] (W.alloc (.cells #[.int .u8 op, .int .i64 iv, .string nm, .string sc, .string pn, .slice p0 n0 q0, .slice p1 n1 q1, .int .i64 ps] 37)) fun e w' => e = .returned (.string bd) ∧ Below ((W.alloc (.cells #[.int .u8 op, .int .i64 iv, .string nm, .string sc, .string pn, .slice p0 n0 q0, .slice p1 n1 q1, .int .i64 ps] 37))).heap.size ((W.alloc (.cells #[.int .u8 op, .int .i64 iv, .string nm, .string sc, .string pn, .slice p0 n0 q0, .slice p1 n1 q1, .int .i64 ps] 37))) w'))
    (hs9 : s.size ≤ 1000000000) (hu9 : u.size ≤ 1000000000)
    (hT : (s.size ≠ 0 ∧ bx = ⟨#[66, 111, 120, 32, 60, 32]⟩ ++ s ++ ⟨#[32, 62]⟩ ∧ rf = ⟨#[38, 32, 109, 117, 116, 32]⟩ ++ s) ∨ bx = ⟨#[]⟩)
    (hE : (u.size ≠ 0 ∧ bd = ⟨#[98, 111, 120, 32, 40, 32]⟩ ++ u ++ ⟨#[32, 41]⟩) ∨ bd = ⟨#[]⟩) :
    Calls Tryz.prog 8 #[.agg #[.int .u8 k, .string tn, .slice at1 tn1 tq1], .agg #[.int .u8 op, .int .i64 iv, .string nm, .string sc, .string pn, .slice p0 n0 q0, .slice p1 n1 q1, .int .i64 ps]] w fun e w' => e = .returned (.bool true) ∧ Below w.heap.size w w' := by
  obtain ⟨w1, hw1⟩ : ∃ w1, w1 = (w.alloc (.cells #[.int .u8 k, .string tn, .slice at1 tn1 tq1] 31)).alloc (.cells #[.int .u8 op, .int .i64 iv, .string nm, .string sc, .string pn, .slice p0 n0 q0, .slice p1 n1 q1, .int .i64 ps] 37) := ⟨_, rfl⟩
  have bx1 : Below w.heap.size w w1 := by rw [hw1]; exact (new_only _ _).alloc (by simp) _
  have hz1 : w.heap.size + 2 ≤ w1.heap.size := by rw [hw1]; simp
  have hg0 : w1.heap[w.heap.size]? = some (.cells #[.int .u8 k, .string tn, .slice at1 tn1 tq1] 31 (0, 0)) := by
    rw [hw1]; exact (Below.heap_alloc _ _ _ (by simp)).trans (heap_alloc_new w _)
  have hg1 : w1.heap[w.heap.size + 1]? = some (.cells #[.int .u8 op, .int .i64 iv, .string nm, .string sc, .string pn, .slice p0 n0 q0, .slice p1 n1 q1, .int .i64 ps] 37 (0, 0)) := by
    rw [hw1]
    have := heap_alloc_new (w.alloc (.cells #[.int .u8 k, .string tn, .slice at1 tn1 tq1] 31)) (.cells #[.int .u8 op, .int .i64 iv, .string nm, .string sc, .string pn, .slice p0 n0 q0, .slice p1 n1 q1, .int .i64 ps] 37)
    simpa using this
  have HC0 : Hid (∀ W, Below w1.heap.size w1 W → CellsAt W w.heap.size 0 [.int .u8 k, .string tn, .slice at1 tn1 tq1]) := Lib.hid fun W h => (cells_made hg0).below (by omega) h
  have HC1 : Hid (∀ W, Below w1.heap.size w1 W → CellsAt W (w.heap.size + 1) 0 [.int .u8 op, .int .i64 iv, .string nm, .string sc, .string pn, .slice p0 n0 q0, .slice p1 n1 q1, .int .i64 ps]) := Lib.hid fun W h => (cells_made hg1).below (by omega) h
  have BX := Lib.hid bx1
  have Z1 := Lib.hid (Below.refl w1.heap.size w1)
  clear bx1 hg0 hg1
  go_enter Tryz.func8, Tryz.ntmps8
  go_upto_region 1 with (fail)
  (try simp only [size_alloc])
  rw [← hw1]
  clear hw1
  go_wp2_with fail
  (with_reducible refine (AW.out w1 (BX.out.trans (Z1.out.mono (by omega)))).mono ?_)
  rintro e w2 ⟨rfl, b⟩
  have Z2 := Lib.hid (Z1.out.trans (b.mono (by have := Z1.out.size; omega)))
  clear b
  have f0_2 : w2.cell? ⟨w.heap.size, 0, none⟩ = some (.int .u8 k) := HC0.out w2 Z2.out 0 _ rfl
  have f1_2 : w2.cell? ⟨w.heap.size, 1, none⟩ = some (.string tn) := HC0.out w2 Z2.out 1 _ rfl
  have f2_2 : w2.cell? ⟨w.heap.size, 2, none⟩ = some (.slice at1 tn1 tq1) := HC0.out w2 Z2.out 2 _ rfl
  have y0_2 : w.heap.size < w2.heap.size := by have := Z2.out.size; omega
  go_wp2_with fail
  (with_reducible refine (G1.out w2 (BX.out.trans (Z2.out.mono (by omega)))).mono ?_)
  rintro e w3 ⟨rfl, b⟩
  have Z3 := Lib.hid (Z2.out.trans (b.mono (by have := Z2.out.size; omega)))
  clear b
  clear f0_2 f1_2 f2_2 y0_2
  have d0_3 : w3.cell? ⟨w.heap.size + 1, 0, none⟩ = some (.int .u8 op) := HC1.out w3 Z3.out 0 _ rfl
  have d1_3 : w3.cell? ⟨w.heap.size + 1, 1, none⟩ = some (.int .i64 iv) := HC1.out w3 Z3.out 1 _ rfl
  have d2_3 : w3.cell? ⟨w.heap.size + 1, 2, none⟩ = some (.string nm) := HC1.out w3 Z3.out 2 _ rfl
  have d3_3 : w3.cell? ⟨w.heap.size + 1, 3, none⟩ = some (.string sc) := HC1.out w3 Z3.out 3 _ rfl
  have d4_3 : w3.cell? ⟨w.heap.size + 1, 4, none⟩ = some (.string pn) := HC1.out w3 Z3.out 4 _ rfl
  have d5_3 : w3.cell? ⟨w.heap.size + 1, 5, none⟩ = some (.slice p0 n0 q0) := HC1.out w3 Z3.out 5 _ rfl
  have d6_3 : w3.cell? ⟨w.heap.size + 1, 6, none⟩ = some (.slice p1 n1 q1) := HC1.out w3 Z3.out 6 _ rfl
  have d7_3 : w3.cell? ⟨w.heap.size + 1, 7, none⟩ = some (.int .i64 ps) := HC1.out w3 Z3.out 7 _ rfl
  have y1_3 : w.heap.size + 1 < w3.heap.size := by have := Z3.out.size; omega
  go_wp2_with fail
  (with_reducible refine (G2.out w3 (BX.out.trans (Z3.out.mono (by omega)))).mono ?_)
  rintro e w4 ⟨rfl, b⟩
  have Z4 := Lib.hid (Z3.out.trans (b.mono (by have := Z3.out.size; omega)))
  clear b
  clear d0_3 d1_3 d2_3 d3_3 d4_3 d5_3 d6_3 d7_3 y1_3
  have f0_4 : w4.cell? ⟨w.heap.size, 0, none⟩ = some (.int .u8 k) := HC0.out w4 Z4.out 0 _ rfl
  have f1_4 : w4.cell? ⟨w.heap.size, 1, none⟩ = some (.string tn) := HC0.out w4 Z4.out 1 _ rfl
  have f2_4 : w4.cell? ⟨w.heap.size, 2, none⟩ = some (.slice at1 tn1 tq1) := HC0.out w4 Z4.out 2 _ rfl
  have y0_4 : w.heap.size < w4.heap.size := by have := Z4.out.size; omega
  have d0_4 : w4.cell? ⟨w.heap.size + 1, 0, none⟩ = some (.int .u8 op) := HC1.out w4 Z4.out 0 _ rfl
  have d1_4 : w4.cell? ⟨w.heap.size + 1, 1, none⟩ = some (.int .i64 iv) := HC1.out w4 Z4.out 1 _ rfl
  have d2_4 : w4.cell? ⟨w.heap.size + 1, 2, none⟩ = some (.string nm) := HC1.out w4 Z4.out 2 _ rfl
  have d3_4 : w4.cell? ⟨w.heap.size + 1, 3, none⟩ = some (.string sc) := HC1.out w4 Z4.out 3 _ rfl
  have d4_4 : w4.cell? ⟨w.heap.size + 1, 4, none⟩ = some (.string pn) := HC1.out w4 Z4.out 4 _ rfl
  have d5_4 : w4.cell? ⟨w.heap.size + 1, 5, none⟩ = some (.slice p0 n0 q0) := HC1.out w4 Z4.out 5 _ rfl
  have d6_4 : w4.cell? ⟨w.heap.size + 1, 6, none⟩ = some (.slice p1 n1 q1) := HC1.out w4 Z4.out 6 _ rfl
  have d7_4 : w4.cell? ⟨w.heap.size + 1, 7, none⟩ = some (.int .i64 ps) := HC1.out w4 Z4.out 7 _ rfl
  have y1_4 : w.heap.size + 1 < w4.heap.size := by have := Z4.out.size; omega
  go_upto_region 5 with (fail)
  have HB4 := Lib.hid (BX.out.trans (Z4.out.mono (by omega)))
  have A1 : Hid (∀ n' : Over w4, Calls Tryz.prog 25 #[.agg #[.int .u8 k, .string tn, .slice at1 tn1 tq1]] n'.w fun e w'' => e = .returned (.string s) ∧ ∃ m : Over w4, w'' = m.w) := Lib.hid fun n' => over_calls (S1.out _ (HB4.out.trans (n'.h.mono HB4.out.size)))
  have A2 : Hid (∀ n' : Over w4, Calls Tryz.prog 26 #[.agg #[.int .u8 op, .int .i64 iv, .string nm, .string sc, .string pn, .slice p0 n0 q0, .slice p1 n1 q1, .int .i64 ps]] n'.w fun e w'' => e = .returned (.string u) ∧ ∃ m : Over w4, w'' = m.w) := Lib.hid fun n' => over_calls (S2.out _ (HB4.out.trans (n'.h.mono HB4.out.size)))
  have hF := Over.cells (W0 := w4)
  refine wp_region_over (by kernel_rfl) (by kernel_rfl) ?_
  repeat (go_big_quiet_step ((first | (go_at_call 25; with_reducible exact A1.out _) | (go_at_call 26; with_reducible exact A2.out _))))
  refine wpQuiet_nil ?_
  rintro _ ⟨m, rfl⟩
  obtain ⟨w5, h5⟩ : ∃ x, x = m.w := ⟨_, rfl⟩
  have Z5 : Hid (Below w1.heap.size w1 w5) := Lib.hid (by rw [h5]; exact Z4.out.trans (m.h.mono Z4.out.size))
  rw [← h5]
  clear h5 hF A1 A2 HB4 m f0_4 f1_4 f2_4 y0_4 d0_4 d1_4 d2_4 d3_4 d4_4 d5_4 d6_4 d7_4 y1_4
  have f0_5 : w5.cell? ⟨w.heap.size, 0, none⟩ = some (.int .u8 k) := HC0.out w5 Z5.out 0 _ rfl
  have f1_5 : w5.cell? ⟨w.heap.size, 1, none⟩ = some (.string tn) := HC0.out w5 Z5.out 1 _ rfl
  have f2_5 : w5.cell? ⟨w.heap.size, 2, none⟩ = some (.slice at1 tn1 tq1) := HC0.out w5 Z5.out 2 _ rfl
  have y0_5 : w.heap.size < w5.heap.size := by have := Z5.out.size; omega
  have bw5 : Below w5.heap.size w5 (w5.alloc (.cells #[.int .u8 k, .string tn, .slice at1 tn1 tq1] 31)) := new_only _ _
  go_wp2_with fail
  (with_reducible refine (S3.out w5 (BX.out.trans (Z5.out.mono (by omega)))).mono ?_)
  rintro e w6 ⟨rfl, b⟩
  have Z6 := Lib.hid ((Z5.out.trans (bw5.mono (by have := Z5.out.size; omega))).trans (b.mono (by have := Z5.out.size; simp; omega)))
  clear b
  clear bw5 f0_5 f1_5 f2_5 y0_5
  have f0_6 : w6.cell? ⟨w.heap.size, 0, none⟩ = some (.int .u8 k) := HC0.out w6 Z6.out 0 _ rfl
  have f1_6 : w6.cell? ⟨w.heap.size, 1, none⟩ = some (.string tn) := HC0.out w6 Z6.out 1 _ rfl
  have f2_6 : w6.cell? ⟨w.heap.size, 2, none⟩ = some (.slice at1 tn1 tq1) := HC0.out w6 Z6.out 2 _ rfl
  have y0_6 : w.heap.size < w6.heap.size := by have := Z6.out.size; omega
  have bw6 : Below w6.heap.size w6 (w6.alloc (.cells #[.int .u8 k, .string tn, .slice at1 tn1 tq1] 31)) := new_only _ _
  go_wp2_with fail
  (with_reducible refine (S4.out w6 (BX.out.trans (Z6.out.mono (by omega)))).mono ?_)
  rintro e w7 ⟨rfl, b⟩
  have Z7 := Lib.hid ((Z6.out.trans (bw6.mono (by have := Z6.out.size; omega))).trans (b.mono (by have := Z6.out.size; simp; omega)))
  clear b
  clear bw6 f0_6 f1_6 f2_6 y0_6
  have d0_7 : w7.cell? ⟨w.heap.size + 1, 0, none⟩ = some (.int .u8 op) := HC1.out w7 Z7.out 0 _ rfl
  have d1_7 : w7.cell? ⟨w.heap.size + 1, 1, none⟩ = some (.int .i64 iv) := HC1.out w7 Z7.out 1 _ rfl
  have d2_7 : w7.cell? ⟨w.heap.size + 1, 2, none⟩ = some (.string nm) := HC1.out w7 Z7.out 2 _ rfl
  have d3_7 : w7.cell? ⟨w.heap.size + 1, 3, none⟩ = some (.string sc) := HC1.out w7 Z7.out 3 _ rfl
  have d4_7 : w7.cell? ⟨w.heap.size + 1, 4, none⟩ = some (.string pn) := HC1.out w7 Z7.out 4 _ rfl
  have d5_7 : w7.cell? ⟨w.heap.size + 1, 5, none⟩ = some (.slice p0 n0 q0) := HC1.out w7 Z7.out 5 _ rfl
  have d6_7 : w7.cell? ⟨w.heap.size + 1, 6, none⟩ = some (.slice p1 n1 q1) := HC1.out w7 Z7.out 6 _ rfl
  have d7_7 : w7.cell? ⟨w.heap.size + 1, 7, none⟩ = some (.int .i64 ps) := HC1.out w7 Z7.out 7 _ rfl
  have y1_7 : w.heap.size + 1 < w7.heap.size := by have := Z7.out.size; omega
  have bw7 : Below w7.heap.size w7 (w7.alloc (.cells #[.int .u8 op, .int .i64 iv, .string nm, .string sc, .string pn, .slice p0 n0 q0, .slice p1 n1 q1, .int .i64 ps] 37)) := new_only _ _
  go_wp2_with fail
  (with_reducible refine (S5.out w7 (BX.out.trans (Z7.out.mono (by omega)))).mono ?_)
  rintro e w8 ⟨rfl, b⟩
  have Z8 := Lib.hid ((Z7.out.trans (bw7.mono (by have := Z7.out.size; omega))).trans (b.mono (by have := Z7.out.size; simp; omega)))
  clear b
  clear bw7 d0_7 d1_7 d2_7 d3_7 d4_7 d5_7 d6_7 d7_7 y1_7
  have HF := Lib.hid (BX.out.trans (Z8.out.mono (by omega)))
  clear Z1 Z2 Z3 Z4 Z5 Z6 Z7 Z8 HC0 HC1 AW G1 G2 S1 S2 S3 S4 S5 BX
  have q1 : (⟨#[66, 111, 120, 32, 60, 32]⟩ : ByteArray).size = 6 := rfl
  have q2 : (⟨#[32, 62]⟩ : ByteArray).size = 2 := rfl
  have q3 : (⟨#[38, 32, 109, 117, 116, 32]⟩ : ByteArray).size = 6 := rfl
  have q4 : (⟨#[98, 111, 120, 32, 40, 32]⟩ : ByteArray).size = 6 := rfl
  have q5 : (⟨#[32, 41]⟩ : ByteArray).size = 2 := rfl
  have q6 : (⟨#[66, 111, 120, 32, 60, 32]⟩ ++ s : ByteArray).size = 6 + s.size := ByteArray.size_append
  have q7 : (⟨#[98, 111, 120, 32, 40, 32]⟩ ++ u : ByteArray).size = 6 + u.size := ByteArray.size_append
  have f0 := ba_nil
  rcases hT with ⟨hs, rfl, rfl⟩ | rfl
  · have f1 := ba_ne hs
    have f2 : (⟨#[66, 111, 120, 32, 60, 32]⟩ ++ s ++ ⟨#[32, 62]⟩ : ByteArray).toList.isEmpty = false := ba_around _ _ _ (by decide)
    rcases hE with ⟨hu, rfl⟩ | rfl
    · have f3 := ba_ne hu
      have f4 : (⟨#[98, 111, 120, 32, 40, 32]⟩ ++ u ++ ⟨#[32, 41]⟩ : ByteArray).toList.isEmpty = false := ba_around _ _ _ (by decide)
      clear hs hu
      go_wp2
      all_goals (go_ret; exact ⟨rfl, HF.out⟩)
    · have f4 : ((⟨#[]⟩ : ByteArray).toList == (⟨#[98, 111, 120, 32, 40, 32]⟩ ++ u ++ ⟨#[32, 41]⟩ : ByteArray).toList) = false := ba_other _ (ba_big _ _ _ (by decide))
      clear hs
      cases f3 : u.toList.isEmpty
      · go_wp2
        all_goals (go_ret; exact ⟨rfl, HF.out⟩)
      · go_wp2
        all_goals (go_ret; exact ⟨rfl, HF.out⟩)
  · rcases hE with ⟨hu, rfl⟩ | rfl
    · have f3 := ba_ne hu
      have f4 : (⟨#[98, 111, 120, 32, 40, 32]⟩ ++ u ++ ⟨#[32, 41]⟩ : ByteArray).toList.isEmpty = false := ba_around _ _ _ (by decide)
      clear hu
      cases f1 : s.toList.isEmpty
      · go_wp2
        all_goals (go_ret; exact ⟨rfl, HF.out⟩)
      · go_wp2
        all_goals (go_ret; exact ⟨rfl, HF.out⟩)
    · have f4 : ((⟨#[]⟩ : ByteArray).toList == (⟨#[98, 111, 120, 32, 40, 32]⟩ ++ u ++ ⟨#[32, 41]⟩ : ByteArray).toList) = false := ba_other _ (ba_big _ _ _ (by decide))
      cases f1 : s.toList.isEmpty <;> cases f3 : u.toList.isEmpty
      · go_wp2
        all_goals (go_ret; exact ⟨rfl, HF.out⟩)
      · go_wp2
        all_goals (go_ret; exact ⟨rfl, HF.out⟩)
      · go_wp2
        all_goals (go_ret; exact ⟨rfl, HF.out⟩)
      · go_wp2
        all_goals (go_ret; exact ⟨rfl, HF.out⟩)
end Go.Proofs.YthilicmhdkmipaaGreatDoor

