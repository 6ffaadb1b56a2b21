/- ShowSides: weak; the walk over abstract contracts. -/
import Derived.Test.YthilicmhdkmipaaGreatDoorWShowWrapsWalk
import Derived.Test.YthilicmhdkmipaaGreatDoorWShowAwake2
namespace Go.Proofs.YthilicmhdkmipaaGreatDoor
open Go.RowKit
set_option linter.unusedVariables false

set_option maxRecDepth 100000 in
set_option maxHeartbeats 8000000 in
theorem weak_calls (k : Int) (hk : k = 4 ∨ k = 5 ∨ k = 6) (x : PE) (p1 : Option Addr) (pn1 pc1 : Nat) (p2 : Option Addr) (pn2 pc2 : Nat) (w : World) :
    Calls Tryz.prog 34 #[.agg #[.int .u8 x.op, .int .i64 x.int, .string x.name, .string x.second, .string x.place.name, .slice p1 pn1 pc1, .slice p2 pn2 pc2, .int .i64 x.pos], .int .i64 k] w fun e w' => e = .returned (.bool (decide ((strongB x.op : Int) < k))) ∧ Below w.heap.size w w' := by
  by_cases h : 8 ≤ x.op ∧ x.op ≤ 17
  · obtain ⟨op, hop⟩ : ∃ op, op = x.op := ⟨_, rfl⟩
    rw [← hop] at h ⊢
    clear hop
    rcases (by omega : op = 8 ∨ op = 9 ∨ op = 10 ∨ op = 11 ∨ op = 12 ∨ op = 13 ∨ op = 14 ∨ op = 15 ∨ op = 16 ∨ op = 17) with rfl | rfl | rfl | rfl | rfl | rfl | rfl | rfl | rfl | rfl <;> rcases hk with rfl | rfl | rfl
    all_goals
      go_enter Tryz.func34, Tryz.ntmps34
      go_wp2
      go_ret
      exact ⟨rfl, box1 _ _⟩
  · have hs : ¬ ((strongB x.op : Int) < k) := by
      unfold strongB
      rw [if_neg (by omega), if_neg (by omega), if_neg (by omega), if_neg (by omega), if_neg (by omega), if_neg (by omega)]
      split <;> omega
    rw [decide_eq_false hs]
    obtain ⟨op, hop⟩ : ∃ op, op = x.op := ⟨_, rfl⟩
    rw [← hop] at h ⊢
    have n8 : (op == 8) = false := beq_eq_false_iff_ne.2 (by omega)
    have n9 : (op == 9) = false := beq_eq_false_iff_ne.2 (by omega)
    have n10 : (op == 10) = false := beq_eq_false_iff_ne.2 (by omega)
    have n11 : (op == 11) = false := beq_eq_false_iff_ne.2 (by omega)
    have n12 : (op == 12) = false := beq_eq_false_iff_ne.2 (by omega)
    have n13 : (op == 13) = false := beq_eq_false_iff_ne.2 (by omega)
    have n14 : (op == 14) = false := beq_eq_false_iff_ne.2 (by omega)
    have n15 : (op == 15) = false := beq_eq_false_iff_ne.2 (by omega)
    have n16 : (op == 16) = false := beq_eq_false_iff_ne.2 (by omega)
    have n17 : (op == 17) = false := beq_eq_false_iff_ne.2 (by omega)
    clear h hs hop
    go_enter Tryz.func34, Tryz.ntmps34
    go_wp2
    go_ret
    exact ⟨rfl, box1 _ _⟩
set_option maxRecDepth 100000 in
set_option maxHeartbeats 8000000 in
theorem showSides_great (x y : PE) (p1 : Option Addr) (pn1 pc1 : Nat) (p2 : Option Addr) (pn2 pc2 : Nat) (q1 : Option Addr) (qn1 qc1 : Nat) (q2 : Option Addr) (qn2 qc2 : Nat) (w : World) (x1 x2 : Bool) (hx : x1 = true ∨ (x1 = false ∧ x2 = true))
    (AW : Hid (∀ W, Below w.heap.size w W → Calls Tryz.prog 28 #[] W fun e w' => e = .returned (.bool true) ∧ Below (W).heap.size (W) w'))
    (G1 : Hid (∀ W, Below w.heap.size w W → Calls Tryz.prog 16 #[.agg #[.int .u8 x.op, .int .i64 x.int, .string x.name, .string x.second, .string x.place.name, .slice p1 pn1 pc1, .slice p2 pn2 pc2, .int .i64 x.pos]] W fun e w' => e = .returned (.bool x1) ∧ Below (W).heap.size (W) w'))
    (G2 : Hid (∀ W, Below w.heap.size w W → Calls Tryz.prog 16 #[.agg #[.int .u8 y.op, .int .i64 y.int, .string y.name, .string y.second, .string y.place.name, .slice q1 qn1 qc1, .slice q2 qn2 qc2, .int .i64 y.pos]] W fun e w' => e = .returned (.bool x2) ∧ Below (W).heap.size (W) w')) :
    Calls Tryz.prog 9 #[.agg #[.int .u8 x.op, .int .i64 x.int, .string x.name, .string x.second, .string x.place.name, .slice p1 pn1 pc1, .slice p2 pn2 pc2, .int .i64 x.pos], .agg #[.int .u8 y.op, .int .i64 y.int, .string y.name, .string y.second, .string y.place.name, .slice q1 qn1 qc1, .slice q2 qn2 qc2, .int .i64 y.pos]] w fun e w' => e = .returned (.bool true) ∧ Below w.heap.size w w' := by
  obtain ⟨w1, hw1⟩ : ∃ w1, w1 = (w.alloc (.cells #[.int .u8 x.op, .int .i64 x.int, .string x.name, .string x.second, .string x.place.name, .slice p1 pn1 pc1, .slice p2 pn2 pc2, .int .i64 x.pos] 37)).alloc (.cells #[.int .u8 y.op, .int .i64 y.int, .string y.name, .string y.second, .string y.place.name, .slice q1 qn1 qc1, .slice q2 qn2 qc2, .int .i64 y.pos] 37) := ⟨_, rfl⟩
  have bx1 : Below w.heap.size w w1 := by rw [hw1]; exact (new_only _ _).alloc (by simp) _
  have hz1 : w.heap.size + 2 ≤ w1.heap.size := by rw [hw1]; simp
  have hg0 : w1.heap[w.heap.size]? = some (.cells #[.int .u8 x.op, .int .i64 x.int, .string x.name, .string x.second, .string x.place.name, .slice p1 pn1 pc1, .slice p2 pn2 pc2, .int .i64 x.pos] 37 (0, 0)) := by
    rw [hw1]; exact (Below.heap_alloc _ _ _ (by simp)).trans (heap_alloc_new w _)
  have hg1 : w1.heap[w.heap.size + 1]? = some (.cells #[.int .u8 y.op, .int .i64 y.int, .string y.name, .string y.second, .string y.place.name, .slice q1 qn1 qc1, .slice q2 qn2 qc2, .int .i64 y.pos] 37 (0, 0)) := by
    rw [hw1]
    have := heap_alloc_new (w.alloc (.cells #[.int .u8 x.op, .int .i64 x.int, .string x.name, .string x.second, .string x.place.name, .slice p1 pn1 pc1, .slice p2 pn2 pc2, .int .i64 x.pos] 37)) (.cells #[.int .u8 y.op, .int .i64 y.int, .string y.name, .string y.second, .string y.place.name, .slice q1 qn1 qc1, .slice q2 qn2 qc2, .int .i64 y.pos] 37)
    simpa using this
  have HC0 : Hid (∀ W, Below w1.heap.size w1 W → CellsAt W w.heap.size 0 [.int .u8 x.op, .int .i64 x.int, .string x.name, .string x.second, .string x.place.name, .slice p1 pn1 pc1, .slice p2 pn2 pc2, .int .i64 x.pos]) := Lib.hid fun W h => (cells_made hg0).below (by omega) h
  have HC1 : Hid (∀ W, Below w1.heap.size w1 W → CellsAt W (w.heap.size + 1) 0 [.int .u8 y.op, .int .i64 y.int, .string y.name, .string y.second, .string y.place.name, .slice q1 qn1 qc1, .slice q2 qn2 qc2, .int .i64 y.pos]) := Lib.hid fun W h => (cells_made hg1).below (by omega) h
  have BX := Lib.hid bx1
  have Z1 := Lib.hid (Below.refl w1.heap.size w1)
  clear bx1 hg0 hg1
  rcases hx with rfl | ⟨rfl, rfl⟩
  · go_enter Tryz.func9, Tryz.ntmps9
    go_upto_region 1 with (fail)
    (try simp only [size_alloc])
    rw [← hw1]
    clear hw1
    go_wp2_with fail
    (with_reducible refine (AW.out w1 (BX.out.trans (Z1.out.mono (by omega)))).mono ?_)
    rintro e w2 ⟨rfl, b⟩
    have Z2 := Lib.hid (Z1.out.trans (b.mono (by have := Z1.out.size; omega)))
    clear b
    have f0_2 : w2.cell? ⟨w.heap.size, 0, none⟩ = some (.int .u8 x.op) := HC0.out w2 Z2.out 0 _ rfl
    have f1_2 : w2.cell? ⟨w.heap.size, 1, none⟩ = some (.int .i64 x.int) := HC0.out w2 Z2.out 1 _ rfl
    have f2_2 : w2.cell? ⟨w.heap.size, 2, none⟩ = some (.string x.name) := HC0.out w2 Z2.out 2 _ rfl
    have f3_2 : w2.cell? ⟨w.heap.size, 3, none⟩ = some (.string x.second) := HC0.out w2 Z2.out 3 _ rfl
    have f4_2 : w2.cell? ⟨w.heap.size, 4, none⟩ = some (.string x.place.name) := HC0.out w2 Z2.out 4 _ rfl
    have f5_2 : w2.cell? ⟨w.heap.size, 5, none⟩ = some (.slice p1 pn1 pc1) := HC0.out w2 Z2.out 5 _ rfl
    have f6_2 : w2.cell? ⟨w.heap.size, 6, none⟩ = some (.slice p2 pn2 pc2) := HC0.out w2 Z2.out 6 _ rfl
    have f7_2 : w2.cell? ⟨w.heap.size, 7, none⟩ = some (.int .i64 x.pos) := HC0.out w2 Z2.out 7 _ rfl
    have y0_2 : w.heap.size < w2.heap.size := by have := Z2.out.size; omega
    go_wp2_with fail
    (with_reducible refine (G1.out w2 (BX.out.trans (Z2.out.mono (by omega)))).mono ?_)
    rintro e w3 ⟨rfl, b⟩
    have Z3 := Lib.hid (Z2.out.trans (b.mono (by have := Z2.out.size; omega)))
    clear b
    go_wp2
    go_ret
    exact ⟨rfl, BX.out.trans (Z3.out.mono (by omega))⟩
  · go_enter Tryz.func9, Tryz.ntmps9
    go_upto_region 1 with (fail)
    (try simp only [size_alloc])
    rw [← hw1]
    clear hw1
    go_wp2_with fail
    (with_reducible refine (AW.out w1 (BX.out.trans (Z1.out.mono (by omega)))).mono ?_)
    rintro e w2 ⟨rfl, b⟩
    have Z2 := Lib.hid (Z1.out.trans (b.mono (by have := Z1.out.size; omega)))
    clear b
    have f0_2 : w2.cell? ⟨w.heap.size, 0, none⟩ = some (.int .u8 x.op) := HC0.out w2 Z2.out 0 _ rfl
    have f1_2 : w2.cell? ⟨w.heap.size, 1, none⟩ = some (.int .i64 x.int) := HC0.out w2 Z2.out 1 _ rfl
    have f2_2 : w2.cell? ⟨w.heap.size, 2, none⟩ = some (.string x.name) := HC0.out w2 Z2.out 2 _ rfl
    have f3_2 : w2.cell? ⟨w.heap.size, 3, none⟩ = some (.string x.second) := HC0.out w2 Z2.out 3 _ rfl
    have f4_2 : w2.cell? ⟨w.heap.size, 4, none⟩ = some (.string x.place.name) := HC0.out w2 Z2.out 4 _ rfl
    have f5_2 : w2.cell? ⟨w.heap.size, 5, none⟩ = some (.slice p1 pn1 pc1) := HC0.out w2 Z2.out 5 _ rfl
    have f6_2 : w2.cell? ⟨w.heap.size, 6, none⟩ = some (.slice p2 pn2 pc2) := HC0.out w2 Z2.out 6 _ rfl
    have f7_2 : w2.cell? ⟨w.heap.size, 7, none⟩ = some (.int .i64 x.pos) := HC0.out w2 Z2.out 7 _ rfl
    have y0_2 : w.heap.size < w2.heap.size := by have := Z2.out.size; omega
    go_wp2_with fail
    (with_reducible refine (G1.out w2 (BX.out.trans (Z2.out.mono (by omega)))).mono ?_)
    rintro e w3 ⟨rfl, b⟩
    have Z3 := Lib.hid (Z2.out.trans (b.mono (by have := Z2.out.size; omega)))
    clear b
    clear f0_2 f1_2 f2_2 f3_2 f4_2 f5_2 f6_2 f7_2 y0_2
    have d0_3 : w3.cell? ⟨w.heap.size + 1, 0, none⟩ = some (.int .u8 y.op) := HC1.out w3 Z3.out 0 _ rfl
    have d1_3 : w3.cell? ⟨w.heap.size + 1, 1, none⟩ = some (.int .i64 y.int) := HC1.out w3 Z3.out 1 _ rfl
    have d2_3 : w3.cell? ⟨w.heap.size + 1, 2, none⟩ = some (.string y.name) := HC1.out w3 Z3.out 2 _ rfl
    have d3_3 : w3.cell? ⟨w.heap.size + 1, 3, none⟩ = some (.string y.second) := HC1.out w3 Z3.out 3 _ rfl
    have d4_3 : w3.cell? ⟨w.heap.size + 1, 4, none⟩ = some (.string y.place.name) := HC1.out w3 Z3.out 4 _ rfl
    have d5_3 : w3.cell? ⟨w.heap.size + 1, 5, none⟩ = some (.slice q1 qn1 qc1) := HC1.out w3 Z3.out 5 _ rfl
    have d6_3 : w3.cell? ⟨w.heap.size + 1, 6, none⟩ = some (.slice q2 qn2 qc2) := HC1.out w3 Z3.out 6 _ rfl
    have d7_3 : w3.cell? ⟨w.heap.size + 1, 7, none⟩ = some (.int .i64 y.pos) := HC1.out w3 Z3.out 7 _ rfl
    have y1_3 : w.heap.size + 1 < w3.heap.size := by have := Z3.out.size; omega
    go_wp2_with fail
    (with_reducible refine (G2.out w3 (BX.out.trans (Z3.out.mono (by omega)))).mono ?_)
    rintro e w4 ⟨rfl, b⟩
    have Z4 := Lib.hid (Z3.out.trans (b.mono (by have := Z3.out.size; omega)))
    clear b
    go_wp2
    go_ret
    exact ⟨rfl, BX.out.trans (Z4.out.mono (by omega))⟩
theorem ba_some {s : ByteArray} (h : s.toList.isEmpty = false) : s.size ≠ 0 := fun e => by
  rw [ByteArray.toList_eq] at h
  have : s.data.toList = [] := List.length_eq_zero_iff.1 e
  rw [this] at h; cases h
/-- a side's text in bytes -/
def sdB (b : Bool) (s : ByteArray) : ByteArray := if b then ⟨#[40, 32]⟩ ++ s ++ ⟨#[32, 41]⟩ else s
set_option maxRecDepth 100000 in
set_option maxHeartbeats 8000000 in
theorem showSides_walk (x y : PE) (p1 : Option Addr) (pn1 pc1 : Nat) (p2 : Option Addr) (pn2 pc2 : Nat) (q1 : Option Addr) (qn1 qc1 : Nat) (q2 : Option Addr) (qn2 qc2 : Nat) (w : World) (s t sm pr : ByteArray) (a4 b5 a5 b6 : Bool)
    (AW : Hid (∀ W, Below w.heap.size w W → Calls Tryz.prog 28 #[] W fun e w' => e = .returned (.bool true) ∧ Below (W).heap.size (W) w'))
    (G1 : Hid (∀ W, Below w.heap.size w W → Calls Tryz.prog 16 #[.agg #[.int .u8 x.op, .int .i64 x.int, .string x.name, .string x.second, .string x.place.name, .slice p1 pn1 pc1, .slice p2 pn2 pc2, .int .i64 x.pos]] W fun e w' => e = .returned (.bool false) ∧ Below (W).heap.size (W) w'))
    (G2 : Hid (∀ W, Below w.heap.size w W → Calls Tryz.prog 16 #[.agg #[.int .u8 y.op, .int .i64 y.int, .string y.name, .string y.second, .string y.place.name, .slice q1 qn1 qc1, .slice q2 qn2 qc2, .int .i64 y.pos]] W fun e w' => e = .returned (.bool false) ∧ Below (W).heap.size (W) w'))
    (S1 : Hid (∀ W, Below w.heap.size w W → Calls Tryz.prog 26 #[.agg #[.int .u8 x.op, .int .i64 x.int, .string x.name, .string x.second, .string x.place.name, .slice p1 pn1 pc1, .slice p2 pn2 pc2, .int .i64 x.pos]] W fun e w' => e = .returned (.string s) ∧ Below (W).heap.size (W) w'))
    (S2 : Hid (∀ W, Below w.heap.size w W → Calls Tryz.prog 26 #[.agg #[.int .u8 y.op, .int .i64 y.int, .string y.name, .string y.second, .string y.place.name, .slice q1 qn1 qc1, .slice q2 qn2 qc2, .int .i64 y.pos]] W fun e w' => e = .returned (.string t) ∧ Below (W).heap.size (W) w'))
    (T1 : Hid (∀ W, Below w.heap.size w W → Calls Tryz.prog 33 #[.int .u8 9, .agg #[.int .u8 x.op, .int .i64 x.int, .string x.name, .string x.second, .string x.place.name, .slice p1 pn1 pc1, .slice p2 pn2 pc2, .int .i64 x.pos], .agg #[.int .u8 y.op, .int .i64 y.int, .string y.name, .string y.second, .string y.place.name, .slice q1 qn1 qc1, .slice q2 qn2 qc2, .int .i64 y.pos]] W fun e w' => (∃ g, e = .returned (.agg #[.int .u8 9, .int .i64 0, .string ⟨#[]⟩, .string ⟨#[]⟩, .string ⟨#[]⟩, .slice none 0 0, .slice (some ⟨g, 0, none⟩) 2 2, .int .i64 0]) ∧ PE.In w'.heap.size w' (exOf 9 [x, y]) ⟨.slice none 0 0, .slice (some ⟨g, 0, none⟩) 2 2⟩) ∧ Below W.heap.size W w'))
    (T2 : Hid (∀ W, Below w.heap.size w W → Calls Tryz.prog 33 #[.int .u8 11, .agg #[.int .u8 x.op, .int .i64 x.int, .string x.name, .string x.second, .string x.place.name, .slice p1 pn1 pc1, .slice p2 pn2 pc2, .int .i64 x.pos], .agg #[.int .u8 y.op, .int .i64 y.int, .string y.name, .string y.second, .string y.place.name, .slice q1 qn1 qc1, .slice q2 qn2 qc2, .int .i64 y.pos]] W fun e w' => (∃ g, e = .returned (.agg #[.int .u8 11, .int .i64 0, .string ⟨#[]⟩, .string ⟨#[]⟩, .string ⟨#[]⟩, .slice none 0 0, .slice (some ⟨g, 0, none⟩) 2 2, .int .i64 0]) ∧ PE.In w'.heap.size w' (exOf 11 [x, y]) ⟨.slice none 0 0, .slice (some ⟨g, 0, none⟩) 2 2⟩) ∧ Below W.heap.size W w'))
    (E1 : Hid (∀ (h : Nat) W, Below w.heap.size w W → PE.In W.heap.size W (exOf 9 [x, y]) ⟨.slice none 0 0, .slice (some ⟨h, 0, none⟩) 2 2⟩ → Calls Tryz.prog 26 #[.agg #[.int .u8 9, .int .i64 0, .string ⟨#[]⟩, .string ⟨#[]⟩, .string ⟨#[]⟩, .slice none 0 0, .slice (some ⟨h, 0, none⟩) 2 2, .int .i64 0]] W fun e w' => e = .returned (.string sm) ∧ Below (W).heap.size (W) w'))
    (E2 : Hid (∀ (h : Nat) W, Below w.heap.size w W → PE.In W.heap.size W (exOf 11 [x, y]) ⟨.slice none 0 0, .slice (some ⟨h, 0, none⟩) 2 2⟩ → Calls Tryz.prog 26 #[.agg #[.int .u8 11, .int .i64 0, .string ⟨#[]⟩, .string ⟨#[]⟩, .string ⟨#[]⟩, .slice none 0 0, .slice (some ⟨h, 0, none⟩) 2 2, .int .i64 0]] W fun e w' => e = .returned (.string pr) ∧ Below (W).heap.size (W) w'))
    (K1 : Hid (∀ W, Below w.heap.size w W → Calls Tryz.prog 34 #[.agg #[.int .u8 x.op, .int .i64 x.int, .string x.name, .string x.second, .string x.place.name, .slice p1 pn1 pc1, .slice p2 pn2 pc2, .int .i64 x.pos], .int .i64 4] W fun e w' => e = .returned (.bool a4) ∧ Below (W).heap.size (W) w'))
    (K2 : Hid (∀ W, Below w.heap.size w W → Calls Tryz.prog 34 #[.agg #[.int .u8 y.op, .int .i64 y.int, .string y.name, .string y.second, .string y.place.name, .slice q1 qn1 qc1, .slice q2 qn2 qc2, .int .i64 y.pos], .int .i64 5] W fun e w' => e = .returned (.bool b5) ∧ Below (W).heap.size (W) w'))
    (K3 : Hid (∀ W, Below w.heap.size w W → Calls Tryz.prog 34 #[.agg #[.int .u8 x.op, .int .i64 x.int, .string x.name, .string x.second, .string x.place.name, .slice p1 pn1 pc1, .slice p2 pn2 pc2, .int .i64 x.pos], .int .i64 5] W fun e w' => e = .returned (.bool a5) ∧ Below (W).heap.size (W) w'))
    (K4 : Hid (∀ W, Below w.heap.size w W → Calls Tryz.prog 34 #[.agg #[.int .u8 y.op, .int .i64 y.int, .string y.name, .string y.second, .string y.place.name, .slice q1 qn1 qc1, .slice q2 qn2 qc2, .int .i64 y.pos], .int .i64 6] W fun e w' => e = .returned (.bool b6) ∧ Below (W).heap.size (W) w'))
    (hs9 : s.size ≤ 1000000000) (ht9 : t.size ≤ 1000000000) (ha : a4 = true → a5 = true) (hb : b5 = true → b6 = true)
    (hc : s.size ≠ 0 → t.size ≠ 0 → sm.size ≠ 0 → sm = sdB a4 s ++ ⟨#[32, 43, 32]⟩ ++ sdB b5 t ∧ pr = sdB a5 s ++ ⟨#[32, 42, 32]⟩ ++ sdB b6 t) :
    Calls Tryz.prog 9 #[.agg #[.int .u8 x.op, .int .i64 x.int, .string x.name, .string x.second, .string x.place.name, .slice p1 pn1 pc1, .slice p2 pn2 pc2, .int .i64 x.pos], .agg #[.int .u8 y.op, .int .i64 y.int, .string y.name, .string y.second, .string y.place.name, .slice q1 qn1 qc1, .slice q2 qn2 qc2, .int .i64 y.pos]] w fun e w' => e = .returned (.bool true) ∧ Below w.heap.size w w' := by
  obtain ⟨w1, hw1⟩ : ∃ w1, w1 = (w.alloc (.cells #[.int .u8 x.op, .int .i64 x.int, .string x.name, .string x.second, .string x.place.name, .slice p1 pn1 pc1, .slice p2 pn2 pc2, .int .i64 x.pos] 37)).alloc (.cells #[.int .u8 y.op, .int .i64 y.int, .string y.name, .string y.second, .string y.place.name, .slice q1 qn1 qc1, .slice q2 qn2 qc2, .int .i64 y.pos] 37) := ⟨_, rfl⟩
  have bx1 : Below w.heap.size w w1 := by rw [hw1]; exact (new_only _ _).alloc (by simp) _
  have hz1 : w.heap.size + 2 ≤ w1.heap.size := by rw [hw1]; simp
  have hg0 : w1.heap[w.heap.size]? = some (.cells #[.int .u8 x.op, .int .i64 x.int, .string x.name, .string x.second, .string x.place.name, .slice p1 pn1 pc1, .slice p2 pn2 pc2, .int .i64 x.pos] 37 (0, 0)) := by
    rw [hw1]; exact (Below.heap_alloc _ _ _ (by simp)).trans (heap_alloc_new w _)
  have hg1 : w1.heap[w.heap.size + 1]? = some (.cells #[.int .u8 y.op, .int .i64 y.int, .string y.name, .string y.second, .string y.place.name, .slice q1 qn1 qc1, .slice q2 qn2 qc2, .int .i64 y.pos] 37 (0, 0)) := by
    rw [hw1]
    have := heap_alloc_new (w.alloc (.cells #[.int .u8 x.op, .int .i64 x.int, .string x.name, .string x.second, .string x.place.name, .slice p1 pn1 pc1, .slice p2 pn2 pc2, .int .i64 x.pos] 37)) (.cells #[.int .u8 y.op, .int .i64 y.int, .string y.name, .string y.second, .string y.place.name, .slice q1 qn1 qc1, .slice q2 qn2 qc2, .int .i64 y.pos] 37)
    simpa using this
  have HC0 : Hid (∀ W, Below w1.heap.size w1 W → CellsAt W w.heap.size 0 [.int .u8 x.op, .int .i64 x.int, .string x.name, .string x.second, .string x.place.name, .slice p1 pn1 pc1, .slice p2 pn2 pc2, .int .i64 x.pos]) := Lib.hid fun W h => (cells_made hg0).below (by omega) h
  have HC1 : Hid (∀ W, Below w1.heap.size w1 W → CellsAt W (w.heap.size + 1) 0 [.int .u8 y.op, .int .i64 y.int, .string y.name, .string y.second, .string y.place.name, .slice q1 qn1 qc1, .slice q2 qn2 qc2, .int .i64 y.pos]) := Lib.hid fun W h => (cells_made hg1).below (by omega) h
  have BX := Lib.hid bx1
  have Z1 := Lib.hid (Below.refl w1.heap.size w1)
  clear bx1 hg0 hg1
  go_enter Tryz.func9, Tryz.ntmps9
  go_upto_region 1 with (fail)
  (try simp only [size_alloc])
  rw [← hw1]
  clear hw1
  go_wp2_with fail
  (with_reducible refine (AW.out w1 (BX.out.trans (Z1.out.mono (by omega)))).mono ?_)
  rintro e w2 ⟨rfl, b⟩
  have Z2 := Lib.hid (Z1.out.trans (b.mono (by have := Z1.out.size; omega)))
  clear b
  have f0_2 : w2.cell? ⟨w.heap.size, 0, none⟩ = some (.int .u8 x.op) := HC0.out w2 Z2.out 0 _ rfl
  have f1_2 : w2.cell? ⟨w.heap.size, 1, none⟩ = some (.int .i64 x.int) := HC0.out w2 Z2.out 1 _ rfl
  have f2_2 : w2.cell? ⟨w.heap.size, 2, none⟩ = some (.string x.name) := HC0.out w2 Z2.out 2 _ rfl
  have f3_2 : w2.cell? ⟨w.heap.size, 3, none⟩ = some (.string x.second) := HC0.out w2 Z2.out 3 _ rfl
  have f4_2 : w2.cell? ⟨w.heap.size, 4, none⟩ = some (.string x.place.name) := HC0.out w2 Z2.out 4 _ rfl
  have f5_2 : w2.cell? ⟨w.heap.size, 5, none⟩ = some (.slice p1 pn1 pc1) := HC0.out w2 Z2.out 5 _ rfl
  have f6_2 : w2.cell? ⟨w.heap.size, 6, none⟩ = some (.slice p2 pn2 pc2) := HC0.out w2 Z2.out 6 _ rfl
  have f7_2 : w2.cell? ⟨w.heap.size, 7, none⟩ = some (.int .i64 x.pos) := HC0.out w2 Z2.out 7 _ rfl
  have y0_2 : w.heap.size < w2.heap.size := by have := Z2.out.size; omega
  go_wp2_with fail
  (with_reducible refine (G1.out w2 (BX.out.trans (Z2.out.mono (by omega)))).mono ?_)
  rintro e w3 ⟨rfl, b⟩
  have Z3 := Lib.hid (Z2.out.trans (b.mono (by have := Z2.out.size; omega)))
  clear b
  clear f0_2 f1_2 f2_2 f3_2 f4_2 f5_2 f6_2 f7_2 y0_2
  have d0_3 : w3.cell? ⟨w.heap.size + 1, 0, none⟩ = some (.int .u8 y.op) := HC1.out w3 Z3.out 0 _ rfl
  have d1_3 : w3.cell? ⟨w.heap.size + 1, 1, none⟩ = some (.int .i64 y.int) := HC1.out w3 Z3.out 1 _ rfl
  have d2_3 : w3.cell? ⟨w.heap.size + 1, 2, none⟩ = some (.string y.name) := HC1.out w3 Z3.out 2 _ rfl
  have d3_3 : w3.cell? ⟨w.heap.size + 1, 3, none⟩ = some (.string y.second) := HC1.out w3 Z3.out 3 _ rfl
  have d4_3 : w3.cell? ⟨w.heap.size + 1, 4, none⟩ = some (.string y.place.name) := HC1.out w3 Z3.out 4 _ rfl
  have d5_3 : w3.cell? ⟨w.heap.size + 1, 5, none⟩ = some (.slice q1 qn1 qc1) := HC1.out w3 Z3.out 5 _ rfl
  have d6_3 : w3.cell? ⟨w.heap.size + 1, 6, none⟩ = some (.slice q2 qn2 qc2) := HC1.out w3 Z3.out 6 _ rfl
  have d7_3 : w3.cell? ⟨w.heap.size + 1, 7, none⟩ = some (.int .i64 y.pos) := HC1.out w3 Z3.out 7 _ rfl
  have y1_3 : w.heap.size + 1 < w3.heap.size := by have := Z3.out.size; omega
  go_wp2_with fail
  (with_reducible refine (G2.out w3 (BX.out.trans (Z3.out.mono (by omega)))).mono ?_)
  rintro e w4 ⟨rfl, b⟩
  have Z4 := Lib.hid (Z3.out.trans (b.mono (by have := Z3.out.size; omega)))
  clear b
  clear d0_3 d1_3 d2_3 d3_3 d4_3 d5_3 d6_3 d7_3 y1_3
  have f0_4 : w4.cell? ⟨w.heap.size, 0, none⟩ = some (.int .u8 x.op) := HC0.out w4 Z4.out 0 _ rfl
  have f1_4 : w4.cell? ⟨w.heap.size, 1, none⟩ = some (.int .i64 x.int) := HC0.out w4 Z4.out 1 _ rfl
  have f2_4 : w4.cell? ⟨w.heap.size, 2, none⟩ = some (.string x.name) := HC0.out w4 Z4.out 2 _ rfl
  have f3_4 : w4.cell? ⟨w.heap.size, 3, none⟩ = some (.string x.second) := HC0.out w4 Z4.out 3 _ rfl
  have f4_4 : w4.cell? ⟨w.heap.size, 4, none⟩ = some (.string x.place.name) := HC0.out w4 Z4.out 4 _ rfl
  have f5_4 : w4.cell? ⟨w.heap.size, 5, none⟩ = some (.slice p1 pn1 pc1) := HC0.out w4 Z4.out 5 _ rfl
  have f6_4 : w4.cell? ⟨w.heap.size, 6, none⟩ = some (.slice p2 pn2 pc2) := HC0.out w4 Z4.out 6 _ rfl
  have f7_4 : w4.cell? ⟨w.heap.size, 7, none⟩ = some (.int .i64 x.pos) := HC0.out w4 Z4.out 7 _ rfl
  have y0_4 : w.heap.size < w4.heap.size := by have := Z4.out.size; omega
  have d0_4 : w4.cell? ⟨w.heap.size + 1, 0, none⟩ = some (.int .u8 y.op) := HC1.out w4 Z4.out 0 _ rfl
  have d1_4 : w4.cell? ⟨w.heap.size + 1, 1, none⟩ = some (.int .i64 y.int) := HC1.out w4 Z4.out 1 _ rfl
  have d2_4 : w4.cell? ⟨w.heap.size + 1, 2, none⟩ = some (.string y.name) := HC1.out w4 Z4.out 2 _ rfl
  have d3_4 : w4.cell? ⟨w.heap.size + 1, 3, none⟩ = some (.string y.second) := HC1.out w4 Z4.out 3 _ rfl
  have d4_4 : w4.cell? ⟨w.heap.size + 1, 4, none⟩ = some (.string y.place.name) := HC1.out w4 Z4.out 4 _ rfl
  have d5_4 : w4.cell? ⟨w.heap.size + 1, 5, none⟩ = some (.slice q1 qn1 qc1) := HC1.out w4 Z4.out 5 _ rfl
  have d6_4 : w4.cell? ⟨w.heap.size + 1, 6, none⟩ = some (.slice q2 qn2 qc2) := HC1.out w4 Z4.out 6 _ rfl
  have d7_4 : w4.cell? ⟨w.heap.size + 1, 7, none⟩ = some (.int .i64 y.pos) := HC1.out w4 Z4.out 7 _ rfl
  have y1_4 : w.heap.size + 1 < w4.heap.size := by have := Z4.out.size; omega
  go_upto_region 5 with (fail)
  have HB4 := Lib.hid (BX.out.trans (Z4.out.mono (by omega)))
  have A1 : Hid (∀ n' : Over w4, Calls Tryz.prog 26 #[.agg #[.int .u8 x.op, .int .i64 x.int, .string x.name, .string x.second, .string x.place.name, .slice p1 pn1 pc1, .slice p2 pn2 pc2, .int .i64 x.pos]] n'.w fun e w'' => e = .returned (.string s) ∧ ∃ m : Over w4, w'' = m.w) := Lib.hid fun n' => over_calls (S1.out _ (HB4.out.trans (n'.h.mono HB4.out.size)))
  have A2 : Hid (∀ n' : Over w4, Calls Tryz.prog 26 #[.agg #[.int .u8 y.op, .int .i64 y.int, .string y.name, .string y.second, .string y.place.name, .slice q1 qn1 qc1, .slice q2 qn2 qc2, .int .i64 y.pos]] n'.w fun e w'' => e = .returned (.string t) ∧ ∃ m : Over w4, w'' = m.w) := Lib.hid fun n' => over_calls (S2.out _ (HB4.out.trans (n'.h.mono HB4.out.size)))
  have hF := Over.cells (W0 := w4)
  refine wp_region_over (by kernel_rfl) (by kernel_rfl) ?_
  repeat (go_big_quiet_step ((first | (go_at_call 26; with_reducible exact A1.out _) | (go_at_call 26; with_reducible exact A2.out _))))
  refine wpQuiet_nil ?_
  rintro _ ⟨m, rfl⟩
  obtain ⟨w5, h5⟩ : ∃ x, x = m.w := ⟨_, rfl⟩
  have Z5 : Hid (Below w1.heap.size w1 w5) := Lib.hid (by rw [h5]; exact Z4.out.trans (m.h.mono Z4.out.size))
  rw [← h5]
  clear h5 hF A1 A2 HB4 m f0_4 f1_4 f2_4 f3_4 f4_4 f5_4 f6_4 f7_4 y0_4 d0_4 d1_4 d2_4 d3_4 d4_4 d5_4 d6_4 d7_4 y1_4
  have BY := Lib.hid (BX.out.trans (Z5.out.mono (by omega)))
  have HB : Hid (Below w5.heap.size w5 w5.drew) := Lib.hid (Below.refl _ w5).drew
  have XB : ∀ b o, b < w5.heap.size → w5.drew.cell? ⟨b, o, none⟩ = w5.cell? ⟨b, o, none⟩ := fun _ _ _ => rfl
  have f0_5 : w5.cell? ⟨w.heap.size, 0, none⟩ = some (.int .u8 x.op) := HC0.out w5 Z5.out 0 _ rfl
  have f1_5 : w5.cell? ⟨w.heap.size, 1, none⟩ = some (.int .i64 x.int) := HC0.out w5 Z5.out 1 _ rfl
  have f2_5 : w5.cell? ⟨w.heap.size, 2, none⟩ = some (.string x.name) := HC0.out w5 Z5.out 2 _ rfl
  have f3_5 : w5.cell? ⟨w.heap.size, 3, none⟩ = some (.string x.second) := HC0.out w5 Z5.out 3 _ rfl
  have f4_5 : w5.cell? ⟨w.heap.size, 4, none⟩ = some (.string x.place.name) := HC0.out w5 Z5.out 4 _ rfl
  have f5_5 : w5.cell? ⟨w.heap.size, 5, none⟩ = some (.slice p1 pn1 pc1) := HC0.out w5 Z5.out 5 _ rfl
  have f6_5 : w5.cell? ⟨w.heap.size, 6, none⟩ = some (.slice p2 pn2 pc2) := HC0.out w5 Z5.out 6 _ rfl
  have f7_5 : w5.cell? ⟨w.heap.size, 7, none⟩ = some (.int .i64 x.pos) := HC0.out w5 Z5.out 7 _ rfl
  have y0_5 : w.heap.size < w5.heap.size := by have := Z5.out.size; omega
  have d0_5 : w5.cell? ⟨w.heap.size + 1, 0, none⟩ = some (.int .u8 y.op) := HC1.out w5 Z5.out 0 _ rfl
  have d1_5 : w5.cell? ⟨w.heap.size + 1, 1, none⟩ = some (.int .i64 y.int) := HC1.out w5 Z5.out 1 _ rfl
  have d2_5 : w5.cell? ⟨w.heap.size + 1, 2, none⟩ = some (.string y.name) := HC1.out w5 Z5.out 2 _ rfl
  have d3_5 : w5.cell? ⟨w.heap.size + 1, 3, none⟩ = some (.string y.second) := HC1.out w5 Z5.out 3 _ rfl
  have d4_5 : w5.cell? ⟨w.heap.size + 1, 4, none⟩ = some (.string y.place.name) := HC1.out w5 Z5.out 4 _ rfl
  have d5_5 : w5.cell? ⟨w.heap.size + 1, 5, none⟩ = some (.slice q1 qn1 qc1) := HC1.out w5 Z5.out 5 _ rfl
  have d6_5 : w5.cell? ⟨w.heap.size + 1, 6, none⟩ = some (.slice q2 qn2 qc2) := HC1.out w5 Z5.out 6 _ rfl
  have d7_5 : w5.cell? ⟨w.heap.size + 1, 7, none⟩ = some (.int .i64 y.pos) := HC1.out w5 Z5.out 7 _ rfl
  have y1_5 : w.heap.size + 1 < w5.heap.size := by have := Z5.out.size; omega
  go_upto_region 6 with (fail)
  go_cut [7, 8] from 23 to 31 (fun s7 s8 wx => s7 = .string sm ∧ s8 = .string pr ∧ Hid (Below w5.heap.size w5 wx))
  case first =>
    go_region_held3 (fun w' => ∀ b o, b < w5.heap.size → w'.cell? ⟨b, o, none⟩ = w5.cell? ⟨b, o, none⟩) (with_reducible exact XB)
      (first
        | (go_at_call 33; (with_reducible refine (T1.out _ (BY.out.trans (HB.out.mono BY.out.size))).mono ?_)
           rintro e x1 ⟨⟨g, rfl, hi⟩, bj⟩
           (try ((with_reducible refine later_k I1 bj ?_); clear I1; intro I1))
           (try ((with_reducible refine later_k I2 bj ?_); clear I2; intro I2))
           have I1 := Lib.hid hi
           clear hi
           have zh := HB.out.size
           have HB2 : Hid (Below w5.heap.size w5 x1) := Lib.hid (HB.out.trans (bj.mono zh))
           clear HB
           have HB := HB2
           have XB : ∀ b o, b < w5.heap.size → x1.cell? ⟨b, o, none⟩ = w5.cell? ⟨b, o, none⟩ := low_at HB.out
           clear bj zh HB2)
        | (go_at_call 33; (with_reducible refine (T2.out _ (BY.out.trans (HB.out.mono BY.out.size))).mono ?_)
           rintro e x2 ⟨⟨g, rfl, hi⟩, bj⟩
           (try ((with_reducible refine later_k I1 bj ?_); clear I1; intro I1))
           (try ((with_reducible refine later_k I2 bj ?_); clear I2; intro I2))
           have I2 := Lib.hid hi
           clear hi
           have zh := HB.out.size
           have HB2 : Hid (Below w5.heap.size w5 x2) := Lib.hid (HB.out.trans (bj.mono zh))
           clear HB
           have HB := HB2
           have XB : ∀ b o, b < w5.heap.size → x2.cell? ⟨b, o, none⟩ = w5.cell? ⟨b, o, none⟩ := low_at HB.out
           clear bj zh HB2)
        | (go_at_call 26; (with_reducible refine (E1.out _ _ (BY.out.trans (HB.out.mono BY.out.size)) I1.out).mono ?_)
           rintro e x3 ⟨rfl, bj⟩
           (try ((with_reducible refine later_k I1 bj ?_); clear I1; intro I1))
           (try ((with_reducible refine later_k I2 bj ?_); clear I2; intro I2))
           have zh := HB.out.size
           have HB2 : Hid (Below w5.heap.size w5 x3) := Lib.hid (HB.out.trans (bj.mono zh))
           clear HB
           have HB := HB2
           have XB : ∀ b o, b < w5.heap.size → x3.cell? ⟨b, o, none⟩ = w5.cell? ⟨b, o, none⟩ := low_at HB.out
           clear bj zh HB2)
        | (go_at_call 26; (with_reducible refine (E2.out _ _ (BY.out.trans (HB.out.mono BY.out.size)) I2.out).mono ?_)
           rintro e x4 ⟨rfl, bj⟩
           (try ((with_reducible refine later_k I1 bj ?_); clear I1; intro I1))
           (try ((with_reducible refine later_k I2 bj ?_); clear I2; intro I2))
           have zh := HB.out.size
           have HB2 : Hid (Below w5.heap.size w5 x4) := Lib.hid (HB.out.trans (bj.mono zh))
           clear HB
           have HB := HB2
           have XB : ∀ b o, b < w5.heap.size → x4.cell? ⟨b, o, none⟩ = w5.cell? ⟨b, o, none⟩ := low_at HB.out
           clear bj zh HB2))
    all_goals
      go_wp2_with fail
      go_meet
      case rel => exact ⟨rfl, rfl, HB⟩
  case rest =>
    obtain ⟨rfl, rfl, HX⟩ := hcut
    obtain ⟨w6, hwc⟩ : ∃ x, x = wc := ⟨_, rfl⟩
    rw [← hwc] at HX ⊢
    have Z6 : Hid (Below w1.heap.size w1 w6) := Lib.hid (Z5.out.trans (HX.out.mono Z5.out.size))
    have HF := Lib.hid (BX.out.trans (Z6.out.mono (by omega)))
    clear hwc HX HB XB f0_5 f1_5 f2_5 f3_5 f4_5 f5_5 f6_5 f7_5 y0_5 d0_5 d1_5 d2_5 d3_5 d4_5 d5_5 d6_5 d7_5 y1_5 AW G1 G2 S1 S2 T1 T2 E1 E2
    have e0 := ba_nil
    cases h1 : s.toList.isEmpty
    case true =>
      go_wp2
      all_goals (go_ret; exact ⟨rfl, HF.out⟩)
    case false =>
    cases h2 : t.toList.isEmpty
    case true =>
      go_wp2
      all_goals (go_ret; exact ⟨rfl, HF.out⟩)
    case false =>
    cases h3 : sm.toList.isEmpty
    case true =>
      go_wp2
      all_goals (go_ret; exact ⟨rfl, HF.out⟩)
    case false =>
    obtain ⟨es, ep⟩ := hc (ba_some h1) (ba_some h2) (ba_some h3)
    have qs : ∀ a b : ByteArray, (a ++ b).size = a.size + b.size := fun a b => ByteArray.size_append
    have u1 : (⟨#[40, 32]⟩ : ByteArray).size = 2 := rfl
    have u2 : (⟨#[32, 41]⟩ : ByteArray).size = 2 := rfl
    have u3 : (⟨#[32, 43, 32]⟩ : ByteArray).size = 3 := rfl
    have u4 : (⟨#[32, 42, 32]⟩ : ByteArray).size = 3 := rfl
    have ka := ha
    have kb := hb
    clear ha hb hc
    cases a4 <;> cases a5 <;> cases b5 <;> cases b6 <;> (first | (exact absurd (ka rfl) (by decide)) | (exact absurd (kb rfl) (by decide)) | skip)
    all_goals
      clear ka kb
      simp only [sdB, if_true, if_false, Bool.false_eq_true] at es ep
      subst es
      subst ep
      have f0_6 : w6.cell? ⟨w.heap.size, 0, none⟩ = some (.int .u8 x.op) := HC0.out w6 Z6.out 0 _ rfl
      have f1_6 : w6.cell? ⟨w.heap.size, 1, none⟩ = some (.int .i64 x.int) := HC0.out w6 Z6.out 1 _ rfl
      have f2_6 : w6.cell? ⟨w.heap.size, 2, none⟩ = some (.string x.name) := HC0.out w6 Z6.out 2 _ rfl
      have f3_6 : w6.cell? ⟨w.heap.size, 3, none⟩ = some (.string x.second) := HC0.out w6 Z6.out 3 _ rfl
      have f4_6 : w6.cell? ⟨w.heap.size, 4, none⟩ = some (.string x.place.name) := HC0.out w6 Z6.out 4 _ rfl
      have f5_6 : w6.cell? ⟨w.heap.size, 5, none⟩ = some (.slice p1 pn1 pc1) := HC0.out w6 Z6.out 5 _ rfl
      have f6_6 : w6.cell? ⟨w.heap.size, 6, none⟩ = some (.slice p2 pn2 pc2) := HC0.out w6 Z6.out 6 _ rfl
      have f7_6 : w6.cell? ⟨w.heap.size, 7, none⟩ = some (.int .i64 x.pos) := HC0.out w6 Z6.out 7 _ rfl
      have y0_6 : w.heap.size < w6.heap.size := by have := Z6.out.size; omega
      go_wp2_with fail
      (with_reducible refine (K1.out w6 (BX.out.trans (Z6.out.mono (by omega)))).mono ?_)
      rintro e w7 ⟨rfl, b⟩
      have Z7 := Lib.hid (Z6.out.trans (b.mono (by have := Z6.out.size; omega)))
      clear b
      clear f0_6 f1_6 f2_6 f3_6 f4_6 f5_6 f6_6 f7_6 y0_6
      have d0_7 : w7.cell? ⟨w.heap.size + 1, 0, none⟩ = some (.int .u8 y.op) := HC1.out w7 Z7.out 0 _ rfl
      have d1_7 : w7.cell? ⟨w.heap.size + 1, 1, none⟩ = some (.int .i64 y.int) := HC1.out w7 Z7.out 1 _ rfl
      have d2_7 : w7.cell? ⟨w.heap.size + 1, 2, none⟩ = some (.string y.name) := HC1.out w7 Z7.out 2 _ rfl
      have d3_7 : w7.cell? ⟨w.heap.size + 1, 3, none⟩ = some (.string y.second) := HC1.out w7 Z7.out 3 _ rfl
      have d4_7 : w7.cell? ⟨w.heap.size + 1, 4, none⟩ = some (.string y.place.name) := HC1.out w7 Z7.out 4 _ rfl
      have d5_7 : w7.cell? ⟨w.heap.size + 1, 5, none⟩ = some (.slice q1 qn1 qc1) := HC1.out w7 Z7.out 5 _ rfl
      have d6_7 : w7.cell? ⟨w.heap.size + 1, 6, none⟩ = some (.slice q2 qn2 qc2) := HC1.out w7 Z7.out 6 _ rfl
      have d7_7 : w7.cell? ⟨w.heap.size + 1, 7, none⟩ = some (.int .i64 y.pos) := HC1.out w7 Z7.out 7 _ rfl
      have y1_7 : w.heap.size + 1 < w7.heap.size := by have := Z7.out.size; omega
      go_wp2_with fail
      (with_reducible refine (K2.out w7 (BX.out.trans (Z7.out.mono (by omega)))).mono ?_)
      rintro e w8 ⟨rfl, b⟩
      have Z8 := Lib.hid (Z7.out.trans (b.mono (by have := Z7.out.size; omega)))
      clear b
      clear d0_7 d1_7 d2_7 d3_7 d4_7 d5_7 d6_7 d7_7 y1_7
      have f0_8 : w8.cell? ⟨w.heap.size, 0, none⟩ = some (.int .u8 x.op) := HC0.out w8 Z8.out 0 _ rfl
      have f1_8 : w8.cell? ⟨w.heap.size, 1, none⟩ = some (.int .i64 x.int) := HC0.out w8 Z8.out 1 _ rfl
      have f2_8 : w8.cell? ⟨w.heap.size, 2, none⟩ = some (.string x.name) := HC0.out w8 Z8.out 2 _ rfl
      have f3_8 : w8.cell? ⟨w.heap.size, 3, none⟩ = some (.string x.second) := HC0.out w8 Z8.out 3 _ rfl
      have f4_8 : w8.cell? ⟨w.heap.size, 4, none⟩ = some (.string x.place.name) := HC0.out w8 Z8.out 4 _ rfl
      have f5_8 : w8.cell? ⟨w.heap.size, 5, none⟩ = some (.slice p1 pn1 pc1) := HC0.out w8 Z8.out 5 _ rfl
      have f6_8 : w8.cell? ⟨w.heap.size, 6, none⟩ = some (.slice p2 pn2 pc2) := HC0.out w8 Z8.out 6 _ rfl
      have f7_8 : w8.cell? ⟨w.heap.size, 7, none⟩ = some (.int .i64 x.pos) := HC0.out w8 Z8.out 7 _ rfl
      have y0_8 : w.heap.size < w8.heap.size := by have := Z8.out.size; omega
      go_wp2_with fail
      (with_reducible refine (K3.out w8 (BX.out.trans (Z8.out.mono (by omega)))).mono ?_)
      rintro e w9 ⟨rfl, b⟩
      have Z9 := Lib.hid (Z8.out.trans (b.mono (by have := Z8.out.size; omega)))
      clear b
      clear f0_8 f1_8 f2_8 f3_8 f4_8 f5_8 f6_8 f7_8 y0_8
      have d0_9 : w9.cell? ⟨w.heap.size + 1, 0, none⟩ = some (.int .u8 y.op) := HC1.out w9 Z9.out 0 _ rfl
      have d1_9 : w9.cell? ⟨w.heap.size + 1, 1, none⟩ = some (.int .i64 y.int) := HC1.out w9 Z9.out 1 _ rfl
      have d2_9 : w9.cell? ⟨w.heap.size + 1, 2, none⟩ = some (.string y.name) := HC1.out w9 Z9.out 2 _ rfl
      have d3_9 : w9.cell? ⟨w.heap.size + 1, 3, none⟩ = some (.string y.second) := HC1.out w9 Z9.out 3 _ rfl
      have d4_9 : w9.cell? ⟨w.heap.size + 1, 4, none⟩ = some (.string y.place.name) := HC1.out w9 Z9.out 4 _ rfl
      have d5_9 : w9.cell? ⟨w.heap.size + 1, 5, none⟩ = some (.slice q1 qn1 qc1) := HC1.out w9 Z9.out 5 _ rfl
      have d6_9 : w9.cell? ⟨w.heap.size + 1, 6, none⟩ = some (.slice q2 qn2 qc2) := HC1.out w9 Z9.out 6 _ rfl
      have d7_9 : w9.cell? ⟨w.heap.size + 1, 7, none⟩ = some (.int .i64 y.pos) := HC1.out w9 Z9.out 7 _ rfl
      have y1_9 : w.heap.size + 1 < w9.heap.size := by have := Z9.out.size; omega
      go_wp2_with fail
      (with_reducible refine (K4.out w9 (BX.out.trans (Z9.out.mono (by omega)))).mono ?_)
      rintro e w10 ⟨rfl, b⟩
      have Z10 := Lib.hid (Z9.out.trans (b.mono (by have := Z9.out.size; omega)))
      clear b
      clear d0_9 d1_9 d2_9 d3_9 d4_9 d5_9 d6_9 d7_9 y1_9
      have HG := Lib.hid (BX.out.trans (Z10.out.mono (by omega)))
      go_wp2
      all_goals (go_ret; exact ⟨rfl, HG.out⟩)
end Go.Proofs.YthilicmhdkmipaaGreatDoor

