/- What the writer writes of a statement that ends with a block. -/
import Derived.Test.YthilicmhdkmipaaGreatDoorIJoinAG
namespace Go.Proofs.YthilicmhdkmipaaGreatDoor
open Go.RowKit
set_option linter.unusedVariables false

set_option maxRecDepth 100000 in
set_option maxHeartbeats 4000000 in
theorem wb_if (B R : Nat) (nm sc : ByteArray) (ns : List ByteArray) (ty : PT) (it : Int) (pl : PP) (xe : PE) (bo el : List PS) (ar : List PA) (pos : Int) (he : ExprAt B R xe) (hb : StmtsAt B R bo) (hel : StmtsAt B R el) (T0 G0 : TkB) (ts : List TkB) (v : VS) (w : World) (hB : B ≤ w.heap.size) (hW : Words B w) (hA : AtW B R T0 G0 ts w) (hx : PS.In B w (.mk 6 nm sc ns ty it pl [xe] bo el ar pos) v) (hL : Lim T0 G0 (ts ++ (wIf :: (tokE xe ++ (blockT (tokSs bo) ++ elseT el.isEmpty (tokSs el)))))) :
    Calls Tryz.prog 215 #[.pointer (some ⟨R, 0, none⟩), .agg (PS.cells (.mk 6 nm sc ns ty it pl [xe] bo el ar pos) v).toArray] w fun e w' => e = .returned (.tuple #[]) ∧ AtW B R T0 G0 (ts ++ (wIf :: (tokE xe ++ (blockT (tokSs bo) ++ elseT el.isEmpty (tokSs el))))) w' ∧ WBut B R w w' := by
  have HX := Lib.hid hx
  obtain ⟨a1, n1, c1, a2, n2, c2, a3, n3, c3, a4, n4, c4, a5, n5, c5, a6, n6, c6, a7, n7, c7, rfl⟩ := hx.shape
  obtain ⟨⟨_, hi64, _, hsn, hss⟩, ⟨bn, on, sn, rn⟩, hty, hpl, ⟨b4, o4, s4, r4⟩, ⟨b5, o5, s5, r5⟩, ⟨b6, o6, s6, r6⟩, b7, o7, s7, r7⟩ := hx
  have RN := Lib.hid rn
  have R4 := Lib.hid r4
  have R5 := Lib.hid r5
  have R6 := Lib.hid r6
  have R7 := Lib.hid r7
  have HTY := Lib.hid hty
  have HPL := Lib.hid hpl
  clear rn r4 r5 r6 r7 hty hpl
  obtain ⟨_, ao4, cp4, e4, hk4⟩ := s4
  injection e4 with e41 e42 e43
  subst e41; subst e42; subst e43
  obtain ⟨rfl, hb4⟩ := hk4.resolve_left (by simp)
  obtain ⟨ve, ce, ie⟩ := PE.Row.get R4.out (show ([xe] : List PE)[0]? = some xe from rfl)
  obtain ⟨g1, l1, m1, g2, l2, m2, rfl⟩ := ie.shape
  have HCE := Lib.hid ce
  have HIE := Lib.hid ie
  clear ce ie hk4
  have hRR : R < w.heap.size := hA.lt
  obtain ⟨w1, hw1⟩ : ∃ w1, w1 = w.alloc (.cells #[.int .u8 6, .string nm, .string sc, .slice a1 n1 c1, .int .u8 ty.kind, .string ty.name, .slice a2 n2 c2, .int .i64 it, .string pl.name, .slice a3 n3 c3, .slice (some ⟨b4, o4, none⟩) 1 c4, .slice a5 n5 c5, .slice a6 n6 c6, .slice a7 n7 c7, .int .i64 pos] 130) := ⟨_, rfl⟩
  have bx : Below w.heap.size w w1 := by rw [hw1]; exact new_only _ _
  have E1 : Hid (CBox R w.heap.size [.int .u8 6, .string nm, .string sc, .slice a1 n1 c1, .int .u8 ty.kind, .string ty.name, .slice a2 n2 c2, .int .i64 it, .string pl.name, .slice a3 n3 c3, .slice (some ⟨b4, o4, none⟩) 1 c4, .slice a5 n5 c5, .slice a6 n6 c6, .slice a7 n7 c7, .int .i64 pos] w1) := Lib.hid (by rw [hw1]; exact CBox.new _ (by decide) hRR)
  have et : ts ++ (wIf :: (tokE xe ++ (blockT (tokSs bo) ++ elseT el.isEmpty (tokSs el)))) = (((ts ++ [wIf]) ++ tokE xe) ++ blockT (tokSs bo)) ++ elseT el.isEmpty (tokSs el) := by simp
  rw [et] at hL ⊢
  clear et
  have B1 : Hid (WBut B R w w1) := Lib.hid (WBut.of bx hB (R := R))
  have HW := Lib.hid hW
  have A1 := Lib.hid (hA.stays bx)
  have HL := Lib.hid hL
  show Calls Tryz.prog 215 #[.pointer (some ⟨R, 0, none⟩), .agg #[.int .u8 6, .string nm, .string sc, .slice a1 n1 c1, .int .u8 ty.kind, .string ty.name, .slice a2 n2 c2, .int .i64 it, .string pl.name, .slice a3 n3 c3, .slice (some ⟨b4, o4, none⟩) 1 c4, .slice a5 n5 c5, .slice a6 n6 c6, .slice a7 n7 c7, .int .i64 pos]] w _
  clear hW hA hL bx
  go_enter Tryz.func215, Tryz.ntmps215
  go_upto_region 1 with (fail)
  (try simp only [size_alloc])
  rw [← hw1]
  clear hw1
  have x1_0 : w1.cell? ⟨w.heap.size, 0, none⟩ = some (.int .u8 6) := E1.out.has 0 _ rfl
  have z1 : w.heap.size < w1.heap.size := E1.out.lt
  have hB1 : B ≤ w1.heap.size := Nat.le_trans hB B1.out.size
  have P := Lib.hid (put1_calls B R ⟨#[105, 102]⟩ T0 G0 ts _ w1 (new_only w1 (.cells #[.string ⟨#[105, 102]⟩] 9)) (heap_alloc_new w1 _) hB1 A1.out (by decide) HL.out.less.less.less)
  go_wp2_with fail
  (with_reducible refine (P.out).mono ?_)
  rintro e w2 ⟨rfl, h, b⟩
  have A2 := Lib.hid h
  have B2 := Lib.hid (B1.out.trans b)
  have E2 := Lib.hid (E1.out.but b)
  clear h b P x1_0 z1 A1 E1
  have x2_10 : w2.cell? ⟨w.heap.size, 10, none⟩ = some (.slice (some ⟨b4, o4, none⟩) 1 c4) := E2.out.has 10 _ rfl
  have z2 : w.heap.size < w2.heap.size := E2.out.lt
  have hB2 : B ≤ w2.heap.size := Nat.le_trans hB B2.out.size
  have P := Lib.hid (he T0 G0 (ts ++ [wIf]) ⟨.slice g1 l1 m1, .slice g2 l2 m2⟩ w2 hB2 (HW.out.below B2.out.bel) A2.out (PE.In.below B2.out.bel HIE.out) HL.out.less.less)
  have P : Hid (Calls Tryz.prog 69 #[.pointer (some ⟨R, 0, none⟩), .agg #[.int .u8 xe.op, .int .i64 xe.int, .string xe.name, .string xe.second, .string xe.place.name, .slice g1 l1 m1, .slice g2 l2 m2, .int .i64 xe.pos]] w2 fun e w' => e = .returned (.tuple #[]) ∧ AtW B R T0 G0 ((ts ++ [wIf]) ++ tokE xe) w' ∧ WBut B R w2 w') := Lib.hid P.out
  have ce2 := HCE.out.below hb4 B2.out.bel
  have u2_0 : w2.cell? ⟨b4, o4, none⟩ = some (.int .u8 xe.op) := by simpa using ce2 0 _ rfl
  have u2_1 : w2.cell? ⟨b4, o4 + 1, none⟩ = some (.int .i64 xe.int) := by simpa using ce2 1 _ rfl
  have u2_2 : w2.cell? ⟨b4, o4 + 2, none⟩ = some (.string xe.name) := by simpa using ce2 2 _ rfl
  have u2_3 : w2.cell? ⟨b4, o4 + 3, none⟩ = some (.string xe.second) := by simpa using ce2 3 _ rfl
  have u2_4 : w2.cell? ⟨b4, o4 + 4, none⟩ = some (.string xe.place.name) := by simpa using ce2 4 _ rfl
  have u2_5 : w2.cell? ⟨b4, o4 + 5, none⟩ = some (.slice g1 l1 m1) := by simpa using ce2 5 _ rfl
  have u2_6 : w2.cell? ⟨b4, o4 + 6, none⟩ = some (.slice g2 l2 m2) := by simpa using ce2 6 _ rfl
  have u2_7 : w2.cell? ⟨b4, o4 + 7, none⟩ = some (.int .i64 xe.pos) := by simpa using ce2 7 _ rfl
  have zb2 : b4 < w2.heap.size := by have := hB2; omega
  clear ce2
  go_wp2_with fail
  (with_reducible refine (P.out).mono ?_)
  rintro e w3 ⟨rfl, h, b⟩
  have A3 := Lib.hid h
  have B3 := Lib.hid (B2.out.trans b)
  have E3 := Lib.hid (E2.out.but b)
  clear h b P x2_10 z2 A2 E2
  clear u2_0 u2_1 u2_2 u2_3 u2_4 u2_5 u2_6 u2_7 zb2
  have x3_11 : w3.cell? ⟨w.heap.size, 11, none⟩ = some (.slice a5 n5 c5) := E3.out.has 11 _ rfl
  have z3 : w.heap.size < w3.heap.size := E3.out.lt
  have hB3 : B ≤ w3.heap.size := Nat.le_trans hB B3.out.size
  have P := Lib.hid (block_calls B R bo hb T0 G0 ((ts ++ [wIf]) ++ tokE xe) (.slice a5 n5 c5) b5 o5 w3 hB3 (HW.out.below B3.out.bel) A3.out s5 (PS.Row.below' B3.out.bel s5 R5.out) HL.out.less)
  go_wp2_with fail
  (with_reducible refine (P.out).mono ?_)
  rintro e w4 ⟨rfl, h, b⟩
  have A4 := Lib.hid h
  have B4 := Lib.hid (B3.out.trans b)
  have E4 := Lib.hid (E3.out.but b)
  clear h b P x3_11 z3 A3 E3
  have x4_12 : w4.cell? ⟨w.heap.size, 12, none⟩ = some (.slice a6 n6 c6) := E4.out.has 12 _ rfl
  have z4 : w.heap.size < w4.heap.size := E4.out.lt
  have hB4 : B ≤ w4.heap.size := Nat.le_trans hB B4.out.size
  have P := Lib.hid (otherwise_calls B R el hel T0 G0 (((ts ++ [wIf]) ++ tokE xe) ++ blockT (tokSs bo)) (.slice a6 n6 c6) b6 o6 w4 hB4 (HW.out.below B4.out.bel) A4.out s6 (PS.Row.below' B4.out.bel s6 R6.out) HL.out)
  go_wp2_with fail
  (with_reducible refine (P.out).mono ?_)
  rintro e w5 ⟨rfl, h, b⟩
  have A5 := Lib.hid h
  have B5 := Lib.hid (B4.out.trans b)
  have E5 := Lib.hid (E4.out.but b)
  clear h b P x4_12 z4 A4 E4
  go_wp2
  go_end0
  exact ⟨rfl, A5.out, B5.out⟩
set_option maxRecDepth 100000 in
set_option maxHeartbeats 4000000 in
theorem wb_while (B R : Nat) (nm sc : ByteArray) (ns : List ByteArray) (ty : PT) (it : Int) (pl : PP) (xe : PE) (bo el : List PS) (ar : List PA) (pos : Int) (he : ExprAt B R xe) (hb : StmtsAt B R bo) (T0 G0 : TkB) (ts : List TkB) (v : VS) (w : World) (hB : B ≤ w.heap.size) (hW : Words B w) (hA : AtW B R T0 G0 ts w) (hx : PS.In B w (.mk 7 nm sc ns ty it pl [xe] bo el ar pos) v) (hL : Lim T0 G0 (ts ++ (wWhile :: (tokE xe ++ blockT (tokSs bo))))) :
    Calls Tryz.prog 215 #[.pointer (some ⟨R, 0, none⟩), .agg (PS.cells (.mk 7 nm sc ns ty it pl [xe] bo el ar pos) v).toArray] w fun e w' => e = .returned (.tuple #[]) ∧ AtW B R T0 G0 (ts ++ (wWhile :: (tokE xe ++ blockT (tokSs bo)))) w' ∧ WBut B R w w' := by
  have HX := Lib.hid hx
  obtain ⟨a1, n1, c1, a2, n2, c2, a3, n3, c3, a4, n4, c4, a5, n5, c5, a6, n6, c6, a7, n7, c7, rfl⟩ := hx.shape
  obtain ⟨⟨_, hi64, _, hsn, hss⟩, ⟨bn, on, sn, rn⟩, hty, hpl, ⟨b4, o4, s4, r4⟩, ⟨b5, o5, s5, r5⟩, ⟨b6, o6, s6, r6⟩, b7, o7, s7, r7⟩ := hx
  have RN := Lib.hid rn
  have R4 := Lib.hid r4
  have R5 := Lib.hid r5
  have R6 := Lib.hid r6
  have R7 := Lib.hid r7
  have HTY := Lib.hid hty
  have HPL := Lib.hid hpl
  clear rn r4 r5 r6 r7 hty hpl
  obtain ⟨_, ao4, cp4, e4, hk4⟩ := s4
  injection e4 with e41 e42 e43
  subst e41; subst e42; subst e43
  obtain ⟨rfl, hb4⟩ := hk4.resolve_left (by simp)
  obtain ⟨ve, ce, ie⟩ := PE.Row.get R4.out (show ([xe] : List PE)[0]? = some xe from rfl)
  obtain ⟨g1, l1, m1, g2, l2, m2, rfl⟩ := ie.shape
  have HCE := Lib.hid ce
  have HIE := Lib.hid ie
  clear ce ie hk4
  have hRR : R < w.heap.size := hA.lt
  obtain ⟨w1, hw1⟩ : ∃ w1, w1 = w.alloc (.cells #[.int .u8 7, .string nm, .string sc, .slice a1 n1 c1, .int .u8 ty.kind, .string ty.name, .slice a2 n2 c2, .int .i64 it, .string pl.name, .slice a3 n3 c3, .slice (some ⟨b4, o4, none⟩) 1 c4, .slice a5 n5 c5, .slice a6 n6 c6, .slice a7 n7 c7, .int .i64 pos] 130) := ⟨_, rfl⟩
  have bx : Below w.heap.size w w1 := by rw [hw1]; exact new_only _ _
  have E1 : Hid (CBox R w.heap.size [.int .u8 7, .string nm, .string sc, .slice a1 n1 c1, .int .u8 ty.kind, .string ty.name, .slice a2 n2 c2, .int .i64 it, .string pl.name, .slice a3 n3 c3, .slice (some ⟨b4, o4, none⟩) 1 c4, .slice a5 n5 c5, .slice a6 n6 c6, .slice a7 n7 c7, .int .i64 pos] w1) := Lib.hid (by rw [hw1]; exact CBox.new _ (by decide) hRR)
  have et : ts ++ (wWhile :: (tokE xe ++ blockT (tokSs bo))) = ((ts ++ [wWhile]) ++ tokE xe) ++ blockT (tokSs bo) := by simp
  rw [et] at hL ⊢
  clear et
  have B1 : Hid (WBut B R w w1) := Lib.hid (WBut.of bx hB (R := R))
  have HW := Lib.hid hW
  have A1 := Lib.hid (hA.stays bx)
  have HL := Lib.hid hL
  show Calls Tryz.prog 215 #[.pointer (some ⟨R, 0, none⟩), .agg #[.int .u8 7, .string nm, .string sc, .slice a1 n1 c1, .int .u8 ty.kind, .string ty.name, .slice a2 n2 c2, .int .i64 it, .string pl.name, .slice a3 n3 c3, .slice (some ⟨b4, o4, none⟩) 1 c4, .slice a5 n5 c5, .slice a6 n6 c6, .slice a7 n7 c7, .int .i64 pos]] w _
  clear hW hA hL bx
  go_enter Tryz.func215, Tryz.ntmps215
  go_upto_region 1 with (fail)
  (try simp only [size_alloc])
  rw [← hw1]
  clear hw1
  have x1_0 : w1.cell? ⟨w.heap.size, 0, none⟩ = some (.int .u8 7) := E1.out.has 0 _ rfl
  have z1 : w.heap.size < w1.heap.size := E1.out.lt
  have hB1 : B ≤ w1.heap.size := Nat.le_trans hB B1.out.size
  have P := Lib.hid (put1_calls B R ⟨#[119, 104, 105, 108, 101]⟩ T0 G0 ts _ w1 (new_only w1 (.cells #[.string ⟨#[119, 104, 105, 108, 101]⟩] 9)) (heap_alloc_new w1 _) hB1 A1.out (by decide) HL.out.less.less)
  go_wp2_with fail
  (with_reducible refine (P.out).mono ?_)
  rintro e w2 ⟨rfl, h, b⟩
  have A2 := Lib.hid h
  have B2 := Lib.hid (B1.out.trans b)
  have E2 := Lib.hid (E1.out.but b)
  clear h b P x1_0 z1 A1 E1
  have x2_10 : w2.cell? ⟨w.heap.size, 10, none⟩ = some (.slice (some ⟨b4, o4, none⟩) 1 c4) := E2.out.has 10 _ rfl
  have z2 : w.heap.size < w2.heap.size := E2.out.lt
  have hB2 : B ≤ w2.heap.size := Nat.le_trans hB B2.out.size
  have P := Lib.hid (he T0 G0 (ts ++ [wWhile]) ⟨.slice g1 l1 m1, .slice g2 l2 m2⟩ w2 hB2 (HW.out.below B2.out.bel) A2.out (PE.In.below B2.out.bel HIE.out) HL.out.less)
  have P : Hid (Calls Tryz.prog 69 #[.pointer (some ⟨R, 0, none⟩), .agg #[.int .u8 xe.op, .int .i64 xe.int, .string xe.name, .string xe.second, .string xe.place.name, .slice g1 l1 m1, .slice g2 l2 m2, .int .i64 xe.pos]] w2 fun e w' => e = .returned (.tuple #[]) ∧ AtW B R T0 G0 ((ts ++ [wWhile]) ++ tokE xe) w' ∧ WBut B R w2 w') := Lib.hid P.out
  have ce2 := HCE.out.below hb4 B2.out.bel
  have u2_0 : w2.cell? ⟨b4, o4, none⟩ = some (.int .u8 xe.op) := by simpa using ce2 0 _ rfl
  have u2_1 : w2.cell? ⟨b4, o4 + 1, none⟩ = some (.int .i64 xe.int) := by simpa using ce2 1 _ rfl
  have u2_2 : w2.cell? ⟨b4, o4 + 2, none⟩ = some (.string xe.name) := by simpa using ce2 2 _ rfl
  have u2_3 : w2.cell? ⟨b4, o4 + 3, none⟩ = some (.string xe.second) := by simpa using ce2 3 _ rfl
  have u2_4 : w2.cell? ⟨b4, o4 + 4, none⟩ = some (.string xe.place.name) := by simpa using ce2 4 _ rfl
  have u2_5 : w2.cell? ⟨b4, o4 + 5, none⟩ = some (.slice g1 l1 m1) := by simpa using ce2 5 _ rfl
  have u2_6 : w2.cell? ⟨b4, o4 + 6, none⟩ = some (.slice g2 l2 m2) := by simpa using ce2 6 _ rfl
  have u2_7 : w2.cell? ⟨b4, o4 + 7, none⟩ = some (.int .i64 xe.pos) := by simpa using ce2 7 _ rfl
  have zb2 : b4 < w2.heap.size := by have := hB2; omega
  clear ce2
  go_wp2_with fail
  (with_reducible refine (P.out).mono ?_)
  rintro e w3 ⟨rfl, h, b⟩
  have A3 := Lib.hid h
  have B3 := Lib.hid (B2.out.trans b)
  have E3 := Lib.hid (E2.out.but b)
  clear h b P x2_10 z2 A2 E2
  clear u2_0 u2_1 u2_2 u2_3 u2_4 u2_5 u2_6 u2_7 zb2
  have x3_11 : w3.cell? ⟨w.heap.size, 11, none⟩ = some (.slice a5 n5 c5) := E3.out.has 11 _ rfl
  have z3 : w.heap.size < w3.heap.size := E3.out.lt
  have hB3 : B ≤ w3.heap.size := Nat.le_trans hB B3.out.size
  have P := Lib.hid (block_calls B R bo hb T0 G0 ((ts ++ [wWhile]) ++ tokE xe) (.slice a5 n5 c5) b5 o5 w3 hB3 (HW.out.below B3.out.bel) A3.out s5 (PS.Row.below' B3.out.bel s5 R5.out) HL.out)
  go_wp2_with fail
  (with_reducible refine (P.out).mono ?_)
  rintro e w4 ⟨rfl, h, b⟩
  have A4 := Lib.hid h
  have B4 := Lib.hid (B3.out.trans b)
  have E4 := Lib.hid (E3.out.but b)
  clear h b P x3_11 z3 A3 E3
  go_wp2
  go_end0
  exact ⟨rfl, A4.out, B4.out⟩
set_option maxRecDepth 100000 in
set_option maxHeartbeats 4000000 in
theorem wb_scope (B R : Nat) (nm sc : ByteArray) (ns : List ByteArray) (ty : PT) (it : Int) (pl : PP) (es : List PE) (bo el : List PS) (ar : List PA) (pos : Int) (hb : StmtsAt B R bo) (T0 G0 : TkB) (ts : List TkB) (v : VS) (w : World) (hB : B ≤ w.heap.size) (hW : Words B w) (hA : AtW B R T0 G0 ts w) (hx : PS.In B w (.mk 9 nm sc ns ty it pl es bo el ar pos) v) (hL : Lim T0 G0 (ts ++ (wScope :: blockT (tokSs bo)))) :
    Calls Tryz.prog 215 #[.pointer (some ⟨R, 0, none⟩), .agg (PS.cells (.mk 9 nm sc ns ty it pl es bo el ar pos) v).toArray] w fun e w' => e = .returned (.tuple #[]) ∧ AtW B R T0 G0 (ts ++ (wScope :: blockT (tokSs bo))) w' ∧ WBut B R w w' := by
  have HX := Lib.hid hx
  obtain ⟨a1, n1, c1, a2, n2, c2, a3, n3, c3, a4, n4, c4, a5, n5, c5, a6, n6, c6, a7, n7, c7, rfl⟩ := hx.shape
  obtain ⟨⟨_, hi64, _, hsn, hss⟩, ⟨bn, on, sn, rn⟩, hty, hpl, ⟨b4, o4, s4, r4⟩, ⟨b5, o5, s5, r5⟩, ⟨b6, o6, s6, r6⟩, b7, o7, s7, r7⟩ := hx
  have RN := Lib.hid rn
  have R4 := Lib.hid r4
  have R5 := Lib.hid r5
  have R6 := Lib.hid r6
  have R7 := Lib.hid r7
  have HTY := Lib.hid hty
  have HPL := Lib.hid hpl
  clear rn r4 r5 r6 r7 hty hpl
  have hRR : R < w.heap.size := hA.lt
  obtain ⟨w1, hw1⟩ : ∃ w1, w1 = w.alloc (.cells #[.int .u8 9, .string nm, .string sc, .slice a1 n1 c1, .int .u8 ty.kind, .string ty.name, .slice a2 n2 c2, .int .i64 it, .string pl.name, .slice a3 n3 c3, .slice a4 n4 c4, .slice a5 n5 c5, .slice a6 n6 c6, .slice a7 n7 c7, .int .i64 pos] 130) := ⟨_, rfl⟩
  have bx : Below w.heap.size w w1 := by rw [hw1]; exact new_only _ _
  have E1 : Hid (CBox R w.heap.size [.int .u8 9, .string nm, .string sc, .slice a1 n1 c1, .int .u8 ty.kind, .string ty.name, .slice a2 n2 c2, .int .i64 it, .string pl.name, .slice a3 n3 c3, .slice a4 n4 c4, .slice a5 n5 c5, .slice a6 n6 c6, .slice a7 n7 c7, .int .i64 pos] w1) := Lib.hid (by rw [hw1]; exact CBox.new _ (by decide) hRR)
  have et : ts ++ (wScope :: blockT (tokSs bo)) = (ts ++ [wScope]) ++ blockT (tokSs bo) := by simp
  rw [et] at hL ⊢
  clear et
  have B1 : Hid (WBut B R w w1) := Lib.hid (WBut.of bx hB (R := R))
  have HW := Lib.hid hW
  have A1 := Lib.hid (hA.stays bx)
  have HL := Lib.hid hL
  show Calls Tryz.prog 215 #[.pointer (some ⟨R, 0, none⟩), .agg #[.int .u8 9, .string nm, .string sc, .slice a1 n1 c1, .int .u8 ty.kind, .string ty.name, .slice a2 n2 c2, .int .i64 it, .string pl.name, .slice a3 n3 c3, .slice a4 n4 c4, .slice a5 n5 c5, .slice a6 n6 c6, .slice a7 n7 c7, .int .i64 pos]] w _
  clear hW hA hL bx
  go_enter Tryz.func215, Tryz.ntmps215
  go_upto_region 1 with (fail)
  (try simp only [size_alloc])
  rw [← hw1]
  clear hw1
  have x1_0 : w1.cell? ⟨w.heap.size, 0, none⟩ = some (.int .u8 9) := E1.out.has 0 _ rfl
  have z1 : w.heap.size < w1.heap.size := E1.out.lt
  have hB1 : B ≤ w1.heap.size := Nat.le_trans hB B1.out.size
  have P := Lib.hid (put1_calls B R ⟨#[115, 99, 111, 112, 101]⟩ T0 G0 ts _ w1 (new_only w1 (.cells #[.string ⟨#[115, 99, 111, 112, 101]⟩] 9)) (heap_alloc_new w1 _) hB1 A1.out (by decide) HL.out.less)
  go_wp2_with fail
  (with_reducible refine (P.out).mono ?_)
  rintro e w2 ⟨rfl, h, b⟩
  have A2 := Lib.hid h
  have B2 := Lib.hid (B1.out.trans b)
  have E2 := Lib.hid (E1.out.but b)
  clear h b P x1_0 z1 A1 E1
  have x2_11 : w2.cell? ⟨w.heap.size, 11, none⟩ = some (.slice a5 n5 c5) := E2.out.has 11 _ rfl
  have z2 : w.heap.size < w2.heap.size := E2.out.lt
  have hB2 : B ≤ w2.heap.size := Nat.le_trans hB B2.out.size
  have P := Lib.hid (block_calls B R bo hb T0 G0 (ts ++ [wScope]) (.slice a5 n5 c5) b5 o5 w2 hB2 (HW.out.below B2.out.bel) A2.out s5 (PS.Row.below' B2.out.bel s5 R5.out) HL.out)
  go_wp2_with fail
  (with_reducible refine (P.out).mono ?_)
  rintro e w3 ⟨rfl, h, b⟩
  have A3 := Lib.hid h
  have B3 := Lib.hid (B2.out.trans b)
  have E3 := Lib.hid (E2.out.but b)
  clear h b P x2_11 z2 A2 E2
  go_wp2
  go_end0
  exact ⟨rfl, A3.out, B3.out⟩
set_option maxRecDepth 100000 in
set_option maxHeartbeats 4000000 in
theorem wb_block (B R : Nat) (nm sc : ByteArray) (ns : List ByteArray) (ty : PT) (it : Int) (pl : PP) (es : List PE) (bo el : List PS) (ar : List PA) (pos : Int) (hb : StmtsAt B R bo) (T0 G0 : TkB) (ts : List TkB) (v : VS) (w : World) (hB : B ≤ w.heap.size) (hW : Words B w) (hA : AtW B R T0 G0 ts w) (hx : PS.In B w (.mk 13 nm sc ns ty it pl es bo el ar pos) v) (hL : Lim T0 G0 (ts ++ (blockT (tokSs bo)))) :
    Calls Tryz.prog 215 #[.pointer (some ⟨R, 0, none⟩), .agg (PS.cells (.mk 13 nm sc ns ty it pl es bo el ar pos) v).toArray] w fun e w' => e = .returned (.tuple #[]) ∧ AtW B R T0 G0 (ts ++ (blockT (tokSs bo))) w' ∧ WBut B R w w' := by
  have HX := Lib.hid hx
  obtain ⟨a1, n1, c1, a2, n2, c2, a3, n3, c3, a4, n4, c4, a5, n5, c5, a6, n6, c6, a7, n7, c7, rfl⟩ := hx.shape
  obtain ⟨⟨_, hi64, _, hsn, hss⟩, ⟨bn, on, sn, rn⟩, hty, hpl, ⟨b4, o4, s4, r4⟩, ⟨b5, o5, s5, r5⟩, ⟨b6, o6, s6, r6⟩, b7, o7, s7, r7⟩ := hx
  have RN := Lib.hid rn
  have R4 := Lib.hid r4
  have R5 := Lib.hid r5
  have R6 := Lib.hid r6
  have R7 := Lib.hid r7
  have HTY := Lib.hid hty
  have HPL := Lib.hid hpl
  clear rn r4 r5 r6 r7 hty hpl
  have hRR : R < w.heap.size := hA.lt
  obtain ⟨w1, hw1⟩ : ∃ w1, w1 = w.alloc (.cells #[.int .u8 13, .string nm, .string sc, .slice a1 n1 c1, .int .u8 ty.kind, .string ty.name, .slice a2 n2 c2, .int .i64 it, .string pl.name, .slice a3 n3 c3, .slice a4 n4 c4, .slice a5 n5 c5, .slice a6 n6 c6, .slice a7 n7 c7, .int .i64 pos] 130) := ⟨_, rfl⟩
  have bx : Below w.heap.size w w1 := by rw [hw1]; exact new_only _ _
  have E1 : Hid (CBox R w.heap.size [.int .u8 13, .string nm, .string sc, .slice a1 n1 c1, .int .u8 ty.kind, .string ty.name, .slice a2 n2 c2, .int .i64 it, .string pl.name, .slice a3 n3 c3, .slice a4 n4 c4, .slice a5 n5 c5, .slice a6 n6 c6, .slice a7 n7 c7, .int .i64 pos] w1) := Lib.hid (by rw [hw1]; exact CBox.new _ (by decide) hRR)
  have et : ts ++ (blockT (tokSs bo)) = ts ++ blockT (tokSs bo) := by simp
  rw [et] at hL ⊢
  clear et
  have B1 : Hid (WBut B R w w1) := Lib.hid (WBut.of bx hB (R := R))
  have HW := Lib.hid hW
  have A1 := Lib.hid (hA.stays bx)
  have HL := Lib.hid hL
  show Calls Tryz.prog 215 #[.pointer (some ⟨R, 0, none⟩), .agg #[.int .u8 13, .string nm, .string sc, .slice a1 n1 c1, .int .u8 ty.kind, .string ty.name, .slice a2 n2 c2, .int .i64 it, .string pl.name, .slice a3 n3 c3, .slice a4 n4 c4, .slice a5 n5 c5, .slice a6 n6 c6, .slice a7 n7 c7, .int .i64 pos]] w _
  clear hW hA hL bx
  go_enter Tryz.func215, Tryz.ntmps215
  go_upto_region 1 with (fail)
  (try simp only [size_alloc])
  rw [← hw1]
  clear hw1
  have x1_0 : w1.cell? ⟨w.heap.size, 0, none⟩ = some (.int .u8 13) := E1.out.has 0 _ rfl
  have x1_11 : w1.cell? ⟨w.heap.size, 11, none⟩ = some (.slice a5 n5 c5) := E1.out.has 11 _ rfl
  have z1 : w.heap.size < w1.heap.size := E1.out.lt
  have hB1 : B ≤ w1.heap.size := Nat.le_trans hB B1.out.size
  have P := Lib.hid (block_calls B R bo hb T0 G0 ts (.slice a5 n5 c5) b5 o5 w1 hB1 (HW.out.below B1.out.bel) A1.out s5 (PS.Row.below' B1.out.bel s5 R5.out) HL.out)
  go_wp2_with fail
  (with_reducible refine (P.out).mono ?_)
  rintro e w2 ⟨rfl, h, b⟩
  have A2 := Lib.hid h
  have B2 := Lib.hid (B1.out.trans b)
  have E2 := Lib.hid (E1.out.but b)
  clear h b P x1_0 x1_11 z1 A1 E1
  go_wp2
  go_end0
  exact ⟨rfl, A2.out, B2.out⟩
set_option maxRecDepth 100000 in
set_option maxHeartbeats 4000000 in
theorem wb_spawn (B R : Nat) (nm sc : ByteArray) (ns : List ByteArray) (ty : PT) (it : Int) (pl : PP) (es : List PE) (bo el : List PS) (ar : List PA) (pos : Int) (hb : StmtsAt B R bo) (hlen : ns.length = es.length) (he : ∀ x ∈ es, ExprAt B R x) (T0 G0 : TkB) (ts : List TkB) (v : VS) (w : World) (hB : B ≤ w.heap.size) (hW : Words B w) (hA : AtW B R T0 G0 ts w) (hx : PS.In B w (.mk 10 nm sc ns ty it pl es bo el ar pos) v) (hL : Lim T0 G0 (ts ++ (wSpawn :: wOpen :: (joinT (pairsT ns (tokEs es)) ++ wEnd :: blockT (tokSs bo))))) :
    Calls Tryz.prog 215 #[.pointer (some ⟨R, 0, none⟩), .agg (PS.cells (.mk 10 nm sc ns ty it pl es bo el ar pos) v).toArray] w fun e w' => e = .returned (.tuple #[]) ∧ AtW B R T0 G0 (ts ++ (wSpawn :: wOpen :: (joinT (pairsT ns (tokEs es)) ++ wEnd :: blockT (tokSs bo)))) w' ∧ WBut B R w w' := by
  have HX := Lib.hid hx
  obtain ⟨a1, n1, c1, a2, n2, c2, a3, n3, c3, a4, n4, c4, a5, n5, c5, a6, n6, c6, a7, n7, c7, rfl⟩ := hx.shape
  obtain ⟨⟨_, hi64, _, hsn, hss⟩, ⟨bn, on, sn, rn⟩, hty, hpl, ⟨b4, o4, s4, r4⟩, ⟨b5, o5, s5, r5⟩, ⟨b6, o6, s6, r6⟩, b7, o7, s7, r7⟩ := hx
  have RN := Lib.hid rn
  have R4 := Lib.hid r4
  have R5 := Lib.hid r5
  have R6 := Lib.hid r6
  have R7 := Lib.hid r7
  have HTY := Lib.hid hty
  have HPL := Lib.hid hpl
  clear rn r4 r5 r6 r7 hty hpl
  have hRR : R < w.heap.size := hA.lt
  obtain ⟨w1, hw1⟩ : ∃ w1, w1 = w.alloc (.cells #[.int .u8 10, .string nm, .string sc, .slice a1 n1 c1, .int .u8 ty.kind, .string ty.name, .slice a2 n2 c2, .int .i64 it, .string pl.name, .slice a3 n3 c3, .slice a4 n4 c4, .slice a5 n5 c5, .slice a6 n6 c6, .slice a7 n7 c7, .int .i64 pos] 130) := ⟨_, rfl⟩
  have bx : Below w.heap.size w w1 := by rw [hw1]; exact new_only _ _
  have E1 : Hid (CBox R w.heap.size [.int .u8 10, .string nm, .string sc, .slice a1 n1 c1, .int .u8 ty.kind, .string ty.name, .slice a2 n2 c2, .int .i64 it, .string pl.name, .slice a3 n3 c3, .slice a4 n4 c4, .slice a5 n5 c5, .slice a6 n6 c6, .slice a7 n7 c7, .int .i64 pos] w1) := Lib.hid (by rw [hw1]; exact CBox.new _ (by decide) hRR)
  have et : ts ++ (wSpawn :: wOpen :: (joinT (pairsT ns (tokEs es)) ++ wEnd :: blockT (tokSs bo))) = (((ts ++ [wSpawn, wOpen]) ++ joinT (pairsT ns (tokEs es))) ++ [wEnd]) ++ blockT (tokSs bo) := by simp
  rw [et] at hL ⊢
  clear et
  have B1 : Hid (WBut B R w w1) := Lib.hid (WBut.of bx hB (R := R))
  have HW := Lib.hid hW
  have A1 := Lib.hid (hA.stays bx)
  have HL := Lib.hid hL
  show Calls Tryz.prog 215 #[.pointer (some ⟨R, 0, none⟩), .agg #[.int .u8 10, .string nm, .string sc, .slice a1 n1 c1, .int .u8 ty.kind, .string ty.name, .slice a2 n2 c2, .int .i64 it, .string pl.name, .slice a3 n3 c3, .slice a4 n4 c4, .slice a5 n5 c5, .slice a6 n6 c6, .slice a7 n7 c7, .int .i64 pos]] w _
  clear hW hA hL bx
  go_enter Tryz.func215, Tryz.ntmps215
  go_upto_region 1 with (fail)
  (try simp only [size_alloc])
  rw [← hw1]
  clear hw1
  have x1_0 : w1.cell? ⟨w.heap.size, 0, none⟩ = some (.int .u8 10) := E1.out.has 0 _ rfl
  have z1 : w.heap.size < w1.heap.size := E1.out.lt
  have hB1 : B ≤ w1.heap.size := Nat.le_trans hB B1.out.size
  have P := Lib.hid (put2_calls B R ⟨#[115, 112, 97, 119, 110]⟩ ⟨#[40]⟩ T0 G0 ts _ w1 (new_only w1 (.cells #[.string ⟨#[115, 112, 97, 119, 110]⟩, .string ⟨#[40]⟩] 9)) (heap_alloc_new w1 _) hB1 A1.out (by decide) (by decide) HL.out.less.less.less)
  go_wp2_with fail
  (with_reducible refine (P.out).mono ?_)
  rintro e w2 ⟨rfl, h, b⟩
  have A2 := Lib.hid h
  have B2 := Lib.hid (B1.out.trans b)
  have E2 := Lib.hid (E1.out.but b)
  clear h b P x1_0 z1 A1 E1
  have x2_3 : w2.cell? ⟨w.heap.size, 3, none⟩ = some (.slice a1 n1 c1) := E2.out.has 3 _ rfl
  have x2_10 : w2.cell? ⟨w.heap.size, 10, none⟩ = some (.slice a4 n4 c4) := E2.out.has 10 _ rfl
  have z2 : w.heap.size < w2.heap.size := E2.out.lt
  have hB2 : B ≤ w2.heap.size := Nat.le_trans hB B2.out.size
  have P := Lib.hid (pairs_calls B R ns es hlen he T0 G0 (ts ++ [wSpawn, wOpen]) (.slice a1 n1 c1) (.slice a4 n4 c4) bn on b4 o4 w2 hB2 (HW.out.below B2.out.bel) A2.out sn (NRow.below' B2.out.bel sn RN.out) s4 (PE.Row.below' B2.out.bel s4 R4.out) HL.out.less.less)
  go_wp2_with fail
  (with_reducible refine (P.out).mono ?_)
  rintro e w3 ⟨rfl, h, b⟩
  have A3 := Lib.hid h
  have B3 := Lib.hid (B2.out.trans b)
  have E3 := Lib.hid (E2.out.but b)
  clear h b P x2_3 x2_10 z2 A2 E2
  have z3 : w.heap.size < w3.heap.size := E3.out.lt
  have hB3 : B ≤ w3.heap.size := Nat.le_trans hB B3.out.size
  have P := Lib.hid (put1_calls B R ⟨#[41]⟩ T0 G0 ((ts ++ [wSpawn, wOpen]) ++ joinT (pairsT ns (tokEs es))) _ w3 (new_only w3 (.cells #[.string ⟨#[41]⟩] 9)) (heap_alloc_new w3 _) hB3 A3.out (by decide) HL.out.less)
  go_wp2_with fail
  (with_reducible refine (P.out).mono ?_)
  rintro e w4 ⟨rfl, h, b⟩
  have A4 := Lib.hid h
  have B4 := Lib.hid (B3.out.trans b)
  have E4 := Lib.hid (E3.out.but b)
  clear h b P  z3 A3 E3
  have x4_11 : w4.cell? ⟨w.heap.size, 11, none⟩ = some (.slice a5 n5 c5) := E4.out.has 11 _ rfl
  have z4 : w.heap.size < w4.heap.size := E4.out.lt
  have hB4 : B ≤ w4.heap.size := Nat.le_trans hB B4.out.size
  have P := Lib.hid (block_calls B R bo hb T0 G0 (((ts ++ [wSpawn, wOpen]) ++ joinT (pairsT ns (tokEs es))) ++ [wEnd]) (.slice a5 n5 c5) b5 o5 w4 hB4 (HW.out.below B4.out.bel) A4.out s5 (PS.Row.below' B4.out.bel s5 R5.out) HL.out)
  go_wp2_with fail
  (with_reducible refine (P.out).mono ?_)
  rintro e w5 ⟨rfl, h, b⟩
  have A5 := Lib.hid h
  have B5 := Lib.hid (B4.out.trans b)
  have E5 := Lib.hid (E4.out.but b)
  clear h b P x4_11 z4 A4 E4
  go_wp2
  go_end0
  exact ⟨rfl, A5.out, B5.out⟩
set_option maxRecDepth 100000 in
set_option maxHeartbeats 4000000 in
theorem wb_lock (B R : Nat) (nm sc : ByteArray) (ns : List ByteArray) (ty : PT) (it : Int) (pl : PP) (es : List PE) (bo el : List PS) (ar : List PA) (pos : Int) (hb : StmtsAt B R bo) (T0 G0 : TkB) (ts : List TkB) (v : VS) (w : World) (hB : B ≤ w.heap.size) (hW : Words B w) (hA : AtW B R T0 G0 ts w) (hx : PS.In B w (.mk 11 nm sc ns ty it pl es bo el ar pos) v) (hL : Lim T0 G0 (ts ++ (wLock :: (tokP pl ++ wAs :: kT nm :: blockT (tokSs bo))))) :
    Calls Tryz.prog 215 #[.pointer (some ⟨R, 0, none⟩), .agg (PS.cells (.mk 11 nm sc ns ty it pl es bo el ar pos) v).toArray] w fun e w' => e = .returned (.tuple #[]) ∧ AtW B R T0 G0 (ts ++ (wLock :: (tokP pl ++ wAs :: kT nm :: blockT (tokSs bo)))) w' ∧ WBut B R w w' := by
  have HX := Lib.hid hx
  obtain ⟨a1, n1, c1, a2, n2, c2, a3, n3, c3, a4, n4, c4, a5, n5, c5, a6, n6, c6, a7, n7, c7, rfl⟩ := hx.shape
  obtain ⟨⟨_, hi64, _, hsn, hss⟩, ⟨bn, on, sn, rn⟩, hty, hpl, ⟨b4, o4, s4, r4⟩, ⟨b5, o5, s5, r5⟩, ⟨b6, o6, s6, r6⟩, b7, o7, s7, r7⟩ := hx
  have RN := Lib.hid rn
  have R4 := Lib.hid r4
  have R5 := Lib.hid r5
  have R6 := Lib.hid r6
  have R7 := Lib.hid r7
  have HTY := Lib.hid hty
  have HPL := Lib.hid hpl
  clear rn r4 r5 r6 r7 hty hpl
  have hRR : R < w.heap.size := hA.lt
  obtain ⟨w1, hw1⟩ : ∃ w1, w1 = w.alloc (.cells #[.int .u8 11, .string nm, .string sc, .slice a1 n1 c1, .int .u8 ty.kind, .string ty.name, .slice a2 n2 c2, .int .i64 it, .string pl.name, .slice a3 n3 c3, .slice a4 n4 c4, .slice a5 n5 c5, .slice a6 n6 c6, .slice a7 n7 c7, .int .i64 pos] 130) := ⟨_, rfl⟩
  have bx : Below w.heap.size w w1 := by rw [hw1]; exact new_only _ _
  have E1 : Hid (CBox R w.heap.size [.int .u8 11, .string nm, .string sc, .slice a1 n1 c1, .int .u8 ty.kind, .string ty.name, .slice a2 n2 c2, .int .i64 it, .string pl.name, .slice a3 n3 c3, .slice a4 n4 c4, .slice a5 n5 c5, .slice a6 n6 c6, .slice a7 n7 c7, .int .i64 pos] w1) := Lib.hid (by rw [hw1]; exact CBox.new _ (by decide) hRR)
  have et : ts ++ (wLock :: (tokP pl ++ wAs :: kT nm :: blockT (tokSs bo))) = (((ts ++ [wLock]) ++ tokP pl) ++ [wAs, kT nm]) ++ blockT (tokSs bo) := by simp
  rw [et] at hL ⊢
  clear et
  have B1 : Hid (WBut B R w w1) := Lib.hid (WBut.of bx hB (R := R))
  have HW := Lib.hid hW
  have A1 := Lib.hid (hA.stays bx)
  have HL := Lib.hid hL
  show Calls Tryz.prog 215 #[.pointer (some ⟨R, 0, none⟩), .agg #[.int .u8 11, .string nm, .string sc, .slice a1 n1 c1, .int .u8 ty.kind, .string ty.name, .slice a2 n2 c2, .int .i64 it, .string pl.name, .slice a3 n3 c3, .slice a4 n4 c4, .slice a5 n5 c5, .slice a6 n6 c6, .slice a7 n7 c7, .int .i64 pos]] w _
  clear hW hA hL bx
  go_enter Tryz.func215, Tryz.ntmps215
  go_upto_region 1 with (fail)
  (try simp only [size_alloc])
  rw [← hw1]
  clear hw1
  have x1_0 : w1.cell? ⟨w.heap.size, 0, none⟩ = some (.int .u8 11) := E1.out.has 0 _ rfl
  have z1 : w.heap.size < w1.heap.size := E1.out.lt
  have hB1 : B ≤ w1.heap.size := Nat.le_trans hB B1.out.size
  have P := Lib.hid (put1_calls B R ⟨#[108, 111, 99, 107]⟩ T0 G0 ts _ w1 (new_only w1 (.cells #[.string ⟨#[108, 111, 99, 107]⟩] 9)) (heap_alloc_new w1 _) hB1 A1.out (by decide) HL.out.less.less.less)
  go_wp2_with fail
  (with_reducible refine (P.out).mono ?_)
  rintro e w2 ⟨rfl, h, b⟩
  have A2 := Lib.hid h
  have B2 := Lib.hid (B1.out.trans b)
  have E2 := Lib.hid (E1.out.but b)
  clear h b P x1_0 z1 A1 E1
  have x2_8 : w2.cell? ⟨w.heap.size, 8, none⟩ = some (.string pl.name) := E2.out.has 8 _ rfl
  have x2_9 : w2.cell? ⟨w.heap.size, 9, none⟩ = some (.slice a3 n3 c3) := E2.out.has 9 _ rfl
  have z2 : w.heap.size < w2.heap.size := E2.out.lt
  have hB2 : B ≤ w2.heap.size := Nat.le_trans hB B2.out.size
  have P := Lib.hid (place_calls B R pl T0 G0 (ts ++ [wLock]) (.slice a3 n3 c3) w2 hB2 A2.out (HPL.out.below B2.out.bel) HL.out.less.less)
  go_wp2_with fail
  (with_reducible refine (P.out).mono ?_)
  rintro e w3 ⟨rfl, h, b⟩
  have A3 := Lib.hid h
  have B3 := Lib.hid (B2.out.trans b)
  have E3 := Lib.hid (E2.out.but b)
  clear h b P x2_8 x2_9 z2 A2 E2
  have x3_1 : w3.cell? ⟨w.heap.size, 1, none⟩ = some (.string nm) := E3.out.has 1 _ rfl
  have z3 : w.heap.size < w3.heap.size := E3.out.lt
  have hB3 : B ≤ w3.heap.size := Nat.le_trans hB B3.out.size
  have P := Lib.hid (put2_calls B R ⟨#[97, 115]⟩ nm T0 G0 ((ts ++ [wLock]) ++ tokP pl) _ w3 (new_drew w3 (.cells #[.string ⟨#[97, 115]⟩, .string nm] 9)) (drew_new w3 _) hB3 A3.out (by decide) hsn HL.out.less)
  go_upto_region 26 with (fail)
  go_cut [3] from 108 to 115 (fun s3 wx => s3 = .pointer (some ⟨w.heap.size, 0, none⟩) ∧ Hid (AtW B R T0 G0 (((ts ++ [wLock]) ++ tokP pl) ++ [wAs, kT nm]) wx) ∧ Hid (WBut B R w3 wx))
  case first =>
    go_region_held3 (fun w' => w'.cell? ⟨w.heap.size, 1, none⟩ = some (.string nm)) (first | exact x3_1 | exact (low_new w3 _ _ _ z3).trans x3_1 | exact XB1)
      (first
        | (go_at_call 98; (with_reducible refine (P.out).mono ?_)
           rintro e wy ⟨rfl, h1, b1⟩
           have H1 := Lib.hid h1
           have BB := Lib.hid b1
           have XB1 := (E3.out.safe.cell b1 1).trans x3_1
           clear h1 b1))
    go_wp2_with fail
    go_meet
    case rel => exact ⟨rfl, H1, BB⟩
  case rest =>
    obtain ⟨rfl, A4, b⟩ := hcut
    have B4 := Lib.hid (B3.out.trans b.out)
    have E4 := Lib.hid (E3.out.but b.out)
  
    obtain ⟨w4, hwc⟩ : ∃ x, x = wc := ⟨_, rfl⟩
    rw [← hwc] at A4 B4 E4 ⊢
    clear hwc b P x3_1 z3 A3 E3
    have x4_11 : w4.cell? ⟨w.heap.size, 11, none⟩ = some (.slice a5 n5 c5) := E4.out.has 11 _ rfl
    have z4 : w.heap.size < w4.heap.size := E4.out.lt
    have hB4 : B ≤ w4.heap.size := Nat.le_trans hB B4.out.size
    have P := Lib.hid (block_calls B R bo hb T0 G0 (((ts ++ [wLock]) ++ tokP pl) ++ [wAs, kT nm]) (.slice a5 n5 c5) b5 o5 w4 hB4 (HW.out.below B4.out.bel) A4.out s5 (PS.Row.below' B4.out.bel s5 R5.out) HL.out)
    go_wp2_with fail
    (with_reducible refine (P.out).mono ?_)
    rintro e w5 ⟨rfl, h, b⟩
    have A5 := Lib.hid h
    have B5 := Lib.hid (B4.out.trans b)
    have E5 := Lib.hid (E4.out.but b)
    clear h b P x4_11 z4 A4 E4
    go_wp2
    go_end0
    exact ⟨rfl, A5.out, B5.out⟩
end Go.Proofs.YthilicmhdkmipaaGreatDoor

