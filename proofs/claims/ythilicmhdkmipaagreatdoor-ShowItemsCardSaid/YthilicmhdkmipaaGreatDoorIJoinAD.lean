/- What the writer writes of an expression: case by case. -/
import Derived.Test.YthilicmhdkmipaaGreatDoorIJoinAC
import Derived.Test.YthilicmhdkmipaaGreatDoorIJoinAB
import Derived.Test.YthilicmhdkmipaaGreatDoorShelf
import Derived.Lib.ItoaLen
namespace Go.Proofs.YthilicmhdkmipaaGreatDoor
open Go.RowKit
set_option linter.unusedVariables false

set_option maxRecDepth 100000 in
set_option maxHeartbeats 4000000 in
theorem expr_unit (B R : Nat) (i : Int) (n s : ByteArray) (p : PP) (l : List PE) (pos : Int) : ExprAt B R (.mk 3 i n s p l pos) := by
  intro T0 G0 ts v w hB hW hA hx hL
  obtain ⟨p1, n1, c1, ao, cap, b, o, rfl, ⟨_, hi64, hsn, hss⟩, hp, hn, k1, hr⟩ := hx.parts
  have hRR : R < w.heap.size := hA.lt
  obtain ⟨w1, hw1⟩ : ∃ w1, w1 = w.alloc (.cells ((PE.mk 3 i n s p l pos).cells ⟨.slice p1 n1 c1, .slice ao l.length cap⟩).toArray 37) := ⟨_, rfl⟩
  have bx : Below w.heap.size w w1 := by rw [hw1]; exact new_only _ _
  have hz : w.heap.size < w1.heap.size := by rw [hw1]; simp
  have EB : EBox R w.heap.size (PE.mk 3 i n s p l pos) ⟨.slice p1 n1 c1, .slice ao l.length cap⟩ w1 := by rw [hw1]; exact EBox.new _ _ hRR
  have et : tokE (.mk 3 i n s p l pos) = [wOpen, wEnd] := by rw [tokE]; rfl
  rw [et] at hL ⊢
  have hB1 : B ≤ w1.heap.size := by omega
  have BX : Hid (WBut B R w w1) := Lib.hid (WBut.of bx hB (R := R))
  have HW := Lib.hid (hW.below (bx.mono hB))
  have HA := Lib.hid (hA.stays bx)
  have HE := Lib.hid EB
  have HX := Lib.hid (PE.In.below (bx.mono hB) hx)
  have HP := Lib.hid (hp.below (bx.mono hB))
  have HL := Lib.hid hL
  have SG := EB.safe
  have hgB := hW.lt.2
  have x0 : w1.cell? ⟨w.heap.size, 0, none⟩ = some (.int .u8 3) := EB.has 0 _ rfl
  have x1 : w1.cell? ⟨w.heap.size, 1, none⟩ = some (.int .i64 i) := EB.has 1 _ rfl
  have x2 : w1.cell? ⟨w.heap.size, 2, none⟩ = some (.string n) := EB.has 2 _ rfl
  have x3 : w1.cell? ⟨w.heap.size, 3, none⟩ = some (.string s) := EB.has 3 _ rfl
  have x4 : w1.cell? ⟨w.heap.size, 4, none⟩ = some (.string p.name) := EB.has 4 _ rfl
  have x5 : w1.cell? ⟨w.heap.size, 5, none⟩ = some (.slice p1 n1 c1) := EB.has 5 _ rfl
  have x6 : w1.cell? ⟨w.heap.size, 6, none⟩ = some (.slice ao l.length cap) := EB.has 6 _ rfl
  have x7 : w1.cell? ⟨w.heap.size, 7, none⟩ = some (.int .i64 pos) := EB.has 7 _ rfl
  show Calls Tryz.prog 69 #[.pointer (some ⟨R, 0, none⟩), .agg #[.int .u8 3, .int .i64 i, .string n, .string s, .string p.name, .slice p1 n1 c1, .slice ao l.length cap, .int .i64 pos]] w _
  have hw1' : w1 = w.alloc (.cells #[.int .u8 3, .int .i64 i, .string n, .string s, .string p.name, .slice p1 n1 c1, .slice ao l.length cap, .int .i64 pos] 37) := hw1
  clear hw1 hW hA hx hp hL EB et bx
  have P1 := Lib.hid (put2_calls B R ⟨#[40]⟩ ⟨#[41]⟩ T0 G0 ts _ w1 (new_only w1 (.cells #[.string ⟨#[40]⟩, .string ⟨#[41]⟩] 9)) (heap_alloc_new w1 _) hB1 HA.out (by decide) (by decide) HL.out)
  go_enter Tryz.func69, Tryz.ntmps69
  go_upto_region 1 with (fail)
  rw [← hw1']
  clear hw1'
  go_wp2_with fail
  (with_reducible refine (P1.out).mono ?_)
  rintro e w9 ⟨rfl, h9, b9⟩
  have H9 := Lib.hid h9
  have B9 := Lib.hid (BX.out.trans b9)
  clear h9 b9
  go_wp2
  go_end0
  exact ⟨rfl, H9.out, B9.out⟩
set_option maxRecDepth 100000 in
set_option maxHeartbeats 4000000 in
theorem expr_use (B R : Nat) (i : Int) (n s : ByteArray) (p : PP) (l : List PE) (pos : Int) : ExprAt B R (.mk 4 i n s p l pos) := by
  intro T0 G0 ts v w hB hW hA hx hL
  obtain ⟨p1, n1, c1, ao, cap, b, o, rfl, ⟨_, hi64, hsn, hss⟩, hp, hn, k1, hr⟩ := hx.parts
  have hRR : R < w.heap.size := hA.lt
  obtain ⟨w1, hw1⟩ : ∃ w1, w1 = w.alloc (.cells ((PE.mk 4 i n s p l pos).cells ⟨.slice p1 n1 c1, .slice ao l.length cap⟩).toArray 37) := ⟨_, rfl⟩
  have bx : Below w.heap.size w w1 := by rw [hw1]; exact new_only _ _
  have hz : w.heap.size < w1.heap.size := by rw [hw1]; simp
  have EB : EBox R w.heap.size (PE.mk 4 i n s p l pos) ⟨.slice p1 n1 c1, .slice ao l.length cap⟩ w1 := by rw [hw1]; exact EBox.new _ _ hRR
  have et : tokE (.mk 4 i n s p l pos) = tokP p := by rw [tokE]; rfl
  rw [et] at hL ⊢
  have hB1 : B ≤ w1.heap.size := by omega
  have BX : Hid (WBut B R w w1) := Lib.hid (WBut.of bx hB (R := R))
  have HW := Lib.hid (hW.below (bx.mono hB))
  have HA := Lib.hid (hA.stays bx)
  have HE := Lib.hid EB
  have HX := Lib.hid (PE.In.below (bx.mono hB) hx)
  have HP := Lib.hid (hp.below (bx.mono hB))
  have HL := Lib.hid hL
  have SG := EB.safe
  have hgB := hW.lt.2
  have x0 : w1.cell? ⟨w.heap.size, 0, none⟩ = some (.int .u8 4) := EB.has 0 _ rfl
  have x1 : w1.cell? ⟨w.heap.size, 1, none⟩ = some (.int .i64 i) := EB.has 1 _ rfl
  have x2 : w1.cell? ⟨w.heap.size, 2, none⟩ = some (.string n) := EB.has 2 _ rfl
  have x3 : w1.cell? ⟨w.heap.size, 3, none⟩ = some (.string s) := EB.has 3 _ rfl
  have x4 : w1.cell? ⟨w.heap.size, 4, none⟩ = some (.string p.name) := EB.has 4 _ rfl
  have x5 : w1.cell? ⟨w.heap.size, 5, none⟩ = some (.slice p1 n1 c1) := EB.has 5 _ rfl
  have x6 : w1.cell? ⟨w.heap.size, 6, none⟩ = some (.slice ao l.length cap) := EB.has 6 _ rfl
  have x7 : w1.cell? ⟨w.heap.size, 7, none⟩ = some (.int .i64 pos) := EB.has 7 _ rfl
  show Calls Tryz.prog 69 #[.pointer (some ⟨R, 0, none⟩), .agg #[.int .u8 4, .int .i64 i, .string n, .string s, .string p.name, .slice p1 n1 c1, .slice ao l.length cap, .int .i64 pos]] w _
  have hw1' : w1 = w.alloc (.cells #[.int .u8 4, .int .i64 i, .string n, .string s, .string p.name, .slice p1 n1 c1, .slice ao l.length cap, .int .i64 pos] 37) := hw1
  clear hw1 hW hA hx hp hL EB et bx
  have P1 := Lib.hid (place_calls B R p T0 G0 ts _ w1 hB1 HA.out HP.out HL.out)
  go_enter Tryz.func69, Tryz.ntmps69
  go_upto_region 1 with (fail)
  rw [← hw1']
  clear hw1'
  go_wp2_with fail
  (with_reducible refine (P1.out).mono ?_)
  rintro e w9 ⟨rfl, h9, b9⟩
  have H9 := Lib.hid h9
  have B9 := Lib.hid (BX.out.trans b9)
  clear h9 b9
  go_wp2
  go_end0
  exact ⟨rfl, H9.out, B9.out⟩
set_option maxRecDepth 100000 in
set_option maxHeartbeats 4000000 in
theorem expr_share (B R : Nat) (i : Int) (n s : ByteArray) (p : PP) (l : List PE) (pos : Int) : ExprAt B R (.mk 5 i n s p l pos) := by
  intro T0 G0 ts v w hB hW hA hx hL
  obtain ⟨p1, n1, c1, ao, cap, b, o, rfl, ⟨_, hi64, hsn, hss⟩, hp, hn, k1, hr⟩ := hx.parts
  have hRR : R < w.heap.size := hA.lt
  obtain ⟨w1, hw1⟩ : ∃ w1, w1 = w.alloc (.cells ((PE.mk 5 i n s p l pos).cells ⟨.slice p1 n1 c1, .slice ao l.length cap⟩).toArray 37) := ⟨_, rfl⟩
  have bx : Below w.heap.size w w1 := by rw [hw1]; exact new_only _ _
  have hz : w.heap.size < w1.heap.size := by rw [hw1]; simp
  have EB : EBox R w.heap.size (PE.mk 5 i n s p l pos) ⟨.slice p1 n1 c1, .slice ao l.length cap⟩ w1 := by rw [hw1]; exact EBox.new _ _ hRR
  have et : tokE (.mk 5 i n s p l pos) = [wAmp] ++ tokP p := by rw [tokE]; rfl
  rw [et] at hL ⊢
  have hB1 : B ≤ w1.heap.size := by omega
  have BX : Hid (WBut B R w w1) := Lib.hid (WBut.of bx hB (R := R))
  have HW := Lib.hid (hW.below (bx.mono hB))
  have HA := Lib.hid (hA.stays bx)
  have HE := Lib.hid EB
  have HX := Lib.hid (PE.In.below (bx.mono hB) hx)
  have HP := Lib.hid (hp.below (bx.mono hB))
  have HL := Lib.hid hL
  have SG := EB.safe
  have hgB := hW.lt.2
  have x0 : w1.cell? ⟨w.heap.size, 0, none⟩ = some (.int .u8 5) := EB.has 0 _ rfl
  have x1 : w1.cell? ⟨w.heap.size, 1, none⟩ = some (.int .i64 i) := EB.has 1 _ rfl
  have x2 : w1.cell? ⟨w.heap.size, 2, none⟩ = some (.string n) := EB.has 2 _ rfl
  have x3 : w1.cell? ⟨w.heap.size, 3, none⟩ = some (.string s) := EB.has 3 _ rfl
  have x4 : w1.cell? ⟨w.heap.size, 4, none⟩ = some (.string p.name) := EB.has 4 _ rfl
  have x5 : w1.cell? ⟨w.heap.size, 5, none⟩ = some (.slice p1 n1 c1) := EB.has 5 _ rfl
  have x6 : w1.cell? ⟨w.heap.size, 6, none⟩ = some (.slice ao l.length cap) := EB.has 6 _ rfl
  have x7 : w1.cell? ⟨w.heap.size, 7, none⟩ = some (.int .i64 pos) := EB.has 7 _ rfl
  show Calls Tryz.prog 69 #[.pointer (some ⟨R, 0, none⟩), .agg #[.int .u8 5, .int .i64 i, .string n, .string s, .string p.name, .slice p1 n1 c1, .slice ao l.length cap, .int .i64 pos]] w _
  have hw1' : w1 = w.alloc (.cells #[.int .u8 5, .int .i64 i, .string n, .string s, .string p.name, .slice p1 n1 c1, .slice ao l.length cap, .int .i64 pos] 37) := hw1
  clear hw1 hW hA hx hp hL EB et bx
  rw [← List.append_assoc]
  have HL' : Hid (Lim T0 G0 ((ts ++ [wAmp]) ++ tokP p)) := Lib.hid (by rw [List.append_assoc]; exact HL.out)
  have P1 := Lib.hid (put1_calls B R ⟨#[38]⟩ T0 G0 ts _ w1 (new_only w1 (.cells #[.string ⟨#[38]⟩] 9)) (heap_alloc_new w1 _) hB1 HA.out (by decide) HL'.out.less)
  go_enter Tryz.func69, Tryz.ntmps69
  go_upto_region 1 with (fail)
  rw [← hw1']
  clear hw1'
  go_wp2_with fail
  (with_reducible refine (P1.out).mono ?_)
  rintro e w2 ⟨rfl, h2, b2⟩
  have B2 := Lib.hid (BX.out.trans b2)
  have y4 := (SG.cell b2 4).trans x4
  have y5 := (SG.cell b2 5).trans x5
  have hz2 := (SG.but b2).lt
  have P2 := Lib.hid (place_calls B R p T0 G0 (ts ++ [wAmp]) _ w2 (Nat.le_trans hB B2.out.size) h2 (HP.out.below b2.bel) HL'.out)
  clear h2 b2 P1 x0 x1 x2 x3 x4 x5 x6 x7
  go_wp2_with fail
  (with_reducible refine (P2.out).mono ?_)
  rintro e w9 ⟨rfl, h9, b9⟩
  have H9 := Lib.hid h9
  have B9 := Lib.hid (B2.out.trans b9)
  clear h9 b9
  go_wp2
  go_end0
  exact ⟨rfl, H9.out, B9.out⟩
set_option maxRecDepth 100000 in
set_option maxHeartbeats 4000000 in
theorem expr_mut (B R : Nat) (i : Int) (n s : ByteArray) (p : PP) (l : List PE) (pos : Int) : ExprAt B R (.mk 6 i n s p l pos) := by
  intro T0 G0 ts v w hB hW hA hx hL
  obtain ⟨p1, n1, c1, ao, cap, b, o, rfl, ⟨_, hi64, hsn, hss⟩, hp, hn, k1, hr⟩ := hx.parts
  have hRR : R < w.heap.size := hA.lt
  obtain ⟨w1, hw1⟩ : ∃ w1, w1 = w.alloc (.cells ((PE.mk 6 i n s p l pos).cells ⟨.slice p1 n1 c1, .slice ao l.length cap⟩).toArray 37) := ⟨_, rfl⟩
  have bx : Below w.heap.size w w1 := by rw [hw1]; exact new_only _ _
  have hz : w.heap.size < w1.heap.size := by rw [hw1]; simp
  have EB : EBox R w.heap.size (PE.mk 6 i n s p l pos) ⟨.slice p1 n1 c1, .slice ao l.length cap⟩ w1 := by rw [hw1]; exact EBox.new _ _ hRR
  have et : tokE (.mk 6 i n s p l pos) = [wAmp, wMut] ++ tokP p := by rw [tokE]; rfl
  rw [et] at hL ⊢
  have hB1 : B ≤ w1.heap.size := by omega
  have BX : Hid (WBut B R w w1) := Lib.hid (WBut.of bx hB (R := R))
  have HW := Lib.hid (hW.below (bx.mono hB))
  have HA := Lib.hid (hA.stays bx)
  have HE := Lib.hid EB
  have HX := Lib.hid (PE.In.below (bx.mono hB) hx)
  have HP := Lib.hid (hp.below (bx.mono hB))
  have HL := Lib.hid hL
  have SG := EB.safe
  have hgB := hW.lt.2
  have x0 : w1.cell? ⟨w.heap.size, 0, none⟩ = some (.int .u8 6) := EB.has 0 _ rfl
  have x1 : w1.cell? ⟨w.heap.size, 1, none⟩ = some (.int .i64 i) := EB.has 1 _ rfl
  have x2 : w1.cell? ⟨w.heap.size, 2, none⟩ = some (.string n) := EB.has 2 _ rfl
  have x3 : w1.cell? ⟨w.heap.size, 3, none⟩ = some (.string s) := EB.has 3 _ rfl
  have x4 : w1.cell? ⟨w.heap.size, 4, none⟩ = some (.string p.name) := EB.has 4 _ rfl
  have x5 : w1.cell? ⟨w.heap.size, 5, none⟩ = some (.slice p1 n1 c1) := EB.has 5 _ rfl
  have x6 : w1.cell? ⟨w.heap.size, 6, none⟩ = some (.slice ao l.length cap) := EB.has 6 _ rfl
  have x7 : w1.cell? ⟨w.heap.size, 7, none⟩ = some (.int .i64 pos) := EB.has 7 _ rfl
  show Calls Tryz.prog 69 #[.pointer (some ⟨R, 0, none⟩), .agg #[.int .u8 6, .int .i64 i, .string n, .string s, .string p.name, .slice p1 n1 c1, .slice ao l.length cap, .int .i64 pos]] w _
  have hw1' : w1 = w.alloc (.cells #[.int .u8 6, .int .i64 i, .string n, .string s, .string p.name, .slice p1 n1 c1, .slice ao l.length cap, .int .i64 pos] 37) := hw1
  clear hw1 hW hA hx hp hL EB et bx
  rw [← List.append_assoc]
  have HL' : Hid (Lim T0 G0 ((ts ++ [wAmp, wMut]) ++ tokP p)) := Lib.hid (by rw [List.append_assoc]; exact HL.out)
  have P1 := Lib.hid (put2_calls B R ⟨#[38]⟩ ⟨#[109, 117, 116]⟩ T0 G0 ts _ w1 (new_only w1 (.cells #[.string ⟨#[38]⟩, .string ⟨#[109, 117, 116]⟩] 9)) (heap_alloc_new w1 _) hB1 HA.out (by decide) (by decide) HL'.out.less)
  go_enter Tryz.func69, Tryz.ntmps69
  go_upto_region 1 with (fail)
  rw [← hw1']
  clear hw1'
  go_wp2_with fail
  (with_reducible refine (P1.out).mono ?_)
  rintro e w2 ⟨rfl, h2, b2⟩
  have B2 := Lib.hid (BX.out.trans b2)
  have y4 := (SG.cell b2 4).trans x4
  have y5 := (SG.cell b2 5).trans x5
  have hz2 := (SG.but b2).lt
  have P2 := Lib.hid (place_calls B R p T0 G0 (ts ++ [wAmp, wMut]) _ w2 (Nat.le_trans hB B2.out.size) h2 (HP.out.below b2.bel) HL'.out)
  clear h2 b2 P1 x0 x1 x2 x3 x4 x5 x6 x7
  go_wp2_with fail
  (with_reducible refine (P2.out).mono ?_)
  rintro e w9 ⟨rfl, h9, b9⟩
  have H9 := Lib.hid h9
  have B9 := Lib.hid (B2.out.trans b9)
  clear h9 b9
  go_wp2
  go_end0
  exact ⟨rfl, H9.out, B9.out⟩
end Go.Proofs.YthilicmhdkmipaaGreatDoor
/- What the writer writes of an expression: case by case. -/
namespace Go.Proofs.YthilicmhdkmipaaGreatDoor
open Go.RowKit
set_option linter.unusedVariables false

set_option maxRecDepth 100000 in
set_option maxHeartbeats 8000000 in
theorem expr_prefix (B R : Nat) (op : Nat) (hop : op = 7 ∨ op = 8) (a : PE) (i : Int) (n s : ByteArray) (p : PP) (l : List PE) (pos : Int) (hl1 : l = [a]) (IH : ExprAt B R a) : ExprAt B R (.mk (op : Int) i n s p l pos) := by
  intro T0 G0 ts v w hB hW hA hx hL
  obtain ⟨p1, n1, c1, ao, cap, b, o, rfl, ⟨_, hi64, hsn, hss⟩, hp, hn, k1, hr⟩ := hx.parts
  have hRR : R < w.heap.size := hA.lt
  obtain ⟨w1, hw1⟩ : ∃ w1, w1 = w.alloc (.cells ((PE.mk (op : Int) i n s p l pos).cells ⟨.slice p1 n1 c1, .slice ao l.length cap⟩).toArray 37) := ⟨_, rfl⟩
  have bx : Below w.heap.size w w1 := by rw [hw1]; exact new_only _ _
  have hz : w.heap.size < w1.heap.size := by rw [hw1]; simp
  have EB : EBox R w.heap.size (PE.mk (op : Int) i n s p l pos) ⟨.slice p1 n1 c1, .slice ao l.length cap⟩ w1 := by rw [hw1]; exact EBox.new _ _ hRR
  have et : tokE (.mk (op : Int) i n s p l pos) = exprWord op :: sideT (strongB op) a.op (tokE a) := by subst hl1; rcases hop with rfl | rfl <;> (rw [tokE]; rfl)
  rw [et] at hL ⊢
  have hB1 : B ≤ w1.heap.size := by omega
  have BX : Hid (WBut B R w w1) := Lib.hid (WBut.of bx hB (R := R))
  have HW := Lib.hid (hW.below (bx.mono hB))
  have HA := Lib.hid (hA.stays bx)
  have HE := Lib.hid EB
  have HX := Lib.hid (PE.In.below (bx.mono hB) hx)
  have HP := Lib.hid (hp.below (bx.mono hB))
  have HL := Lib.hid hL
  have SG := EB.safe
  have hgB := hW.lt.2
  have x0 : w1.cell? ⟨w.heap.size, 0, none⟩ = some (.int .u8 (op : Int)) := EB.has 0 _ rfl
  have x1 : w1.cell? ⟨w.heap.size, 1, none⟩ = some (.int .i64 i) := EB.has 1 _ rfl
  have x2 : w1.cell? ⟨w.heap.size, 2, none⟩ = some (.string n) := EB.has 2 _ rfl
  have x3 : w1.cell? ⟨w.heap.size, 3, none⟩ = some (.string s) := EB.has 3 _ rfl
  have x4 : w1.cell? ⟨w.heap.size, 4, none⟩ = some (.string p.name) := EB.has 4 _ rfl
  have x5 : w1.cell? ⟨w.heap.size, 5, none⟩ = some (.slice p1 n1 c1) := EB.has 5 _ rfl
  have x6 : w1.cell? ⟨w.heap.size, 6, none⟩ = some (.slice ao l.length cap) := EB.has 6 _ rfl
  have x7 : w1.cell? ⟨w.heap.size, 7, none⟩ = some (.int .i64 pos) := EB.has 7 _ rfl
  show Calls Tryz.prog 69 #[.pointer (some ⟨R, 0, none⟩), .agg #[.int .u8 (op : Int), .int .i64 i, .string n, .string s, .string p.name, .slice p1 n1 c1, .slice ao l.length cap, .int .i64 pos]] w _
  have hw1' : w1 = w.alloc (.cells #[.int .u8 (op : Int), .int .i64 i, .string n, .string s, .string p.name, .slice p1 n1 c1, .slice ao l.length cap, .int .i64 pos] 37) := hw1
  clear hw1 hW hA hx hp hL EB et bx
  subst hl1
  obtain ⟨rfl, hbB⟩ := k1.resolve_left (by simp)
  obtain ⟨va, ca, ia⟩ := PE.Row.get hr (show ([a] : List PE)[0]? = some a from rfl)
  obtain ⟨q1, m1, d1, q2, m2, d2, rfl⟩ := ia.shape
  have e1 : ts ++ exprWord op :: sideT (strongB op) a.op (tokE a) = (ts ++ [kT (wordE op)]) ++ sideT (strongB op) a.op (tokE a) := by rw [wordE_kT]; simp
  have HL' : Hid (Lim T0 G0 ((ts ++ [kT (wordE op)]) ++ sideT (strongB op) a.op (tokE a))) := Lib.hid (by rw [← e1]; exact HL.out)
  rw [e1]
  clear e1 HL
  have hop36 : op ≤ 36 := by omega
  have hws := wordE_size op hop36
  have tw := HW.out.e op hop36
  have hg : 1 < w1.heap.size := by omega
  have P1 := Lib.hid (put1_calls B R (wordE op) T0 G0 ts _ w1 (new_drew w1 (.cells #[.string (wordE op)] 9)) (drew_new w1 _) hB1 HA.out hws HL'.out.less)
  have HS := Lib.hid fun (W : World) => strong_calls (op : Int) W
  have HCA := Lib.hid ca
  have HIA := Lib.hid ia
  obtain ⟨ow, how⟩ : ∃ ow : Int, ow = (strongB op : Int) := ⟨_, rfl⟩
  have hs8 : strongB op ≤ 8 := by rcases hop with rfl | rfl <;> decide
  have C0 := Lib.hid (fun (W : World) h1 h2 h3 h4 h5 => sideW_calls B R a IH (strongB op) hs8 T0 G0 (ts ++ [kT (wordE op)]) ⟨.slice q1 m1 d1, .slice q2 m2 d2⟩ W h1 h2 h3 h4 h5)
  rw [← how] at HS C0
  have hc2 : ((op : Int) = 7 ∧ ow = 6) ∨ ((op : Int) = 8 ∧ ow = 2) := by rcases hop with rfl | rfl <;> simp [how, strongB]
  change w1.cell? ⟨1, op, none⟩ = some (.string (wordE op)) at tw
  have x6' : w1.cell? ⟨w.heap.size, 6, none⟩ = some (.slice (some ⟨b, o, none⟩) 1 cap) := x6
  obtain ⟨tr, htr⟩ : ∃ tr, tr = sideT (strongB op) a.op (tokE a) := ⟨_, rfl⟩
  obtain ⟨wd, hwd⟩ : ∃ wd, wd = wordE op := ⟨_, rfl⟩
  rw [← htr] at C0 HL' ⊢
  rw [← hwd] at C0 HL' P1 tw hws ⊢
  clear htr hwd
  obtain ⟨z, hzz⟩ : ∃ z : Int, z = (op : Int) := ⟨_, rfl⟩
  rw [← hzz] at x0 hw1' hc2 HS ⊢
  change w1 = w.alloc (.cells #[.int .u8 z, .int .i64 i, .string n, .string s, .string p.name, .slice p1 n1 c1, .slice (some ⟨b, o, none⟩) 1 cap, .int .i64 pos] 37) at hw1'
  show Calls Tryz.prog 69 #[.pointer (some ⟨R, 0, none⟩), .agg #[.int .u8 z, .int .i64 i, .string n, .string s, .string p.name, .slice p1 n1 c1, .slice (some ⟨b, o, none⟩) 1 cap, .int .i64 pos]] w _
  clear x6 how hs8 IH ca ia
  rcases hop with rfl | rfl
  · obtain rfl : z = 7 := by omega
    obtain rfl : ow = 6 := by omega
    clear hc2 hzz
    go_enter Tryz.func69, Tryz.ntmps69
    go_upto_region 1 with (fail)
    rw [← hw1']
    clear hw1'
    go_upto_region 29 with (fail)
    go_cut [3] from 112 to 121 (fun s3 wx => s3 = .pointer (some ⟨w.heap.size, 0, none⟩) ∧ Hid (AtW B R T0 G0 (ts ++ [kT wd]) wx) ∧ Hid (WBut B R w1 wx))
    case first =>
      go_region_held3 (fun w' => w'.cell? ⟨w.heap.size, 0, none⟩ = w1.cell? ⟨w.heap.size, 0, none⟩ ∧ ∀ o, w'.cell? ⟨1, o, none⟩ = w1.cell? ⟨1, o, none⟩) (first | exact ⟨rfl, fun _ => rfl⟩ | exact ⟨low_new w1 _ _ _ hz, fun o => low_new w1 _ _ _ hg⟩ | exact ⟨XB, XT⟩)
        (first
          | (go_at_call 98; (with_reducible refine (P1.out).mono ?_)
             rintro e w2 ⟨rfl, h1, b1⟩
             have H1 := Lib.hid h1
             have B1 := Lib.hid b1
             have XB := SG.cell b1 0
             have XT := fun o => b1.bel.cell (p := ⟨1, o, none⟩) hgB
             clear h1 b1))
      go_wp2_with fail
      go_meet
      case rel => exact ⟨rfl, H1, B1⟩
    case rest =>
      obtain ⟨rfl, H1, B1⟩ := hcut
      have B2 := Lib.hid (BX.out.trans B1.out)
      have y6 := (SG.cell B1.out 6).trans x6'
      have hz2 := (SG.but B1.out).lt
      have hB2 : B ≤ wc.heap.size := Nat.le_trans hB B2.out.size
      have bd : Below wc.heap.size wc wc.drew := (Below.refl _ wc).drew
      have cw := HCA.out.below hbB B2.out.bel
      have u0 : wc.cell? ⟨b, o, none⟩ = some (.int .u8 a.op) := by simpa using cw 0 _ rfl
      have u1 : wc.cell? ⟨b, o + 1, none⟩ = some (.int .i64 a.int) := by simpa using cw 1 _ rfl
      have u2 : wc.cell? ⟨b, o + 2, none⟩ = some (.string a.name) := by simpa using cw 2 _ rfl
      have u3 : wc.cell? ⟨b, o + 3, none⟩ = some (.string a.second) := by simpa using cw 3 _ rfl
      have u4 : wc.cell? ⟨b, o + 4, none⟩ = some (.string a.place.name) := by simpa using cw 4 _ rfl
      have u5 : wc.cell? ⟨b, o + 5, none⟩ = some (.slice q1 m1 d1) := by simpa using cw 5 _ rfl
      have u6 : wc.cell? ⟨b, o + 6, none⟩ = some (.slice q2 m2 d2) := by simpa using cw 6 _ rfl
      have u7 : wc.cell? ⟨b, o + 7, none⟩ = some (.int .i64 a.pos) := by simpa using cw 7 _ rfl
      have y0 : wc.cell? ⟨w.heap.size, 0, none⟩ = some (.int .u8 7) := (SG.cell B1.out 0).trans x0
      have hb2 : b < wc.heap.size := by omega
      have C := Lib.hid (C0.out wc.drew (by simpa using hB2) ((HW.out.below B1.out.bel).below (bd.mono hB2)) (H1.out.stays bd) (PE.In.below (bd.mono hB2) (PE.In.below B2.out.bel HIA.out)) HL'.out)
      have C' : Hid (Calls Tryz.prog 104 #[.pointer (some ⟨R, 0, none⟩), .agg #[.int .u8 a.op, .int .i64 a.int, .string a.name, .string a.second, .string a.place.name, .slice q1 m1 d1, .slice q2 m2 d2, .int .i64 a.pos], .int .u8 6] wc.drew fun e w' => e = .returned (.tuple #[]) ∧ AtW B R T0 G0 ((ts ++ [kT wd]) ++ tr) w' ∧ WBut B R wc.drew w') := Lib.hid C.out
      have WD : WBut B R w wc.drew := B2.out.trans (WBut.of bd hB2)
      clear P1 x0 x1 x2 x3 x4 x5 x6' x7 SG H1 C cw tw
      go_upto_region 30 with (fail)
      go_region_with (first
        | (go_at_call 105; (with_reducible refine (HS.out _).mono ?_); rintro e w2 ⟨rfl, rfl⟩)
        | (go_at_call 104; (with_reducible refine (C'.out).mono ?_)
           rintro e w9 ⟨rfl, h9, b9⟩
           have H9 := Lib.hid h9
           have B9 := Lib.hid (WD.trans b9)
           clear h9 b9))
      all_goals
        go_wp2
        go_end0
        exact ⟨rfl, H9.out, B9.out⟩
  · obtain rfl : z = 8 := by omega
    obtain rfl : ow = 2 := by omega
    clear hc2 hzz
    go_enter Tryz.func69, Tryz.ntmps69
    go_upto_region 1 with (fail)
    rw [← hw1']
    clear hw1'
    go_upto_region 29 with (fail)
    go_cut [3] from 112 to 121 (fun s3 wx => s3 = .pointer (some ⟨w.heap.size, 0, none⟩) ∧ Hid (AtW B R T0 G0 (ts ++ [kT wd]) wx) ∧ Hid (WBut B R w1 wx))
    case first =>
      go_region_held3 (fun w' => w'.cell? ⟨w.heap.size, 0, none⟩ = w1.cell? ⟨w.heap.size, 0, none⟩ ∧ ∀ o, w'.cell? ⟨1, o, none⟩ = w1.cell? ⟨1, o, none⟩) (first | exact ⟨rfl, fun _ => rfl⟩ | exact ⟨low_new w1 _ _ _ hz, fun o => low_new w1 _ _ _ hg⟩ | exact ⟨XB, XT⟩)
        (first
          | (go_at_call 98; (with_reducible refine (P1.out).mono ?_)
             rintro e w2 ⟨rfl, h1, b1⟩
             have H1 := Lib.hid h1
             have B1 := Lib.hid b1
             have XB := SG.cell b1 0
             have XT := fun o => b1.bel.cell (p := ⟨1, o, none⟩) hgB
             clear h1 b1))
      go_wp2_with fail
      go_meet
      case rel => exact ⟨rfl, H1, B1⟩
    case rest =>
      obtain ⟨rfl, H1, B1⟩ := hcut
      have B2 := Lib.hid (BX.out.trans B1.out)
      have y6 := (SG.cell B1.out 6).trans x6'
      have hz2 := (SG.but B1.out).lt
      have hB2 : B ≤ wc.heap.size := Nat.le_trans hB B2.out.size
      have bd : Below wc.heap.size wc wc.drew := (Below.refl _ wc).drew
      have cw := HCA.out.below hbB B2.out.bel
      have u0 : wc.cell? ⟨b, o, none⟩ = some (.int .u8 a.op) := by simpa using cw 0 _ rfl
      have u1 : wc.cell? ⟨b, o + 1, none⟩ = some (.int .i64 a.int) := by simpa using cw 1 _ rfl
      have u2 : wc.cell? ⟨b, o + 2, none⟩ = some (.string a.name) := by simpa using cw 2 _ rfl
      have u3 : wc.cell? ⟨b, o + 3, none⟩ = some (.string a.second) := by simpa using cw 3 _ rfl
      have u4 : wc.cell? ⟨b, o + 4, none⟩ = some (.string a.place.name) := by simpa using cw 4 _ rfl
      have u5 : wc.cell? ⟨b, o + 5, none⟩ = some (.slice q1 m1 d1) := by simpa using cw 5 _ rfl
      have u6 : wc.cell? ⟨b, o + 6, none⟩ = some (.slice q2 m2 d2) := by simpa using cw 6 _ rfl
      have u7 : wc.cell? ⟨b, o + 7, none⟩ = some (.int .i64 a.pos) := by simpa using cw 7 _ rfl
      have y0 : wc.cell? ⟨w.heap.size, 0, none⟩ = some (.int .u8 8) := (SG.cell B1.out 0).trans x0
      have hb2 : b < wc.heap.size := by omega
      have C := Lib.hid (C0.out wc.drew (by simpa using hB2) ((HW.out.below B1.out.bel).below (bd.mono hB2)) (H1.out.stays bd) (PE.In.below (bd.mono hB2) (PE.In.below B2.out.bel HIA.out)) HL'.out)
      have C' : Hid (Calls Tryz.prog 104 #[.pointer (some ⟨R, 0, none⟩), .agg #[.int .u8 a.op, .int .i64 a.int, .string a.name, .string a.second, .string a.place.name, .slice q1 m1 d1, .slice q2 m2 d2, .int .i64 a.pos], .int .u8 2] wc.drew fun e w' => e = .returned (.tuple #[]) ∧ AtW B R T0 G0 ((ts ++ [kT wd]) ++ tr) w' ∧ WBut B R wc.drew w') := Lib.hid C.out
      have WD : WBut B R w wc.drew := B2.out.trans (WBut.of bd hB2)
      clear P1 x0 x1 x2 x3 x4 x5 x6' x7 SG H1 C cw tw
      go_upto_region 30 with (fail)
      go_region_with (first
        | (go_at_call 105; (with_reducible refine (HS.out _).mono ?_); rintro e w2 ⟨rfl, rfl⟩)
        | (go_at_call 104; (with_reducible refine (C'.out).mono ?_)
           rintro e w9 ⟨rfl, h9, b9⟩
           have H9 := Lib.hid h9
           have B9 := Lib.hid (WD.trans b9)
           clear h9 b9))
      all_goals
        go_wp2
        go_end0
        exact ⟨rfl, H9.out, B9.out⟩
end Go.Proofs.YthilicmhdkmipaaGreatDoor
