/- What the writer writes of an expression: case by case. -/
import Derived.Test.YthilicmhdkmipaaGreatDoorQJoinAP
import Derived.Test.YthilicmhdkmipaaGreatDoorQJoinAO
import Derived.Test.YthilicmhdkmipaaGreatDoorShelf
import Derived.Lib.ItoaLen
namespace Go.Proofs.YthilicmhdkmipaaGreatDoor
open Go.RowKit
set_option linter.unusedVariables false

set_option maxRecDepth 100000 in
set_option maxHeartbeats 4000000 in
theorem expr_enum (B R : Nat) (i : Int) (n s : ByteArray) (p : PP) (l : List PE) (pos : Int) (hl : l.length ≤ 1) (IH : ∀ x ∈ l, ExprAt B R x) : ExprAt B R (.mk 20 i n s p l pos) := by
  intro T0 G0 ts v w hB hW hA hx hL
  obtain ⟨p1, n1, c1, ao, cap, b, o, rfl, ⟨_, hi64, hsn, hss⟩, hp, hn, k1, hr⟩ := hx.parts
  have hRR : R < w.heap.size := hA.lt
  obtain ⟨w1, hw1⟩ : ∃ w1, w1 = w.alloc (.cells ((PE.mk 20 i n s p l pos).cells ⟨.slice p1 n1 c1, .slice ao l.length cap⟩).toArray 37) := ⟨_, rfl⟩
  have bx : Below w.heap.size w w1 := by rw [hw1]; exact new_only _ _
  have hz : w.heap.size < w1.heap.size := by rw [hw1]; simp
  have EB : EBox R w.heap.size (PE.mk 20 i n s p l pos) ⟨.slice p1 n1 c1, .slice ao l.length cap⟩ w1 := by rw [hw1]; exact EBox.new _ _ hRR
  have et : tokE (.mk 20 i n s p l pos) = kT n :: wDot :: kT s :: enumT (tokEs l) := by rw [tokE]; rfl
  rw [et] at hL ⊢
  have hB1 : B ≤ w1.heap.size := by omega
  have BX : Hid (WBut B R w w1) := Lib.hid (WBut.of bx hB (R := R))
  have HW := Lib.hid (hW.below (bx.mono hB))
  have HA := Lib.hid (hA.stays bx)
  have HE := Lib.hid EB
  have HX := Lib.hid (PE.In.below (bx.mono hB) hx)
  have HP := Lib.hid (hp.below (bx.mono hB))
  have HL := Lib.hid hL
  have SG := EB.safe
  have hgB := hW.lt.2
  have x0 : w1.cell? ⟨w.heap.size, 0, none⟩ = some (.int .u8 20) := EB.has 0 _ rfl
  have x1 : w1.cell? ⟨w.heap.size, 1, none⟩ = some (.int .i64 i) := EB.has 1 _ rfl
  have x2 : w1.cell? ⟨w.heap.size, 2, none⟩ = some (.string n) := EB.has 2 _ rfl
  have x3 : w1.cell? ⟨w.heap.size, 3, none⟩ = some (.string s) := EB.has 3 _ rfl
  have x4 : w1.cell? ⟨w.heap.size, 4, none⟩ = some (.string p.name) := EB.has 4 _ rfl
  have x5 : w1.cell? ⟨w.heap.size, 5, none⟩ = some (.slice p1 n1 c1) := EB.has 5 _ rfl
  have x6 : w1.cell? ⟨w.heap.size, 6, none⟩ = some (.slice ao l.length cap) := EB.has 6 _ rfl
  have x7 : w1.cell? ⟨w.heap.size, 7, none⟩ = some (.int .i64 pos) := EB.has 7 _ rfl
  show Calls Tryz.prog 69 #[.pointer (some ⟨R, 0, none⟩), .agg #[.int .u8 20, .int .i64 i, .string n, .string s, .string p.name, .slice p1 n1 c1, .slice ao l.length cap, .int .i64 pos]] w _
  have hw1' : w1 = w.alloc (.cells #[.int .u8 20, .int .i64 i, .string n, .string s, .string p.name, .slice p1 n1 c1, .slice ao l.length cap, .int .i64 pos] 37) := hw1
  clear hw1 hW hA hx hp hL EB et bx
  have P1 := Lib.hid (enumW_calls B R i n s p l pos hl IH T0 G0 ts _ w1 hB1 HW.out HA.out HX.out HL.out)
  have P1' : Hid (Calls Tryz.prog 103 #[.pointer (some ⟨R, 0, none⟩), .agg #[.int .u8 20, .int .i64 i, .string n, .string s, .string p.name, .slice p1 n1 c1, .slice ao l.length cap, .int .i64 pos]] w1 fun e w' => e = .returned (.tuple #[]) ∧ AtW B R T0 G0 (ts ++ (kT n :: wDot :: kT s :: enumT (tokEs l))) w' ∧ WBut B R w1 w') := Lib.hid P1.out
  clear P1
  go_enter Tryz.func69, Tryz.ntmps69
  go_upto_region 1 with (fail)
  rw [← hw1']
  clear hw1'
  go_wp2_with fail
  (with_reducible refine (P1'.out).mono ?_)
  rintro e w9 ⟨rfl, h9, b9⟩
  have H9 := Lib.hid h9
  have B9 := Lib.hid (BX.out.trans b9)
  clear h9 b9
  go_wp2
  go_end0
  exact ⟨rfl, H9.out, B9.out⟩
end Go.Proofs.YthilicmhdkmipaaGreatDoor
/- What the writer writes of an expression: case by case. -/
namespace Go.Proofs.YthilicmhdkmipaaGreatDoor
open Go.RowKit
set_option linter.unusedVariables false

theorem sides_tok (op : Int) (hop : 9 ≤ op ∧ op ≤ 17) (i : Int) (n s : ByteArray) (p : PP) (a a2 : PE) (pos : Int) : tokE (.mk op i n s p [a, a2] pos) = sideT (leftB op) a.op (tokE a) ++ exprWord op :: sideT (strongB op + 1) a2.op (tokE a2) := by
  rw [tokE, if_neg (by omega), if_neg (by omega), if_neg (by omega), if_neg (by omega), if_neg (by omega), if_neg (by omega), if_neg (by omega), if_neg (by omega), if_neg (by omega), if_neg (by omega), if_pos hop]; rfl
set_option maxRecDepth 100000 in
set_option maxHeartbeats 4000000 in
theorem expr_sides (B R : Nat) (op : Nat) (hop : 9 ≤ op ∧ op ≤ 17) (a a2 : PE) (i : Int) (n s : ByteArray) (p : PP) (l : List PE) (pos : Int) (hl2 : l = [a, a2]) (IH : ExprAt B R a) (IH2 : ExprAt B R a2) : ExprAt B R (.mk (op : Int) i n s p l pos) := by
  intro T0 G0 ts v w hB hW hA hx hL
  obtain ⟨p1, n1, c1, ao, cap, b, o, rfl, ⟨_, hi64, hsn, hss⟩, hp, hn, k1, hr⟩ := hx.parts
  have hRR : R < w.heap.size := hA.lt
  obtain ⟨w1, hw1⟩ : ∃ w1, w1 = w.alloc (.cells ((PE.mk (op : Int) i n s p l pos).cells ⟨.slice p1 n1 c1, .slice ao l.length cap⟩).toArray 37) := ⟨_, rfl⟩
  have bx : Below w.heap.size w w1 := by rw [hw1]; exact new_only _ _
  have hz : w.heap.size < w1.heap.size := by rw [hw1]; simp
  have EB : EBox R w.heap.size (PE.mk (op : Int) i n s p l pos) ⟨.slice p1 n1 c1, .slice ao l.length cap⟩ w1 := by rw [hw1]; exact EBox.new _ _ hRR
  have et : tokE (.mk (op : Int) i n s p l pos) = sideT (leftB op) a.op (tokE a) ++ exprWord op :: sideT (strongB op + 1) a2.op (tokE a2) := by subst hl2; exact sides_tok op (by omega) i n s p a a2 pos
  rw [et] at hL ⊢
  have hB1 : B ≤ w1.heap.size := by omega
  have BX : Hid (WBut B R w w1) := Lib.hid (WBut.of bx hB (R := R))
  have HW := Lib.hid (hW.below (bx.mono hB))
  have HA := Lib.hid (hA.stays bx)
  have HE := Lib.hid EB
  have HX := Lib.hid (PE.In.below (bx.mono hB) hx)
  have HP := Lib.hid (hp.below (bx.mono hB))
  have HL := Lib.hid hL
  have SG := EB.safe
  have hgB := hW.lt.2
  have x0 : w1.cell? ⟨w.heap.size, 0, none⟩ = some (.int .u8 (op : Int)) := EB.has 0 _ rfl
  have x1 : w1.cell? ⟨w.heap.size, 1, none⟩ = some (.int .i64 i) := EB.has 1 _ rfl
  have x2 : w1.cell? ⟨w.heap.size, 2, none⟩ = some (.string n) := EB.has 2 _ rfl
  have x3 : w1.cell? ⟨w.heap.size, 3, none⟩ = some (.string s) := EB.has 3 _ rfl
  have x4 : w1.cell? ⟨w.heap.size, 4, none⟩ = some (.string p.name) := EB.has 4 _ rfl
  have x5 : w1.cell? ⟨w.heap.size, 5, none⟩ = some (.slice p1 n1 c1) := EB.has 5 _ rfl
  have x6 : w1.cell? ⟨w.heap.size, 6, none⟩ = some (.slice ao l.length cap) := EB.has 6 _ rfl
  have x7 : w1.cell? ⟨w.heap.size, 7, none⟩ = some (.int .i64 pos) := EB.has 7 _ rfl
  show Calls Tryz.prog 69 #[.pointer (some ⟨R, 0, none⟩), .agg #[.int .u8 (op : Int), .int .i64 i, .string n, .string s, .string p.name, .slice p1 n1 c1, .slice ao l.length cap, .int .i64 pos]] w _
  have hw1' : w1 = w.alloc (.cells #[.int .u8 (op : Int), .int .i64 i, .string n, .string s, .string p.name, .slice p1 n1 c1, .slice ao l.length cap, .int .i64 pos] 37) := hw1
  clear hw1 hW hA hx hp hL EB et bx
  have hcs : (strongB op = 0 ∧ leftB op = 0) ∨ (strongB op = 1 ∧ leftB op = 1) ∨ (strongB op = 3 ∧ leftB op = 4) ∨ (strongB op = 4 ∧ leftB op = 4) ∨ (strongB op = 5 ∧ leftB op = 5) := by
    rcases (by omega : op = 9 ∨ op = 10 ∨ op = 11 ∨ op = 12 ∨ op = 13 ∨ op = 14 ∨ op = 15 ∨ op = 16 ∨ op = 17) with rfl | rfl | rfl | rfl | rfl | rfl | rfl | rfl | rfl <;> decide
  subst hl2
  have P1 := Lib.hid (sidesW_calls B R op (strongB op) (leftB op) (by omega) rfl hcs i n s p a a2 pos IH IH2 T0 G0 ts ⟨.slice p1 n1 c1, .slice ao 2 cap⟩ w1 hB1 HW.out HA.out HX.out HL.out)
  obtain ⟨z, hzz⟩ : ∃ z : Int, z = (op : Int) := ⟨_, rfl⟩
  obtain ⟨tx, htx⟩ : ∃ tx, tx = sideT (leftB op) a.op (tokE a) ++ exprWord op :: sideT (strongB op + 1) a2.op (tokE a2) := ⟨_, rfl⟩
  rw [← htx] at P1 ⊢
  have P1' : Hid (Calls Tryz.prog 106 #[.pointer (some ⟨R, 0, none⟩), .agg #[.int .u8 z, .int .i64 i, .string n, .string s, .string p.name, .slice p1 n1 c1, .slice ao 2 cap, .int .i64 pos]] w1 fun e w' => e = .returned (.tuple #[]) ∧ AtW B R T0 G0 (ts ++ tx) w' ∧ WBut B R w1 w') := Lib.hid (by rw [hzz]; exact P1.out)
  rw [← hzz] at x0 hw1' ⊢
  change w1 = w.alloc (.cells #[.int .u8 z, .int .i64 i, .string n, .string s, .string p.name, .slice p1 n1 c1, .slice ao 2 cap, .int .i64 pos] 37) at hw1'
  show Calls Tryz.prog 69 #[.pointer (some ⟨R, 0, none⟩), .agg #[.int .u8 z, .int .i64 i, .string n, .string s, .string p.name, .slice p1 n1 c1, .slice ao 2 cap, .int .i64 pos]] w _
  have x6' : w1.cell? ⟨w.heap.size, 6, none⟩ = some (.slice ao 2 cap) := x6
  have hops : z = 9 ∨ z = 10 ∨ z = 11 ∨ z = 12 ∨ z = 13 ∨ z = 14 ∨ z = 15 ∨ z = 16 ∨ z = 17 := by omega
  clear hop HW HE HX HP HL IH IH2 HA hgB htx hzz P1 hcs x6 k1 hr hn
  rcases hops with rfl | rfl | rfl | rfl | rfl | rfl | rfl | rfl | rfl
  all_goals
    go_enter Tryz.func69, Tryz.ntmps69
    go_upto_region 1 with (fail)
    rw [← hw1']
    clear hw1'
    go_wp2_with fail
    (with_reducible refine (P1'.out).mono ?_)
    rintro e w9 ⟨rfl, h9, b9⟩
    have H9 := Lib.hid h9
    have B9 := Lib.hid (BX.out.trans b9)
    clear h9 b9
    go_wp2
    go_end0
    exact ⟨rfl, H9.out, B9.out⟩
end Go.Proofs.YthilicmhdkmipaaGreatDoor
/- What the writer writes of an expression: case by case. -/
namespace Go.Proofs.YthilicmhdkmipaaGreatDoor
open Go.RowKit
set_option linter.unusedVariables false

theorem boolWord_bytes (i : Int) : (⟨(Lib.formatBool (decide (i = 1))).toArray⟩ : ByteArray) = ⟨(boolWord i).toArray⟩ := by
  unfold boolWord
  by_cases h : i = 1
  · subst h; rfl
  · rw [if_neg h, decide_eq_false h]; rfl
set_option maxRecDepth 100000 in
set_option maxHeartbeats 4000000 in
theorem expr_bool (B R : Nat) (i : Int) (n s : ByteArray) (p : PP) (l : List PE) (pos : Int) : ExprAt B R (.mk 2 i n s p l pos) := by
  intro T0 G0 ts v w hB hW hA hx hL
  obtain ⟨p1, n1, c1, ao, cap, b, o, rfl, ⟨_, hi64, hsn, hss⟩, hp, hn, k1, hr⟩ := hx.parts
  have hRR : R < w.heap.size := hA.lt
  obtain ⟨w1, hw1⟩ : ∃ w1, w1 = w.alloc (.cells ((PE.mk 2 i n s p l pos).cells ⟨.slice p1 n1 c1, .slice ao l.length cap⟩).toArray 37) := ⟨_, rfl⟩
  have bx : Below w.heap.size w w1 := by rw [hw1]; exact new_only _ _
  have hz : w.heap.size < w1.heap.size := by rw [hw1]; simp
  have EB : EBox R w.heap.size (PE.mk 2 i n s p l pos) ⟨.slice p1 n1 c1, .slice ao l.length cap⟩ w1 := by rw [hw1]; exact EBox.new _ _ hRR
  have et : tokE (.mk 2 i n s p l pos) = [boolWord i] := by rw [tokE]; rfl
  rw [et] at hL ⊢
  have hB1 : B ≤ w1.heap.size := by omega
  have BX : Hid (WBut B R w w1) := Lib.hid (WBut.of bx hB (R := R))
  have HW := Lib.hid (hW.below (bx.mono hB))
  have HA := Lib.hid (hA.stays bx)
  have HE := Lib.hid EB
  have HX := Lib.hid (PE.In.below (bx.mono hB) hx)
  have HP := Lib.hid (hp.below (bx.mono hB))
  have HL := Lib.hid hL
  have SG := EB.safe
  have hgB := hW.lt.2
  have x0 : w1.cell? ⟨w.heap.size, 0, none⟩ = some (.int .u8 2) := EB.has 0 _ rfl
  have x1 : w1.cell? ⟨w.heap.size, 1, none⟩ = some (.int .i64 i) := EB.has 1 _ rfl
  have x2 : w1.cell? ⟨w.heap.size, 2, none⟩ = some (.string n) := EB.has 2 _ rfl
  have x3 : w1.cell? ⟨w.heap.size, 3, none⟩ = some (.string s) := EB.has 3 _ rfl
  have x4 : w1.cell? ⟨w.heap.size, 4, none⟩ = some (.string p.name) := EB.has 4 _ rfl
  have x5 : w1.cell? ⟨w.heap.size, 5, none⟩ = some (.slice p1 n1 c1) := EB.has 5 _ rfl
  have x6 : w1.cell? ⟨w.heap.size, 6, none⟩ = some (.slice ao l.length cap) := EB.has 6 _ rfl
  have x7 : w1.cell? ⟨w.heap.size, 7, none⟩ = some (.int .i64 pos) := EB.has 7 _ rfl
  show Calls Tryz.prog 69 #[.pointer (some ⟨R, 0, none⟩), .agg #[.int .u8 2, .int .i64 i, .string n, .string s, .string p.name, .slice p1 n1 c1, .slice ao l.length cap, .int .i64 pos]] w _
  have hw1' : w1 = w.alloc (.cells #[.int .u8 2, .int .i64 i, .string n, .string s, .string p.name, .slice p1 n1 c1, .slice ao l.length cap, .int .i64 pos] 37) := hw1
  clear hw1 hW hA hx hp hL EB et bx
  have HI := Lib.hid (fun (W : World) => Tryz.strconv_FormatBool (i == 1) W)
  have ek : kT ⟨(boolWord i).toArray⟩ = boolWord i := kT_mk _
  obtain ⟨D, hD⟩ : ∃ D : ByteArray, D = ⟨(boolWord i).toArray⟩ := ⟨_, rfl⟩
  have hbw : (⟨(Lib.formatBool (i == 1)).toArray⟩ : ByteArray) = D := by rw [hD]; exact boolWord_bytes i
  have hsz : D.size ≤ maxLen := by
    rw [hD]; show (boolWord i).toArray.size ≤ _
    rw [List.size_toArray]
    unfold boolWord maxLen; split <;> decide
  rw [← hD] at ek
  simp only [hbw] at HI
  have C2 := Lib.hid (put1_calls B R D T0 G0 ts _ w1 (new_drew w1 (.cells #[.string D] 9)) (drew_new w1 _) hB1 HA.out hsz (by rw [ek]; exact HL.out))
  rw [ek] at C2
  clear hD ek hbw
  go_enter Tryz.func69, Tryz.ntmps69
  go_upto_region 1 with (fail)
  rw [← hw1']
  clear hw1'
  go_upto_region 6 with (fail)
  go_region_held3 (fun w' => w'.cell? ⟨w.heap.size, 1, none⟩ = some (.int .i64 i)) (first | exact x1 | exact (low_new w1 _ _ _ hz).trans x1 | exact XB)
    (first
      | (go_at_call 100; (with_reducible refine (HI.out _).mono ?_)
         rintro e w2 ⟨rfl, rfl⟩)
      | (go_at_call 98; (with_reducible refine (C2.out).mono ?_)
         rintro e w9 ⟨rfl, h9, b9⟩
         have H9 := Lib.hid h9
         have B9 := Lib.hid (BX.out.trans b9)
         have XB := (SG.cell b9 1).trans x1
         clear h9 b9))
  all_goals
    go_wp2
    go_end0
    exact ⟨rfl, H9.out, B9.out⟩
end Go.Proofs.YthilicmhdkmipaaGreatDoor
