/- What the writer writes of an expression: case by case. -/
import Derived.Test.YthilicmhdkmipaaGreatDoorWJoinAP
import Derived.Test.YthilicmhdkmipaaGreatDoorWJoinAJ
import Derived.Test.YthilicmhdkmipaaGreatDoorShelf
import Derived.Lib.ItoaLen
namespace Go.Proofs.YthilicmhdkmipaaGreatDoor
open Go.RowKit
set_option linter.unusedVariables false

set_option maxRecDepth 100000 in
set_option maxHeartbeats 4000000 in
theorem expr_call (B R : Nat) (i : Int) (n s : ByteArray) (p : PP) (l : List PE) (pos : Int) (IH : ∀ x ∈ l, ExprAt B R x) : ExprAt B R (.mk 18 i n s p l pos) := by
  intro T0 G0 ts v w hB hW hA hx hL
  obtain ⟨p1, n1, c1, ao, cap, b, o, rfl, ⟨_, hi64, hsn, hss⟩, hp, hn, k1, hr⟩ := hx.parts
  have hRR : R < w.heap.size := hA.lt
  obtain ⟨w1, hw1⟩ : ∃ w1, w1 = w.alloc (.cells ((PE.mk 18 i n s p l pos).cells ⟨.slice p1 n1 c1, .slice ao l.length cap⟩).toArray 37) := ⟨_, rfl⟩
  have bx : Below w.heap.size w w1 := by rw [hw1]; exact new_only _ _
  have hz : w.heap.size < w1.heap.size := by rw [hw1]; simp
  have EB : EBox R w.heap.size (PE.mk 18 i n s p l pos) ⟨.slice p1 n1 c1, .slice ao l.length cap⟩ w1 := by rw [hw1]; exact EBox.new _ _ hRR
  have et : tokE (.mk 18 i n s p l pos) = kT n :: wOpen :: (joinT (tokEs l) ++ [wEnd]) := by rw [tokE]; rfl
  rw [et] at hL ⊢
  have hB1 : B ≤ w1.heap.size := by omega
  have BX : Hid (WBut B R w w1) := Lib.hid (WBut.of bx hB (R := R))
  have HW := Lib.hid (hW.below (bx.mono hB))
  have HA := Lib.hid (hA.stays bx)
  have HE := Lib.hid EB
  have HX := Lib.hid (PE.In.below (bx.mono hB) hx)
  have HP := Lib.hid (hp.below (bx.mono hB))
  have HL := Lib.hid hL
  have SG := EB.safe
  have hgB := hW.lt.2
  have x0 : w1.cell? ⟨w.heap.size, 0, none⟩ = some (.int .u8 18) := EB.has 0 _ rfl
  have x1 : w1.cell? ⟨w.heap.size, 1, none⟩ = some (.int .i64 i) := EB.has 1 _ rfl
  have x2 : w1.cell? ⟨w.heap.size, 2, none⟩ = some (.string n) := EB.has 2 _ rfl
  have x3 : w1.cell? ⟨w.heap.size, 3, none⟩ = some (.string s) := EB.has 3 _ rfl
  have x4 : w1.cell? ⟨w.heap.size, 4, none⟩ = some (.string p.name) := EB.has 4 _ rfl
  have x5 : w1.cell? ⟨w.heap.size, 5, none⟩ = some (.slice p1 n1 c1) := EB.has 5 _ rfl
  have x6 : w1.cell? ⟨w.heap.size, 6, none⟩ = some (.slice ao l.length cap) := EB.has 6 _ rfl
  have x7 : w1.cell? ⟨w.heap.size, 7, none⟩ = some (.int .i64 pos) := EB.has 7 _ rfl
  show Calls Tryz.prog 69 #[.pointer (some ⟨R, 0, none⟩), .agg #[.int .u8 18, .int .i64 i, .string n, .string s, .string p.name, .slice p1 n1 c1, .slice ao l.length cap, .int .i64 pos]] w _
  have hw1' : w1 = w.alloc (.cells #[.int .u8 18, .int .i64 i, .string n, .string s, .string p.name, .slice p1 n1 c1, .slice ao l.length cap, .int .i64 pos] 37) := hw1
  clear hw1 hW hA hx hp hL EB et bx
  have e1 : ts ++ kT n :: wOpen :: (joinT (tokEs l) ++ [wEnd]) = ((ts ++ [kT n, wOpen]) ++ joinT (tokEs l)) ++ [wEnd] := by simp
  have HL' : Hid (Lim T0 G0 (((ts ++ [kT n, wOpen]) ++ joinT (tokEs l)) ++ [wEnd])) := Lib.hid (by rw [← e1]; exact HL.out)
  rw [e1]
  clear e1 HL
  have P1 := Lib.hid (put2_calls B R n ⟨#[40]⟩ T0 G0 ts _ w1 (new_drew w1 (.cells #[.string n, .string ⟨#[40]⟩] 9)) (drew_new w1 _) hB1 HA.out hsn (by decide) HL'.out.less.less)
  have HR := Lib.hid hr
  go_enter Tryz.func69, Tryz.ntmps69
  go_upto_region 1 with (fail)
  rw [← hw1']
  clear hw1'
  go_upto_region 18 with (fail)
  go_cut [3] from 67 to 74 (fun s3 wx => s3 = .pointer (some ⟨w.heap.size, 0, none⟩) ∧ Hid (AtW B R T0 G0 (ts ++ [kT n, wOpen]) wx) ∧ Hid (WBut B R w1 wx))
  case first =>
    go_region_held3 (fun w' => w'.cell? ⟨w.heap.size, 2, none⟩ = some (.string n)) (first | exact x2 | exact (low_new w1 _ _ _ hz).trans x2 | exact XB)
      (first
        | (go_at_call 98; (with_reducible refine (P1.out).mono ?_)
           rintro e w2 ⟨rfl, h1, b1⟩
           have H1 := Lib.hid h1
           have B1 := Lib.hid b1
           have XB := (SG.cell b1 2).trans x2
           clear h1 b1))
    go_wp2_with fail
    go_meet
    case rel => exact ⟨rfl, H1, B1⟩
  case rest =>
    obtain ⟨rfl, H1, B1⟩ := hcut
    have B2 := Lib.hid (BX.out.trans B1.out)
    have y5 := (SG.cell B1.out 5).trans x5
    have y6 := (SG.cell B1.out 6).trans x6
    have hz2 := (SG.but B1.out).lt
    have hB2 : B ≤ wc.heap.size := Nat.le_trans hB B2.out.size
    have HRR : Hid (PE.Row B wc b o l) := Lib.hid (by
      rcases k1 with h | ⟨_, h⟩
      · have : l = [] := List.length_eq_zero_iff.1 h
        subst this; trivial
      · exact PE.Row.below B2.out.bel h HR.out)
    have P2 := Lib.hid (exprs_calls B R l IH T0 G0 (ts ++ [kT n, wOpen]) (.slice ao l.length cap) b o wc hB2 (HW.out.below B1.out.bel) H1.out ⟨hn, _, _, rfl, k1⟩ HRR.out HL'.out.less)
    clear P1 x0 x1 x2 x3 x4 x5 x6 x7 SG H1
    go_wp2_with fail
    (with_reducible refine (P2.out).mono ?_)
    rintro e w3 ⟨rfl, h3, b3⟩
    have B3 := Lib.hid (B2.out.trans b3)
    have P3 := Lib.hid (put1_calls B R ⟨#[41]⟩ T0 G0 ((ts ++ [kT n, wOpen]) ++ joinT (tokEs l)) _ w3 (new_only w3 (.cells #[.string ⟨#[41]⟩] 9)) (heap_alloc_new w3 _) (Nat.le_trans hB B3.out.size) h3 (by decide) HL'.out)
    clear h3 b3 P2 y5 y6
    go_wp2_with fail
    (with_reducible refine (P3.out).mono ?_)
    rintro e w9 ⟨rfl, h9, b9⟩
    have H9 := Lib.hid h9
    have B9 := Lib.hid (B3.out.trans b9)
    clear h9 b9
    go_wp2
    go_end0
    exact ⟨rfl, H9.out, B9.out⟩
end Go.Proofs.YthilicmhdkmipaaGreatDoor
/- What the writer writes of an expression: case by case. -/
namespace Go.Proofs.YthilicmhdkmipaaGreatDoor
open Go.RowKit
set_option linter.unusedVariables false

set_option maxRecDepth 100000 in
set_option maxHeartbeats 4000000 in
theorem expr_struct (B R : Nat) (i : Int) (n s : ByteArray) (p : PP) (l : List PE) (pos : Int) (hlen : p.path.length = l.length) (IH : ∀ x ∈ l, ExprAt B R x) : ExprAt B R (.mk 19 i n s p l pos) := by
  intro T0 G0 ts v w hB hW hA hx hL
  obtain ⟨p1, n1, c1, ao, cap, b, o, rfl, ⟨_, hi64, hsn, hss⟩, hp, hn, k1, hr⟩ := hx.parts
  have hRR : R < w.heap.size := hA.lt
  obtain ⟨w1, hw1⟩ : ∃ w1, w1 = w.alloc (.cells ((PE.mk 19 i n s p l pos).cells ⟨.slice p1 n1 c1, .slice ao l.length cap⟩).toArray 37) := ⟨_, rfl⟩
  have bx : Below w.heap.size w w1 := by rw [hw1]; exact new_only _ _
  have hz : w.heap.size < w1.heap.size := by rw [hw1]; simp
  have EB : EBox R w.heap.size (PE.mk 19 i n s p l pos) ⟨.slice p1 n1 c1, .slice ao l.length cap⟩ w1 := by rw [hw1]; exact EBox.new _ _ hRR
  have et : tokE (.mk 19 i n s p l pos) = kT n :: wLeft :: (joinT (pairsT p.path (tokEs l)) ++ [wRight]) := by rw [tokE]; rfl
  rw [et] at hL ⊢
  have hB1 : B ≤ w1.heap.size := by omega
  have BX : Hid (WBut B R w w1) := Lib.hid (WBut.of bx hB (R := R))
  have HW := Lib.hid (hW.below (bx.mono hB))
  have HA := Lib.hid (hA.stays bx)
  have HE := Lib.hid EB
  have HX := Lib.hid (PE.In.below (bx.mono hB) hx)
  have HP := Lib.hid (hp.below (bx.mono hB))
  have HL := Lib.hid hL
  have SG := EB.safe
  have hgB := hW.lt.2
  have x0 : w1.cell? ⟨w.heap.size, 0, none⟩ = some (.int .u8 19) := EB.has 0 _ rfl
  have x1 : w1.cell? ⟨w.heap.size, 1, none⟩ = some (.int .i64 i) := EB.has 1 _ rfl
  have x2 : w1.cell? ⟨w.heap.size, 2, none⟩ = some (.string n) := EB.has 2 _ rfl
  have x3 : w1.cell? ⟨w.heap.size, 3, none⟩ = some (.string s) := EB.has 3 _ rfl
  have x4 : w1.cell? ⟨w.heap.size, 4, none⟩ = some (.string p.name) := EB.has 4 _ rfl
  have x5 : w1.cell? ⟨w.heap.size, 5, none⟩ = some (.slice p1 n1 c1) := EB.has 5 _ rfl
  have x6 : w1.cell? ⟨w.heap.size, 6, none⟩ = some (.slice ao l.length cap) := EB.has 6 _ rfl
  have x7 : w1.cell? ⟨w.heap.size, 7, none⟩ = some (.int .i64 pos) := EB.has 7 _ rfl
  show Calls Tryz.prog 69 #[.pointer (some ⟨R, 0, none⟩), .agg #[.int .u8 19, .int .i64 i, .string n, .string s, .string p.name, .slice p1 n1 c1, .slice ao l.length cap, .int .i64 pos]] w _
  have hw1' : w1 = w.alloc (.cells #[.int .u8 19, .int .i64 i, .string n, .string s, .string p.name, .slice p1 n1 c1, .slice ao l.length cap, .int .i64 pos] 37) := hw1
  clear hw1 hW hA hx hp hL EB et bx
  have e1 : ts ++ kT n :: wLeft :: (joinT (pairsT p.path (tokEs l)) ++ [wRight]) = ((ts ++ [kT n, wLeft]) ++ joinT (pairsT p.path (tokEs l))) ++ [wRight] := by simp
  have HL' : Hid (Lim T0 G0 (((ts ++ [kT n, wLeft]) ++ joinT (pairsT p.path (tokEs l))) ++ [wRight])) := Lib.hid (by rw [← e1]; exact HL.out)
  rw [e1]
  clear e1 HL
  have P1 := Lib.hid (put2_calls B R n ⟨#[123]⟩ T0 G0 ts _ w1 (new_drew w1 (.cells #[.string n, .string ⟨#[123]⟩] 9)) (drew_new w1 _) hB1 HA.out hsn (by decide) HL'.out.less.less)
  have HR := Lib.hid hr
  go_enter Tryz.func69, Tryz.ntmps69
  go_upto_region 1 with (fail)
  rw [← hw1']
  clear hw1'
  go_upto_region 22 with (fail)
  go_cut [3] from 85 to 92 (fun s3 wx => s3 = .pointer (some ⟨w.heap.size, 0, none⟩) ∧ Hid (AtW B R T0 G0 (ts ++ [kT n, wLeft]) wx) ∧ Hid (WBut B R w1 wx))
  case first =>
    go_region_held3 (fun w' => w'.cell? ⟨w.heap.size, 2, none⟩ = some (.string n)) (first | exact x2 | exact (low_new w1 _ _ _ hz).trans x2 | exact XB)
      (first
        | (go_at_call 98; (with_reducible refine (P1.out).mono ?_)
           rintro e w2 ⟨rfl, h1, b1⟩
           have H1 := Lib.hid h1
           have B1 := Lib.hid b1
           have XB := (SG.cell b1 2).trans x2
           clear h1 b1))
    go_wp2_with fail
    go_meet
    case rel => exact ⟨rfl, H1, B1⟩
  case rest =>
    obtain ⟨rfl, H1, B1⟩ := hcut
    have B2 := Lib.hid (BX.out.trans B1.out)
    have y5 := (SG.cell B1.out 5).trans x5
    have y6 := (SG.cell B1.out 6).trans x6
    have hz2 := (SG.but B1.out).lt
    have hB2 : B ≤ wc.heap.size := Nat.le_trans hB B2.out.size
    have HRR : Hid (PE.Row B wc b o l) := Lib.hid (by
      rcases k1 with h | ⟨_, h⟩
      · have : l = [] := List.length_eq_zero_iff.1 h
        subst this; trivial
      · exact PE.Row.below B2.out.bel h HR.out)
    obtain ⟨bp, op, hsl, hrp⟩ := HP.out.2
    have P2 := Lib.hid (pairs_calls B R p.path l hlen IH T0 G0 (ts ++ [kT n, wLeft]) (.slice p1 n1 c1) (.slice ao l.length cap) bp op b o wc hB2 (HW.out.below B1.out.bel) H1.out hsl (NRow.below' (B1.out.bel) hsl hrp) ⟨hn, _, _, rfl, k1⟩ HRR.out HL'.out.less)
    clear P1 x0 x1 x2 x3 x4 x5 x6 x7 SG H1
    go_wp2_with fail
    (with_reducible refine (P2.out).mono ?_)
    rintro e w3 ⟨rfl, h3, b3⟩
    have B3 := Lib.hid (B2.out.trans b3)
    have P3 := Lib.hid (put1_calls B R ⟨#[125]⟩ T0 G0 ((ts ++ [kT n, wLeft]) ++ joinT (pairsT p.path (tokEs l))) _ w3 (new_only w3 (.cells #[.string ⟨#[125]⟩] 9)) (heap_alloc_new w3 _) (Nat.le_trans hB B3.out.size) h3 (by decide) HL'.out)
    clear h3 b3 P2 y5 y6
    go_wp2_with fail
    (with_reducible refine (P3.out).mono ?_)
    rintro e w9 ⟨rfl, h9, b9⟩
    have H9 := Lib.hid h9
    have B9 := Lib.hid (B3.out.trans b9)
    clear h9 b9
    go_wp2
    go_end0
    exact ⟨rfl, H9.out, B9.out⟩
end Go.Proofs.YthilicmhdkmipaaGreatDoor
/- What the writer writes of an expression: case by case. -/
namespace Go.Proofs.YthilicmhdkmipaaGreatDoor
open Go.RowKit
set_option linter.unusedVariables false

set_option maxRecDepth 100000 in
set_option maxHeartbeats 4000000 in
theorem expr_worded (B R : Nat) (op : Nat) (hop : 21 ≤ op ∧ op ≤ 36) (i : Int) (n s : ByteArray) (p : PP) (l : List PE) (pos : Int) (hl : l.length ≤ 1) (hpl : p.name.size = 0 → l.length = 1) (IH : ∀ x ∈ l, ExprAt B R x) : ExprAt B R (.mk (op : Int) i n s p l pos) := by
  intro T0 G0 ts v w hB hW hA hx hL
  obtain ⟨p1, n1, c1, ao, cap, b, o, rfl, ⟨_, hi64, hsn, hss⟩, hp, hn, k1, hr⟩ := hx.parts
  have hRR : R < w.heap.size := hA.lt
  obtain ⟨w1, hw1⟩ : ∃ w1, w1 = w.alloc (.cells ((PE.mk (op : Int) i n s p l pos).cells ⟨.slice p1 n1 c1, .slice ao l.length cap⟩).toArray 37) := ⟨_, rfl⟩
  have bx : Below w.heap.size w w1 := by rw [hw1]; exact new_only _ _
  have hz : w.heap.size < w1.heap.size := by rw [hw1]; simp
  have EB : EBox R w.heap.size (PE.mk (op : Int) i n s p l pos) ⟨.slice p1 n1 c1, .slice ao l.length cap⟩ w1 := by rw [hw1]; exact EBox.new _ _ hRR
  have et : tokE (.mk (op : Int) i n s p l pos) = exprWord (op : Int) :: wOpen :: (placeT p (tokEs l) ++ [wEnd]) := by rw [tokE, if_neg (by omega), if_neg (by omega), if_neg (by omega), if_neg (by omega), if_neg (by omega), if_neg (by omega), if_neg (by omega), if_neg (by omega), if_neg (by omega), if_neg (by omega), if_neg (by omega)]
  rw [et] at hL ⊢
  have hB1 : B ≤ w1.heap.size := by omega
  have BX : Hid (WBut B R w w1) := Lib.hid (WBut.of bx hB (R := R))
  have HW := Lib.hid (hW.below (bx.mono hB))
  have HA := Lib.hid (hA.stays bx)
  have HE := Lib.hid EB
  have HX := Lib.hid (PE.In.below (bx.mono hB) hx)
  have HP := Lib.hid (hp.below (bx.mono hB))
  have HL := Lib.hid hL
  have SG := EB.safe
  have hgB := hW.lt.2
  have x0 : w1.cell? ⟨w.heap.size, 0, none⟩ = some (.int .u8 (op : Int)) := EB.has 0 _ rfl
  have x1 : w1.cell? ⟨w.heap.size, 1, none⟩ = some (.int .i64 i) := EB.has 1 _ rfl
  have x2 : w1.cell? ⟨w.heap.size, 2, none⟩ = some (.string n) := EB.has 2 _ rfl
  have x3 : w1.cell? ⟨w.heap.size, 3, none⟩ = some (.string s) := EB.has 3 _ rfl
  have x4 : w1.cell? ⟨w.heap.size, 4, none⟩ = some (.string p.name) := EB.has 4 _ rfl
  have x5 : w1.cell? ⟨w.heap.size, 5, none⟩ = some (.slice p1 n1 c1) := EB.has 5 _ rfl
  have x6 : w1.cell? ⟨w.heap.size, 6, none⟩ = some (.slice ao l.length cap) := EB.has 6 _ rfl
  have x7 : w1.cell? ⟨w.heap.size, 7, none⟩ = some (.int .i64 pos) := EB.has 7 _ rfl
  show Calls Tryz.prog 69 #[.pointer (some ⟨R, 0, none⟩), .agg #[.int .u8 (op : Int), .int .i64 i, .string n, .string s, .string p.name, .slice p1 n1 c1, .slice ao l.length cap, .int .i64 pos]] w _
  have hw1' : w1 = w.alloc (.cells #[.int .u8 (op : Int), .int .i64 i, .string n, .string s, .string p.name, .slice p1 n1 c1, .slice ao l.length cap, .int .i64 pos] 37) := hw1
  clear hw1 hW hA hx hp hL EB et bx
  have P1 := Lib.hid (wordedW_calls B R op (by omega) i n s p l pos hl hpl IH T0 G0 ts _ w1 hB1 HW.out HA.out HX.out HL.out)
  have P1' : Hid (Calls Tryz.prog 107 #[.pointer (some ⟨R, 0, none⟩), .agg #[.int .u8 (op : Int), .int .i64 i, .string n, .string s, .string p.name, .slice p1 n1 c1, .slice ao l.length cap, .int .i64 pos]] w1 fun e w' => e = .returned (.tuple #[]) ∧ AtW B R T0 G0 (ts ++ (exprWord (op : Int) :: wOpen :: (placeT p (tokEs l) ++ [wEnd]))) w' ∧ WBut B R w1 w') := Lib.hid P1.out
  clear P1
  have n1 : (op : Int) ≠ 1 := by omega
  have n2 : (op : Int) ≠ 2 := by omega
  have n3 : (op : Int) ≠ 3 := by omega
  have n4 : (op : Int) ≠ 4 := by omega
  have n5 : (op : Int) ≠ 5 := by omega
  have n6 : (op : Int) ≠ 6 := by omega
  have n7 : (op : Int) ≠ 7 := by omega
  have n8 : (op : Int) ≠ 8 := by omega
  have n9 : (op : Int) ≠ 9 := by omega
  have n10 : (op : Int) ≠ 10 := by omega
  have n11 : (op : Int) ≠ 11 := by omega
  have n12 : (op : Int) ≠ 12 := by omega
  have n13 : (op : Int) ≠ 13 := by omega
  have n14 : (op : Int) ≠ 14 := by omega
  have n15 : (op : Int) ≠ 15 := by omega
  have n16 : (op : Int) ≠ 16 := by omega
  have n17 : (op : Int) ≠ 17 := by omega
  have n18 : (op : Int) ≠ 18 := by omega
  have n19 : (op : Int) ≠ 19 := by omega
  have n20 : (op : Int) ≠ 20 := by omega
  clear hop HW HE HX HP HL IH HA hgB
  generalize exprWord (op : Int) :: wOpen :: (placeT p (tokEs l) ++ [wEnd]) = tx at *
  generalize (op : Int) = z at *
  go_enter Tryz.func69, Tryz.ntmps69
  go_upto_region 1 with (fail)
  rw [← hw1']
  clear hw1'
  go_wp2_with fail
  (with_reducible refine (P1'.out).mono ?_)
  rintro e w9 ⟨rfl, h9, b9⟩
  have H9 := Lib.hid h9
  have B9 := Lib.hid (BX.out.trans b9)
  clear h9 b9
  go_wp2
  go_end0
  exact ⟨rfl, H9.out, B9.out⟩
end Go.Proofs.YthilicmhdkmipaaGreatDoor
/- What the writer writes of an expression: case by case. -/
namespace Go.Proofs.YthilicmhdkmipaaGreatDoor
open Go.RowKit
set_option linter.unusedVariables false

theorem i64_ge {x : Int} (h : I64 x) : -9223372036854775808 ≤ x := by
  unfold I64 at h
  simp only [Lit.wf, Bool.and_eq_true, decide_eq_true_eq] at h
  have b : IntKind.i64.min = -9223372036854775808 := by decide
  omega
/-- new blocks and draws leave all that was there -/
theorem below_growW {w : World} (k : Nat) (os : Array Obj) : Below w.heap.size w (Sort.grow (w.drewN k) os) := by
  refine ⟨rfl, rfl, rfl, ?_, ?_⟩
  · show w.heap.size ≤ (w.heap ++ os).size
    simp
  · intro j hj
    show (w.heap ++ os)[j]? = w.heap[j]?
    rw [Array.getElem?_append_left hj]
theorem grow_belowW {w1 w2 : World} {k : Nat} {os : Array Obj} (h : w2 = Sort.grow (w1.drew.drewN k) os) : Below w1.heap.size w1 w2 := by
  rw [h]
  exact (Below.refl _ w1).drew.trans (below_growW (w := w1.drew) k os)
set_option maxRecDepth 100000 in
set_option maxHeartbeats 4000000 in
theorem expr_int (B R : Nat) (i : Int) (n s : ByteArray) (p : PP) (l : List PE) (pos : Int) : ExprAt B R (.mk 1 i n s p l pos) := by
  intro T0 G0 ts v w hB hW hA hx hL
  obtain ⟨p1, n1, c1, ao, cap, b, o, rfl, ⟨_, hi64, hsn, hss⟩, hp, hn, k1, hr⟩ := hx.parts
  have hRR : R < w.heap.size := hA.lt
  obtain ⟨w1, hw1⟩ : ∃ w1, w1 = w.alloc (.cells ((PE.mk 1 i n s p l pos).cells ⟨.slice p1 n1 c1, .slice ao l.length cap⟩).toArray 37) := ⟨_, rfl⟩
  have bx : Below w.heap.size w w1 := by rw [hw1]; exact new_only _ _
  have hz : w.heap.size < w1.heap.size := by rw [hw1]; simp
  have EB : EBox R w.heap.size (PE.mk 1 i n s p l pos) ⟨.slice p1 n1 c1, .slice ao l.length cap⟩ w1 := by rw [hw1]; exact EBox.new _ _ hRR
  have et : tokE (.mk 1 i n s p l pos) = [Lib.itoa i] := by rw [tokE]; rfl
  rw [et] at hL ⊢
  have hB1 : B ≤ w1.heap.size := by omega
  have BX : Hid (WBut B R w w1) := Lib.hid (WBut.of bx hB (R := R))
  have HW := Lib.hid (hW.below (bx.mono hB))
  have HA := Lib.hid (hA.stays bx)
  have HE := Lib.hid EB
  have HX := Lib.hid (PE.In.below (bx.mono hB) hx)
  have HP := Lib.hid (hp.below (bx.mono hB))
  have HL := Lib.hid hL
  have SG := EB.safe
  have hgB := hW.lt.2
  have x0 : w1.cell? ⟨w.heap.size, 0, none⟩ = some (.int .u8 1) := EB.has 0 _ rfl
  have x1 : w1.cell? ⟨w.heap.size, 1, none⟩ = some (.int .i64 i) := EB.has 1 _ rfl
  have x2 : w1.cell? ⟨w.heap.size, 2, none⟩ = some (.string n) := EB.has 2 _ rfl
  have x3 : w1.cell? ⟨w.heap.size, 3, none⟩ = some (.string s) := EB.has 3 _ rfl
  have x4 : w1.cell? ⟨w.heap.size, 4, none⟩ = some (.string p.name) := EB.has 4 _ rfl
  have x5 : w1.cell? ⟨w.heap.size, 5, none⟩ = some (.slice p1 n1 c1) := EB.has 5 _ rfl
  have x6 : w1.cell? ⟨w.heap.size, 6, none⟩ = some (.slice ao l.length cap) := EB.has 6 _ rfl
  have x7 : w1.cell? ⟨w.heap.size, 7, none⟩ = some (.int .i64 pos) := EB.has 7 _ rfl
  show Calls Tryz.prog 69 #[.pointer (some ⟨R, 0, none⟩), .agg #[.int .u8 1, .int .i64 i, .string n, .string s, .string p.name, .slice p1 n1 c1, .slice ao l.length cap, .int .i64 pos]] w _
  have hw1' : w1 = w.alloc (.cells #[.int .u8 1, .int .i64 i, .string n, .string s, .string p.name, .slice p1 n1 c1, .slice ao l.length cap, .int .i64 pos] 37) := hw1
  clear hw1 hW hA hx hp hL EB et bx
  have h0 : -9223372036854775808 ≤ i := i64_ge hi64
  have h1 : i ≤ 9223372036854775807 := i64_lt hi64
  have HI := Lib.hid (fun (W : World) (k : Below B w1 W) => Tryz.strconv_FormatInt_10 i h0 h1 W (HW.out.tens W k))
  have hsz : (⟨(Lib.itoa i).toArray⟩ : ByteArray).size ≤ maxLen := by
    show (Lib.itoa i).toArray.size ≤ _
    rw [List.size_toArray]
    have := Lib.itoa_length_le i h0 h1
    unfold maxLen; omega
  have ek : kT ⟨(Lib.itoa i).toArray⟩ = Lib.itoa i := kT_mk _
  obtain ⟨D, hD⟩ : ∃ D : ByteArray, D = ⟨(Lib.itoa i).toArray⟩ := ⟨_, rfl⟩
  rw [← hD] at hsz ek HI
  have HP1 := Lib.hid (fun (W : World) h1 h2 => put1_calls B R D T0 G0 ts _ W (new_only W (.cells #[.string D] 9)) (heap_alloc_new W _) h1 h2 hsz (by rw [ek]; exact HL.out))
  rw [ek] at HP1
  clear hD ek
  generalize Lib.itoa i = dg at *
  go_enter Tryz.func69, Tryz.ntmps69
  go_upto_region 1 with (fail)
  rw [← hw1']
  clear hw1'
  go_upto_region 4 with (fail)
  have hd : Below B w1 w1.drew := (Below.refl _ w1).drew.mono hB1
  go_region_held3 (fun w' => w'.cell? ⟨w.heap.size, 1, none⟩ = some (.int .i64 i)) (first | exact x1 | exact XA | exact (low_new w2 _ _ _ hz2).trans XA | exact XB)
    (first
      | (go_at_call 99; (with_reducible refine (HI.out _ hd).mono ?_)
         rintro e w2 ⟨rfl, k, os, hw2⟩
         have b2 := grow_belowW hw2
         clear hw2
         have hz2 : w.heap.size < w2.heap.size := Nat.lt_of_lt_of_le hz b2.size
         have XA := (b2.cell (p := ⟨w.heap.size, 1, none⟩) hz).trans x1
         have C2 := Lib.hid (HP1.out w2 (Nat.le_trans hB1 b2.size) (HA.out.stays b2))
         have B2 := Lib.hid (BX.out.trans (WBut.of b2 hB1))
         have B2K := Lib.hid b2
         clear b2)
      | (go_at_call 98; (with_reducible refine (C2.out).mono ?_)
         rintro e w9 ⟨rfl, h9, b9⟩
         have H9 := Lib.hid h9
         have B9 := Lib.hid (B2.out.trans b9)
         have XB : w9.cell? ⟨w.heap.size, 1, none⟩ = some (.int .i64 i) := ((SG.but (WBut.of B2K.out hB1)).cell b9 1).trans XA
         clear h9 b9))
  all_goals
    go_wp2
    go_end0
    exact ⟨rfl, H9.out, B9.out⟩
end Go.Proofs.YthilicmhdkmipaaGreatDoor
