/- What the writer writes of an expression: case by case. -/
import Derived.Test.YthilicmhdkmipaaGreatDoorIJoinAC
import Derived.Test.YthilicmhdkmipaaGreatDoorIJoinAB
import Derived.Test.YthilicmhdkmipaaGreatDoorShelf
import Derived.Lib.ItoaLen
import Derived.Test.YthilicmhdkmipaaGreatDoorIJoinAG
namespace Go.Proofs.YthilicmhdkmipaaGreatDoor
open Go.RowKit
set_option linter.unusedVariables false

set_option maxRecDepth 100000 in
set_option maxHeartbeats 4000000 in
theorem expr_call (B R : Nat) (i : Int) (n s : ByteArray) (p : PP) (l : List PE) (pos : Int) (IH : ∀ x ∈ l, ExprAt B R x) : ExprAt B R (.mk 18 i n s p l pos) := by
  intro T0 G0 ts v w hB hW hA hx hL
  obtain ⟨p1, n1, c1, ao, cap, b, o, rfl, ⟨_, hi64, hsn, hss⟩, hp, hn, k1, hr⟩ := hx.parts
  have hRR : R < w.heap.size := hA.lt
  obtain ⟨w1, hw1⟩ : ∃ w1, w1 = w.alloc (.cells ((PE.mk 18 i n s p l pos).cells ⟨.slice p1 n1 c1, .slice ao l.length cap⟩).toArray 37) := ⟨_, rfl⟩
  have bx : Below w.heap.size w w1 := by rw [hw1]; exact new_only _ _
  have hz : w.heap.size < w1.heap.size := by rw [hw1]; simp
  have EB : EBox R w.heap.size (PE.mk 18 i n s p l pos) ⟨.slice p1 n1 c1, .slice ao l.length cap⟩ w1 := by rw [hw1]; exact EBox.new _ _ hRR
  have et : tokE (.mk 18 i n s p l pos) = kT n :: wOpen :: (joinT (tokEs l) ++ [wEnd]) := by rw [tokE]; rfl
  rw [et] at hL ⊢
  have hB1 : B ≤ w1.heap.size := by omega
  have BX : Hid (WBut B R w w1) := Lib.hid (WBut.of bx hB (R := R))
  have HW := Lib.hid (hW.below (bx.mono hB))
  have HA := Lib.hid (hA.stays bx)
  have HE := Lib.hid EB
  have HX := Lib.hid (PE.In.below (bx.mono hB) hx)
  have HP := Lib.hid (hp.below (bx.mono hB))
  have HL := Lib.hid hL
  have SG := EB.safe
  have hgB := hW.lt.2
  have x0 : w1.cell? ⟨w.heap.size, 0, none⟩ = some (.int .u8 18) := EB.has 0 _ rfl
  have x1 : w1.cell? ⟨w.heap.size, 1, none⟩ = some (.int .i64 i) := EB.has 1 _ rfl
  have x2 : w1.cell? ⟨w.heap.size, 2, none⟩ = some (.string n) := EB.has 2 _ rfl
  have x3 : w1.cell? ⟨w.heap.size, 3, none⟩ = some (.string s) := EB.has 3 _ rfl
  have x4 : w1.cell? ⟨w.heap.size, 4, none⟩ = some (.string p.name) := EB.has 4 _ rfl
  have x5 : w1.cell? ⟨w.heap.size, 5, none⟩ = some (.slice p1 n1 c1) := EB.has 5 _ rfl
  have x6 : w1.cell? ⟨w.heap.size, 6, none⟩ = some (.slice ao l.length cap) := EB.has 6 _ rfl
  have x7 : w1.cell? ⟨w.heap.size, 7, none⟩ = some (.int .i64 pos) := EB.has 7 _ rfl
  show Calls Tryz.prog 69 #[.pointer (some ⟨R, 0, none⟩), .agg #[.int .u8 18, .int .i64 i, .string n, .string s, .string p.name, .slice p1 n1 c1, .slice ao l.length cap, .int .i64 pos]] w _
  have hw1' : w1 = w.alloc (.cells #[.int .u8 18, .int .i64 i, .string n, .string s, .string p.name, .slice p1 n1 c1, .slice ao l.length cap, .int .i64 pos] 37) := hw1
  clear hw1 hW hA hx hp hL EB et bx
  have e1 : ts ++ kT n :: wOpen :: (joinT (tokEs l) ++ [wEnd]) = ((ts ++ [kT n, wOpen]) ++ joinT (tokEs l)) ++ [wEnd] := by simp
  have HL' : Hid (Lim T0 G0 (((ts ++ [kT n, wOpen]) ++ joinT (tokEs l)) ++ [wEnd])) := Lib.hid (by rw [← e1]; exact HL.out)
  rw [e1]
  clear e1 HL
  have P1 := Lib.hid (put2_calls B R n ⟨#[40]⟩ T0 G0 ts _ w1 (new_drew w1 (.cells #[.string n, .string ⟨#[40]⟩] 9)) (drew_new w1 _) hB1 HA.out hsn (by decide) HL'.out.less.less)
  have HR := Lib.hid hr
  go_enter Tryz.func69, Tryz.ntmps69
  go_upto_region 1 with (fail)
  rw [← hw1']
  clear hw1'
  go_upto_region 18 with (fail)
  go_cut [3] from 67 to 74 (fun s3 wx => s3 = .pointer (some ⟨w.heap.size, 0, none⟩) ∧ Hid (AtW B R T0 G0 (ts ++ [kT n, wOpen]) wx) ∧ Hid (WBut B R w1 wx))
  case first =>
    go_region_held3 (fun w' => w'.cell? ⟨w.heap.size, 2, none⟩ = some (.string n)) (first | exact x2 | exact (low_new w1 _ _ _ hz).trans x2 | exact XB)
      (first
        | (go_at_call 98; (with_reducible refine (P1.out).mono ?_)
           rintro e w2 ⟨rfl, h1, b1⟩
           have H1 := Lib.hid h1
           have B1 := Lib.hid b1
           have XB := (SG.cell b1 2).trans x2
           clear h1 b1))
    go_wp2_with fail
    go_meet
    case rel => exact ⟨rfl, H1, B1⟩
  case rest =>
    obtain ⟨rfl, H1, B1⟩ := hcut
    have B2 := Lib.hid (BX.out.trans B1.out)
    have y5 := (SG.cell B1.out 5).trans x5
    have y6 := (SG.cell B1.out 6).trans x6
    have hz2 := (SG.but B1.out).lt
    have hB2 : B ≤ wc.heap.size := Nat.le_trans hB B2.out.size
    have HRR : Hid (PE.Row B wc b o l) := Lib.hid (by
      rcases k1 with h | ⟨_, h⟩
      · have : l = [] := List.length_eq_zero_iff.1 h
        subst this; trivial
      · exact PE.Row.below B2.out.bel h HR.out)
    have P2 := Lib.hid (exprs_calls B R l IH T0 G0 (ts ++ [kT n, wOpen]) (.slice ao l.length cap) b o wc hB2 (HW.out.below B1.out.bel) H1.out ⟨hn, _, _, rfl, k1⟩ HRR.out HL'.out.less)
    clear P1 x0 x1 x2 x3 x4 x5 x6 x7 SG H1
    go_wp2_with fail
    (with_reducible refine (P2.out).mono ?_)
    rintro e w3 ⟨rfl, h3, b3⟩
    have B3 := Lib.hid (B2.out.trans b3)
    have P3 := Lib.hid (put1_calls B R ⟨#[41]⟩ T0 G0 ((ts ++ [kT n, wOpen]) ++ joinT (tokEs l)) _ w3 (new_only w3 (.cells #[.string ⟨#[41]⟩] 9)) (heap_alloc_new w3 _) (Nat.le_trans hB B3.out.size) h3 (by decide) HL'.out)
    clear h3 b3 P2 y5 y6
    go_wp2_with fail
    (with_reducible refine (P3.out).mono ?_)
    rintro e w9 ⟨rfl, h9, b9⟩
    have H9 := Lib.hid h9
    have B9 := Lib.hid (B3.out.trans b9)
    clear h9 b9
    go_wp2
    go_end0
    exact ⟨rfl, H9.out, B9.out⟩
end Go.Proofs.YthilicmhdkmipaaGreatDoor
/- What the writer writes of an expression: case by case. -/
namespace Go.Proofs.YthilicmhdkmipaaGreatDoor
open Go.RowKit
set_option linter.unusedVariables false

set_option maxRecDepth 100000 in
set_option maxHeartbeats 4000000 in
theorem expr_struct (B R : Nat) (i : Int) (n s : ByteArray) (p : PP) (l : List PE) (pos : Int) (hlen : p.path.length = l.length) (IH : ∀ x ∈ l, ExprAt B R x) : ExprAt B R (.mk 19 i n s p l pos) := by
  intro T0 G0 ts v w hB hW hA hx hL
  obtain ⟨p1, n1, c1, ao, cap, b, o, rfl, ⟨_, hi64, hsn, hss⟩, hp, hn, k1, hr⟩ := hx.parts
  have hRR : R < w.heap.size := hA.lt
  obtain ⟨w1, hw1⟩ : ∃ w1, w1 = w.alloc (.cells ((PE.mk 19 i n s p l pos).cells ⟨.slice p1 n1 c1, .slice ao l.length cap⟩).toArray 37) := ⟨_, rfl⟩
  have bx : Below w.heap.size w w1 := by rw [hw1]; exact new_only _ _
  have hz : w.heap.size < w1.heap.size := by rw [hw1]; simp
  have EB : EBox R w.heap.size (PE.mk 19 i n s p l pos) ⟨.slice p1 n1 c1, .slice ao l.length cap⟩ w1 := by rw [hw1]; exact EBox.new _ _ hRR
  have et : tokE (.mk 19 i n s p l pos) = kT n :: wLeft :: (joinT (pairsT p.path (tokEs l)) ++ [wRight]) := by rw [tokE]; rfl
  rw [et] at hL ⊢
  have hB1 : B ≤ w1.heap.size := by omega
  have BX : Hid (WBut B R w w1) := Lib.hid (WBut.of bx hB (R := R))
  have HW := Lib.hid (hW.below (bx.mono hB))
  have HA := Lib.hid (hA.stays bx)
  have HE := Lib.hid EB
  have HX := Lib.hid (PE.In.below (bx.mono hB) hx)
  have HP := Lib.hid (hp.below (bx.mono hB))
  have HL := Lib.hid hL
  have SG := EB.safe
  have hgB := hW.lt.2
  have x0 : w1.cell? ⟨w.heap.size, 0, none⟩ = some (.int .u8 19) := EB.has 0 _ rfl
  have x1 : w1.cell? ⟨w.heap.size, 1, none⟩ = some (.int .i64 i) := EB.has 1 _ rfl
  have x2 : w1.cell? ⟨w.heap.size, 2, none⟩ = some (.string n) := EB.has 2 _ rfl
  have x3 : w1.cell? ⟨w.heap.size, 3, none⟩ = some (.string s) := EB.has 3 _ rfl
  have x4 : w1.cell? ⟨w.heap.size, 4, none⟩ = some (.string p.name) := EB.has 4 _ rfl
  have x5 : w1.cell? ⟨w.heap.size, 5, none⟩ = some (.slice p1 n1 c1) := EB.has 5 _ rfl
  have x6 : w1.cell? ⟨w.heap.size, 6, none⟩ = some (.slice ao l.length cap) := EB.has 6 _ rfl
  have x7 : w1.cell? ⟨w.heap.size, 7, none⟩ = some (.int .i64 pos) := EB.has 7 _ rfl
  show Calls Tryz.prog 69 #[.pointer (some ⟨R, 0, none⟩), .agg #[.int .u8 19, .int .i64 i, .string n, .string s, .string p.name, .slice p1 n1 c1, .slice ao l.length cap, .int .i64 pos]] w _
  have hw1' : w1 = w.alloc (.cells #[.int .u8 19, .int .i64 i, .string n, .string s, .string p.name, .slice p1 n1 c1, .slice ao l.length cap, .int .i64 pos] 37) := hw1
  clear hw1 hW hA hx hp hL EB et bx
  have e1 : ts ++ kT n :: wLeft :: (joinT (pairsT p.path (tokEs l)) ++ [wRight]) = ((ts ++ [kT n, wLeft]) ++ joinT (pairsT p.path (tokEs l))) ++ [wRight] := by simp
  have HL' : Hid (Lim T0 G0 (((ts ++ [kT n, wLeft]) ++ joinT (pairsT p.path (tokEs l))) ++ [wRight])) := Lib.hid (by rw [← e1]; exact HL.out)
  rw [e1]
  clear e1 HL
  have P1 := Lib.hid (put2_calls B R n ⟨#[123]⟩ T0 G0 ts _ w1 (new_drew w1 (.cells #[.string n, .string ⟨#[123]⟩] 9)) (drew_new w1 _) hB1 HA.out hsn (by decide) HL'.out.less.less)
  have HR := Lib.hid hr
  go_enter Tryz.func69, Tryz.ntmps69
  go_upto_region 1 with (fail)
  rw [← hw1']
  clear hw1'
  go_upto_region 22 with (fail)
  go_cut [3] from 85 to 92 (fun s3 wx => s3 = .pointer (some ⟨w.heap.size, 0, none⟩) ∧ Hid (AtW B R T0 G0 (ts ++ [kT n, wLeft]) wx) ∧ Hid (WBut B R w1 wx))
  case first =>
    go_region_held3 (fun w' => w'.cell? ⟨w.heap.size, 2, none⟩ = some (.string n)) (first | exact x2 | exact (low_new w1 _ _ _ hz).trans x2 | exact XB)
      (first
        | (go_at_call 98; (with_reducible refine (P1.out).mono ?_)
           rintro e w2 ⟨rfl, h1, b1⟩
           have H1 := Lib.hid h1
           have B1 := Lib.hid b1
           have XB := (SG.cell b1 2).trans x2
           clear h1 b1))
    go_wp2_with fail
    go_meet
    case rel => exact ⟨rfl, H1, B1⟩
  case rest =>
    obtain ⟨rfl, H1, B1⟩ := hcut
    have B2 := Lib.hid (BX.out.trans B1.out)
    have y5 := (SG.cell B1.out 5).trans x5
    have y6 := (SG.cell B1.out 6).trans x6
    have hz2 := (SG.but B1.out).lt
    have hB2 : B ≤ wc.heap.size := Nat.le_trans hB B2.out.size
    have HRR : Hid (PE.Row B wc b o l) := Lib.hid (by
      rcases k1 with h | ⟨_, h⟩
      · have : l = [] := List.length_eq_zero_iff.1 h
        subst this; trivial
      · exact PE.Row.below B2.out.bel h HR.out)
    obtain ⟨bp, op, hsl, hrp⟩ := HP.out.2
    have P2 := Lib.hid (pairs_calls B R p.path l hlen IH T0 G0 (ts ++ [kT n, wLeft]) (.slice p1 n1 c1) (.slice ao l.length cap) bp op b o wc hB2 (HW.out.below B1.out.bel) H1.out hsl (NRow.below' (B1.out.bel) hsl hrp) ⟨hn, _, _, rfl, k1⟩ HRR.out HL'.out.less)
    clear P1 x0 x1 x2 x3 x4 x5 x6 x7 SG H1
    go_wp2_with fail
    (with_reducible refine (P2.out).mono ?_)
    rintro e w3 ⟨rfl, h3, b3⟩
    have B3 := Lib.hid (B2.out.trans b3)
    have P3 := Lib.hid (put1_calls B R ⟨#[125]⟩ T0 G0 ((ts ++ [kT n, wLeft]) ++ joinT (pairsT p.path (tokEs l))) _ w3 (new_only w3 (.cells #[.string ⟨#[125]⟩] 9)) (heap_alloc_new w3 _) (Nat.le_trans hB B3.out.size) h3 (by decide) HL'.out)
    clear h3 b3 P2 y5 y6
    go_wp2_with fail
    (with_reducible refine (P3.out).mono ?_)
    rintro e w9 ⟨rfl, h9, b9⟩
    have H9 := Lib.hid h9
    have B9 := Lib.hid (B3.out.trans b9)
    clear h9 b9
    go_wp2
    go_end0
    exact ⟨rfl, H9.out, B9.out⟩
end Go.Proofs.YthilicmhdkmipaaGreatDoor
/- What the writer writes of an expression: case by case. -/
namespace Go.Proofs.YthilicmhdkmipaaGreatDoor
open Go.RowKit
set_option linter.unusedVariables false

set_option maxRecDepth 100000 in
set_option maxHeartbeats 4000000 in
theorem expr_worded (B R : Nat) (op : Nat) (hop : 21 ≤ op ∧ op ≤ 36) (i : Int) (n s : ByteArray) (p : PP) (l : List PE) (pos : Int) (hl : l.length ≤ 1) (hpl : p.name.size = 0 → l.length = 1) (IH : ∀ x ∈ l, ExprAt B R x) : ExprAt B R (.mk (op : Int) i n s p l pos) := by
  intro T0 G0 ts v w hB hW hA hx hL
  obtain ⟨p1, n1, c1, ao, cap, b, o, rfl, ⟨_, hi64, hsn, hss⟩, hp, hn, k1, hr⟩ := hx.parts
  have hRR : R < w.heap.size := hA.lt
  obtain ⟨w1, hw1⟩ : ∃ w1, w1 = w.alloc (.cells ((PE.mk (op : Int) i n s p l pos).cells ⟨.slice p1 n1 c1, .slice ao l.length cap⟩).toArray 37) := ⟨_, rfl⟩
  have bx : Below w.heap.size w w1 := by rw [hw1]; exact new_only _ _
  have hz : w.heap.size < w1.heap.size := by rw [hw1]; simp
  have EB : EBox R w.heap.size (PE.mk (op : Int) i n s p l pos) ⟨.slice p1 n1 c1, .slice ao l.length cap⟩ w1 := by rw [hw1]; exact EBox.new _ _ hRR
  have et : tokE (.mk (op : Int) i n s p l pos) = exprWord (op : Int) :: wOpen :: (placeT p (tokEs l) ++ [wEnd]) := by rw [tokE, if_neg (by omega), if_neg (by omega), if_neg (by omega), if_neg (by omega), if_neg (by omega), if_neg (by omega), if_neg (by omega), if_neg (by omega), if_neg (by omega), if_neg (by omega), if_neg (by omega)]
  rw [et] at hL ⊢
  have hB1 : B ≤ w1.heap.size := by omega
  have BX : Hid (WBut B R w w1) := Lib.hid (WBut.of bx hB (R := R))
  have HW := Lib.hid (hW.below (bx.mono hB))
  have HA := Lib.hid (hA.stays bx)
  have HE := Lib.hid EB
  have HX := Lib.hid (PE.In.below (bx.mono hB) hx)
  have HP := Lib.hid (hp.below (bx.mono hB))
  have HL := Lib.hid hL
  have SG := EB.safe
  have hgB := hW.lt.2
  have x0 : w1.cell? ⟨w.heap.size, 0, none⟩ = some (.int .u8 (op : Int)) := EB.has 0 _ rfl
  have x1 : w1.cell? ⟨w.heap.size, 1, none⟩ = some (.int .i64 i) := EB.has 1 _ rfl
  have x2 : w1.cell? ⟨w.heap.size, 2, none⟩ = some (.string n) := EB.has 2 _ rfl
  have x3 : w1.cell? ⟨w.heap.size, 3, none⟩ = some (.string s) := EB.has 3 _ rfl
  have x4 : w1.cell? ⟨w.heap.size, 4, none⟩ = some (.string p.name) := EB.has 4 _ rfl
  have x5 : w1.cell? ⟨w.heap.size, 5, none⟩ = some (.slice p1 n1 c1) := EB.has 5 _ rfl
  have x6 : w1.cell? ⟨w.heap.size, 6, none⟩ = some (.slice ao l.length cap) := EB.has 6 _ rfl
  have x7 : w1.cell? ⟨w.heap.size, 7, none⟩ = some (.int .i64 pos) := EB.has 7 _ rfl
  show Calls Tryz.prog 69 #[.pointer (some ⟨R, 0, none⟩), .agg #[.int .u8 (op : Int), .int .i64 i, .string n, .string s, .string p.name, .slice p1 n1 c1, .slice ao l.length cap, .int .i64 pos]] w _
  have hw1' : w1 = w.alloc (.cells #[.int .u8 (op : Int), .int .i64 i, .string n, .string s, .string p.name, .slice p1 n1 c1, .slice ao l.length cap, .int .i64 pos] 37) := hw1
  clear hw1 hW hA hx hp hL EB et bx
  have P1 := Lib.hid (wordedW_calls B R op (by omega) i n s p l pos hl hpl IH T0 G0 ts _ w1 hB1 HW.out HA.out HX.out HL.out)
  have P1' : Hid (Calls Tryz.prog 107 #[.pointer (some ⟨R, 0, none⟩), .agg #[.int .u8 (op : Int), .int .i64 i, .string n, .string s, .string p.name, .slice p1 n1 c1, .slice ao l.length cap, .int .i64 pos]] w1 fun e w' => e = .returned (.tuple #[]) ∧ AtW B R T0 G0 (ts ++ (exprWord (op : Int) :: wOpen :: (placeT p (tokEs l) ++ [wEnd]))) w' ∧ WBut B R w1 w') := Lib.hid P1.out
  clear P1
  have n1 : (op : Int) ≠ 1 := by omega
  have n2 : (op : Int) ≠ 2 := by omega
  have n3 : (op : Int) ≠ 3 := by omega
  have n4 : (op : Int) ≠ 4 := by omega
  have n5 : (op : Int) ≠ 5 := by omega
  have n6 : (op : Int) ≠ 6 := by omega
  have n7 : (op : Int) ≠ 7 := by omega
  have n8 : (op : Int) ≠ 8 := by omega
  have n9 : (op : Int) ≠ 9 := by omega
  have n10 : (op : Int) ≠ 10 := by omega
  have n11 : (op : Int) ≠ 11 := by omega
  have n12 : (op : Int) ≠ 12 := by omega
  have n13 : (op : Int) ≠ 13 := by omega
  have n14 : (op : Int) ≠ 14 := by omega
  have n15 : (op : Int) ≠ 15 := by omega
  have n16 : (op : Int) ≠ 16 := by omega
  have n17 : (op : Int) ≠ 17 := by omega
  have n18 : (op : Int) ≠ 18 := by omega
  have n19 : (op : Int) ≠ 19 := by omega
  have n20 : (op : Int) ≠ 20 := by omega
  clear hop HW HE HX HP HL IH HA hgB
  generalize exprWord (op : Int) :: wOpen :: (placeT p (tokEs l) ++ [wEnd]) = tx at *
  generalize (op : Int) = z at *
  go_enter Tryz.func69, Tryz.ntmps69
  go_upto_region 1 with (fail)
  rw [← hw1']
  clear hw1'
  go_wp2_with fail
  (with_reducible refine (P1'.out).mono ?_)
  rintro e w9 ⟨rfl, h9, b9⟩
  have H9 := Lib.hid h9
  have B9 := Lib.hid (BX.out.trans b9)
  clear h9 b9
  go_wp2
  go_end0
  exact ⟨rfl, H9.out, B9.out⟩
end Go.Proofs.YthilicmhdkmipaaGreatDoor
/- What the writer writes of an expression: case by case. -/
namespace Go.Proofs.YthilicmhdkmipaaGreatDoor
open Go.RowKit
set_option linter.unusedVariables false

theorem i64_ge {x : Int} (h : I64 x) : -9223372036854775808 ≤ x := by
  unfold I64 at h
  simp only [Lit.wf, Bool.and_eq_true, decide_eq_true_eq] at h
  have b : IntKind.i64.min = -9223372036854775808 := by decide
  omega
/-- new blocks and draws leave all that was there -/
theorem below_growW {w : World} (k : Nat) (os : Array Obj) : Below w.heap.size w (Sort.grow (w.drewN k) os) := by
  refine ⟨rfl, rfl, rfl, ?_, ?_⟩
  · show w.heap.size ≤ (w.heap ++ os).size
    simp
  · intro j hj
    show (w.heap ++ os)[j]? = w.heap[j]?
    rw [Array.getElem?_append_left hj]
theorem grow_belowW {w1 w2 : World} {k : Nat} {os : Array Obj} (h : w2 = Sort.grow (w1.drew.drewN k) os) : Below w1.heap.size w1 w2 := by
  rw [h]
  exact (Below.refl _ w1).drew.trans (below_growW (w := w1.drew) k os)
set_option maxRecDepth 100000 in
set_option maxHeartbeats 4000000 in
theorem expr_int (B R : Nat) (i : Int) (n s : ByteArray) (p : PP) (l : List PE) (pos : Int) : ExprAt B R (.mk 1 i n s p l pos) := by
  intro T0 G0 ts v w hB hW hA hx hL
  obtain ⟨p1, n1, c1, ao, cap, b, o, rfl, ⟨_, hi64, hsn, hss⟩, hp, hn, k1, hr⟩ := hx.parts
  have hRR : R < w.heap.size := hA.lt
  obtain ⟨w1, hw1⟩ : ∃ w1, w1 = w.alloc (.cells ((PE.mk 1 i n s p l pos).cells ⟨.slice p1 n1 c1, .slice ao l.length cap⟩).toArray 37) := ⟨_, rfl⟩
  have bx : Below w.heap.size w w1 := by rw [hw1]; exact new_only _ _
  have hz : w.heap.size < w1.heap.size := by rw [hw1]; simp
  have EB : EBox R w.heap.size (PE.mk 1 i n s p l pos) ⟨.slice p1 n1 c1, .slice ao l.length cap⟩ w1 := by rw [hw1]; exact EBox.new _ _ hRR
  have et : tokE (.mk 1 i n s p l pos) = [Lib.itoa i] := by rw [tokE]; rfl
  rw [et] at hL ⊢
  have hB1 : B ≤ w1.heap.size := by omega
  have BX : Hid (WBut B R w w1) := Lib.hid (WBut.of bx hB (R := R))
  have HW := Lib.hid (hW.below (bx.mono hB))
  have HA := Lib.hid (hA.stays bx)
  have HE := Lib.hid EB
  have HX := Lib.hid (PE.In.below (bx.mono hB) hx)
  have HP := Lib.hid (hp.below (bx.mono hB))
  have HL := Lib.hid hL
  have SG := EB.safe
  have hgB := hW.lt.2
  have x0 : w1.cell? ⟨w.heap.size, 0, none⟩ = some (.int .u8 1) := EB.has 0 _ rfl
  have x1 : w1.cell? ⟨w.heap.size, 1, none⟩ = some (.int .i64 i) := EB.has 1 _ rfl
  have x2 : w1.cell? ⟨w.heap.size, 2, none⟩ = some (.string n) := EB.has 2 _ rfl
  have x3 : w1.cell? ⟨w.heap.size, 3, none⟩ = some (.string s) := EB.has 3 _ rfl
  have x4 : w1.cell? ⟨w.heap.size, 4, none⟩ = some (.string p.name) := EB.has 4 _ rfl
  have x5 : w1.cell? ⟨w.heap.size, 5, none⟩ = some (.slice p1 n1 c1) := EB.has 5 _ rfl
  have x6 : w1.cell? ⟨w.heap.size, 6, none⟩ = some (.slice ao l.length cap) := EB.has 6 _ rfl
  have x7 : w1.cell? ⟨w.heap.size, 7, none⟩ = some (.int .i64 pos) := EB.has 7 _ rfl
  show Calls Tryz.prog 69 #[.pointer (some ⟨R, 0, none⟩), .agg #[.int .u8 1, .int .i64 i, .string n, .string s, .string p.name, .slice p1 n1 c1, .slice ao l.length cap, .int .i64 pos]] w _
  have hw1' : w1 = w.alloc (.cells #[.int .u8 1, .int .i64 i, .string n, .string s, .string p.name, .slice p1 n1 c1, .slice ao l.length cap, .int .i64 pos] 37) := hw1
  clear hw1 hW hA hx hp hL EB et bx
  have h0 : -9223372036854775808 ≤ i := i64_ge hi64
  have h1 : i ≤ 9223372036854775807 := i64_lt hi64
  have HI := Lib.hid (fun (W : World) (k : Below B w1 W) => Tryz.strconv_FormatInt_10 i h0 h1 W (HW.out.tens W k))
  have hsz : (⟨(Lib.itoa i).toArray⟩ : ByteArray).size ≤ maxLen := by
    show (Lib.itoa i).toArray.size ≤ _
    rw [List.size_toArray]
    have := Lib.itoa_length_le i h0 h1
    unfold maxLen; omega
  have ek : kT ⟨(Lib.itoa i).toArray⟩ = Lib.itoa i := kT_mk _
  obtain ⟨D, hD⟩ : ∃ D : ByteArray, D = ⟨(Lib.itoa i).toArray⟩ := ⟨_, rfl⟩
  rw [← hD] at hsz ek HI
  have HP1 := Lib.hid (fun (W : World) h1 h2 => put1_calls B R D T0 G0 ts _ W (new_only W (.cells #[.string D] 9)) (heap_alloc_new W _) h1 h2 hsz (by rw [ek]; exact HL.out))
  rw [ek] at HP1
  clear hD ek
  generalize Lib.itoa i = dg at *
  go_enter Tryz.func69, Tryz.ntmps69
  go_upto_region 1 with (fail)
  rw [← hw1']
  clear hw1'
  go_upto_region 4 with (fail)
  have hd : Below B w1 w1.drew := (Below.refl _ w1).drew.mono hB1
  go_region_held3 (fun w' => w'.cell? ⟨w.heap.size, 1, none⟩ = some (.int .i64 i)) (first | exact x1 | exact XA | exact (low_new w2 _ _ _ hz2).trans XA | exact XB)
    (first
      | (go_at_call 99; (with_reducible refine (HI.out _ hd).mono ?_)
         rintro e w2 ⟨rfl, k, os, hw2⟩
         have b2 := grow_belowW hw2
         clear hw2
         have hz2 : w.heap.size < w2.heap.size := Nat.lt_of_lt_of_le hz b2.size
         have XA := (b2.cell (p := ⟨w.heap.size, 1, none⟩) hz).trans x1
         have C2 := Lib.hid (HP1.out w2 (Nat.le_trans hB1 b2.size) (HA.out.stays b2))
         have B2 := Lib.hid (BX.out.trans (WBut.of b2 hB1))
         have B2K := Lib.hid b2
         clear b2)
      | (go_at_call 98; (with_reducible refine (C2.out).mono ?_)
         rintro e w9 ⟨rfl, h9, b9⟩
         have H9 := Lib.hid h9
         have B9 := Lib.hid (B2.out.trans b9)
         have XB : w9.cell? ⟨w.heap.size, 1, none⟩ = some (.int .i64 i) := ((SG.but (WBut.of B2K.out hB1)).cell b9 1).trans XA
         clear h9 b9))
  all_goals
    go_wp2
    go_end0
    exact ⟨rfl, H9.out, B9.out⟩
end Go.Proofs.YthilicmhdkmipaaGreatDoor
/- What the writer writes of a program, over contracts of its items. -/
namespace Go.Proofs.YthilicmhdkmipaaGreatDoor
open Go.RowKit
set_option linter.unusedVariables false

/-- the contract of an item -/
def ItemAt (B R : Nat) (x : PI) : Prop := ∀ (T0 G0 : TkB) (ts : List TkB) (v : VI) (w : World), B ≤ w.heap.size → Words B w → AtW B R T0 G0 ts w → PI.In B w x v → Lim T0 G0 (ts ++ tokI x) →
  Calls Tryz.prog 88 #[.pointer (some ⟨R, 0, none⟩), .agg (x.cells v).toArray] w fun e w' => e = .returned (.tuple #[]) ∧ AtW B R T0 G0 (ts ++ tokI x) w' ∧ WBut B R w w'
theorem textP_snoc : ∀ (l : List PI) (k : Nat) (x : PI), l[k]? = some x → textP (l.take (k + 1)) = textP (l.take k) ++ lineT (tokI x) ++ [10]
  | y :: l, 0, x, h => by
    obtain rfl : y = x := by simpa using h
    simp [textP]
  | y :: l, k + 1, x, h => by
    rw [List.take_succ_cons, List.take_succ_cons, textP, textP, textP_snoc l k x (by simpa using h)]; simp
theorem textP_len : ∀ (l : List PI) (k : Nat), (textP (l.take k)).length ≤ (textP l).length
  | [], k => by simp [textP]
  | y :: l, 0 => by simp [textP]
  | y :: l, k + 1 => by
    rw [List.take_succ_cons, textP, textP]
    have := textP_len l k
    simp only [List.length_append]; omega
theorem IsW.start {B R : Nat} {T : TkB} {w : World} (h : IsW B R T ⟨#[]⟩ w) : AtW B R T [] [] w := by
  unfold AtW
  simpa [puts, gapA] using h
set_option maxRecDepth 100000 in
set_option maxHeartbeats 4000000 in
theorem program_calls (B R : Nat) (l : List PI) (IH : ∀ x ∈ l, ItemAt B R x) (v : Value) (w : World) (hB : B ≤ w.heap.size) (hW : Words B w) (hA : IsW B R [] ⟨#[]⟩ w) (hp : ProgIn B w l v) (hL : (textP l).length ≤ 1000000000) :
    Calls Tryz.prog 45 #[.pointer (some ⟨R, 0, none⟩), .agg #[v]] w fun e w' => e = .returned (.tuple #[]) ∧ IsW B R (textP l) ⟨#[]⟩ w' ∧ WBut B R w w' := by
  obtain ⟨b, o, ⟨hl, ao, cap, rfl, k1⟩, hr⟩ := hp
  obtain ⟨n, hn⟩ : ∃ n, n = l.length := ⟨_, rfl⟩
  rw [← hn] at hl k1 ⊢
  have hn' : n ≤ 9223372036854775807 := by unfold maxLen at hl; omega
  have Hn := Lib.hid hn
  have bx : Below w.heap.size w (w.alloc (.cells #[.slice ao n cap] 24)) := new_only _ _
  have BX := Lib.hid (WBut.of bx hB (R := R))
  have HA := Lib.hid (IsW.stays hA bx)
  have HW := Lib.hid hW
  have HR := Lib.hid hr
  have HI := Lib.hid IH
  have HK := Lib.hid k1
  have hRR : R < w.heap.size := hA.lt
  have HL := Lib.hid hL
  clear hn IH hW hA hr hL bx k1
  go_enter Tryz.func45, Tryz.ntmps45
  go_wp2_with fail
  go_loopw [9] (fun i wr => ∃ k : Nat, k ≤ n ∧ i = .int .i64 k ∧ Hid (IsW B R (textP (l.take k)) ⟨#[]⟩ wr) ∧ Hid (WBut B R w wr))
    (fun i _ => n - (intOf i).toNat)
  case atStart => exact ⟨0, by omega, rfl, HA, BX⟩
  case round =>
    obtain ⟨k, hk, rfl, Hw, Hb⟩ := hrel
    by_cases hlt : k < n
    · obtain ⟨x, hx⟩ := (⟨l[k]'(by rw [← Hn.out]; exact hlt), List.getElem?_eq_getElem _⟩ : ∃ a, l[k]? = some a)
      obtain ⟨rfl, hbB⟩ := HK.out.resolve_left (by omega)
      obtain ⟨vx, cx, ix⟩ := PI.Row.get HR.out hx
      obtain ⟨a1, n1, c1, a2, n2, c2, a3, n3, c3, a4, n4, c4, a5, n5, c5, rfl⟩ := ix.shape
      have hBr : B ≤ wr.heap.size := Nat.le_trans hB Hb.out.size
      have hcx := cx.below hbB Hb.out.bel
      have hbr : b < wr.heap.size := by omega
      have d0 : wr.cell? ⟨b, o + k * 16, none⟩ = some (.int .u8 x.kind) := by simpa using hcx 0 _ rfl
      have d1 : wr.cell? ⟨b, o + k * 16 + 1, none⟩ = some (.string x.name) := hcx 1 _ rfl
      have d2 : wr.cell? ⟨b, o + k * 16 + 2, none⟩ = some (.slice a1 n1 c1) := hcx 2 _ rfl
      have d3 : wr.cell? ⟨b, o + k * 16 + 3, none⟩ = some (.int .u8 x.result.kind) := hcx 3 _ rfl
      have d4 : wr.cell? ⟨b, o + k * 16 + 4, none⟩ = some (.string x.result.name) := hcx 4 _ rfl
      have d5 : wr.cell? ⟨b, o + k * 16 + 5, none⟩ = some (.slice a2 n2 c2) := hcx 5 _ rfl
      have d6 : wr.cell? ⟨b, o + k * 16 + 6, none⟩ = some (.slice a3 n3 c3) := hcx 6 _ rfl
      have d7 : wr.cell? ⟨b, o + k * 16 + 7, none⟩ = some (.int .u8 x.ret.op) := hcx 7 _ rfl
      have d8 : wr.cell? ⟨b, o + k * 16 + 8, none⟩ = some (.int .i64 x.ret.int) := hcx 8 _ rfl
      have d9 : wr.cell? ⟨b, o + k * 16 + 9, none⟩ = some (.string x.ret.name) := hcx 9 _ rfl
      have d10 : wr.cell? ⟨b, o + k * 16 + 10, none⟩ = some (.string x.ret.second) := hcx 10 _ rfl
      have d11 : wr.cell? ⟨b, o + k * 16 + 11, none⟩ = some (.string x.ret.place.name) := hcx 11 _ rfl
      have d12 : wr.cell? ⟨b, o + k * 16 + 12, none⟩ = some (.slice a4 n4 c4) := hcx 12 _ rfl
      have d13 : wr.cell? ⟨b, o + k * 16 + 13, none⟩ = some (.slice a5 n5 c5) := hcx 13 _ rfl
      have d14 : wr.cell? ⟨b, o + k * 16 + 14, none⟩ = some (.int .i64 x.ret.pos) := hcx 14 _ rfl
      have d15 : wr.cell? ⟨b, o + k * 16 + 15, none⟩ = some (.int .i64 x.pos) := hcx 15 _ rfl
      have HX := Lib.hid (PI.In.below Hb.out.bel ix)
      have HS := Lib.hid (textP_snoc l k x hx)
      have HI1 := Lib.hid (HI.out x (List.mem_of_getElem? hx))
      have HLk := Lib.hid (textP_len l (k + 1))
      clear hx cx ix hcx
      obtain ⟨w1, hw1⟩ : ∃ w1, w1 = wr.alloc (.cells #[.int .u8 x.kind, .string x.name, .slice a1 n1 c1, .int .u8 x.result.kind, .string x.result.name, .slice a2 n2 c2, .slice a3 n3 c3, .int .u8 x.ret.op, .int .i64 x.ret.int, .string x.ret.name, .string x.ret.second, .string x.ret.place.name, .slice a4 n4 c4, .slice a5 n5 c5, .int .i64 x.ret.pos, .int .i64 x.pos] 68) := ⟨_, rfl⟩
      have hRr : R < wr.heap.size := by have := Hb.out.size; omega
      have EB : CBox R wr.heap.size [.int .u8 x.kind, .string x.name, .slice a1 n1 c1, .int .u8 x.result.kind, .string x.result.name, .slice a2 n2 c2, .slice a3 n3 c3, .int .u8 x.ret.op, .int .i64 x.ret.int, .string x.ret.name, .string x.ret.second, .string x.ret.place.name, .slice a4 n4 c4, .slice a5 n5 c5, .int .i64 x.ret.pos, .int .i64 x.pos] w1 := by rw [hw1]; exact CBox.new _ (by decide) hRr
      have bx1 : Below wr.heap.size wr w1 := by rw [hw1]; exact new_only _ _
      have B1 := Lib.hid (Hb.out.trans (WBut.of bx1 hBr (R := R)))
      have hz1 : wr.heap.size < w1.heap.size := EB.lt
      have hlim : Lim (textP (l.take k)) [] ([] ++ tokI x) := by
        have h1 := HLk.out
        have h2 := HL.out
        rw [HS.out] at h1
        unfold Lim
        rw [List.nil_append]
        simp only [List.length_append, List.length_cons, List.length_nil, lineT] at h1 ⊢
        omega
      have P : Hid (Calls Tryz.prog 88 #[.pointer (some ⟨R, 0, none⟩), .agg #[.int .u8 x.kind, .string x.name, .slice a1 n1 c1, .int .u8 x.result.kind, .string x.result.name, .slice a2 n2 c2, .slice a3 n3 c3, .int .u8 x.ret.op, .int .i64 x.ret.int, .string x.ret.name, .string x.ret.second, .string x.ret.place.name, .slice a4 n4 c4, .slice a5 n5 c5, .int .i64 x.ret.pos, .int .i64 x.pos]] w1 fun e w' => e = .returned (.tuple #[]) ∧ AtW B R (textP (l.take k)) [] ([] ++ tokI x) w' ∧ WBut B R w1 w') := Lib.hid (HI1.out (textP (l.take k)) [] [] ⟨.slice a1 n1 c1, .slice a2 n2 c2, .slice a3 n3 c3, ⟨.slice a4 n4 c4, .slice a5 n5 c5⟩⟩ w1 (by omega) (HW.out.below B1.out.bel) (IsW.start (IsW.stays Hw.out bx1)) (PI.In.below (bx1.mono hBr) HX.out) hlim)
      have y0 : w1.cell? ⟨wr.heap.size, 0, none⟩ = some (.int .u8 x.kind) := EB.has 0 _ rfl
      have y1 : w1.cell? ⟨wr.heap.size, 1, none⟩ = some (.string x.name) := EB.has 1 _ rfl
      have y2 : w1.cell? ⟨wr.heap.size, 2, none⟩ = some (.slice a1 n1 c1) := EB.has 2 _ rfl
      have y3 : w1.cell? ⟨wr.heap.size, 3, none⟩ = some (.int .u8 x.result.kind) := EB.has 3 _ rfl
      have y4 : w1.cell? ⟨wr.heap.size, 4, none⟩ = some (.string x.result.name) := EB.has 4 _ rfl
      have y5 : w1.cell? ⟨wr.heap.size, 5, none⟩ = some (.slice a2 n2 c2) := EB.has 5 _ rfl
      have y6 : w1.cell? ⟨wr.heap.size, 6, none⟩ = some (.slice a3 n3 c3) := EB.has 6 _ rfl
      have y7 : w1.cell? ⟨wr.heap.size, 7, none⟩ = some (.int .u8 x.ret.op) := EB.has 7 _ rfl
      have y8 : w1.cell? ⟨wr.heap.size, 8, none⟩ = some (.int .i64 x.ret.int) := EB.has 8 _ rfl
      have y9 : w1.cell? ⟨wr.heap.size, 9, none⟩ = some (.string x.ret.name) := EB.has 9 _ rfl
      have y10 : w1.cell? ⟨wr.heap.size, 10, none⟩ = some (.string x.ret.second) := EB.has 10 _ rfl
      have y11 : w1.cell? ⟨wr.heap.size, 11, none⟩ = some (.string x.ret.place.name) := EB.has 11 _ rfl
      have y12 : w1.cell? ⟨wr.heap.size, 12, none⟩ = some (.slice a4 n4 c4) := EB.has 12 _ rfl
      have y13 : w1.cell? ⟨wr.heap.size, 13, none⟩ = some (.slice a5 n5 c5) := EB.has 13 _ rfl
      have y14 : w1.cell? ⟨wr.heap.size, 14, none⟩ = some (.int .i64 x.ret.pos) := EB.has 14 _ rfl
      have y15 : w1.cell? ⟨wr.heap.size, 15, none⟩ = some (.int .i64 x.pos) := EB.has 15 _ rfl
      have HLL := Lib.hid hlim
      clear bx1 EB Hw HI1 HX hlim
      go_upto_region 4 with (fail)
      rw [← hw1]
      clear hw1
      go_wp2_with fail
      (with_reducible refine (P.out).mono ?_)
      rintro e w2 ⟨rfl, h, b2⟩
      have B2 := Lib.hid (B1.out.trans b2)
      have P2 := Lib.hid (endLine_calls B R _ _ w2 h (by have := HLL.out; unfold Lim at this; omega) (Nat.le_trans hB B2.out.size))
      clear h b2 P y0 y1 y2 y3 y4 y5 y6 y7 y8 y9 y10 y11 y12 y13 y14 y15 d0 d1 d2 d3 d4 d5 d6 d7 d8 d9 d10 d11 d12 d13 d14 d15
      go_wp2_with fail
      (with_reducible refine (P2.out).mono ?_)
      rintro e w3 ⟨rfl, h, b3⟩
      have B3 := Lib.hid (B2.out.trans b3)
      have A3 : Hid (IsW B R (textP (l.take (k + 1))) ⟨#[]⟩ w3) := Lib.hid (by
        rw [HS.out]
        simpa [lineT] using h)
      clear h b3 P2
      go_wp2
      go_roundw
      case rel => exact ⟨k + 1, by omega, by go_num, A3, B3⟩
      case measure => simp [intOf]; omega
    · obtain rfl : k = n := by omega
      have hall : l.take k = l := List.take_of_length_le (by rw [Hn.out]; exact Nat.le_refl _)
      go_wp2
      go_end0
      exact ⟨rfl, by rw [hall] at Hw; exact Hw.out, Hb.out⟩
end Go.Proofs.YthilicmhdkmipaaGreatDoor
/- What the writer writes of an item: a function. -/
namespace Go.Proofs.YthilicmhdkmipaaGreatDoor
open Go.RowKit
set_option linter.unusedVariables false

set_option maxRecDepth 100000 in
set_option maxHeartbeats 4000000 in
theorem item_fn (B R : Nat) (nm : ByteArray) (fs : List PF) (ty : PT) (bo : List PS) (ret : PE) (pos : Int) (hf : ∀ x ∈ fs, TypedAt B R x.type) (ht : TypedAt B R ty) (hb : StmtsAt B R bo) (he : ExprAt B R ret) (T0 G0 : TkB) (ts : List TkB) (v : VI) (w : World) (hB : B ≤ w.heap.size) (hW : Words B w) (hA : AtW B R T0 G0 ts w) (hx : PI.In B w ⟨3, nm, fs, ty, bo, ret, pos⟩ v) (hL : Lim T0 G0 (ts ++ (tokI ⟨3, nm, fs, ty, bo, ret, pos⟩))) :
    Calls Tryz.prog 88 #[.pointer (some ⟨R, 0, none⟩), .agg (PI.cells ⟨3, nm, fs, ty, bo, ret, pos⟩ v).toArray] w fun e w' => e = .returned (.tuple #[]) ∧ AtW B R T0 G0 (ts ++ (tokI ⟨3, nm, fs, ty, bo, ret, pos⟩)) w' ∧ WBut B R w w' := by
  obtain ⟨a1, n1, c1, a2, n2, c2, a3, n3, c3, a4, n4, c4, a5, n5, c5, rfl⟩ := hx.shape
  have HX := Lib.hid hx
  obtain ⟨⟨_, _, hsn⟩, ⟨b1, o1, s1, r1⟩, hty, ⟨b3, o3, s3, r3⟩, hre⟩ := hx
  have R1 := Lib.hid r1
  have R3 := Lib.hid r3
  have HTY := Lib.hid hty
  have HRE := Lib.hid hre
  clear r1 r3 hty hre
  have hRR : R < w.heap.size := hA.lt
  obtain ⟨w1, hw1⟩ : ∃ w1, w1 = (w.alloc (.cells #[.pointer (some ⟨R, 0, none⟩)] 81)).alloc (.cells #[.int .u8 3, .string nm, .slice a1 n1 c1, .int .u8 ty.kind, .string ty.name, .slice a2 n2 c2, .slice a3 n3 c3, .int .u8 ret.op, .int .i64 ret.int, .string ret.name, .string ret.second, .string ret.place.name, .slice a4 n4 c4, .slice a5 n5 c5, .int .i64 ret.pos, .int .i64 pos] 68) := ⟨_, rfl⟩
  have bx : Below w.heap.size w w1 := by rw [hw1]; exact (new_only _ _).alloc (by simp) _
  have E1 : Hid (CBox R (w.heap.size + 1) [.int .u8 3, .string nm, .slice a1 n1 c1, .int .u8 ty.kind, .string ty.name, .slice a2 n2 c2, .slice a3 n3 c3, .int .u8 ret.op, .int .i64 ret.int, .string ret.name, .string ret.second, .string ret.place.name, .slice a4 n4 c4, .slice a5 n5 c5, .int .i64 ret.pos, .int .i64 pos] w1) := Lib.hid (by rw [hw1]; exact CBox.new2 _ _ _ (by decide) hRR)
  have Q1 : Hid (CBox R w.heap.size [.pointer (some ⟨R, 0, none⟩)] w1) := Lib.hid (by rw [hw1]; exact CBox.old _ _ nePW hRR)
  have et : ts ++ (tokI ⟨3, nm, fs, ty, bo, ret, pos⟩) = ts ++ fnT ⟨3, nm, fs, ty, bo, ret, pos⟩ := rfl
  rw [et] at hL ⊢
  clear et
  have B1 : Hid (WBut B R w w1) := Lib.hid (WBut.of bx hB (R := R))
  have HW := Lib.hid hW
  have A1 := Lib.hid (hA.stays bx)
  have HL := Lib.hid hL
  show Calls Tryz.prog 88 #[.pointer (some ⟨R, 0, none⟩), .agg #[.int .u8 3, .string nm, .slice a1 n1 c1, .int .u8 ty.kind, .string ty.name, .slice a2 n2 c2, .slice a3 n3 c3, .int .u8 ret.op, .int .i64 ret.int, .string ret.name, .string ret.second, .string ret.place.name, .slice a4 n4 c4, .slice a5 n5 c5, .int .i64 ret.pos, .int .i64 pos]] w _
  clear hW hA hL bx
  go_enter Tryz.func88, Tryz.ntmps88
  go_upto_region 1 with (fail)
  (try simp only [size_alloc])
  rw [← hw1]
  clear hw1
  have x1_0 : w1.cell? ⟨w.heap.size + 1, 0, none⟩ = some (.int .u8 3) := E1.out.has 0 _ rfl
  have x1_1 : w1.cell? ⟨w.heap.size + 1, 1, none⟩ = some (.string nm) := E1.out.has 1 _ rfl
  have x1_2 : w1.cell? ⟨w.heap.size + 1, 2, none⟩ = some (.slice a1 n1 c1) := E1.out.has 2 _ rfl
  have x1_3 : w1.cell? ⟨w.heap.size + 1, 3, none⟩ = some (.int .u8 ty.kind) := E1.out.has 3 _ rfl
  have x1_4 : w1.cell? ⟨w.heap.size + 1, 4, none⟩ = some (.string ty.name) := E1.out.has 4 _ rfl
  have x1_5 : w1.cell? ⟨w.heap.size + 1, 5, none⟩ = some (.slice a2 n2 c2) := E1.out.has 5 _ rfl
  have x1_6 : w1.cell? ⟨w.heap.size + 1, 6, none⟩ = some (.slice a3 n3 c3) := E1.out.has 6 _ rfl
  have x1_7 : w1.cell? ⟨w.heap.size + 1, 7, none⟩ = some (.int .u8 ret.op) := E1.out.has 7 _ rfl
  have x1_8 : w1.cell? ⟨w.heap.size + 1, 8, none⟩ = some (.int .i64 ret.int) := E1.out.has 8 _ rfl
  have x1_9 : w1.cell? ⟨w.heap.size + 1, 9, none⟩ = some (.string ret.name) := E1.out.has 9 _ rfl
  have x1_10 : w1.cell? ⟨w.heap.size + 1, 10, none⟩ = some (.string ret.second) := E1.out.has 10 _ rfl
  have x1_11 : w1.cell? ⟨w.heap.size + 1, 11, none⟩ = some (.string ret.place.name) := E1.out.has 11 _ rfl
  have x1_12 : w1.cell? ⟨w.heap.size + 1, 12, none⟩ = some (.slice a4 n4 c4) := E1.out.has 12 _ rfl
  have x1_13 : w1.cell? ⟨w.heap.size + 1, 13, none⟩ = some (.slice a5 n5 c5) := E1.out.has 13 _ rfl
  have x1_14 : w1.cell? ⟨w.heap.size + 1, 14, none⟩ = some (.int .i64 ret.pos) := E1.out.has 14 _ rfl
  have x1_15 : w1.cell? ⟨w.heap.size + 1, 15, none⟩ = some (.int .i64 pos) := E1.out.has 15 _ rfl
  have y1 : w1.cell? ⟨w.heap.size, 0, none⟩ = some (.pointer (some ⟨R, 0, none⟩)) := Q1.out.has 0 _ rfl
  have zq1 : w.heap.size < w1.heap.size := Q1.out.lt
  have z1 : w.heap.size + 1 < w1.heap.size := E1.out.lt
  have hB1 : B ≤ w1.heap.size := Nat.le_trans hB B1.out.size
  have P := Lib.hid (function_calls B R 3 nm fs ty bo ret pos hf ht hb he T0 G0 ts ⟨.slice a1 n1 c1, .slice a2 n2 c2, .slice a3 n3 c3, ⟨.slice a4 n4 c4, .slice a5 n5 c5⟩⟩ w1 hB1 (HW.out.below B1.out.bel) A1.out (PI.In.below B1.out.bel HX.out) HL.out)
  have P : Hid (Calls Tryz.prog 148 #[.pointer (some ⟨R, 0, none⟩), .agg #[.int .u8 3, .string nm, .slice a1 n1 c1, .int .u8 ty.kind, .string ty.name, .slice a2 n2 c2, .slice a3 n3 c3, .int .u8 ret.op, .int .i64 ret.int, .string ret.name, .string ret.second, .string ret.place.name, .slice a4 n4 c4, .slice a5 n5 c5, .int .i64 ret.pos, .int .i64 pos]] w1 fun e w' => e = .returned (.tuple #[]) ∧ AtW B R T0 G0 (ts ++ fnT ⟨3, nm, fs, ty, bo, ret, pos⟩) w' ∧ WBut B R w1 w') := Lib.hid P.out
  go_wp2_with fail
  (with_reducible refine (P.out).mono ?_)
  rintro e w2 ⟨rfl, h, b⟩
  have A2 := Lib.hid h
  have B2 := Lib.hid (B1.out.trans b)
  have E2 := Lib.hid (E1.out.but b)
  have Q2 := Lib.hid (Q1.out.but b)
  clear h b P x1_0 x1_1 x1_2 x1_3 x1_4 x1_5 x1_6 x1_7 x1_8 x1_9 x1_10 x1_11 x1_12 x1_13 x1_14 x1_15 z1 A1 E1 y1 zq1 Q1
  go_wp2
  go_end0
  exact ⟨rfl, A2.out, B2.out⟩
theorem stmts_nil (B R : Nat) : StmtsAt B R [] := by
  intro T0 G0 ts v b o w hB hW hA hs hr hL
  obtain ⟨hn, ao, cap, rfl, _⟩ := hs
  rw [show tokSs [] = [] from rfl, List.append_nil]
  show Calls Tryz.prog 177 #[.pointer (some ⟨R, 0, none⟩), .slice ao 0 cap] w _
  go_enter Tryz.func177, Tryz.ntmps177
  go_wp2_with fail
  go_loopw [8] (fun i wr => i = .int .i64 0 ∧ w = wr) (fun _ _ => 0)
  case atStart => exact ⟨rfl, rfl⟩
  case round =>
    obtain ⟨rfl, rfl⟩ := hrel
    go_wp2
    go_end0
    exact ⟨rfl, hA, WBut.refl B R _⟩
end Go.Proofs.YthilicmhdkmipaaGreatDoor
