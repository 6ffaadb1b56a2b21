/- What the writer writes of an expression: case by case. -/
import Derived.Test.YthilicmhdkmipaaGreatDoorIJoinAC
import Derived.Test.YthilicmhdkmipaaGreatDoorIJoinAB
import Derived.Test.YthilicmhdkmipaaGreatDoorShelf
import Derived.Lib.ItoaLen
import Derived.Test.YthilicmhdkmipaaGreatDoorIJoinAD
import Derived.Test.YthilicmhdkmipaaGreatDoorIJoinAH
namespace Go.Proofs.YthilicmhdkmipaaGreatDoor
open Go.RowKit
set_option linter.unusedVariables false

set_option maxRecDepth 100000 in
set_option maxHeartbeats 4000000 in
theorem expr_enum (B R : Nat) (i : Int) (n s : ByteArray) (p : PP) (l : List PE) (pos : Int) (hl : l.length ≤ 1) (IH : ∀ x ∈ l, ExprAt B R x) : ExprAt B R (.mk 20 i n s p l pos) := by
  intro T0 G0 ts v w hB hW hA hx hL
  obtain ⟨p1, n1, c1, ao, cap, b, o, rfl, ⟨_, hi64, hsn, hss⟩, hp, hn, k1, hr⟩ := hx.parts
  have hRR : R < w.heap.size := hA.lt
  obtain ⟨w1, hw1⟩ : ∃ w1, w1 = w.alloc (.cells ((PE.mk 20 i n s p l pos).cells ⟨.slice p1 n1 c1, .slice ao l.length cap⟩).toArray 37) := ⟨_, rfl⟩
  have bx : Below w.heap.size w w1 := by rw [hw1]; exact new_only _ _
  have hz : w.heap.size < w1.heap.size := by rw [hw1]; simp
  have EB : EBox R w.heap.size (PE.mk 20 i n s p l pos) ⟨.slice p1 n1 c1, .slice ao l.length cap⟩ w1 := by rw [hw1]; exact EBox.new _ _ hRR
  have et : tokE (.mk 20 i n s p l pos) = kT n :: wDot :: kT s :: enumT (tokEs l) := by rw [tokE]; rfl
  rw [et] at hL ⊢
  have hB1 : B ≤ w1.heap.size := by omega
  have BX : Hid (WBut B R w w1) := Lib.hid (WBut.of bx hB (R := R))
  have HW := Lib.hid (hW.below (bx.mono hB))
  have HA := Lib.hid (hA.stays bx)
  have HE := Lib.hid EB
  have HX := Lib.hid (PE.In.below (bx.mono hB) hx)
  have HP := Lib.hid (hp.below (bx.mono hB))
  have HL := Lib.hid hL
  have SG := EB.safe
  have hgB := hW.lt.2
  have x0 : w1.cell? ⟨w.heap.size, 0, none⟩ = some (.int .u8 20) := EB.has 0 _ rfl
  have x1 : w1.cell? ⟨w.heap.size, 1, none⟩ = some (.int .i64 i) := EB.has 1 _ rfl
  have x2 : w1.cell? ⟨w.heap.size, 2, none⟩ = some (.string n) := EB.has 2 _ rfl
  have x3 : w1.cell? ⟨w.heap.size, 3, none⟩ = some (.string s) := EB.has 3 _ rfl
  have x4 : w1.cell? ⟨w.heap.size, 4, none⟩ = some (.string p.name) := EB.has 4 _ rfl
  have x5 : w1.cell? ⟨w.heap.size, 5, none⟩ = some (.slice p1 n1 c1) := EB.has 5 _ rfl
  have x6 : w1.cell? ⟨w.heap.size, 6, none⟩ = some (.slice ao l.length cap) := EB.has 6 _ rfl
  have x7 : w1.cell? ⟨w.heap.size, 7, none⟩ = some (.int .i64 pos) := EB.has 7 _ rfl
  show Calls Tryz.prog 69 #[.pointer (some ⟨R, 0, none⟩), .agg #[.int .u8 20, .int .i64 i, .string n, .string s, .string p.name, .slice p1 n1 c1, .slice ao l.length cap, .int .i64 pos]] w _
  have hw1' : w1 = w.alloc (.cells #[.int .u8 20, .int .i64 i, .string n, .string s, .string p.name, .slice p1 n1 c1, .slice ao l.length cap, .int .i64 pos] 37) := hw1
  clear hw1 hW hA hx hp hL EB et bx
  have P1 := Lib.hid (enumW_calls B R i n s p l pos hl IH T0 G0 ts _ w1 hB1 HW.out HA.out HX.out HL.out)
  have P1' : Hid (Calls Tryz.prog 103 #[.pointer (some ⟨R, 0, none⟩), .agg #[.int .u8 20, .int .i64 i, .string n, .string s, .string p.name, .slice p1 n1 c1, .slice ao l.length cap, .int .i64 pos]] w1 fun e w' => e = .returned (.tuple #[]) ∧ AtW B R T0 G0 (ts ++ (kT n :: wDot :: kT s :: enumT (tokEs l))) w' ∧ WBut B R w1 w') := Lib.hid P1.out
  clear P1
  go_enter Tryz.func69, Tryz.ntmps69
  go_upto_region 1 with (fail)
  rw [← hw1']
  clear hw1'
  go_wp2_with fail
  (with_reducible refine (P1'.out).mono ?_)
  rintro e w9 ⟨rfl, h9, b9⟩
  have H9 := Lib.hid h9
  have B9 := Lib.hid (BX.out.trans b9)
  clear h9 b9
  go_wp2
  go_end0
  exact ⟨rfl, H9.out, B9.out⟩
end Go.Proofs.YthilicmhdkmipaaGreatDoor
/- What the writer writes of an expression: case by case. -/
namespace Go.Proofs.YthilicmhdkmipaaGreatDoor
open Go.RowKit
set_option linter.unusedVariables false

theorem sides_tok (op : Int) (hop : 9 ≤ op ∧ op ≤ 17) (i : Int) (n s : ByteArray) (p : PP) (a a2 : PE) (pos : Int) : tokE (.mk op i n s p [a, a2] pos) = sideT (leftB op) a.op (tokE a) ++ exprWord op :: sideT (strongB op + 1) a2.op (tokE a2) := by
  rw [tokE, if_neg (by omega), if_neg (by omega), if_neg (by omega), if_neg (by omega), if_neg (by omega), if_neg (by omega), if_neg (by omega), if_neg (by omega), if_neg (by omega), if_neg (by omega), if_pos hop]; rfl
set_option maxRecDepth 100000 in
set_option maxHeartbeats 4000000 in
theorem expr_sides (B R : Nat) (op : Nat) (hop : 9 ≤ op ∧ op ≤ 17) (a a2 : PE) (i : Int) (n s : ByteArray) (p : PP) (l : List PE) (pos : Int) (hl2 : l = [a, a2]) (IH : ExprAt B R a) (IH2 : ExprAt B R a2) : ExprAt B R (.mk (op : Int) i n s p l pos) := by
  intro T0 G0 ts v w hB hW hA hx hL
  obtain ⟨p1, n1, c1, ao, cap, b, o, rfl, ⟨_, hi64, hsn, hss⟩, hp, hn, k1, hr⟩ := hx.parts
  have hRR : R < w.heap.size := hA.lt
  obtain ⟨w1, hw1⟩ : ∃ w1, w1 = w.alloc (.cells ((PE.mk (op : Int) i n s p l pos).cells ⟨.slice p1 n1 c1, .slice ao l.length cap⟩).toArray 37) := ⟨_, rfl⟩
  have bx : Below w.heap.size w w1 := by rw [hw1]; exact new_only _ _
  have hz : w.heap.size < w1.heap.size := by rw [hw1]; simp
  have EB : EBox R w.heap.size (PE.mk (op : Int) i n s p l pos) ⟨.slice p1 n1 c1, .slice ao l.length cap⟩ w1 := by rw [hw1]; exact EBox.new _ _ hRR
  have et : tokE (.mk (op : Int) i n s p l pos) = sideT (leftB op) a.op (tokE a) ++ exprWord op :: sideT (strongB op + 1) a2.op (tokE a2) := by subst hl2; exact sides_tok op (by omega) i n s p a a2 pos
  rw [et] at hL ⊢
  have hB1 : B ≤ w1.heap.size := by omega
  have BX : Hid (WBut B R w w1) := Lib.hid (WBut.of bx hB (R := R))
  have HW := Lib.hid (hW.below (bx.mono hB))
  have HA := Lib.hid (hA.stays bx)
  have HE := Lib.hid EB
  have HX := Lib.hid (PE.In.below (bx.mono hB) hx)
  have HP := Lib.hid (hp.below (bx.mono hB))
  have HL := Lib.hid hL
  have SG := EB.safe
  have hgB := hW.lt.2
  have x0 : w1.cell? ⟨w.heap.size, 0, none⟩ = some (.int .u8 (op : Int)) := EB.has 0 _ rfl
  have x1 : w1.cell? ⟨w.heap.size, 1, none⟩ = some (.int .i64 i) := EB.has 1 _ rfl
  have x2 : w1.cell? ⟨w.heap.size, 2, none⟩ = some (.string n) := EB.has 2 _ rfl
  have x3 : w1.cell? ⟨w.heap.size, 3, none⟩ = some (.string s) := EB.has 3 _ rfl
  have x4 : w1.cell? ⟨w.heap.size, 4, none⟩ = some (.string p.name) := EB.has 4 _ rfl
  have x5 : w1.cell? ⟨w.heap.size, 5, none⟩ = some (.slice p1 n1 c1) := EB.has 5 _ rfl
  have x6 : w1.cell? ⟨w.heap.size, 6, none⟩ = some (.slice ao l.length cap) := EB.has 6 _ rfl
  have x7 : w1.cell? ⟨w.heap.size, 7, none⟩ = some (.int .i64 pos) := EB.has 7 _ rfl
  show Calls Tryz.prog 69 #[.pointer (some ⟨R, 0, none⟩), .agg #[.int .u8 (op : Int), .int .i64 i, .string n, .string s, .string p.name, .slice p1 n1 c1, .slice ao l.length cap, .int .i64 pos]] w _
  have hw1' : w1 = w.alloc (.cells #[.int .u8 (op : Int), .int .i64 i, .string n, .string s, .string p.name, .slice p1 n1 c1, .slice ao l.length cap, .int .i64 pos] 37) := hw1
  clear hw1 hW hA hx hp hL EB et bx
  have hcs : (strongB op = 0 ∧ leftB op = 0) ∨ (strongB op = 1 ∧ leftB op = 1) ∨ (strongB op = 3 ∧ leftB op = 4) ∨ (strongB op = 4 ∧ leftB op = 4) ∨ (strongB op = 5 ∧ leftB op = 5) := by
    rcases (by omega : op = 9 ∨ op = 10 ∨ op = 11 ∨ op = 12 ∨ op = 13 ∨ op = 14 ∨ op = 15 ∨ op = 16 ∨ op = 17) with rfl | rfl | rfl | rfl | rfl | rfl | rfl | rfl | rfl <;> decide
  subst hl2
  have P1 := Lib.hid (sidesW_calls B R op (strongB op) (leftB op) (by omega) rfl hcs i n s p a a2 pos IH IH2 T0 G0 ts ⟨.slice p1 n1 c1, .slice ao 2 cap⟩ w1 hB1 HW.out HA.out HX.out HL.out)
  obtain ⟨z, hzz⟩ : ∃ z : Int, z = (op : Int) := ⟨_, rfl⟩
  obtain ⟨tx, htx⟩ : ∃ tx, tx = sideT (leftB op) a.op (tokE a) ++ exprWord op :: sideT (strongB op + 1) a2.op (tokE a2) := ⟨_, rfl⟩
  rw [← htx] at P1 ⊢
  have P1' : Hid (Calls Tryz.prog 106 #[.pointer (some ⟨R, 0, none⟩), .agg #[.int .u8 z, .int .i64 i, .string n, .string s, .string p.name, .slice p1 n1 c1, .slice ao 2 cap, .int .i64 pos]] w1 fun e w' => e = .returned (.tuple #[]) ∧ AtW B R T0 G0 (ts ++ tx) w' ∧ WBut B R w1 w') := Lib.hid (by rw [hzz]; exact P1.out)
  rw [← hzz] at x0 hw1' ⊢
  change w1 = w.alloc (.cells #[.int .u8 z, .int .i64 i, .string n, .string s, .string p.name, .slice p1 n1 c1, .slice ao 2 cap, .int .i64 pos] 37) at hw1'
  show Calls Tryz.prog 69 #[.pointer (some ⟨R, 0, none⟩), .agg #[.int .u8 z, .int .i64 i, .string n, .string s, .string p.name, .slice p1 n1 c1, .slice ao 2 cap, .int .i64 pos]] w _
  have x6' : w1.cell? ⟨w.heap.size, 6, none⟩ = some (.slice ao 2 cap) := x6
  have hops : z = 9 ∨ z = 10 ∨ z = 11 ∨ z = 12 ∨ z = 13 ∨ z = 14 ∨ z = 15 ∨ z = 16 ∨ z = 17 := by omega
  clear hop HW HE HX HP HL IH IH2 HA hgB htx hzz P1 hcs x6 k1 hr hn
  rcases hops with rfl | rfl | rfl | rfl | rfl | rfl | rfl | rfl | rfl
  all_goals
    go_enter Tryz.func69, Tryz.ntmps69
    go_upto_region 1 with (fail)
    rw [← hw1']
    clear hw1'
    go_wp2_with fail
    (with_reducible refine (P1'.out).mono ?_)
    rintro e w9 ⟨rfl, h9, b9⟩
    have H9 := Lib.hid h9
    have B9 := Lib.hid (BX.out.trans b9)
    clear h9 b9
    go_wp2
    go_end0
    exact ⟨rfl, H9.out, B9.out⟩
end Go.Proofs.YthilicmhdkmipaaGreatDoor
/- What the writer writes of an expression: case by case. -/
namespace Go.Proofs.YthilicmhdkmipaaGreatDoor
open Go.RowKit
set_option linter.unusedVariables false

theorem boolWord_bytes (i : Int) : (⟨(Lib.formatBool (decide (i = 1))).toArray⟩ : ByteArray) = ⟨(boolWord i).toArray⟩ := by
  unfold boolWord
  by_cases h : i = 1
  · subst h; rfl
  · rw [if_neg h, decide_eq_false h]; rfl
set_option maxRecDepth 100000 in
set_option maxHeartbeats 4000000 in
theorem expr_bool (B R : Nat) (i : Int) (n s : ByteArray) (p : PP) (l : List PE) (pos : Int) : ExprAt B R (.mk 2 i n s p l pos) := by
  intro T0 G0 ts v w hB hW hA hx hL
  obtain ⟨p1, n1, c1, ao, cap, b, o, rfl, ⟨_, hi64, hsn, hss⟩, hp, hn, k1, hr⟩ := hx.parts
  have hRR : R < w.heap.size := hA.lt
  obtain ⟨w1, hw1⟩ : ∃ w1, w1 = w.alloc (.cells ((PE.mk 2 i n s p l pos).cells ⟨.slice p1 n1 c1, .slice ao l.length cap⟩).toArray 37) := ⟨_, rfl⟩
  have bx : Below w.heap.size w w1 := by rw [hw1]; exact new_only _ _
  have hz : w.heap.size < w1.heap.size := by rw [hw1]; simp
  have EB : EBox R w.heap.size (PE.mk 2 i n s p l pos) ⟨.slice p1 n1 c1, .slice ao l.length cap⟩ w1 := by rw [hw1]; exact EBox.new _ _ hRR
  have et : tokE (.mk 2 i n s p l pos) = [boolWord i] := by rw [tokE]; rfl
  rw [et] at hL ⊢
  have hB1 : B ≤ w1.heap.size := by omega
  have BX : Hid (WBut B R w w1) := Lib.hid (WBut.of bx hB (R := R))
  have HW := Lib.hid (hW.below (bx.mono hB))
  have HA := Lib.hid (hA.stays bx)
  have HE := Lib.hid EB
  have HX := Lib.hid (PE.In.below (bx.mono hB) hx)
  have HP := Lib.hid (hp.below (bx.mono hB))
  have HL := Lib.hid hL
  have SG := EB.safe
  have hgB := hW.lt.2
  have x0 : w1.cell? ⟨w.heap.size, 0, none⟩ = some (.int .u8 2) := EB.has 0 _ rfl
  have x1 : w1.cell? ⟨w.heap.size, 1, none⟩ = some (.int .i64 i) := EB.has 1 _ rfl
  have x2 : w1.cell? ⟨w.heap.size, 2, none⟩ = some (.string n) := EB.has 2 _ rfl
  have x3 : w1.cell? ⟨w.heap.size, 3, none⟩ = some (.string s) := EB.has 3 _ rfl
  have x4 : w1.cell? ⟨w.heap.size, 4, none⟩ = some (.string p.name) := EB.has 4 _ rfl
  have x5 : w1.cell? ⟨w.heap.size, 5, none⟩ = some (.slice p1 n1 c1) := EB.has 5 _ rfl
  have x6 : w1.cell? ⟨w.heap.size, 6, none⟩ = some (.slice ao l.length cap) := EB.has 6 _ rfl
  have x7 : w1.cell? ⟨w.heap.size, 7, none⟩ = some (.int .i64 pos) := EB.has 7 _ rfl
  show Calls Tryz.prog 69 #[.pointer (some ⟨R, 0, none⟩), .agg #[.int .u8 2, .int .i64 i, .string n, .string s, .string p.name, .slice p1 n1 c1, .slice ao l.length cap, .int .i64 pos]] w _
  have hw1' : w1 = w.alloc (.cells #[.int .u8 2, .int .i64 i, .string n, .string s, .string p.name, .slice p1 n1 c1, .slice ao l.length cap, .int .i64 pos] 37) := hw1
  clear hw1 hW hA hx hp hL EB et bx
  have HI := Lib.hid (fun (W : World) => Tryz.strconv_FormatBool (i == 1) W)
  have ek : kT ⟨(boolWord i).toArray⟩ = boolWord i := kT_mk _
  obtain ⟨D, hD⟩ : ∃ D : ByteArray, D = ⟨(boolWord i).toArray⟩ := ⟨_, rfl⟩
  have hbw : (⟨(Lib.formatBool (i == 1)).toArray⟩ : ByteArray) = D := by rw [hD]; exact boolWord_bytes i
  have hsz : D.size ≤ maxLen := by
    rw [hD]; show (boolWord i).toArray.size ≤ _
    rw [List.size_toArray]
    unfold boolWord maxLen; split <;> decide
  rw [← hD] at ek
  simp only [hbw] at HI
  have C2 := Lib.hid (put1_calls B R D T0 G0 ts _ w1 (new_drew w1 (.cells #[.string D] 9)) (drew_new w1 _) hB1 HA.out hsz (by rw [ek]; exact HL.out))
  rw [ek] at C2
  clear hD ek hbw
  go_enter Tryz.func69, Tryz.ntmps69
  go_upto_region 1 with (fail)
  rw [← hw1']
  clear hw1'
  go_upto_region 6 with (fail)
  go_region_held3 (fun w' => w'.cell? ⟨w.heap.size, 1, none⟩ = some (.int .i64 i)) (first | exact x1 | exact (low_new w1 _ _ _ hz).trans x1 | exact XB)
    (first
      | (go_at_call 100; (with_reducible refine (HI.out _).mono ?_)
         rintro e w2 ⟨rfl, rfl⟩)
      | (go_at_call 98; (with_reducible refine (C2.out).mono ?_)
         rintro e w9 ⟨rfl, h9, b9⟩
         have H9 := Lib.hid h9
         have B9 := Lib.hid (BX.out.trans b9)
         have XB := (SG.cell b9 1).trans x1
         clear h9 b9))
  all_goals
    go_wp2
    go_end0
    exact ⟨rfl, H9.out, B9.out⟩
end Go.Proofs.YthilicmhdkmipaaGreatDoor
/- What the writer writes of an expression that is whole. -/
namespace Go.Proofs.YthilicmhdkmipaaGreatDoor
open Go.RowKit
set_option linter.unusedVariables false

theorem nmB_size {s : ByteArray} (h : nmB s = true) : s.size ≠ 0 := by
  intro h0
  have : s.data.toList = [] := List.length_eq_zero_iff.1 h0
  unfold nmB at h
  rw [this] at h
  exact absurd h (by decide)
theorem tyB_size {s : ByteArray} (h : tyB s = true) : s.size ≠ 0 := by
  intro h0
  have : s.data.toList = [] := List.length_eq_zero_iff.1 h0
  unfold tyB at h
  rw [this] at h
  exact absurd h (by decide)
theorem plB_size {x : PP} (h : plB x = true) : x.name.size ≠ 0 := by
  unfold plB at h
  rw [Bool.and_eq_true] at h
  exact nmB_size h.1
/-- what an expression's shape says of how many there are -/
structure ShOf (op : Int) (p : PP) (l : List PE) : Prop where
  rng : 1 ≤ op ∧ op ≤ 36
  one : op = 7 ∨ op = 8 → l.length = 1
  two : 9 ≤ op ∧ op ≤ 17 → l.length = 2
  fields : op = 19 → p.path.length = l.length
  enum : op = 20 → l.length ≤ 1
  word : 21 ≤ op → l.length ≤ 1 ∧ (p.name.size = 0 → l.length = 1)
theorem formL_op {op : Int} (h : (formL op).isEmpty = false) : 1 ≤ op ∧ op ≤ 36 := by
  by_cases h1 : 1 ≤ op
  · by_cases h2 : op ≤ 36
    · exact ⟨h1, h2⟩
    · exfalso
      have : formL op = [] := by
        unfold formL
        rw [List.getD_eq_getElem?_getD, List.getElem?_eq_none (by simp [formTab]; omega)]; rfl
      rw [this] at h; cases h
  · exfalso
    have : formL op = [] := by
      unfold formL
      rw [show op.toNat = 0 by omega]; rfl
    rw [this] at h; cases h
theorem rSh_of {op i : Int} {n s : ByteArray} {p : PP} {l : List PE} {pos : Int} (h : rSh (.mk op i n s p l pos) = true) : ShOf op p l := by
  unfold rSh at h
  simp only [Bool.and_eq_true, Bool.not_eq_true'] at h
  obtain ⟨h0, hm, _, hp, _, _⟩ := h
  simp only [PE.op, PE.args] at h0 hm hp
  have ho := formL_op h0
  rcases (by omega : op = 1 ∨ op = 2 ∨ op = 3 ∨ op = 4 ∨ op = 5 ∨ op = 6 ∨ op = 7 ∨ op = 8 ∨ op = 9 ∨ op = 10 ∨ op = 11 ∨ op = 12 ∨ op = 13 ∨ op = 14 ∨ op = 15 ∨ op = 16 ∨ op = 17 ∨ op = 18 ∨ op = 19 ∨ op = 20 ∨ op = 21 ∨ op = 22 ∨ op = 23 ∨ op = 24 ∨ op = 25 ∨ op = 26 ∨ op = 27 ∨ op = 28 ∨ op = 29 ∨ op = 30 ∨ op = 31 ∨ op = 32 ∨ op = 33 ∨ op = 34 ∨ op = 35 ∨ op = 36) with rfl | rfl | rfl | rfl | rfl | rfl | rfl | rfl | rfl | rfl | rfl | rfl | rfl | rfl | rfl | rfl | rfl | rfl | rfl | rfl | rfl | rfl | rfl | rfl | rfl | rfl | rfl | rfl | rfl | rfl | rfl | rfl | rfl | rfl | rfl | rfl
  all_goals
    simp [formL, formTab, manyL, List.getLastD] at hm
    simp [formL, formTab, rPlace, rFields, PE.place, PE.args] at hp
    exact ⟨ho, fun h => by omega, fun h => by omega, fun h => (by first | omega | exact of_decide_eq_true hp.2.1), fun h => by omega, fun h => (by first | omega | exact ⟨by omega, fun e => by omega⟩ | exact ⟨by rw [hm]; decide, fun e => absurd e (plB_size hp)⟩ | exact ⟨by omega, fun e => absurd e (plB_size hp)⟩)⟩
theorem len_two {α : Type} {l : List α} (h : l.length = 2) : ∃ a b, l = [a, b] := by
  match l, h with
  | [a, b], _ => exact ⟨a, b, rfl⟩
theorem rE_step {n : Nat} {x : PE} (h : rE (n + 1) x = true) : rSh x = true ∧ ∀ a ∈ x.args, rE n a = true := by
  have hr : rE (n + 1) x = (rSh x && x.args.all (fun a => (!lentB a || decide (x.op = 18)) && rE n a)) := by rw [rE]
  rw [hr, Bool.and_eq_true, List.all_eq_true] at h
  refine ⟨h.1, fun a ha => ?_⟩
  have := h.2 a ha
  rw [Bool.and_eq_true] at this
  exact this.2
theorem expr_calls (B R : Nat) : ∀ (m : Nat) (x : PE), rE m x = true → ExprAt B R x
  | 0, x, h => by rw [rE] at h; cases h
  | m + 1, .mk op i n s p l pos, h => by
    obtain ⟨hs, hall⟩ := rE_step h
    have IH : ∀ a ∈ l, ExprAt B R a := fun a ha => expr_calls B R m a (hall a ha)
    obtain ⟨ho, h1, h2, h3, h4, h5⟩ := rSh_of hs
    by_cases c1 : op = 1
    · subst c1; exact expr_int B R i n s p l pos
    by_cases c2 : op = 2
    · subst c2; exact expr_bool B R i n s p l pos
    by_cases c3 : op = 3
    · subst c3; exact expr_unit B R i n s p l pos
    by_cases c4 : op = 4
    · subst c4; exact expr_use B R i n s p l pos
    by_cases c5 : op = 5
    · subst c5; exact expr_share B R i n s p l pos
    by_cases c6 : op = 6
    · subst c6; exact expr_mut B R i n s p l pos
    by_cases c18 : op = 18
    · subst c18; exact expr_call B R i n s p l pos IH
    by_cases c19 : op = 19
    · subst c19; exact expr_struct B R i n s p l pos (h3 rfl) IH
    by_cases c20 : op = 20
    · subst c20; exact expr_enum B R i n s p l pos (h4 rfl) IH
    obtain ⟨k, rfl⟩ : ∃ k : Nat, op = (k : Int) := ⟨op.toNat, by omega⟩
    by_cases c7 : (k : Int) = 7 ∨ (k : Int) = 8
    · have hl := h1 c7
      obtain ⟨a, rfl⟩ : ∃ a, l = [a] := List.length_eq_one_iff.1 hl
      exact expr_prefix B R k (by omega) a i n s p [a] pos rfl (IH a (by simp))
    by_cases c9 : 9 ≤ (k : Int) ∧ (k : Int) ≤ 17
    · have hl := h2 c9
      obtain ⟨a, b, rfl⟩ : ∃ a b, l = [a, b] := len_two hl
      exact expr_sides B R k (by omega) a b i n s p [a, b] pos rfl (IH a (by simp)) (IH b (by simp))
    exact expr_worded B R k (by omega) i n s p l pos (h5 (by omega)).1 (h5 (by omega)).2 IH
end Go.Proofs.YthilicmhdkmipaaGreatDoor
/- shown of an expression, over what tells whether it is whole; Type, Place, Expr themselves. -/
namespace Go.Proofs.YthilicmhdkmipaaGreatDoor
open Go.RowKit
set_option linter.unusedVariables false

mutual
theorem PE.In.wider {B B' : Nat} {w : World} (hb : B ≤ B') : ∀ {t : PE} {v : VE}, t.In B w v → t.In B' w v
  | .mk _ _ _ _ p [] _, v, ⟨h1, h2, b, o, hs, _⟩ => ⟨h1, h2.wider hb, b, o, hs.wider hb, trivial⟩
  | .mk _ _ _ _ p (t :: us) _, v, ⟨h1, h2, b, o, hs, hr⟩ => ⟨h1, h2.wider hb, b, o, hs.wider hb, PE.Row.wider hb hr⟩
theorem PE.Row.wider {B B' : Nat} {w : World} (hb : B ≤ B') {b : Nat} : ∀ {l : List PE} {o : Nat}, PE.Row B w b o l → PE.Row B' w b o l
  | [], _, _ => trivial
  | t :: l, o, ⟨⟨v, h1, h2⟩, hr⟩ => ⟨⟨v, h1, PE.In.wider hb h2⟩, PE.Row.wider hb hr⟩
end
set_option maxRecDepth 100000 in
set_option maxHeartbeats 4000000 in
theorem shownE_calls (B : Nat) (t : PE) (q : Bool) (v : VE) (w : World) (hB : B ≤ w.heap.size) (hW : Words B w) (ht : t.In B w v)
    (hq : ∀ W, Below w.heap.size w W → Calls Tryz.prog 68 #[.agg (t.cells v).toArray] W fun e w' => e = .returned (.bool q) ∧ Below W.heap.size W w')
    (hT : q = true → ∀ B R, ExprAt B R t) (hL : q = true → (lineT (tokE t)).length ≤ 1000000000) (h0 : q = true → lineT (tokE t) ≠ []) :
    Calls Tryz.prog 67 #[.agg (t.cells v).toArray, .func (.func 68) #[] #[], .func (.func 69) #[] #[]] w fun e w' => e = .returned (.string ⟨(if q then lineT (tokE t) else []).toArray⟩) ∧ Below w.heap.size w w' := by
  obtain ⟨p1, n1, c1, p2, n2, c2, rfl⟩ := ht.shape
  obtain ⟨w1, hw1⟩ : ∃ w1, w1 = w.alloc (.cells (t.cells ⟨.slice p1 n1 c1, .slice p2 n2 c2⟩).toArray 37) := ⟨_, rfl⟩
  have bx : Below w.heap.size w w1 := by rw [hw1]; exact new_only _ _
  have hz : w.heap.size < w1.heap.size := by rw [hw1]; simp
  have HC : CellsAt w1 w.heap.size 0 (t.cells ⟨.slice p1 n1 c1, .slice p2 n2 c2⟩) := by rw [hw1]; exact cells_made (heap_alloc_new w _)
  have x0 : w1.cell? ⟨w.heap.size, 0, none⟩ = some (.int .u8 t.op) := by simpa using HC 0 _ rfl
  have x1 : w1.cell? ⟨w.heap.size, 1, none⟩ = some (.int .i64 t.int) := by simpa using HC 1 _ rfl
  have x2 : w1.cell? ⟨w.heap.size, 2, none⟩ = some (.string t.name) := by simpa using HC 2 _ rfl
  have x3 : w1.cell? ⟨w.heap.size, 3, none⟩ = some (.string t.second) := by simpa using HC 3 _ rfl
  have x4 : w1.cell? ⟨w.heap.size, 4, none⟩ = some (.string t.place.name) := by simpa using HC 4 _ rfl
  have x5 : w1.cell? ⟨w.heap.size, 5, none⟩ = some (.slice p1 n1 c1) := by simpa using HC 5 _ rfl
  have x6 : w1.cell? ⟨w.heap.size, 6, none⟩ = some (.slice p2 n2 c2) := by simpa using HC 6 _ rfl
  have x7 : w1.cell? ⟨w.heap.size, 7, none⟩ = some (.int .i64 t.pos) := by simpa using HC 7 _ rfl
  have C1 : Hid (Calls Tryz.prog 68 #[.agg #[.int .u8 t.op, .int .i64 t.int, .string t.name, .string t.second, .string t.place.name, .slice p1 n1 c1, .slice p2 n2 c2, .int .i64 t.pos]] w1 fun e w' => e = .returned (.bool q) ∧ Below w1.heap.size w1 w') := Lib.hid (hq w1 bx)
  have HW := Lib.hid hW
  have HT := Lib.hid ht
  have HTy := Lib.hid hT
  have HL := Lib.hid hL
  have H0 := Lib.hid h0
  have hw1' : w1 = w.alloc (.cells #[.int .u8 t.op, .int .i64 t.int, .string t.name, .string t.second, .string t.place.name, .slice p1 n1 c1, .slice p2 n2 c2, .int .i64 t.pos] 37) := hw1
  show Calls Tryz.prog 67 #[.agg #[.int .u8 t.op, .int .i64 t.int, .string t.name, .string t.second, .string t.place.name, .slice p1 n1 c1, .slice p2 n2 c2, .int .i64 t.pos], .func (.func 68) #[] #[], .func (.func 69) #[] #[]] w _
  clear hq hW ht hT hL h0 hw1 HC
  go_enter Tryz.func67, Tryz.ntmps67
  go_upto_region 1 with (fail)
  rw [← hw1']
  clear hw1'
  cases q with
  | false =>
    go_wp2_with fail
    (with_reducible refine (C1.out).mono ?_)
    rintro e w2 ⟨rfl, bq⟩
    have B2 := Lib.hid (bx.trans (bq.mono (by omega)))
    clear bq
    go_wp2
    go_ret
    exact ⟨rfl, B2.out⟩
  | true =>
    go_wp2_with fail
    (with_reducible refine (C1.out).mono ?_)
    rintro e w2 ⟨rfl, bq⟩
    have B2 := Lib.hid (bx.trans (bq.mono (by omega)))
    have b2 := bq
    have z2 := bq.size
    have y0 := (b2.cell (p := ⟨w.heap.size, 0, none⟩) hz).trans x0
    have y1 := (b2.cell (p := ⟨w.heap.size, 1, none⟩) hz).trans x1
    have y2 := (b2.cell (p := ⟨w.heap.size, 2, none⟩) hz).trans x2
    have y3 := (b2.cell (p := ⟨w.heap.size, 3, none⟩) hz).trans x3
    have y4 := (b2.cell (p := ⟨w.heap.size, 4, none⟩) hz).trans x4
    have y5 := (b2.cell (p := ⟨w.heap.size, 5, none⟩) hz).trans x5
    have y6 := (b2.cell (p := ⟨w.heap.size, 6, none⟩) hz).trans x6
    have y7 := (b2.cell (p := ⟨w.heap.size, 7, none⟩) hz).trans x7
    have A0 := Lib.hid (AtW.new w2)
    obtain ⟨w3, hw3⟩ : ∃ w3, w3 = w2.alloc (.cells #[.pointer none, .slice none 0 0, .string ⟨#[]⟩] 140) := ⟨_, rfl⟩
    have b3 : Below w2.heap.size w2 w3 := by rw [hw3]; exact new_only _ _
    rw [← hw3] at A0
    have hzz : w.heap.size < w2.heap.size := by omega
    have C2 := Lib.hid (HTy.out trivial w2.heap.size w2.heap.size [] [] [] ⟨.slice p1 n1 c1, .slice p2 n2 c2⟩ w3 b3.size (((HW.out.below (B2.out.mono hB)).wider (by omega)).below b3) A0.out (PE.In.below b3 (PE.In.wider (by omega) (PE.In.below (B2.out.mono hB) HT.out))) (HL.out trivial))
    have C2' : Hid (Calls Tryz.prog 69 #[.pointer (some ⟨w2.heap.size, 0, none⟩), .agg #[.int .u8 t.op, .int .i64 t.int, .string t.name, .string t.second, .string t.place.name, .slice p1 n1 c1, .slice p2 n2 c2, .int .i64 t.pos]] w3 fun e w' => e = .returned (.tuple #[]) ∧ AtW w2.heap.size w2.heap.size [] [] ([] ++ tokE t) w' ∧ WBut w2.heap.size w2.heap.size w3 w') := Lib.hid C2.out
    have v0 := (b3.cell (p := ⟨w.heap.size, 0, none⟩) hzz).trans y0
    have v1 := (b3.cell (p := ⟨w.heap.size, 1, none⟩) hzz).trans y1
    have v2 := (b3.cell (p := ⟨w.heap.size, 2, none⟩) hzz).trans y2
    have v3 := (b3.cell (p := ⟨w.heap.size, 3, none⟩) hzz).trans y3
    have v4 := (b3.cell (p := ⟨w.heap.size, 4, none⟩) hzz).trans y4
    have v5 := (b3.cell (p := ⟨w.heap.size, 5, none⟩) hzz).trans y5
    have v6 := (b3.cell (p := ⟨w.heap.size, 6, none⟩) hzz).trans y6
    have v7 := (b3.cell (p := ⟨w.heap.size, 7, none⟩) hzz).trans y7
    have B3 := Lib.hid (B2.out.trans (b3.mono (by omega)))
    have Z3 := b3.size
    clear bq b2 b3 C1 C2 x0 x1 x2 x3 x4 x5 x6 x7 y0 y1 y2 y3 y4 y5 y6 y7
    go_upto_region 4 with (fail)
    rw [← hw3]
    clear hw3
    go_wp2_with fail
    (with_reducible refine (C2'.out).mono ?_)
    rintro e w4 ⟨rfl, h4, b4⟩
    have B4 := Lib.hid (B3.out.trans (b4.bel.mono (by omega)))
    have C3 := Lib.hid (all_row _ _ _ _ _ w4 h4 (H0.out trivial))
    clear h4 b4 C2'
    go_wp2_with (go_at_call 87; refine (C3.out).mono ?_; rintro e w5 ⟨rfl, b5⟩; have B5 := Lib.hid (B4.out.trans (b5.mono (by omega))); clear b5)
    go_ret
    exact ⟨rfl, B5.out⟩
end Go.Proofs.YthilicmhdkmipaaGreatDoor
