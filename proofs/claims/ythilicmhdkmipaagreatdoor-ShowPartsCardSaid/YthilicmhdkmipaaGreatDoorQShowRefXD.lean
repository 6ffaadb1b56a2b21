/- The document's tokens of an expression: cases. -/
import Derived.Test.YthilicmhdkmipaaGreatDoorQJoinAZ
namespace Go.Proofs.YthilicmhdkmipaaGreatDoor
open Go.RowKit
set_option linter.unusedVariables false
set_option maxRecDepth 100000 in
set_option maxHeartbeats 8000000 in
theorem docE_sides (B : Nat) (op : Nat) (hop : 9 ≤ op ∧ op ≤ 17) (a c : PE) (i : Int) (n s : ByteArray) (p : PP) (pos : Int) (IH : DocEAt B a) (IH2 : DocEAt B c) : DocEAt B (.mk (op : Int) i n s p [a, c] pos) := by
  intro v w hB hx hlen hok
  obtain ⟨p1, n1, c1, ao, cap, b, o, rfl, ⟨_, hi64, hsn, hss⟩, hp, hn, k1, hr⟩ := PE.In.partsR hx
  obtain ⟨w1, hw1⟩ : ∃ w1, w1 = w.alloc (.cells ((PE.mk (op : Int) i n s p [a, c] pos).cells ⟨.slice p1 n1 c1, .slice ao 2 cap⟩).toArray 37) := ⟨_, rfl⟩
  have bx : Below w.heap.size w w1 := by rw [hw1]; exact new_onlyR _ _
  have hz : w.heap.size < w1.heap.size := by rw [hw1]; simp
  have HC : CellsAt w1 w.heap.size 0 ((PE.mk (op : Int) i n s p [a, c] pos).cells ⟨.slice p1 n1 c1, .slice ao 2 cap⟩) := by rw [hw1]; exact cells_madeR (heap_alloc_new w _)
  have et : tokE (.mk (op : Int) i n s p [a, c] pos) = sideT (leftB op) a.op (tokE a) ++ [exprWord op] ++ sideT (strongB op + 1) c.op (tokE c) := by rw [tokE, if_neg (by omega), if_neg (by omega), if_neg (by omega), if_neg (by omega), if_neg (by omega), if_neg (by omega), if_neg (by omega), if_neg (by omega), if_neg (by omega), if_neg (by omega), if_pos (by omega)]; simp [tokEs, opAt]
  rw [et] at hlen hok ⊢
  have HCB := Lib.hid HC
  have BX := Lib.hid bx
  have HLN := Lib.hid hlen
  have HOK := Lib.hid hok
  have HR := Lib.hid hr
  have HP := Lib.hid hp
  have HK := Lib.hid k1
  have HS := Lib.hid fun (W : World) => docStrong_calls (op : Int) W
  have hs1 : w.heap.size + 1 ≤ w1.heap.size := hz
  have hB1 : B ≤ w1.heap.size := by omega
  have S1 : Hid (Below (w.heap.size + 1) w1 w1) := Lib.hid (Below.refl _ _)
  have W1 : Hid (Below w.heap.size w w1) := Lib.hid bx
  have HO1 : Hid (TokOwn (w.heap.size + 1) w1 [] (.slice none 0 0)) := Lib.hid (TokOwn.nil _ _)
  have e1 : (op : Int) ≠ 1 := by omega
  have e2 : (op : Int) ≠ 2 := by omega
  have e3 : (op : Int) ≠ 3 := by omega
  have e4 : (op : Int) ≠ 4 := by omega
  have e5 : (op : Int) ≠ 5 := by omega
  have e6 : (op : Int) ≠ 6 := by omega
  have e18 : (op : Int) ≠ 18 := by omega
  have e19 : (op : Int) ≠ 19 := by omega
  have e20 : (op : Int) ≠ 20 := by omega
  have hop36 : op ≤ 36 := by omega
  have hwl : (exprWord op).length ≤ maxLen := hwl0 op hop36
  obtain ⟨ow, how⟩ : ∃ ow : Int, ow = (strongB op : Int) := ⟨_, rfl⟩
  rw [← how] at HS
  have hcs : (strongB op = 0 ∧ leftB op = 0) ∨ (strongB op = 1 ∧ leftB op = 1) ∨ (strongB op = 3 ∧ leftB op = 4) ∨ (strongB op = 4 ∧ leftB op = 4) ∨ (strongB op = 5 ∧ leftB op = 5) := by
    rcases (by omega : op = 9 ∨ op = 10 ∨ op = 11 ∨ op = 12 ∨ op = 13 ∨ op = 14 ∨ op = 15 ∨ op = 16 ∨ op = 17) with rfl | rfl | rfl | rfl | rfl | rfl | rfl | rfl | rfl <;> decide
  obtain ⟨lf, hlf⟩ : ∃ lf : Int, lf = (leftB op : Int) := ⟨_, rfl⟩
  obtain ⟨nx, hnx⟩ : ∃ nx : Int, nx = ((strongB op + 1 : Nat) : Int) := ⟨_, rfl⟩
  have hcs' : (ow = 0 ∧ lf = 0 ∧ nx = 1) ∨ (ow = 1 ∧ lf = 1 ∧ nx = 2) ∨ (ow = 3 ∧ lf = 4 ∧ nx = 4) ∨ (ow = 4 ∧ lf = 4 ∧ nx = 5) ∨ (ow = 5 ∧ lf = 5 ∧ nx = 6) := by omega
  have hl8 : leftB op ≤ 8 := by omega
  have hr8 : strongB op + 1 ≤ 8 := by omega
  obtain ⟨rfl, hbB⟩ := k1.resolve_left (by simp)
  obtain ⟨va, ca, ia⟩ := PE.Row.get hr (show ([a, c] : List PE)[0]? = some a from rfl)
  obtain ⟨vc, cc, ic⟩ := PE.Row.get hr (show ([a, c] : List PE)[1]? = some c from rfl)
  obtain ⟨q1a, m1a, d1a, q2a, m2a, d2a, rfl⟩ := ia.shape
  obtain ⟨q1c, m1c, d1c, q2c, m2c, d2c, rfl⟩ := ic.shape
  have HCA := Lib.hid ca
  have HIA := Lib.hid ia
  have HCC := Lib.hid cc
  have HIC := Lib.hid ic
  have DA := Lib.hid (fun (W : World) h1 h2 h3 h4 => docSide_calls B a IH (leftB op) hl8 ⟨.slice q1a m1a d1a, .slice q2a m2a d2a⟩ W h1 h2 h3 h4)
  have DC := Lib.hid (fun (W : World) h1 h2 h3 h4 => docSide_calls B c IH2 (strongB op + 1) hr8 ⟨.slice q1c m1c d1c, .slice q2c m2c d2c⟩ W h1 h2 h3 h4)
  rw [← hlf] at DA
  rw [← hnx] at DC
  clear ca ia cc ic hcs how hlf hnx
  have cb1 := HCB.out.below (show w.heap.size < w.heap.size + 1 by omega) S1.out
  have y1_0 : w1.cell? ⟨w.heap.size, 0, none⟩ = some (.int .u8 (op : Int)) := cb1 0 _ rfl
  have y1_1 : w1.cell? ⟨w.heap.size, 1, none⟩ = some (.int .i64 i) := cb1 1 _ rfl
  have y1_2 : w1.cell? ⟨w.heap.size, 2, none⟩ = some (.string n) := cb1 2 _ rfl
  have y1_3 : w1.cell? ⟨w.heap.size, 3, none⟩ = some (.string s) := cb1 3 _ rfl
  have y1_4 : w1.cell? ⟨w.heap.size, 4, none⟩ = some (.string p.name) := cb1 4 _ rfl
  have y1_5 : w1.cell? ⟨w.heap.size, 5, none⟩ = some (.slice p1 n1 c1) := cb1 5 _ rfl
  have y1_6 : w1.cell? ⟨w.heap.size, 6, none⟩ = some (.slice (some ⟨b, o, none⟩) 2 cap) := cb1 6 _ rfl
  have yl1 : w.heap.size < w1.heap.size := by omega
  clear cb1
  show Calls Tryz.prog 22 #[.agg #[.int .u8 (op : Int), .int .i64 i, .string n, .string s, .string p.name, .slice p1 n1 c1, .slice (some ⟨b, o, none⟩) 2 cap, .int .i64 pos]] w _
  have hw1' : w1 = w.alloc (.cells #[.int .u8 (op : Int), .int .i64 i, .string n, .string s, .string p.name, .slice p1 n1 c1, .slice (some ⟨b, o, none⟩) 2 cap, .int .i64 pos] 37) := hw1
  clear hw1 HC hx hlen hok et bx hr hp k1
  rcases hcs' with ⟨rfl, rfl, rfl⟩ | ⟨rfl, rfl, rfl⟩ | ⟨rfl, rfl, rfl⟩ | ⟨rfl, rfl, rfl⟩ | ⟨rfl, rfl, rfl⟩
  · go_enter Tryz.func22, Tryz.ntmps22
    go_upto_region 1 with (fail)
    rw [← hw1']
    clear hw1'
    go_wp2_with fail
    (with_reducible refine (HS.out _).mono ?_)
    rintro e w0 ⟨rfl, hw0⟩
    subst w0
    have cw := HCA.out.below hbB (W1.out.mono hB)
    have u0 : w1.cell? ⟨b, o, none⟩ = some (.int .u8 a.op) := by simpa using cw 0 _ rfl
    have u1 : w1.cell? ⟨b, o + 1, none⟩ = some (.int .i64 a.int) := by simpa using cw 1 _ rfl
    have u2 : w1.cell? ⟨b, o + 2, none⟩ = some (.string a.name) := by simpa using cw 2 _ rfl
    have u3 : w1.cell? ⟨b, o + 3, none⟩ = some (.string a.second) := by simpa using cw 3 _ rfl
    have u4 : w1.cell? ⟨b, o + 4, none⟩ = some (.string a.place.name) := by simpa using cw 4 _ rfl
    have u5 : w1.cell? ⟨b, o + 5, none⟩ = some (.slice q1a m1a d1a) := by simpa using cw 5 _ rfl
    have u6 : w1.cell? ⟨b, o + 6, none⟩ = some (.slice q2a m2a d2a) := by simpa using cw 6 _ rfl
    have u7 : w1.cell? ⟨b, o + 7, none⟩ = some (.int .i64 a.pos) := by simpa using cw 7 _ rfl
    have hbw : b < w1.heap.size := by omega
    clear cw
    have C : Hid (Calls Tryz.prog 63 #[.agg #[.int .u8 a.op, .int .i64 a.int, .string a.name, .string a.second, .string a.place.name, .slice q1a m1a d1a, .slice q2a m2a d2a, .int .i64 a.pos], .int .i64 0] w1 fun e w' => ∃ u, e = .returned u ∧ TokNew w1.heap.size w' (sideT (leftB op) a.op (tokE a)) u ∧ Below w1.heap.size w1 w') := Lib.hid (DA.out w1 hB1 (PE.In.below (W1.out.mono hB) HIA.out) (by first | (simp; done) | (have := HLN.out; simp only [List.length_append, List.length_cons, List.length_nil] at this ⊢; omega) | (have := HLN.out; simp at this ⊢; omega)) (fun t ht => HOK.out t (by simp [ht])))
    go_wp2_with fail
    (with_reducible refine (C.out).mono ?_)
    rintro e w2 ⟨v2, rfl, h3, b3⟩
    have H3 := Lib.hid h3.row
    have HO2 := Lib.hid (HO1.out.stays b3)
    have S2 := Lib.hid (S1.out.trans (b3.mono hs1))
    have hs2 : w.heap.size + 1 ≤ w2.heap.size := Nat.le_trans hs1 b3.size
    clear h3 b3 C HO1
    go_wp2_with (at_builtin; refine wpList_appT rfl _ _ rfl (w.heap.size + 1) _ ([]) rfl HO2.out (sideT (leftB op) a.op (tokE a)) v2 rfl w2.heap.size (Nat.le_refl _) H3.out (by have := HLN.out; simp at this ⊢; omega) hs2 ?_)
    intro v3 w3 hown hg
    have S3 := Lib.hid (below_app S2.out hg hs2 HO2.out (Nat.le_refl _))
    have HO3 : Hid (TokOwn (w.heap.size + 1) w3 (sideT (leftB op) a.op (tokE a)) v3) := Lib.hid (by simpa using hown)
    have hs3 : w.heap.size + 1 ≤ w3.heap.size := Nat.le_trans hs1 S3.out.size
    obtain ⟨ao3, m3, cap3, rfl⟩ := TokOwn.shape3 hown
    have W3 := Lib.hid (BX.out.trans (S3.out.mono (show w.heap.size ≤ w.heap.size + 1 by omega)))
    have hB3 : B ≤ w3.heap.size := by omega
    clear hown hg HO2 H3
    clear y1_0 y1_1 y1_2 y1_3 y1_4 y1_5 y1_6
    have cb3 := HCB.out.below (show w.heap.size < w.heap.size + 1 by omega) S3.out
    have y3_0 : w3.cell? ⟨w.heap.size, 0, none⟩ = some (.int .u8 (op : Int)) := cb3 0 _ rfl
    have y3_1 : w3.cell? ⟨w.heap.size, 1, none⟩ = some (.int .i64 i) := cb3 1 _ rfl
    have y3_2 : w3.cell? ⟨w.heap.size, 2, none⟩ = some (.string n) := cb3 2 _ rfl
    have y3_3 : w3.cell? ⟨w.heap.size, 3, none⟩ = some (.string s) := cb3 3 _ rfl
    have y3_4 : w3.cell? ⟨w.heap.size, 4, none⟩ = some (.string p.name) := cb3 4 _ rfl
    have y3_5 : w3.cell? ⟨w.heap.size, 5, none⟩ = some (.slice p1 n1 c1) := cb3 5 _ rfl
    have y3_6 : w3.cell? ⟨w.heap.size, 6, none⟩ = some (.slice (some ⟨b, o, none⟩) 2 cap) := cb3 6 _ rfl
    have yl3 : w.heap.size < w3.heap.size := by omega
    clear cb3
    clear u0 u1 u2 u3 u4 u5 u6 u7
    have CW := Lib.hid (docWord_calls op hop36 w3)
    go_wp2_with fail
    (with_reducible refine (CW.out).mono ?_)
    rintro e w4 ⟨rfl, b3⟩
    have HO4 := Lib.hid (HO3.out.stays b3)
    have S4 := Lib.hid (S3.out.trans (b3.mono hs3))
    have hs4 : w.heap.size + 1 ≤ w4.heap.size := Nat.le_trans hs3 b3.size
    clear b3 CW HO3
    clear y3_0 y3_1 y3_2 y3_3 y3_4 y3_5 y3_6
    have cb4 := HCB.out.below (show w.heap.size < w.heap.size + 1 by omega) S4.out
    have y4_0 : w4.cell? ⟨w.heap.size, 0, none⟩ = some (.int .u8 (op : Int)) := cb4 0 _ rfl
    have y4_1 : w4.cell? ⟨w.heap.size, 1, none⟩ = some (.int .i64 i) := cb4 1 _ rfl
    have y4_2 : w4.cell? ⟨w.heap.size, 2, none⟩ = some (.string n) := cb4 2 _ rfl
    have y4_3 : w4.cell? ⟨w.heap.size, 3, none⟩ = some (.string s) := cb4 3 _ rfl
    have y4_4 : w4.cell? ⟨w.heap.size, 4, none⟩ = some (.string p.name) := cb4 4 _ rfl
    have y4_5 : w4.cell? ⟨w.heap.size, 5, none⟩ = some (.slice p1 n1 c1) := cb4 5 _ rfl
    have y4_6 : w4.cell? ⟨w.heap.size, 6, none⟩ = some (.slice (some ⟨b, o, none⟩) 2 cap) := cb4 6 _ rfl
    have yl4 : w.heap.size < w4.heap.size := by omega
    clear cb4
    go_wp2_with (at_builtin; refine wpList_appT rfl _ _ rfl (w.heap.size + 1) _ (sideT (leftB op) a.op (tokE a)) rfl (HO4.out.stays (new_onlyR w4 _)) [exprWord op] _ rfl _ (Nat.le_refl _) (TokIn.lit1 (exprWord op) (bT (exprWord op)) rfl hwl) (by first | (simp; done) | (have := HLN.out; simp at this ⊢; omega)) (by simp; omega) ?_)
    intro v5 w5 hown hg
    have S5 := Lib.hid (below_app ((S4.out).alloc hs4 _) hg (by simp; omega) (HO4.out.stays (new_onlyR w4 _)) (Nat.le_refl _))
    have HO5 : Hid (TokOwn (w.heap.size + 1) w5 (sideT (leftB op) a.op (tokE a) ++ [exprWord op]) v5) := Lib.hid (by simpa using hown)
    have hs5 : w.heap.size + 1 ≤ w5.heap.size := Nat.le_trans hs1 S5.out.size
    obtain ⟨ao5, m5, cap5, rfl⟩ := TokOwn.shape3 hown
    have W5 := Lib.hid (BX.out.trans (S5.out.mono (show w.heap.size ≤ w.heap.size + 1 by omega)))
    have hB5 : B ≤ w5.heap.size := by omega
    clear hown hg HO4
    clear y4_0 y4_1 y4_2 y4_3 y4_4 y4_5 y4_6
    have cb5 := HCB.out.below (show w.heap.size < w.heap.size + 1 by omega) S5.out
    have y5_0 : w5.cell? ⟨w.heap.size, 0, none⟩ = some (.int .u8 (op : Int)) := cb5 0 _ rfl
    have y5_1 : w5.cell? ⟨w.heap.size, 1, none⟩ = some (.int .i64 i) := cb5 1 _ rfl
    have y5_2 : w5.cell? ⟨w.heap.size, 2, none⟩ = some (.string n) := cb5 2 _ rfl
    have y5_3 : w5.cell? ⟨w.heap.size, 3, none⟩ = some (.string s) := cb5 3 _ rfl
    have y5_4 : w5.cell? ⟨w.heap.size, 4, none⟩ = some (.string p.name) := cb5 4 _ rfl
    have y5_5 : w5.cell? ⟨w.heap.size, 5, none⟩ = some (.slice p1 n1 c1) := cb5 5 _ rfl
    have y5_6 : w5.cell? ⟨w.heap.size, 6, none⟩ = some (.slice (some ⟨b, o, none⟩) 2 cap) := cb5 6 _ rfl
    have yl5 : w.heap.size < w5.heap.size := by omega
    clear cb5
    have cw := HCC.out.below hbB (W5.out.mono hB)
    have u0 : w5.cell? ⟨b, o + 8, none⟩ = some (.int .u8 c.op) := by simpa using cw 0 _ rfl
    have u1 : w5.cell? ⟨b, o + 8 + 1, none⟩ = some (.int .i64 c.int) := by simpa using cw 1 _ rfl
    have u2 : w5.cell? ⟨b, o + 8 + 2, none⟩ = some (.string c.name) := by simpa using cw 2 _ rfl
    have u3 : w5.cell? ⟨b, o + 8 + 3, none⟩ = some (.string c.second) := by simpa using cw 3 _ rfl
    have u4 : w5.cell? ⟨b, o + 8 + 4, none⟩ = some (.string c.place.name) := by simpa using cw 4 _ rfl
    have u5 : w5.cell? ⟨b, o + 8 + 5, none⟩ = some (.slice q1c m1c d1c) := by simpa using cw 5 _ rfl
    have u6 : w5.cell? ⟨b, o + 8 + 6, none⟩ = some (.slice q2c m2c d2c) := by simpa using cw 6 _ rfl
    have u7 : w5.cell? ⟨b, o + 8 + 7, none⟩ = some (.int .i64 c.pos) := by simpa using cw 7 _ rfl
    have hbw : b < w5.heap.size := by omega
    clear cw
    have C : Hid (Calls Tryz.prog 63 #[.agg #[.int .u8 c.op, .int .i64 c.int, .string c.name, .string c.second, .string c.place.name, .slice q1c m1c d1c, .slice q2c m2c d2c, .int .i64 c.pos], .int .i64 1] w5 fun e w' => ∃ u, e = .returned u ∧ TokNew w5.heap.size w' (sideT (strongB op + 1) c.op (tokE c)) u ∧ Below w5.heap.size w5 w') := Lib.hid (DC.out w5 hB5 (PE.In.below (W5.out.mono hB) HIC.out) (by first | (simp; done) | (have := HLN.out; simp only [List.length_append, List.length_cons, List.length_nil] at this ⊢; omega) | (have := HLN.out; simp at this ⊢; omega)) (fun t ht => HOK.out t (by simp [ht])))
    go_wp2_with fail
    (with_reducible refine (C.out).mono ?_)
    rintro e w6 ⟨v6, rfl, h3, b3⟩
    have H3 := Lib.hid h3.row
    have HO6 := Lib.hid (HO5.out.stays b3)
    have S6 := Lib.hid (S5.out.trans (b3.mono hs5))
    have hs6 : w.heap.size + 1 ≤ w6.heap.size := Nat.le_trans hs5 b3.size
    clear h3 b3 C HO5
    go_wp2_with (at_builtin; refine wpList_appT rfl _ _ rfl (w.heap.size + 1) _ (sideT (leftB op) a.op (tokE a) ++ [exprWord op]) rfl HO6.out (sideT (strongB op + 1) c.op (tokE c)) v6 rfl w6.heap.size (Nat.le_refl _) H3.out (by have := HLN.out; simp at this ⊢; omega) hs6 ?_)
    intro v7 w7 hown hg
    have S7 := Lib.hid (below_app S6.out hg hs6 HO6.out (Nat.le_refl _))
    have HO7 : Hid (TokOwn (w.heap.size + 1) w7 (sideT (leftB op) a.op (tokE a) ++ [exprWord op] ++ sideT (strongB op + 1) c.op (tokE c)) v7) := Lib.hid (by simpa using hown)
    have hs7 : w.heap.size + 1 ≤ w7.heap.size := Nat.le_trans hs1 S7.out.size
    obtain ⟨ao7, m7, cap7, rfl⟩ := TokOwn.shape3 hown
    have W7 := Lib.hid (BX.out.trans (S7.out.mono (show w.heap.size ≤ w.heap.size + 1 by omega)))
    have hB7 : B ≤ w7.heap.size := by omega
    clear hown hg HO6 H3
    clear y5_0 y5_1 y5_2 y5_3 y5_4 y5_5 y5_6
    clear u0 u1 u2 u3 u4 u5 u6 u7
    go_wp2
    go_ret
    have hfin : TokNew w.heap.size w7 (sideT (leftB op) a.op (tokE a) ++ [exprWord op] ++ sideT (strongB op + 1) c.op (tokE c)) (.slice ao7 m7 cap7) := (HO7.out.rowN (fun t ht => HOK.out t (by simpa [or_assoc] using ht)) (by first | (simp; done) | (have := HLN.out; simp at this ⊢; omega))).mono (by omega)
    exact ⟨_, rfl, by simpa using hfin, W7.out⟩
  · go_enter Tryz.func22, Tryz.ntmps22
    go_upto_region 1 with (fail)
    rw [← hw1']
    clear hw1'
    go_wp2_with fail
    (with_reducible refine (HS.out _).mono ?_)
    rintro e w0 ⟨rfl, hw0⟩
    subst w0
    have cw := HCA.out.below hbB (W1.out.mono hB)
    have u0 : w1.cell? ⟨b, o, none⟩ = some (.int .u8 a.op) := by simpa using cw 0 _ rfl
    have u1 : w1.cell? ⟨b, o + 1, none⟩ = some (.int .i64 a.int) := by simpa using cw 1 _ rfl
    have u2 : w1.cell? ⟨b, o + 2, none⟩ = some (.string a.name) := by simpa using cw 2 _ rfl
    have u3 : w1.cell? ⟨b, o + 3, none⟩ = some (.string a.second) := by simpa using cw 3 _ rfl
    have u4 : w1.cell? ⟨b, o + 4, none⟩ = some (.string a.place.name) := by simpa using cw 4 _ rfl
    have u5 : w1.cell? ⟨b, o + 5, none⟩ = some (.slice q1a m1a d1a) := by simpa using cw 5 _ rfl
    have u6 : w1.cell? ⟨b, o + 6, none⟩ = some (.slice q2a m2a d2a) := by simpa using cw 6 _ rfl
    have u7 : w1.cell? ⟨b, o + 7, none⟩ = some (.int .i64 a.pos) := by simpa using cw 7 _ rfl
    have hbw : b < w1.heap.size := by omega
    clear cw
    have C : Hid (Calls Tryz.prog 63 #[.agg #[.int .u8 a.op, .int .i64 a.int, .string a.name, .string a.second, .string a.place.name, .slice q1a m1a d1a, .slice q2a m2a d2a, .int .i64 a.pos], .int .i64 1] w1 fun e w' => ∃ u, e = .returned u ∧ TokNew w1.heap.size w' (sideT (leftB op) a.op (tokE a)) u ∧ Below w1.heap.size w1 w') := Lib.hid (DA.out w1 hB1 (PE.In.below (W1.out.mono hB) HIA.out) (by first | (simp; done) | (have := HLN.out; simp only [List.length_append, List.length_cons, List.length_nil] at this ⊢; omega) | (have := HLN.out; simp at this ⊢; omega)) (fun t ht => HOK.out t (by simp [ht])))
    go_wp2_with fail
    (with_reducible refine (C.out).mono ?_)
    rintro e w2 ⟨v2, rfl, h3, b3⟩
    have H3 := Lib.hid h3.row
    have HO2 := Lib.hid (HO1.out.stays b3)
    have S2 := Lib.hid (S1.out.trans (b3.mono hs1))
    have hs2 : w.heap.size + 1 ≤ w2.heap.size := Nat.le_trans hs1 b3.size
    clear h3 b3 C HO1
    go_wp2_with (at_builtin; refine wpList_appT rfl _ _ rfl (w.heap.size + 1) _ ([]) rfl HO2.out (sideT (leftB op) a.op (tokE a)) v2 rfl w2.heap.size (Nat.le_refl _) H3.out (by have := HLN.out; simp at this ⊢; omega) hs2 ?_)
    intro v3 w3 hown hg
    have S3 := Lib.hid (below_app S2.out hg hs2 HO2.out (Nat.le_refl _))
    have HO3 : Hid (TokOwn (w.heap.size + 1) w3 (sideT (leftB op) a.op (tokE a)) v3) := Lib.hid (by simpa using hown)
    have hs3 : w.heap.size + 1 ≤ w3.heap.size := Nat.le_trans hs1 S3.out.size
    obtain ⟨ao3, m3, cap3, rfl⟩ := TokOwn.shape3 hown
    have W3 := Lib.hid (BX.out.trans (S3.out.mono (show w.heap.size ≤ w.heap.size + 1 by omega)))
    have hB3 : B ≤ w3.heap.size := by omega
    clear hown hg HO2 H3
    clear y1_0 y1_1 y1_2 y1_3 y1_4 y1_5 y1_6
    have cb3 := HCB.out.below (show w.heap.size < w.heap.size + 1 by omega) S3.out
    have y3_0 : w3.cell? ⟨w.heap.size, 0, none⟩ = some (.int .u8 (op : Int)) := cb3 0 _ rfl
    have y3_1 : w3.cell? ⟨w.heap.size, 1, none⟩ = some (.int .i64 i) := cb3 1 _ rfl
    have y3_2 : w3.cell? ⟨w.heap.size, 2, none⟩ = some (.string n) := cb3 2 _ rfl
    have y3_3 : w3.cell? ⟨w.heap.size, 3, none⟩ = some (.string s) := cb3 3 _ rfl
    have y3_4 : w3.cell? ⟨w.heap.size, 4, none⟩ = some (.string p.name) := cb3 4 _ rfl
    have y3_5 : w3.cell? ⟨w.heap.size, 5, none⟩ = some (.slice p1 n1 c1) := cb3 5 _ rfl
    have y3_6 : w3.cell? ⟨w.heap.size, 6, none⟩ = some (.slice (some ⟨b, o, none⟩) 2 cap) := cb3 6 _ rfl
    have yl3 : w.heap.size < w3.heap.size := by omega
    clear cb3
    clear u0 u1 u2 u3 u4 u5 u6 u7
    have CW := Lib.hid (docWord_calls op hop36 w3)
    go_wp2_with fail
    (with_reducible refine (CW.out).mono ?_)
    rintro e w4 ⟨rfl, b3⟩
    have HO4 := Lib.hid (HO3.out.stays b3)
    have S4 := Lib.hid (S3.out.trans (b3.mono hs3))
    have hs4 : w.heap.size + 1 ≤ w4.heap.size := Nat.le_trans hs3 b3.size
    clear b3 CW HO3
    clear y3_0 y3_1 y3_2 y3_3 y3_4 y3_5 y3_6
    have cb4 := HCB.out.below (show w.heap.size < w.heap.size + 1 by omega) S4.out
    have y4_0 : w4.cell? ⟨w.heap.size, 0, none⟩ = some (.int .u8 (op : Int)) := cb4 0 _ rfl
    have y4_1 : w4.cell? ⟨w.heap.size, 1, none⟩ = some (.int .i64 i) := cb4 1 _ rfl
    have y4_2 : w4.cell? ⟨w.heap.size, 2, none⟩ = some (.string n) := cb4 2 _ rfl
    have y4_3 : w4.cell? ⟨w.heap.size, 3, none⟩ = some (.string s) := cb4 3 _ rfl
    have y4_4 : w4.cell? ⟨w.heap.size, 4, none⟩ = some (.string p.name) := cb4 4 _ rfl
    have y4_5 : w4.cell? ⟨w.heap.size, 5, none⟩ = some (.slice p1 n1 c1) := cb4 5 _ rfl
    have y4_6 : w4.cell? ⟨w.heap.size, 6, none⟩ = some (.slice (some ⟨b, o, none⟩) 2 cap) := cb4 6 _ rfl
    have yl4 : w.heap.size < w4.heap.size := by omega
    clear cb4
    go_wp2_with (at_builtin; refine wpList_appT rfl _ _ rfl (w.heap.size + 1) _ (sideT (leftB op) a.op (tokE a)) rfl (HO4.out.stays (new_onlyR w4 _)) [exprWord op] _ rfl _ (Nat.le_refl _) (TokIn.lit1 (exprWord op) (bT (exprWord op)) rfl hwl) (by first | (simp; done) | (have := HLN.out; simp at this ⊢; omega)) (by simp; omega) ?_)
    intro v5 w5 hown hg
    have S5 := Lib.hid (below_app ((S4.out).alloc hs4 _) hg (by simp; omega) (HO4.out.stays (new_onlyR w4 _)) (Nat.le_refl _))
    have HO5 : Hid (TokOwn (w.heap.size + 1) w5 (sideT (leftB op) a.op (tokE a) ++ [exprWord op]) v5) := Lib.hid (by simpa using hown)
    have hs5 : w.heap.size + 1 ≤ w5.heap.size := Nat.le_trans hs1 S5.out.size
    obtain ⟨ao5, m5, cap5, rfl⟩ := TokOwn.shape3 hown
    have W5 := Lib.hid (BX.out.trans (S5.out.mono (show w.heap.size ≤ w.heap.size + 1 by omega)))
    have hB5 : B ≤ w5.heap.size := by omega
    clear hown hg HO4
    clear y4_0 y4_1 y4_2 y4_3 y4_4 y4_5 y4_6
    have cb5 := HCB.out.below (show w.heap.size < w.heap.size + 1 by omega) S5.out
    have y5_0 : w5.cell? ⟨w.heap.size, 0, none⟩ = some (.int .u8 (op : Int)) := cb5 0 _ rfl
    have y5_1 : w5.cell? ⟨w.heap.size, 1, none⟩ = some (.int .i64 i) := cb5 1 _ rfl
    have y5_2 : w5.cell? ⟨w.heap.size, 2, none⟩ = some (.string n) := cb5 2 _ rfl
    have y5_3 : w5.cell? ⟨w.heap.size, 3, none⟩ = some (.string s) := cb5 3 _ rfl
    have y5_4 : w5.cell? ⟨w.heap.size, 4, none⟩ = some (.string p.name) := cb5 4 _ rfl
    have y5_5 : w5.cell? ⟨w.heap.size, 5, none⟩ = some (.slice p1 n1 c1) := cb5 5 _ rfl
    have y5_6 : w5.cell? ⟨w.heap.size, 6, none⟩ = some (.slice (some ⟨b, o, none⟩) 2 cap) := cb5 6 _ rfl
    have yl5 : w.heap.size < w5.heap.size := by omega
    clear cb5
    have cw := HCC.out.below hbB (W5.out.mono hB)
    have u0 : w5.cell? ⟨b, o + 8, none⟩ = some (.int .u8 c.op) := by simpa using cw 0 _ rfl
    have u1 : w5.cell? ⟨b, o + 8 + 1, none⟩ = some (.int .i64 c.int) := by simpa using cw 1 _ rfl
    have u2 : w5.cell? ⟨b, o + 8 + 2, none⟩ = some (.string c.name) := by simpa using cw 2 _ rfl
    have u3 : w5.cell? ⟨b, o + 8 + 3, none⟩ = some (.string c.second) := by simpa using cw 3 _ rfl
    have u4 : w5.cell? ⟨b, o + 8 + 4, none⟩ = some (.string c.place.name) := by simpa using cw 4 _ rfl
    have u5 : w5.cell? ⟨b, o + 8 + 5, none⟩ = some (.slice q1c m1c d1c) := by simpa using cw 5 _ rfl
    have u6 : w5.cell? ⟨b, o + 8 + 6, none⟩ = some (.slice q2c m2c d2c) := by simpa using cw 6 _ rfl
    have u7 : w5.cell? ⟨b, o + 8 + 7, none⟩ = some (.int .i64 c.pos) := by simpa using cw 7 _ rfl
    have hbw : b < w5.heap.size := by omega
    clear cw
    have C : Hid (Calls Tryz.prog 63 #[.agg #[.int .u8 c.op, .int .i64 c.int, .string c.name, .string c.second, .string c.place.name, .slice q1c m1c d1c, .slice q2c m2c d2c, .int .i64 c.pos], .int .i64 2] w5 fun e w' => ∃ u, e = .returned u ∧ TokNew w5.heap.size w' (sideT (strongB op + 1) c.op (tokE c)) u ∧ Below w5.heap.size w5 w') := Lib.hid (DC.out w5 hB5 (PE.In.below (W5.out.mono hB) HIC.out) (by first | (simp; done) | (have := HLN.out; simp only [List.length_append, List.length_cons, List.length_nil] at this ⊢; omega) | (have := HLN.out; simp at this ⊢; omega)) (fun t ht => HOK.out t (by simp [ht])))
    go_wp2_with fail
    (with_reducible refine (C.out).mono ?_)
    rintro e w6 ⟨v6, rfl, h3, b3⟩
    have H3 := Lib.hid h3.row
    have HO6 := Lib.hid (HO5.out.stays b3)
    have S6 := Lib.hid (S5.out.trans (b3.mono hs5))
    have hs6 : w.heap.size + 1 ≤ w6.heap.size := Nat.le_trans hs5 b3.size
    clear h3 b3 C HO5
    go_wp2_with (at_builtin; refine wpList_appT rfl _ _ rfl (w.heap.size + 1) _ (sideT (leftB op) a.op (tokE a) ++ [exprWord op]) rfl HO6.out (sideT (strongB op + 1) c.op (tokE c)) v6 rfl w6.heap.size (Nat.le_refl _) H3.out (by have := HLN.out; simp at this ⊢; omega) hs6 ?_)
    intro v7 w7 hown hg
    have S7 := Lib.hid (below_app S6.out hg hs6 HO6.out (Nat.le_refl _))
    have HO7 : Hid (TokOwn (w.heap.size + 1) w7 (sideT (leftB op) a.op (tokE a) ++ [exprWord op] ++ sideT (strongB op + 1) c.op (tokE c)) v7) := Lib.hid (by simpa using hown)
    have hs7 : w.heap.size + 1 ≤ w7.heap.size := Nat.le_trans hs1 S7.out.size
    obtain ⟨ao7, m7, cap7, rfl⟩ := TokOwn.shape3 hown
    have W7 := Lib.hid (BX.out.trans (S7.out.mono (show w.heap.size ≤ w.heap.size + 1 by omega)))
    have hB7 : B ≤ w7.heap.size := by omega
    clear hown hg HO6 H3
    clear y5_0 y5_1 y5_2 y5_3 y5_4 y5_5 y5_6
    clear u0 u1 u2 u3 u4 u5 u6 u7
    go_wp2
    go_ret
    have hfin : TokNew w.heap.size w7 (sideT (leftB op) a.op (tokE a) ++ [exprWord op] ++ sideT (strongB op + 1) c.op (tokE c)) (.slice ao7 m7 cap7) := (HO7.out.rowN (fun t ht => HOK.out t (by simpa [or_assoc] using ht)) (by first | (simp; done) | (have := HLN.out; simp at this ⊢; omega))).mono (by omega)
    exact ⟨_, rfl, by simpa using hfin, W7.out⟩
  · go_enter Tryz.func22, Tryz.ntmps22
    go_upto_region 1 with (fail)
    rw [← hw1']
    clear hw1'
    go_wp2_with fail
    (with_reducible refine (HS.out _).mono ?_)
    rintro e w0 ⟨rfl, hw0⟩
    subst w0
    have cw := HCA.out.below hbB (W1.out.mono hB)
    have u0 : w1.cell? ⟨b, o, none⟩ = some (.int .u8 a.op) := by simpa using cw 0 _ rfl
    have u1 : w1.cell? ⟨b, o + 1, none⟩ = some (.int .i64 a.int) := by simpa using cw 1 _ rfl
    have u2 : w1.cell? ⟨b, o + 2, none⟩ = some (.string a.name) := by simpa using cw 2 _ rfl
    have u3 : w1.cell? ⟨b, o + 3, none⟩ = some (.string a.second) := by simpa using cw 3 _ rfl
    have u4 : w1.cell? ⟨b, o + 4, none⟩ = some (.string a.place.name) := by simpa using cw 4 _ rfl
    have u5 : w1.cell? ⟨b, o + 5, none⟩ = some (.slice q1a m1a d1a) := by simpa using cw 5 _ rfl
    have u6 : w1.cell? ⟨b, o + 6, none⟩ = some (.slice q2a m2a d2a) := by simpa using cw 6 _ rfl
    have u7 : w1.cell? ⟨b, o + 7, none⟩ = some (.int .i64 a.pos) := by simpa using cw 7 _ rfl
    have hbw : b < w1.heap.size := by omega
    clear cw
    have C : Hid (Calls Tryz.prog 63 #[.agg #[.int .u8 a.op, .int .i64 a.int, .string a.name, .string a.second, .string a.place.name, .slice q1a m1a d1a, .slice q2a m2a d2a, .int .i64 a.pos], .int .i64 4] w1 fun e w' => ∃ u, e = .returned u ∧ TokNew w1.heap.size w' (sideT (leftB op) a.op (tokE a)) u ∧ Below w1.heap.size w1 w') := Lib.hid (DA.out w1 hB1 (PE.In.below (W1.out.mono hB) HIA.out) (by first | (simp; done) | (have := HLN.out; simp only [List.length_append, List.length_cons, List.length_nil] at this ⊢; omega) | (have := HLN.out; simp at this ⊢; omega)) (fun t ht => HOK.out t (by simp [ht])))
    go_wp2_with fail
    (with_reducible refine (C.out).mono ?_)
    rintro e w2 ⟨v2, rfl, h3, b3⟩
    have H3 := Lib.hid h3.row
    have HO2 := Lib.hid (HO1.out.stays b3)
    have S2 := Lib.hid (S1.out.trans (b3.mono hs1))
    have hs2 : w.heap.size + 1 ≤ w2.heap.size := Nat.le_trans hs1 b3.size
    clear h3 b3 C HO1
    go_wp2_with (at_builtin; refine wpList_appT rfl _ _ rfl (w.heap.size + 1) _ ([]) rfl HO2.out (sideT (leftB op) a.op (tokE a)) v2 rfl w2.heap.size (Nat.le_refl _) H3.out (by have := HLN.out; simp at this ⊢; omega) hs2 ?_)
    intro v3 w3 hown hg
    have S3 := Lib.hid (below_app S2.out hg hs2 HO2.out (Nat.le_refl _))
    have HO3 : Hid (TokOwn (w.heap.size + 1) w3 (sideT (leftB op) a.op (tokE a)) v3) := Lib.hid (by simpa using hown)
    have hs3 : w.heap.size + 1 ≤ w3.heap.size := Nat.le_trans hs1 S3.out.size
    obtain ⟨ao3, m3, cap3, rfl⟩ := TokOwn.shape3 hown
    have W3 := Lib.hid (BX.out.trans (S3.out.mono (show w.heap.size ≤ w.heap.size + 1 by omega)))
    have hB3 : B ≤ w3.heap.size := by omega
    clear hown hg HO2 H3
    clear y1_0 y1_1 y1_2 y1_3 y1_4 y1_5 y1_6
    have cb3 := HCB.out.below (show w.heap.size < w.heap.size + 1 by omega) S3.out
    have y3_0 : w3.cell? ⟨w.heap.size, 0, none⟩ = some (.int .u8 (op : Int)) := cb3 0 _ rfl
    have y3_1 : w3.cell? ⟨w.heap.size, 1, none⟩ = some (.int .i64 i) := cb3 1 _ rfl
    have y3_2 : w3.cell? ⟨w.heap.size, 2, none⟩ = some (.string n) := cb3 2 _ rfl
    have y3_3 : w3.cell? ⟨w.heap.size, 3, none⟩ = some (.string s) := cb3 3 _ rfl
    have y3_4 : w3.cell? ⟨w.heap.size, 4, none⟩ = some (.string p.name) := cb3 4 _ rfl
    have y3_5 : w3.cell? ⟨w.heap.size, 5, none⟩ = some (.slice p1 n1 c1) := cb3 5 _ rfl
    have y3_6 : w3.cell? ⟨w.heap.size, 6, none⟩ = some (.slice (some ⟨b, o, none⟩) 2 cap) := cb3 6 _ rfl
    have yl3 : w.heap.size < w3.heap.size := by omega
    clear cb3
    clear u0 u1 u2 u3 u4 u5 u6 u7
    have CW := Lib.hid (docWord_calls op hop36 w3)
    go_wp2_with fail
    (with_reducible refine (CW.out).mono ?_)
    rintro e w4 ⟨rfl, b3⟩
    have HO4 := Lib.hid (HO3.out.stays b3)
    have S4 := Lib.hid (S3.out.trans (b3.mono hs3))
    have hs4 : w.heap.size + 1 ≤ w4.heap.size := Nat.le_trans hs3 b3.size
    clear b3 CW HO3
    clear y3_0 y3_1 y3_2 y3_3 y3_4 y3_5 y3_6
    have cb4 := HCB.out.below (show w.heap.size < w.heap.size + 1 by omega) S4.out
    have y4_0 : w4.cell? ⟨w.heap.size, 0, none⟩ = some (.int .u8 (op : Int)) := cb4 0 _ rfl
    have y4_1 : w4.cell? ⟨w.heap.size, 1, none⟩ = some (.int .i64 i) := cb4 1 _ rfl
    have y4_2 : w4.cell? ⟨w.heap.size, 2, none⟩ = some (.string n) := cb4 2 _ rfl
    have y4_3 : w4.cell? ⟨w.heap.size, 3, none⟩ = some (.string s) := cb4 3 _ rfl
    have y4_4 : w4.cell? ⟨w.heap.size, 4, none⟩ = some (.string p.name) := cb4 4 _ rfl
    have y4_5 : w4.cell? ⟨w.heap.size, 5, none⟩ = some (.slice p1 n1 c1) := cb4 5 _ rfl
    have y4_6 : w4.cell? ⟨w.heap.size, 6, none⟩ = some (.slice (some ⟨b, o, none⟩) 2 cap) := cb4 6 _ rfl
    have yl4 : w.heap.size < w4.heap.size := by omega
    clear cb4
    go_wp2_with (at_builtin; refine wpList_appT rfl _ _ rfl (w.heap.size + 1) _ (sideT (leftB op) a.op (tokE a)) rfl (HO4.out.stays (new_onlyR w4 _)) [exprWord op] _ rfl _ (Nat.le_refl _) (TokIn.lit1 (exprWord op) (bT (exprWord op)) rfl hwl) (by first | (simp; done) | (have := HLN.out; simp at this ⊢; omega)) (by simp; omega) ?_)
    intro v5 w5 hown hg
    have S5 := Lib.hid (below_app ((S4.out).alloc hs4 _) hg (by simp; omega) (HO4.out.stays (new_onlyR w4 _)) (Nat.le_refl _))
    have HO5 : Hid (TokOwn (w.heap.size + 1) w5 (sideT (leftB op) a.op (tokE a) ++ [exprWord op]) v5) := Lib.hid (by simpa using hown)
    have hs5 : w.heap.size + 1 ≤ w5.heap.size := Nat.le_trans hs1 S5.out.size
    obtain ⟨ao5, m5, cap5, rfl⟩ := TokOwn.shape3 hown
    have W5 := Lib.hid (BX.out.trans (S5.out.mono (show w.heap.size ≤ w.heap.size + 1 by omega)))
    have hB5 : B ≤ w5.heap.size := by omega
    clear hown hg HO4
    clear y4_0 y4_1 y4_2 y4_3 y4_4 y4_5 y4_6
    have cb5 := HCB.out.below (show w.heap.size < w.heap.size + 1 by omega) S5.out
    have y5_0 : w5.cell? ⟨w.heap.size, 0, none⟩ = some (.int .u8 (op : Int)) := cb5 0 _ rfl
    have y5_1 : w5.cell? ⟨w.heap.size, 1, none⟩ = some (.int .i64 i) := cb5 1 _ rfl
    have y5_2 : w5.cell? ⟨w.heap.size, 2, none⟩ = some (.string n) := cb5 2 _ rfl
    have y5_3 : w5.cell? ⟨w.heap.size, 3, none⟩ = some (.string s) := cb5 3 _ rfl
    have y5_4 : w5.cell? ⟨w.heap.size, 4, none⟩ = some (.string p.name) := cb5 4 _ rfl
    have y5_5 : w5.cell? ⟨w.heap.size, 5, none⟩ = some (.slice p1 n1 c1) := cb5 5 _ rfl
    have y5_6 : w5.cell? ⟨w.heap.size, 6, none⟩ = some (.slice (some ⟨b, o, none⟩) 2 cap) := cb5 6 _ rfl
    have yl5 : w.heap.size < w5.heap.size := by omega
    clear cb5
    have cw := HCC.out.below hbB (W5.out.mono hB)
    have u0 : w5.cell? ⟨b, o + 8, none⟩ = some (.int .u8 c.op) := by simpa using cw 0 _ rfl
    have u1 : w5.cell? ⟨b, o + 8 + 1, none⟩ = some (.int .i64 c.int) := by simpa using cw 1 _ rfl
    have u2 : w5.cell? ⟨b, o + 8 + 2, none⟩ = some (.string c.name) := by simpa using cw 2 _ rfl
    have u3 : w5.cell? ⟨b, o + 8 + 3, none⟩ = some (.string c.second) := by simpa using cw 3 _ rfl
    have u4 : w5.cell? ⟨b, o + 8 + 4, none⟩ = some (.string c.place.name) := by simpa using cw 4 _ rfl
    have u5 : w5.cell? ⟨b, o + 8 + 5, none⟩ = some (.slice q1c m1c d1c) := by simpa using cw 5 _ rfl
    have u6 : w5.cell? ⟨b, o + 8 + 6, none⟩ = some (.slice q2c m2c d2c) := by simpa using cw 6 _ rfl
    have u7 : w5.cell? ⟨b, o + 8 + 7, none⟩ = some (.int .i64 c.pos) := by simpa using cw 7 _ rfl
    have hbw : b < w5.heap.size := by omega
    clear cw
    have C : Hid (Calls Tryz.prog 63 #[.agg #[.int .u8 c.op, .int .i64 c.int, .string c.name, .string c.second, .string c.place.name, .slice q1c m1c d1c, .slice q2c m2c d2c, .int .i64 c.pos], .int .i64 4] w5 fun e w' => ∃ u, e = .returned u ∧ TokNew w5.heap.size w' (sideT (strongB op + 1) c.op (tokE c)) u ∧ Below w5.heap.size w5 w') := Lib.hid (DC.out w5 hB5 (PE.In.below (W5.out.mono hB) HIC.out) (by first | (simp; done) | (have := HLN.out; simp only [List.length_append, List.length_cons, List.length_nil] at this ⊢; omega) | (have := HLN.out; simp at this ⊢; omega)) (fun t ht => HOK.out t (by simp [ht])))
    go_wp2_with fail
    (with_reducible refine (C.out).mono ?_)
    rintro e w6 ⟨v6, rfl, h3, b3⟩
    have H3 := Lib.hid h3.row
    have HO6 := Lib.hid (HO5.out.stays b3)
    have S6 := Lib.hid (S5.out.trans (b3.mono hs5))
    have hs6 : w.heap.size + 1 ≤ w6.heap.size := Nat.le_trans hs5 b3.size
    clear h3 b3 C HO5
    go_wp2_with (at_builtin; refine wpList_appT rfl _ _ rfl (w.heap.size + 1) _ (sideT (leftB op) a.op (tokE a) ++ [exprWord op]) rfl HO6.out (sideT (strongB op + 1) c.op (tokE c)) v6 rfl w6.heap.size (Nat.le_refl _) H3.out (by have := HLN.out; simp at this ⊢; omega) hs6 ?_)
    intro v7 w7 hown hg
    have S7 := Lib.hid (below_app S6.out hg hs6 HO6.out (Nat.le_refl _))
    have HO7 : Hid (TokOwn (w.heap.size + 1) w7 (sideT (leftB op) a.op (tokE a) ++ [exprWord op] ++ sideT (strongB op + 1) c.op (tokE c)) v7) := Lib.hid (by simpa using hown)
    have hs7 : w.heap.size + 1 ≤ w7.heap.size := Nat.le_trans hs1 S7.out.size
    obtain ⟨ao7, m7, cap7, rfl⟩ := TokOwn.shape3 hown
    have W7 := Lib.hid (BX.out.trans (S7.out.mono (show w.heap.size ≤ w.heap.size + 1 by omega)))
    have hB7 : B ≤ w7.heap.size := by omega
    clear hown hg HO6 H3
    clear y5_0 y5_1 y5_2 y5_3 y5_4 y5_5 y5_6
    clear u0 u1 u2 u3 u4 u5 u6 u7
    go_wp2
    go_ret
    have hfin : TokNew w.heap.size w7 (sideT (leftB op) a.op (tokE a) ++ [exprWord op] ++ sideT (strongB op + 1) c.op (tokE c)) (.slice ao7 m7 cap7) := (HO7.out.rowN (fun t ht => HOK.out t (by simpa [or_assoc] using ht)) (by first | (simp; done) | (have := HLN.out; simp at this ⊢; omega))).mono (by omega)
    exact ⟨_, rfl, by simpa using hfin, W7.out⟩
  · go_enter Tryz.func22, Tryz.ntmps22
    go_upto_region 1 with (fail)
    rw [← hw1']
    clear hw1'
    go_wp2_with fail
    (with_reducible refine (HS.out _).mono ?_)
    rintro e w0 ⟨rfl, hw0⟩
    subst w0
    have cw := HCA.out.below hbB (W1.out.mono hB)
    have u0 : w1.cell? ⟨b, o, none⟩ = some (.int .u8 a.op) := by simpa using cw 0 _ rfl
    have u1 : w1.cell? ⟨b, o + 1, none⟩ = some (.int .i64 a.int) := by simpa using cw 1 _ rfl
    have u2 : w1.cell? ⟨b, o + 2, none⟩ = some (.string a.name) := by simpa using cw 2 _ rfl
    have u3 : w1.cell? ⟨b, o + 3, none⟩ = some (.string a.second) := by simpa using cw 3 _ rfl
    have u4 : w1.cell? ⟨b, o + 4, none⟩ = some (.string a.place.name) := by simpa using cw 4 _ rfl
    have u5 : w1.cell? ⟨b, o + 5, none⟩ = some (.slice q1a m1a d1a) := by simpa using cw 5 _ rfl
    have u6 : w1.cell? ⟨b, o + 6, none⟩ = some (.slice q2a m2a d2a) := by simpa using cw 6 _ rfl
    have u7 : w1.cell? ⟨b, o + 7, none⟩ = some (.int .i64 a.pos) := by simpa using cw 7 _ rfl
    have hbw : b < w1.heap.size := by omega
    clear cw
    have C : Hid (Calls Tryz.prog 63 #[.agg #[.int .u8 a.op, .int .i64 a.int, .string a.name, .string a.second, .string a.place.name, .slice q1a m1a d1a, .slice q2a m2a d2a, .int .i64 a.pos], .int .i64 4] w1 fun e w' => ∃ u, e = .returned u ∧ TokNew w1.heap.size w' (sideT (leftB op) a.op (tokE a)) u ∧ Below w1.heap.size w1 w') := Lib.hid (DA.out w1 hB1 (PE.In.below (W1.out.mono hB) HIA.out) (by first | (simp; done) | (have := HLN.out; simp only [List.length_append, List.length_cons, List.length_nil] at this ⊢; omega) | (have := HLN.out; simp at this ⊢; omega)) (fun t ht => HOK.out t (by simp [ht])))
    go_wp2_with fail
    (with_reducible refine (C.out).mono ?_)
    rintro e w2 ⟨v2, rfl, h3, b3⟩
    have H3 := Lib.hid h3.row
    have HO2 := Lib.hid (HO1.out.stays b3)
    have S2 := Lib.hid (S1.out.trans (b3.mono hs1))
    have hs2 : w.heap.size + 1 ≤ w2.heap.size := Nat.le_trans hs1 b3.size
    clear h3 b3 C HO1
    go_wp2_with (at_builtin; refine wpList_appT rfl _ _ rfl (w.heap.size + 1) _ ([]) rfl HO2.out (sideT (leftB op) a.op (tokE a)) v2 rfl w2.heap.size (Nat.le_refl _) H3.out (by have := HLN.out; simp at this ⊢; omega) hs2 ?_)
    intro v3 w3 hown hg
    have S3 := Lib.hid (below_app S2.out hg hs2 HO2.out (Nat.le_refl _))
    have HO3 : Hid (TokOwn (w.heap.size + 1) w3 (sideT (leftB op) a.op (tokE a)) v3) := Lib.hid (by simpa using hown)
    have hs3 : w.heap.size + 1 ≤ w3.heap.size := Nat.le_trans hs1 S3.out.size
    obtain ⟨ao3, m3, cap3, rfl⟩ := TokOwn.shape3 hown
    have W3 := Lib.hid (BX.out.trans (S3.out.mono (show w.heap.size ≤ w.heap.size + 1 by omega)))
    have hB3 : B ≤ w3.heap.size := by omega
    clear hown hg HO2 H3
    clear y1_0 y1_1 y1_2 y1_3 y1_4 y1_5 y1_6
    have cb3 := HCB.out.below (show w.heap.size < w.heap.size + 1 by omega) S3.out
    have y3_0 : w3.cell? ⟨w.heap.size, 0, none⟩ = some (.int .u8 (op : Int)) := cb3 0 _ rfl
    have y3_1 : w3.cell? ⟨w.heap.size, 1, none⟩ = some (.int .i64 i) := cb3 1 _ rfl
    have y3_2 : w3.cell? ⟨w.heap.size, 2, none⟩ = some (.string n) := cb3 2 _ rfl
    have y3_3 : w3.cell? ⟨w.heap.size, 3, none⟩ = some (.string s) := cb3 3 _ rfl
    have y3_4 : w3.cell? ⟨w.heap.size, 4, none⟩ = some (.string p.name) := cb3 4 _ rfl
    have y3_5 : w3.cell? ⟨w.heap.size, 5, none⟩ = some (.slice p1 n1 c1) := cb3 5 _ rfl
    have y3_6 : w3.cell? ⟨w.heap.size, 6, none⟩ = some (.slice (some ⟨b, o, none⟩) 2 cap) := cb3 6 _ rfl
    have yl3 : w.heap.size < w3.heap.size := by omega
    clear cb3
    clear u0 u1 u2 u3 u4 u5 u6 u7
    have CW := Lib.hid (docWord_calls op hop36 w3)
    go_wp2_with fail
    (with_reducible refine (CW.out).mono ?_)
    rintro e w4 ⟨rfl, b3⟩
    have HO4 := Lib.hid (HO3.out.stays b3)
    have S4 := Lib.hid (S3.out.trans (b3.mono hs3))
    have hs4 : w.heap.size + 1 ≤ w4.heap.size := Nat.le_trans hs3 b3.size
    clear b3 CW HO3
    clear y3_0 y3_1 y3_2 y3_3 y3_4 y3_5 y3_6
    have cb4 := HCB.out.below (show w.heap.size < w.heap.size + 1 by omega) S4.out
    have y4_0 : w4.cell? ⟨w.heap.size, 0, none⟩ = some (.int .u8 (op : Int)) := cb4 0 _ rfl
    have y4_1 : w4.cell? ⟨w.heap.size, 1, none⟩ = some (.int .i64 i) := cb4 1 _ rfl
    have y4_2 : w4.cell? ⟨w.heap.size, 2, none⟩ = some (.string n) := cb4 2 _ rfl
    have y4_3 : w4.cell? ⟨w.heap.size, 3, none⟩ = some (.string s) := cb4 3 _ rfl
    have y4_4 : w4.cell? ⟨w.heap.size, 4, none⟩ = some (.string p.name) := cb4 4 _ rfl
    have y4_5 : w4.cell? ⟨w.heap.size, 5, none⟩ = some (.slice p1 n1 c1) := cb4 5 _ rfl
    have y4_6 : w4.cell? ⟨w.heap.size, 6, none⟩ = some (.slice (some ⟨b, o, none⟩) 2 cap) := cb4 6 _ rfl
    have yl4 : w.heap.size < w4.heap.size := by omega
    clear cb4
    go_wp2_with (at_builtin; refine wpList_appT rfl _ _ rfl (w.heap.size + 1) _ (sideT (leftB op) a.op (tokE a)) rfl (HO4.out.stays (new_onlyR w4 _)) [exprWord op] _ rfl _ (Nat.le_refl _) (TokIn.lit1 (exprWord op) (bT (exprWord op)) rfl hwl) (by first | (simp; done) | (have := HLN.out; simp at this ⊢; omega)) (by simp; omega) ?_)
    intro v5 w5 hown hg
    have S5 := Lib.hid (below_app ((S4.out).alloc hs4 _) hg (by simp; omega) (HO4.out.stays (new_onlyR w4 _)) (Nat.le_refl _))
    have HO5 : Hid (TokOwn (w.heap.size + 1) w5 (sideT (leftB op) a.op (tokE a) ++ [exprWord op]) v5) := Lib.hid (by simpa using hown)
    have hs5 : w.heap.size + 1 ≤ w5.heap.size := Nat.le_trans hs1 S5.out.size
    obtain ⟨ao5, m5, cap5, rfl⟩ := TokOwn.shape3 hown
    have W5 := Lib.hid (BX.out.trans (S5.out.mono (show w.heap.size ≤ w.heap.size + 1 by omega)))
    have hB5 : B ≤ w5.heap.size := by omega
    clear hown hg HO4
    clear y4_0 y4_1 y4_2 y4_3 y4_4 y4_5 y4_6
    have cb5 := HCB.out.below (show w.heap.size < w.heap.size + 1 by omega) S5.out
    have y5_0 : w5.cell? ⟨w.heap.size, 0, none⟩ = some (.int .u8 (op : Int)) := cb5 0 _ rfl
    have y5_1 : w5.cell? ⟨w.heap.size, 1, none⟩ = some (.int .i64 i) := cb5 1 _ rfl
    have y5_2 : w5.cell? ⟨w.heap.size, 2, none⟩ = some (.string n) := cb5 2 _ rfl
    have y5_3 : w5.cell? ⟨w.heap.size, 3, none⟩ = some (.string s) := cb5 3 _ rfl
    have y5_4 : w5.cell? ⟨w.heap.size, 4, none⟩ = some (.string p.name) := cb5 4 _ rfl
    have y5_5 : w5.cell? ⟨w.heap.size, 5, none⟩ = some (.slice p1 n1 c1) := cb5 5 _ rfl
    have y5_6 : w5.cell? ⟨w.heap.size, 6, none⟩ = some (.slice (some ⟨b, o, none⟩) 2 cap) := cb5 6 _ rfl
    have yl5 : w.heap.size < w5.heap.size := by omega
    clear cb5
    have cw := HCC.out.below hbB (W5.out.mono hB)
    have u0 : w5.cell? ⟨b, o + 8, none⟩ = some (.int .u8 c.op) := by simpa using cw 0 _ rfl
    have u1 : w5.cell? ⟨b, o + 8 + 1, none⟩ = some (.int .i64 c.int) := by simpa using cw 1 _ rfl
    have u2 : w5.cell? ⟨b, o + 8 + 2, none⟩ = some (.string c.name) := by simpa using cw 2 _ rfl
    have u3 : w5.cell? ⟨b, o + 8 + 3, none⟩ = some (.string c.second) := by simpa using cw 3 _ rfl
    have u4 : w5.cell? ⟨b, o + 8 + 4, none⟩ = some (.string c.place.name) := by simpa using cw 4 _ rfl
    have u5 : w5.cell? ⟨b, o + 8 + 5, none⟩ = some (.slice q1c m1c d1c) := by simpa using cw 5 _ rfl
    have u6 : w5.cell? ⟨b, o + 8 + 6, none⟩ = some (.slice q2c m2c d2c) := by simpa using cw 6 _ rfl
    have u7 : w5.cell? ⟨b, o + 8 + 7, none⟩ = some (.int .i64 c.pos) := by simpa using cw 7 _ rfl
    have hbw : b < w5.heap.size := by omega
    clear cw
    have C : Hid (Calls Tryz.prog 63 #[.agg #[.int .u8 c.op, .int .i64 c.int, .string c.name, .string c.second, .string c.place.name, .slice q1c m1c d1c, .slice q2c m2c d2c, .int .i64 c.pos], .int .i64 5] w5 fun e w' => ∃ u, e = .returned u ∧ TokNew w5.heap.size w' (sideT (strongB op + 1) c.op (tokE c)) u ∧ Below w5.heap.size w5 w') := Lib.hid (DC.out w5 hB5 (PE.In.below (W5.out.mono hB) HIC.out) (by first | (simp; done) | (have := HLN.out; simp only [List.length_append, List.length_cons, List.length_nil] at this ⊢; omega) | (have := HLN.out; simp at this ⊢; omega)) (fun t ht => HOK.out t (by simp [ht])))
    go_wp2_with fail
    (with_reducible refine (C.out).mono ?_)
    rintro e w6 ⟨v6, rfl, h3, b3⟩
    have H3 := Lib.hid h3.row
    have HO6 := Lib.hid (HO5.out.stays b3)
    have S6 := Lib.hid (S5.out.trans (b3.mono hs5))
    have hs6 : w.heap.size + 1 ≤ w6.heap.size := Nat.le_trans hs5 b3.size
    clear h3 b3 C HO5
    go_wp2_with (at_builtin; refine wpList_appT rfl _ _ rfl (w.heap.size + 1) _ (sideT (leftB op) a.op (tokE a) ++ [exprWord op]) rfl HO6.out (sideT (strongB op + 1) c.op (tokE c)) v6 rfl w6.heap.size (Nat.le_refl _) H3.out (by have := HLN.out; simp at this ⊢; omega) hs6 ?_)
    intro v7 w7 hown hg
    have S7 := Lib.hid (below_app S6.out hg hs6 HO6.out (Nat.le_refl _))
    have HO7 : Hid (TokOwn (w.heap.size + 1) w7 (sideT (leftB op) a.op (tokE a) ++ [exprWord op] ++ sideT (strongB op + 1) c.op (tokE c)) v7) := Lib.hid (by simpa using hown)
    have hs7 : w.heap.size + 1 ≤ w7.heap.size := Nat.le_trans hs1 S7.out.size
    obtain ⟨ao7, m7, cap7, rfl⟩ := TokOwn.shape3 hown
    have W7 := Lib.hid (BX.out.trans (S7.out.mono (show w.heap.size ≤ w.heap.size + 1 by omega)))
    have hB7 : B ≤ w7.heap.size := by omega
    clear hown hg HO6 H3
    clear y5_0 y5_1 y5_2 y5_3 y5_4 y5_5 y5_6
    clear u0 u1 u2 u3 u4 u5 u6 u7
    go_wp2
    go_ret
    have hfin : TokNew w.heap.size w7 (sideT (leftB op) a.op (tokE a) ++ [exprWord op] ++ sideT (strongB op + 1) c.op (tokE c)) (.slice ao7 m7 cap7) := (HO7.out.rowN (fun t ht => HOK.out t (by simpa [or_assoc] using ht)) (by first | (simp; done) | (have := HLN.out; simp at this ⊢; omega))).mono (by omega)
    exact ⟨_, rfl, by simpa using hfin, W7.out⟩
  · go_enter Tryz.func22, Tryz.ntmps22
    go_upto_region 1 with (fail)
    rw [← hw1']
    clear hw1'
    go_wp2_with fail
    (with_reducible refine (HS.out _).mono ?_)
    rintro e w0 ⟨rfl, hw0⟩
    subst w0
    have cw := HCA.out.below hbB (W1.out.mono hB)
    have u0 : w1.cell? ⟨b, o, none⟩ = some (.int .u8 a.op) := by simpa using cw 0 _ rfl
    have u1 : w1.cell? ⟨b, o + 1, none⟩ = some (.int .i64 a.int) := by simpa using cw 1 _ rfl
    have u2 : w1.cell? ⟨b, o + 2, none⟩ = some (.string a.name) := by simpa using cw 2 _ rfl
    have u3 : w1.cell? ⟨b, o + 3, none⟩ = some (.string a.second) := by simpa using cw 3 _ rfl
    have u4 : w1.cell? ⟨b, o + 4, none⟩ = some (.string a.place.name) := by simpa using cw 4 _ rfl
    have u5 : w1.cell? ⟨b, o + 5, none⟩ = some (.slice q1a m1a d1a) := by simpa using cw 5 _ rfl
    have u6 : w1.cell? ⟨b, o + 6, none⟩ = some (.slice q2a m2a d2a) := by simpa using cw 6 _ rfl
    have u7 : w1.cell? ⟨b, o + 7, none⟩ = some (.int .i64 a.pos) := by simpa using cw 7 _ rfl
    have hbw : b < w1.heap.size := by omega
    clear cw
    have C : Hid (Calls Tryz.prog 63 #[.agg #[.int .u8 a.op, .int .i64 a.int, .string a.name, .string a.second, .string a.place.name, .slice q1a m1a d1a, .slice q2a m2a d2a, .int .i64 a.pos], .int .i64 5] w1 fun e w' => ∃ u, e = .returned u ∧ TokNew w1.heap.size w' (sideT (leftB op) a.op (tokE a)) u ∧ Below w1.heap.size w1 w') := Lib.hid (DA.out w1 hB1 (PE.In.below (W1.out.mono hB) HIA.out) (by first | (simp; done) | (have := HLN.out; simp only [List.length_append, List.length_cons, List.length_nil] at this ⊢; omega) | (have := HLN.out; simp at this ⊢; omega)) (fun t ht => HOK.out t (by simp [ht])))
    go_wp2_with fail
    (with_reducible refine (C.out).mono ?_)
    rintro e w2 ⟨v2, rfl, h3, b3⟩
    have H3 := Lib.hid h3.row
    have HO2 := Lib.hid (HO1.out.stays b3)
    have S2 := Lib.hid (S1.out.trans (b3.mono hs1))
    have hs2 : w.heap.size + 1 ≤ w2.heap.size := Nat.le_trans hs1 b3.size
    clear h3 b3 C HO1
    go_wp2_with (at_builtin; refine wpList_appT rfl _ _ rfl (w.heap.size + 1) _ ([]) rfl HO2.out (sideT (leftB op) a.op (tokE a)) v2 rfl w2.heap.size (Nat.le_refl _) H3.out (by have := HLN.out; simp at this ⊢; omega) hs2 ?_)
    intro v3 w3 hown hg
    have S3 := Lib.hid (below_app S2.out hg hs2 HO2.out (Nat.le_refl _))
    have HO3 : Hid (TokOwn (w.heap.size + 1) w3 (sideT (leftB op) a.op (tokE a)) v3) := Lib.hid (by simpa using hown)
    have hs3 : w.heap.size + 1 ≤ w3.heap.size := Nat.le_trans hs1 S3.out.size
    obtain ⟨ao3, m3, cap3, rfl⟩ := TokOwn.shape3 hown
    have W3 := Lib.hid (BX.out.trans (S3.out.mono (show w.heap.size ≤ w.heap.size + 1 by omega)))
    have hB3 : B ≤ w3.heap.size := by omega
    clear hown hg HO2 H3
    clear y1_0 y1_1 y1_2 y1_3 y1_4 y1_5 y1_6
    have cb3 := HCB.out.below (show w.heap.size < w.heap.size + 1 by omega) S3.out
    have y3_0 : w3.cell? ⟨w.heap.size, 0, none⟩ = some (.int .u8 (op : Int)) := cb3 0 _ rfl
    have y3_1 : w3.cell? ⟨w.heap.size, 1, none⟩ = some (.int .i64 i) := cb3 1 _ rfl
    have y3_2 : w3.cell? ⟨w.heap.size, 2, none⟩ = some (.string n) := cb3 2 _ rfl
    have y3_3 : w3.cell? ⟨w.heap.size, 3, none⟩ = some (.string s) := cb3 3 _ rfl
    have y3_4 : w3.cell? ⟨w.heap.size, 4, none⟩ = some (.string p.name) := cb3 4 _ rfl
    have y3_5 : w3.cell? ⟨w.heap.size, 5, none⟩ = some (.slice p1 n1 c1) := cb3 5 _ rfl
    have y3_6 : w3.cell? ⟨w.heap.size, 6, none⟩ = some (.slice (some ⟨b, o, none⟩) 2 cap) := cb3 6 _ rfl
    have yl3 : w.heap.size < w3.heap.size := by omega
    clear cb3
    clear u0 u1 u2 u3 u4 u5 u6 u7
    have CW := Lib.hid (docWord_calls op hop36 w3)
    go_wp2_with fail
    (with_reducible refine (CW.out).mono ?_)
    rintro e w4 ⟨rfl, b3⟩
    have HO4 := Lib.hid (HO3.out.stays b3)
    have S4 := Lib.hid (S3.out.trans (b3.mono hs3))
    have hs4 : w.heap.size + 1 ≤ w4.heap.size := Nat.le_trans hs3 b3.size
    clear b3 CW HO3
    clear y3_0 y3_1 y3_2 y3_3 y3_4 y3_5 y3_6
    have cb4 := HCB.out.below (show w.heap.size < w.heap.size + 1 by omega) S4.out
    have y4_0 : w4.cell? ⟨w.heap.size, 0, none⟩ = some (.int .u8 (op : Int)) := cb4 0 _ rfl
    have y4_1 : w4.cell? ⟨w.heap.size, 1, none⟩ = some (.int .i64 i) := cb4 1 _ rfl
    have y4_2 : w4.cell? ⟨w.heap.size, 2, none⟩ = some (.string n) := cb4 2 _ rfl
    have y4_3 : w4.cell? ⟨w.heap.size, 3, none⟩ = some (.string s) := cb4 3 _ rfl
    have y4_4 : w4.cell? ⟨w.heap.size, 4, none⟩ = some (.string p.name) := cb4 4 _ rfl
    have y4_5 : w4.cell? ⟨w.heap.size, 5, none⟩ = some (.slice p1 n1 c1) := cb4 5 _ rfl
    have y4_6 : w4.cell? ⟨w.heap.size, 6, none⟩ = some (.slice (some ⟨b, o, none⟩) 2 cap) := cb4 6 _ rfl
    have yl4 : w.heap.size < w4.heap.size := by omega
    clear cb4
    go_wp2_with (at_builtin; refine wpList_appT rfl _ _ rfl (w.heap.size + 1) _ (sideT (leftB op) a.op (tokE a)) rfl (HO4.out.stays (new_onlyR w4 _)) [exprWord op] _ rfl _ (Nat.le_refl _) (TokIn.lit1 (exprWord op) (bT (exprWord op)) rfl hwl) (by first | (simp; done) | (have := HLN.out; simp at this ⊢; omega)) (by simp; omega) ?_)
    intro v5 w5 hown hg
    have S5 := Lib.hid (below_app ((S4.out).alloc hs4 _) hg (by simp; omega) (HO4.out.stays (new_onlyR w4 _)) (Nat.le_refl _))
    have HO5 : Hid (TokOwn (w.heap.size + 1) w5 (sideT (leftB op) a.op (tokE a) ++ [exprWord op]) v5) := Lib.hid (by simpa using hown)
    have hs5 : w.heap.size + 1 ≤ w5.heap.size := Nat.le_trans hs1 S5.out.size
    obtain ⟨ao5, m5, cap5, rfl⟩ := TokOwn.shape3 hown
    have W5 := Lib.hid (BX.out.trans (S5.out.mono (show w.heap.size ≤ w.heap.size + 1 by omega)))
    have hB5 : B ≤ w5.heap.size := by omega
    clear hown hg HO4
    clear y4_0 y4_1 y4_2 y4_3 y4_4 y4_5 y4_6
    have cb5 := HCB.out.below (show w.heap.size < w.heap.size + 1 by omega) S5.out
    have y5_0 : w5.cell? ⟨w.heap.size, 0, none⟩ = some (.int .u8 (op : Int)) := cb5 0 _ rfl
    have y5_1 : w5.cell? ⟨w.heap.size, 1, none⟩ = some (.int .i64 i) := cb5 1 _ rfl
    have y5_2 : w5.cell? ⟨w.heap.size, 2, none⟩ = some (.string n) := cb5 2 _ rfl
    have y5_3 : w5.cell? ⟨w.heap.size, 3, none⟩ = some (.string s) := cb5 3 _ rfl
    have y5_4 : w5.cell? ⟨w.heap.size, 4, none⟩ = some (.string p.name) := cb5 4 _ rfl
    have y5_5 : w5.cell? ⟨w.heap.size, 5, none⟩ = some (.slice p1 n1 c1) := cb5 5 _ rfl
    have y5_6 : w5.cell? ⟨w.heap.size, 6, none⟩ = some (.slice (some ⟨b, o, none⟩) 2 cap) := cb5 6 _ rfl
    have yl5 : w.heap.size < w5.heap.size := by omega
    clear cb5
    have cw := HCC.out.below hbB (W5.out.mono hB)
    have u0 : w5.cell? ⟨b, o + 8, none⟩ = some (.int .u8 c.op) := by simpa using cw 0 _ rfl
    have u1 : w5.cell? ⟨b, o + 8 + 1, none⟩ = some (.int .i64 c.int) := by simpa using cw 1 _ rfl
    have u2 : w5.cell? ⟨b, o + 8 + 2, none⟩ = some (.string c.name) := by simpa using cw 2 _ rfl
    have u3 : w5.cell? ⟨b, o + 8 + 3, none⟩ = some (.string c.second) := by simpa using cw 3 _ rfl
    have u4 : w5.cell? ⟨b, o + 8 + 4, none⟩ = some (.string c.place.name) := by simpa using cw 4 _ rfl
    have u5 : w5.cell? ⟨b, o + 8 + 5, none⟩ = some (.slice q1c m1c d1c) := by simpa using cw 5 _ rfl
    have u6 : w5.cell? ⟨b, o + 8 + 6, none⟩ = some (.slice q2c m2c d2c) := by simpa using cw 6 _ rfl
    have u7 : w5.cell? ⟨b, o + 8 + 7, none⟩ = some (.int .i64 c.pos) := by simpa using cw 7 _ rfl
    have hbw : b < w5.heap.size := by omega
    clear cw
    have C : Hid (Calls Tryz.prog 63 #[.agg #[.int .u8 c.op, .int .i64 c.int, .string c.name, .string c.second, .string c.place.name, .slice q1c m1c d1c, .slice q2c m2c d2c, .int .i64 c.pos], .int .i64 6] w5 fun e w' => ∃ u, e = .returned u ∧ TokNew w5.heap.size w' (sideT (strongB op + 1) c.op (tokE c)) u ∧ Below w5.heap.size w5 w') := Lib.hid (DC.out w5 hB5 (PE.In.below (W5.out.mono hB) HIC.out) (by first | (simp; done) | (have := HLN.out; simp only [List.length_append, List.length_cons, List.length_nil] at this ⊢; omega) | (have := HLN.out; simp at this ⊢; omega)) (fun t ht => HOK.out t (by simp [ht])))
    go_wp2_with fail
    (with_reducible refine (C.out).mono ?_)
    rintro e w6 ⟨v6, rfl, h3, b3⟩
    have H3 := Lib.hid h3.row
    have HO6 := Lib.hid (HO5.out.stays b3)
    have S6 := Lib.hid (S5.out.trans (b3.mono hs5))
    have hs6 : w.heap.size + 1 ≤ w6.heap.size := Nat.le_trans hs5 b3.size
    clear h3 b3 C HO5
    go_wp2_with (at_builtin; refine wpList_appT rfl _ _ rfl (w.heap.size + 1) _ (sideT (leftB op) a.op (tokE a) ++ [exprWord op]) rfl HO6.out (sideT (strongB op + 1) c.op (tokE c)) v6 rfl w6.heap.size (Nat.le_refl _) H3.out (by have := HLN.out; simp at this ⊢; omega) hs6 ?_)
    intro v7 w7 hown hg
    have S7 := Lib.hid (below_app S6.out hg hs6 HO6.out (Nat.le_refl _))
    have HO7 : Hid (TokOwn (w.heap.size + 1) w7 (sideT (leftB op) a.op (tokE a) ++ [exprWord op] ++ sideT (strongB op + 1) c.op (tokE c)) v7) := Lib.hid (by simpa using hown)
    have hs7 : w.heap.size + 1 ≤ w7.heap.size := Nat.le_trans hs1 S7.out.size
    obtain ⟨ao7, m7, cap7, rfl⟩ := TokOwn.shape3 hown
    have W7 := Lib.hid (BX.out.trans (S7.out.mono (show w.heap.size ≤ w.heap.size + 1 by omega)))
    have hB7 : B ≤ w7.heap.size := by omega
    clear hown hg HO6 H3
    clear y5_0 y5_1 y5_2 y5_3 y5_4 y5_5 y5_6
    clear u0 u1 u2 u3 u4 u5 u6 u7
    go_wp2
    go_ret
    have hfin : TokNew w.heap.size w7 (sideT (leftB op) a.op (tokE a) ++ [exprWord op] ++ sideT (strongB op + 1) c.op (tokE c)) (.slice ao7 m7 cap7) := (HO7.out.rowN (fun t ht => HOK.out t (by simpa [or_assoc] using ht)) (by first | (simp; done) | (have := HLN.out; simp at this ⊢; omega))).mono (by omega)
    exact ⟨_, rfl, by simpa using hfin, W7.out⟩
end Go.Proofs.YthilicmhdkmipaaGreatDoor
