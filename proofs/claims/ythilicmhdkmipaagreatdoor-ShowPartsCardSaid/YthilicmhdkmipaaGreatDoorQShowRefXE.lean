/- The document's tokens of an expression: cases. -/
import Derived.Test.YthilicmhdkmipaaGreatDoorQJoinAZ
namespace Go.Proofs.YthilicmhdkmipaaGreatDoor
open Go.RowKit
set_option linter.unusedVariables false
set_option maxRecDepth 100000 in
set_option maxHeartbeats 8000000 in
theorem docE_word1 (B : Nat) (op : Nat) (hop : 21 ≤ op ∧ op ≤ 36) (a : PE) (i : Int) (n s : ByteArray) (p : PP) (pos : Int) (hpn : kT p.name = []) (IH : DocEAt B a) : DocEAt B (.mk (op : Int) i n s p [a] pos) := by
  intro v w hB hx hlen hok
  obtain ⟨p1, n1, c1, ao, cap, b, o, rfl, ⟨_, hi64, hsn, hss⟩, hp, hn, k1, hr⟩ := PE.In.partsR hx
  obtain ⟨w1, hw1⟩ : ∃ w1, w1 = w.alloc (.cells ((PE.mk (op : Int) i n s p [a] pos).cells ⟨.slice p1 n1 c1, .slice ao 1 cap⟩).toArray 37) := ⟨_, rfl⟩
  have bx : Below w.heap.size w w1 := by rw [hw1]; exact new_onlyR _ _
  have hz : w.heap.size < w1.heap.size := by rw [hw1]; simp
  have HC : CellsAt w1 w.heap.size 0 ((PE.mk (op : Int) i n s p [a] pos).cells ⟨.slice p1 n1 c1, .slice ao 1 cap⟩) := by rw [hw1]; exact cells_madeR (heap_alloc_new w _)
  have et : tokE (.mk (op : Int) i n s p [a] pos) = [exprWord op, wOpen] ++ tokE a ++ [wEnd] := by rw [tokE, if_neg (by omega), if_neg (by omega), if_neg (by omega), if_neg (by omega), if_neg (by omega), if_neg (by omega), if_neg (by omega), if_neg (by omega), if_neg (by omega), if_neg (by omega), if_neg (by omega)]; unfold placeT; rw [if_pos hpn]; simp [tokEs, joinT]
  rw [et] at hlen hok ⊢
  have HCB := Lib.hid HC
  have BX := Lib.hid bx
  have HLN := Lib.hid hlen
  have HOK := Lib.hid hok
  have HR := Lib.hid hr
  have HP := Lib.hid hp
  have HK := Lib.hid k1
  have HS := Lib.hid fun (W : World) => docStrong_calls (op : Int) W
  have hs1 : w.heap.size + 1 ≤ w1.heap.size := hz
  have hB1 : B ≤ w1.heap.size := by omega
  have S1 : Hid (Below (w.heap.size + 1) w1 w1) := Lib.hid (Below.refl _ _)
  have W1 : Hid (Below w.heap.size w w1) := Lib.hid bx
  have HO1 : Hid (TokOwn (w.heap.size + 1) w1 [] (.slice none 0 0)) := Lib.hid (TokOwn.nil _ _)
  have e1 : (op : Int) ≠ 1 := by omega
  have e2 : (op : Int) ≠ 2 := by omega
  have e3 : (op : Int) ≠ 3 := by omega
  have e4 : (op : Int) ≠ 4 := by omega
  have e5 : (op : Int) ≠ 5 := by omega
  have e6 : (op : Int) ≠ 6 := by omega
  have e18 : (op : Int) ≠ 18 := by omega
  have e19 : (op : Int) ≠ 19 := by omega
  have e20 : (op : Int) ≠ 20 := by omega
  have hop36 : op ≤ 36 := by omega
  have hwl : (exprWord op).length ≤ maxLen := hwl0 op hop36
  obtain ⟨ow, how⟩ : ∃ ow : Int, ow = (strongB op : Int) := ⟨_, rfl⟩
  rw [← how] at HS
  have hs7 : strongB op = 7 := by
    unfold strongB
    rw [if_neg (by omega), if_neg (by omega), if_neg (by omega), if_neg (by omega), if_neg (by omega), if_neg (by omega), if_neg (by omega)]
  obtain rfl : ow = 7 := by rw [how, hs7]; rfl
  clear how hs7
  obtain ⟨rfl, hbB⟩ := k1.resolve_left (by simp)
  obtain ⟨va, ca, ia⟩ := PE.Row.get hr (show ([a] : List PE)[0]? = some a from rfl)
  obtain ⟨q1a, m1a, d1a, q2a, m2a, d2a, rfl⟩ := ia.shape
  have HCA := Lib.hid ca
  have HIA := Lib.hid ia
  clear ca ia
  have hemp : (!p.name.toList.isEmpty) = false := by
    rw [ByteArray.toList_eq]
    have : p.name.data.toList = [] := hpn
    rw [this]; rfl
  have cb1 := HCB.out.below (show w.heap.size < w.heap.size + 1 by omega) S1.out
  have y1_0 : w1.cell? ⟨w.heap.size, 0, none⟩ = some (.int .u8 (op : Int)) := cb1 0 _ rfl
  have y1_1 : w1.cell? ⟨w.heap.size, 1, none⟩ = some (.int .i64 i) := cb1 1 _ rfl
  have y1_2 : w1.cell? ⟨w.heap.size, 2, none⟩ = some (.string n) := cb1 2 _ rfl
  have y1_3 : w1.cell? ⟨w.heap.size, 3, none⟩ = some (.string s) := cb1 3 _ rfl
  have y1_4 : w1.cell? ⟨w.heap.size, 4, none⟩ = some (.string p.name) := cb1 4 _ rfl
  have y1_5 : w1.cell? ⟨w.heap.size, 5, none⟩ = some (.slice p1 n1 c1) := cb1 5 _ rfl
  have y1_6 : w1.cell? ⟨w.heap.size, 6, none⟩ = some (.slice (some ⟨b, o, none⟩) 1 cap) := cb1 6 _ rfl
  have yl1 : w.heap.size < w1.heap.size := by omega
  clear cb1
  show Calls Tryz.prog 22 #[.agg #[.int .u8 (op : Int), .int .i64 i, .string n, .string s, .string p.name, .slice p1 n1 c1, .slice (some ⟨b, o, none⟩) 1 cap, .int .i64 pos]] w _
  have hw1' : w1 = w.alloc (.cells #[.int .u8 (op : Int), .int .i64 i, .string n, .string s, .string p.name, .slice p1 n1 c1, .slice (some ⟨b, o, none⟩) 1 cap, .int .i64 pos] 37) := hw1
  clear hw1 HC hx hlen hok et bx hr hp k1
  go_enter Tryz.func22, Tryz.ntmps22
  go_upto_region 1 with (fail)
  rw [← hw1']
  clear hw1'
  go_wp2_with fail
  (with_reducible refine (HS.out _).mono ?_)
  rintro e w0 ⟨rfl, hw0⟩
  subst w0
  have CW := Lib.hid (docWord_calls op hop36 w1)
  go_wp2_with fail
  (with_reducible refine (CW.out).mono ?_)
  rintro e w2 ⟨rfl, b3⟩
  have HO2 := Lib.hid (HO1.out.stays b3)
  have S2 := Lib.hid (S1.out.trans (b3.mono hs1))
  have hs2 : w.heap.size + 1 ≤ w2.heap.size := Nat.le_trans hs1 b3.size
  clear b3 CW HO1
  clear y1_0 y1_1 y1_2 y1_3 y1_4 y1_5 y1_6
  have cb2 := HCB.out.below (show w.heap.size < w.heap.size + 1 by omega) S2.out
  have y2_0 : w2.cell? ⟨w.heap.size, 0, none⟩ = some (.int .u8 (op : Int)) := cb2 0 _ rfl
  have y2_1 : w2.cell? ⟨w.heap.size, 1, none⟩ = some (.int .i64 i) := cb2 1 _ rfl
  have y2_2 : w2.cell? ⟨w.heap.size, 2, none⟩ = some (.string n) := cb2 2 _ rfl
  have y2_3 : w2.cell? ⟨w.heap.size, 3, none⟩ = some (.string s) := cb2 3 _ rfl
  have y2_4 : w2.cell? ⟨w.heap.size, 4, none⟩ = some (.string p.name) := cb2 4 _ rfl
  have y2_5 : w2.cell? ⟨w.heap.size, 5, none⟩ = some (.slice p1 n1 c1) := cb2 5 _ rfl
  have y2_6 : w2.cell? ⟨w.heap.size, 6, none⟩ = some (.slice (some ⟨b, o, none⟩) 1 cap) := cb2 6 _ rfl
  have yl2 : w.heap.size < w2.heap.size := by omega
  clear cb2
  go_wp2_with (at_builtin; refine wpList_appT rfl _ _ rfl (w.heap.size + 1) _ ([]) rfl (HO2.out.stays (new_onlyR w2 _)) [exprWord op, wOpen] _ rfl _ (Nat.le_refl _) (TokIn.lit2 (exprWord op) (wOpen) (bT (exprWord op)) (⟨#[40]⟩) rfl rfl hwl (by decide)) (by first | (simp; done) | (have := HLN.out; simp at this ⊢; omega)) (by simp; omega) ?_)
  intro v3 w3 hown hg
  have S3 := Lib.hid (below_app ((S2.out).alloc hs2 _) hg (by simp; omega) (HO2.out.stays (new_onlyR w2 _)) (Nat.le_refl _))
  have HO3 : Hid (TokOwn (w.heap.size + 1) w3 ([exprWord op, wOpen]) v3) := Lib.hid (by simpa using hown)
  have hs3 : w.heap.size + 1 ≤ w3.heap.size := Nat.le_trans hs1 S3.out.size
  obtain ⟨ao3, m3, cap3, rfl⟩ := TokOwn.shape3 hown
  have W3 := Lib.hid (BX.out.trans (S3.out.mono (show w.heap.size ≤ w.heap.size + 1 by omega)))
  have hB3 : B ≤ w3.heap.size := by omega
  clear hown hg HO2
  clear y2_0 y2_1 y2_2 y2_3 y2_4 y2_5 y2_6
  have cb3 := HCB.out.below (show w.heap.size < w.heap.size + 1 by omega) S3.out
  have y3_0 : w3.cell? ⟨w.heap.size, 0, none⟩ = some (.int .u8 (op : Int)) := cb3 0 _ rfl
  have y3_1 : w3.cell? ⟨w.heap.size, 1, none⟩ = some (.int .i64 i) := cb3 1 _ rfl
  have y3_2 : w3.cell? ⟨w.heap.size, 2, none⟩ = some (.string n) := cb3 2 _ rfl
  have y3_3 : w3.cell? ⟨w.heap.size, 3, none⟩ = some (.string s) := cb3 3 _ rfl
  have y3_4 : w3.cell? ⟨w.heap.size, 4, none⟩ = some (.string p.name) := cb3 4 _ rfl
  have y3_5 : w3.cell? ⟨w.heap.size, 5, none⟩ = some (.slice p1 n1 c1) := cb3 5 _ rfl
  have y3_6 : w3.cell? ⟨w.heap.size, 6, none⟩ = some (.slice (some ⟨b, o, none⟩) 1 cap) := cb3 6 _ rfl
  have yl3 : w.heap.size < w3.heap.size := by omega
  clear cb3
  go_wp2_with fail
  go_loopw [4, 6] (fun u i wr => ((i = .int .i64 0 ∧ Hid (TokOwn (w.heap.size + 1) wr ([exprWord op, wOpen]) u)) ∨ (i = .int .i64 1 ∧ Hid (TokOwn (w.heap.size + 1) wr ([exprWord op, wOpen] ++ tokE a) u))) ∧ Hid (Below (w.heap.size + 1) w1 wr))
    (fun _ i _ => 1 - (intOf i).toNat)
  case atStart => exact ⟨.inl ⟨rfl, HO3⟩, S3⟩
  case round =>
    obtain ⟨hor, S9⟩ := hrel
    have hs9 : w.heap.size + 1 ≤ wr.heap.size := Nat.le_trans hs1 S9.out.size
    have W9 := Lib.hid (BX.out.trans (S9.out.mono (show w.heap.size ≤ w.heap.size + 1 by omega)))
    have hB9 : B ≤ wr.heap.size := by omega
    have z6 : wr.cell? ⟨w.heap.size, 6, none⟩ = some (.slice (some ⟨b, o, none⟩) 1 cap) := HCB.out.below (show w.heap.size < w.heap.size + 1 by omega) S9.out 6 _ rfl
    have zl : w.heap.size < wr.heap.size := by omega
    rcases hor with ⟨rfl, HO9⟩ | ⟨rfl, HO9⟩
    · obtain ⟨ao9, m9, cap9, rfl⟩ := TokOwn.shape3 HO9.out
      have cw := HCA.out.below hbB (W9.out.mono hB)
      have u0 : wr.cell? ⟨b, o, none⟩ = some (.int .u8 a.op) := by simpa using cw 0 _ rfl
      have u1 : wr.cell? ⟨b, o + 1, none⟩ = some (.int .i64 a.int) := by simpa using cw 1 _ rfl
      have u2 : wr.cell? ⟨b, o + 2, none⟩ = some (.string a.name) := by simpa using cw 2 _ rfl
      have u3 : wr.cell? ⟨b, o + 3, none⟩ = some (.string a.second) := by simpa using cw 3 _ rfl
      have u4 : wr.cell? ⟨b, o + 4, none⟩ = some (.string a.place.name) := by simpa using cw 4 _ rfl
      have u5 : wr.cell? ⟨b, o + 5, none⟩ = some (.slice q1a m1a d1a) := by simpa using cw 5 _ rfl
      have u6 : wr.cell? ⟨b, o + 6, none⟩ = some (.slice q2a m2a d2a) := by simpa using cw 6 _ rfl
      have u7 : wr.cell? ⟨b, o + 7, none⟩ = some (.int .i64 a.pos) := by simpa using cw 7 _ rfl
      have hbw : b < wr.heap.size := by omega
      clear cw
      have C : Hid (Calls Tryz.prog 22 #[.agg #[.int .u8 a.op, .int .i64 a.int, .string a.name, .string a.second, .string a.place.name, .slice q1a m1a d1a, .slice q2a m2a d2a, .int .i64 a.pos]] wr fun e w' => ∃ u, e = .returned u ∧ TokNew wr.heap.size w' (tokE a) u ∧ Below wr.heap.size wr w') := Lib.hid (IH ⟨.slice q1a m1a d1a, .slice q2a m2a d2a⟩ wr hB9 (PE.In.below (W9.out.mono hB) HIA.out) (by first | (simp; done) | (have := HLN.out; simp only [List.length_append, List.length_cons, List.length_nil] at this ⊢; omega) | (have := HLN.out; simp at this ⊢; omega)) (fun t ht => HOK.out t (by simp [ht])))
      go_wp2_with fail
      (with_reducible refine (C.out).mono ?_)
      rintro e wx ⟨vx, rfl, h3, b3⟩
      have H3 := Lib.hid h3.row
      have HOx := Lib.hid (HO9.out.stays b3)
      have Sx := Lib.hid (S9.out.trans (b3.mono hs9))
      have hsx : w.heap.size + 1 ≤ wx.heap.size := Nat.le_trans hs9 b3.size
      clear h3 b3 C HO9 u0 u1 u2 u3 u4 u5 u6 u7 z6
      go_wp2_with (at_builtin; refine wpList_appT rfl _ _ rfl (w.heap.size + 1) _ ([exprWord op, wOpen]) rfl HOx.out (tokE a) vx rfl wx.heap.size (Nat.le_refl _) H3.out (by have := HLN.out; simp at this ⊢; omega) hsx ?_)
      intro vy wy hown hg
      have Sy := Lib.hid (below_app Sx.out hg hsx HOx.out (Nat.le_refl _))
      have HOy : Hid (TokOwn (w.heap.size + 1) wy ([exprWord op, wOpen] ++ tokE a) vy) := Lib.hid (by simpa using hown)
      clear hown hg HOx H3
      go_wp2
      go_roundw
      case rel => exact ⟨.inr ⟨by go_num, HOy⟩, Sy⟩
      case measure => simp [intOf]
    · obtain ⟨ao9, m9, cap9, rfl⟩ := TokOwn.shape3 HO9.out
      go_wp2_with (at_builtin; refine wpList_appT rfl _ _ rfl (w.heap.size + 1) _ ([exprWord op, wOpen] ++ tokE a) rfl (HO9.out.stays (new_onlyR wr _)) [wEnd] _ rfl _ (Nat.le_refl _) (TokIn.lit1 wEnd ⟨#[41]⟩ rfl (by decide)) (by first | (simp; done) | (have := HLN.out; simp at this ⊢; omega)) (by simp; omega) ?_)
      intro vy wy hown hg
      have Sy := Lib.hid (below_app ((S9.out).alloc hs9 _) hg (by simp; omega) (HO9.out.stays (new_onlyR wr _)) (Nat.le_refl _))
      have HOy : Hid (TokOwn (w.heap.size + 1) wy ([exprWord op, wOpen] ++ tokE a ++ [wEnd]) vy) := Lib.hid (by simpa using hown)
      obtain ⟨aoy, my, capy, rfl⟩ := TokOwn.shape3 hown
      clear hown hg HO9 z6
      go_wp2
      go_ret
      have hfin : TokNew w.heap.size wy ([exprWord op, wOpen] ++ tokE a ++ [wEnd]) (.slice aoy my capy) := (HOy.out.rowN (fun t ht => HOK.out t (by simpa [or_assoc] using ht)) (by first | (simp; done) | (have := HLN.out; simp at this ⊢; omega))).mono (by omega)
      exact ⟨_, rfl, by simpa using hfin, BX.out.trans (Sy.out.mono (by omega))⟩
set_option maxRecDepth 100000 in
set_option maxHeartbeats 8000000 in
theorem docE_word0p (B : Nat) (op : Nat) (hop : 21 ≤ op ∧ op ≤ 36) (i : Int) (n s : ByteArray) (p : PP) (pos : Int) (hpn : kT p.name ≠ []) : DocEAt B (.mk (op : Int) i n s p [] pos) := by
  intro v w hB hx hlen hok
  obtain ⟨p1, n1, c1, ao, cap, b, o, rfl, ⟨_, hi64, hsn, hss⟩, hp, hn, k1, hr⟩ := PE.In.partsR hx
  obtain ⟨w1, hw1⟩ : ∃ w1, w1 = w.alloc (.cells ((PE.mk (op : Int) i n s p [] pos).cells ⟨.slice p1 n1 c1, .slice ao 0 cap⟩).toArray 37) := ⟨_, rfl⟩
  have bx : Below w.heap.size w w1 := by rw [hw1]; exact new_onlyR _ _
  have hz : w.heap.size < w1.heap.size := by rw [hw1]; simp
  have HC : CellsAt w1 w.heap.size 0 ((PE.mk (op : Int) i n s p [] pos).cells ⟨.slice p1 n1 c1, .slice ao 0 cap⟩) := by rw [hw1]; exact cells_madeR (heap_alloc_new w _)
  have et : tokE (.mk (op : Int) i n s p [] pos) = [exprWord op, wOpen] ++ tokP p ++ [wEnd] := by rw [tokE, if_neg (by omega), if_neg (by omega), if_neg (by omega), if_neg (by omega), if_neg (by omega), if_neg (by omega), if_neg (by omega), if_neg (by omega), if_neg (by omega), if_neg (by omega), if_neg (by omega)]; unfold placeT; rw [if_neg hpn]; simp [tokEs]
  rw [et] at hlen hok ⊢
  have HCB := Lib.hid HC
  have BX := Lib.hid bx
  have HLN := Lib.hid hlen
  have HOK := Lib.hid hok
  have HR := Lib.hid hr
  have HP := Lib.hid hp
  have HK := Lib.hid k1
  have HS := Lib.hid fun (W : World) => docStrong_calls (op : Int) W
  have hs1 : w.heap.size + 1 ≤ w1.heap.size := hz
  have hB1 : B ≤ w1.heap.size := by omega
  have S1 : Hid (Below (w.heap.size + 1) w1 w1) := Lib.hid (Below.refl _ _)
  have W1 : Hid (Below w.heap.size w w1) := Lib.hid bx
  have HO1 : Hid (TokOwn (w.heap.size + 1) w1 [] (.slice none 0 0)) := Lib.hid (TokOwn.nil _ _)
  have e1 : (op : Int) ≠ 1 := by omega
  have e2 : (op : Int) ≠ 2 := by omega
  have e3 : (op : Int) ≠ 3 := by omega
  have e4 : (op : Int) ≠ 4 := by omega
  have e5 : (op : Int) ≠ 5 := by omega
  have e6 : (op : Int) ≠ 6 := by omega
  have e18 : (op : Int) ≠ 18 := by omega
  have e19 : (op : Int) ≠ 19 := by omega
  have e20 : (op : Int) ≠ 20 := by omega
  have hop36 : op ≤ 36 := by omega
  have hwl : (exprWord op).length ≤ maxLen := hwl0 op hop36
  obtain ⟨ow, how⟩ : ∃ ow : Int, ow = (strongB op : Int) := ⟨_, rfl⟩
  rw [← how] at HS
  have hs7 : strongB op = 7 := by
    unfold strongB
    rw [if_neg (by omega), if_neg (by omega), if_neg (by omega), if_neg (by omega), if_neg (by omega), if_neg (by omega), if_neg (by omega)]
  obtain rfl : ow = 7 := by rw [how, hs7]; rfl
  clear how hs7
  have hemp : (!p.name.toList.isEmpty) = true := by
    rw [ByteArray.toList_eq]
    have : p.name.data.toList.isEmpty = false := by
      cases h : p.name.data.toList with
      | nil => exact absurd h hpn
      | cons _ _ => rfl
    rw [this]; rfl
  have cb1 := HCB.out.below (show w.heap.size < w.heap.size + 1 by omega) S1.out
  have y1_0 : w1.cell? ⟨w.heap.size, 0, none⟩ = some (.int .u8 (op : Int)) := cb1 0 _ rfl
  have y1_1 : w1.cell? ⟨w.heap.size, 1, none⟩ = some (.int .i64 i) := cb1 1 _ rfl
  have y1_2 : w1.cell? ⟨w.heap.size, 2, none⟩ = some (.string n) := cb1 2 _ rfl
  have y1_3 : w1.cell? ⟨w.heap.size, 3, none⟩ = some (.string s) := cb1 3 _ rfl
  have y1_4 : w1.cell? ⟨w.heap.size, 4, none⟩ = some (.string p.name) := cb1 4 _ rfl
  have y1_5 : w1.cell? ⟨w.heap.size, 5, none⟩ = some (.slice p1 n1 c1) := cb1 5 _ rfl
  have y1_6 : w1.cell? ⟨w.heap.size, 6, none⟩ = some (.slice ao 0 cap) := cb1 6 _ rfl
  have yl1 : w.heap.size < w1.heap.size := by omega
  clear cb1
  show Calls Tryz.prog 22 #[.agg #[.int .u8 (op : Int), .int .i64 i, .string n, .string s, .string p.name, .slice p1 n1 c1, .slice ao 0 cap, .int .i64 pos]] w _
  have hw1' : w1 = w.alloc (.cells #[.int .u8 (op : Int), .int .i64 i, .string n, .string s, .string p.name, .slice p1 n1 c1, .slice ao 0 cap, .int .i64 pos] 37) := hw1
  clear hw1 HC hx hlen hok et bx hr hp k1
  go_enter Tryz.func22, Tryz.ntmps22
  go_upto_region 1 with (fail)
  rw [← hw1']
  clear hw1'
  go_wp2_with fail
  (with_reducible refine (HS.out _).mono ?_)
  rintro e w0 ⟨rfl, hw0⟩
  subst w0
  have CW := Lib.hid (docWord_calls op hop36 w1)
  go_wp2_with fail
  (with_reducible refine (CW.out).mono ?_)
  rintro e w2 ⟨rfl, b3⟩
  have HO2 := Lib.hid (HO1.out.stays b3)
  have S2 := Lib.hid (S1.out.trans (b3.mono hs1))
  have hs2 : w.heap.size + 1 ≤ w2.heap.size := Nat.le_trans hs1 b3.size
  clear b3 CW HO1
  clear y1_0 y1_1 y1_2 y1_3 y1_4 y1_5 y1_6
  have cb2 := HCB.out.below (show w.heap.size < w.heap.size + 1 by omega) S2.out
  have y2_0 : w2.cell? ⟨w.heap.size, 0, none⟩ = some (.int .u8 (op : Int)) := cb2 0 _ rfl
  have y2_1 : w2.cell? ⟨w.heap.size, 1, none⟩ = some (.int .i64 i) := cb2 1 _ rfl
  have y2_2 : w2.cell? ⟨w.heap.size, 2, none⟩ = some (.string n) := cb2 2 _ rfl
  have y2_3 : w2.cell? ⟨w.heap.size, 3, none⟩ = some (.string s) := cb2 3 _ rfl
  have y2_4 : w2.cell? ⟨w.heap.size, 4, none⟩ = some (.string p.name) := cb2 4 _ rfl
  have y2_5 : w2.cell? ⟨w.heap.size, 5, none⟩ = some (.slice p1 n1 c1) := cb2 5 _ rfl
  have y2_6 : w2.cell? ⟨w.heap.size, 6, none⟩ = some (.slice ao 0 cap) := cb2 6 _ rfl
  have yl2 : w.heap.size < w2.heap.size := by omega
  clear cb2
  go_wp2_with (at_builtin; refine wpList_appT rfl _ _ rfl (w.heap.size + 1) _ ([]) rfl (HO2.out.stays (new_onlyR w2 _)) [exprWord op, wOpen] _ rfl _ (Nat.le_refl _) (TokIn.lit2 (exprWord op) (wOpen) (bT (exprWord op)) (⟨#[40]⟩) rfl rfl hwl (by decide)) (by first | (simp; done) | (have := HLN.out; simp at this ⊢; omega)) (by simp; omega) ?_)
  intro v3 w3 hown hg
  have S3 := Lib.hid (below_app ((S2.out).alloc hs2 _) hg (by simp; omega) (HO2.out.stays (new_onlyR w2 _)) (Nat.le_refl _))
  have HO3 : Hid (TokOwn (w.heap.size + 1) w3 ([exprWord op, wOpen]) v3) := Lib.hid (by simpa using hown)
  have hs3 : w.heap.size + 1 ≤ w3.heap.size := Nat.le_trans hs1 S3.out.size
  obtain ⟨ao3, m3, cap3, rfl⟩ := TokOwn.shape3 hown
  have W3 := Lib.hid (BX.out.trans (S3.out.mono (show w.heap.size ≤ w.heap.size + 1 by omega)))
  have hB3 : B ≤ w3.heap.size := by omega
  clear hown hg HO2
  clear y2_0 y2_1 y2_2 y2_3 y2_4 y2_5 y2_6
  have cb3 := HCB.out.below (show w.heap.size < w.heap.size + 1 by omega) S3.out
  have y3_0 : w3.cell? ⟨w.heap.size, 0, none⟩ = some (.int .u8 (op : Int)) := cb3 0 _ rfl
  have y3_1 : w3.cell? ⟨w.heap.size, 1, none⟩ = some (.int .i64 i) := cb3 1 _ rfl
  have y3_2 : w3.cell? ⟨w.heap.size, 2, none⟩ = some (.string n) := cb3 2 _ rfl
  have y3_3 : w3.cell? ⟨w.heap.size, 3, none⟩ = some (.string s) := cb3 3 _ rfl
  have y3_4 : w3.cell? ⟨w.heap.size, 4, none⟩ = some (.string p.name) := cb3 4 _ rfl
  have y3_5 : w3.cell? ⟨w.heap.size, 5, none⟩ = some (.slice p1 n1 c1) := cb3 5 _ rfl
  have y3_6 : w3.cell? ⟨w.heap.size, 6, none⟩ = some (.slice ao 0 cap) := cb3 6 _ rfl
  have yl3 : w.heap.size < w3.heap.size := by omega
  clear cb3
  have C : Hid (Calls Tryz.prog 24 #[.agg #[.string p.name, .slice p1 n1 c1]] w3 fun e w' => ∃ u, e = .returned u ∧ TokNew w3.heap.size w' (tokP p) u ∧ Below w3.heap.size w3 w') := Lib.hid (docP_calls B p _ w3 hB3 (HP.out.below (W3.out.mono hB)) (by first | (simp; done) | (have := HLN.out; simp only [List.length_append, List.length_cons, List.length_nil] at this ⊢; omega) | (have := HLN.out; simp at this ⊢; omega)) (fun t ht => HOK.out t (by simp [ht])))
  go_wp2_with fail
  (with_reducible refine (C.out).mono ?_)
  rintro e w4 ⟨v4, rfl, h3, b3⟩
  have H3 := Lib.hid h3.row
  have HO4 := Lib.hid (HO3.out.stays b3)
  have S4 := Lib.hid (S3.out.trans (b3.mono hs3))
  have hs4 : w.heap.size + 1 ≤ w4.heap.size := Nat.le_trans hs3 b3.size
  clear h3 b3 C HO3
  go_wp2_with (at_builtin; refine wpList_appT rfl _ _ rfl (w.heap.size + 1) _ ([exprWord op, wOpen]) rfl HO4.out (tokP p) v4 rfl w4.heap.size (Nat.le_refl _) H3.out (by have := HLN.out; simp at this ⊢; omega) hs4 ?_)
  intro v5 w5 hown hg
  have S5 := Lib.hid (below_app S4.out hg hs4 HO4.out (Nat.le_refl _))
  have HO5 : Hid (TokOwn (w.heap.size + 1) w5 ([exprWord op, wOpen] ++ tokP p) v5) := Lib.hid (by simpa using hown)
  have hs5 : w.heap.size + 1 ≤ w5.heap.size := Nat.le_trans hs1 S5.out.size
  obtain ⟨ao5, m5, cap5, rfl⟩ := TokOwn.shape3 hown
  have W5 := Lib.hid (BX.out.trans (S5.out.mono (show w.heap.size ≤ w.heap.size + 1 by omega)))
  have hB5 : B ≤ w5.heap.size := by omega
  clear hown hg HO4 H3
  clear y3_0 y3_1 y3_2 y3_3 y3_4 y3_5 y3_6
  have cb5 := HCB.out.below (show w.heap.size < w.heap.size + 1 by omega) S5.out
  have y5_0 : w5.cell? ⟨w.heap.size, 0, none⟩ = some (.int .u8 (op : Int)) := cb5 0 _ rfl
  have y5_1 : w5.cell? ⟨w.heap.size, 1, none⟩ = some (.int .i64 i) := cb5 1 _ rfl
  have y5_2 : w5.cell? ⟨w.heap.size, 2, none⟩ = some (.string n) := cb5 2 _ rfl
  have y5_3 : w5.cell? ⟨w.heap.size, 3, none⟩ = some (.string s) := cb5 3 _ rfl
  have y5_4 : w5.cell? ⟨w.heap.size, 4, none⟩ = some (.string p.name) := cb5 4 _ rfl
  have y5_5 : w5.cell? ⟨w.heap.size, 5, none⟩ = some (.slice p1 n1 c1) := cb5 5 _ rfl
  have y5_6 : w5.cell? ⟨w.heap.size, 6, none⟩ = some (.slice ao 0 cap) := cb5 6 _ rfl
  have yl5 : w.heap.size < w5.heap.size := by omega
  clear cb5
  go_wp2_with fail
  go_loopw [4, 6] (fun u i wr => i = .int .i64 0 ∧ Hid (TokOwn (w.heap.size + 1) wr ([exprWord op, wOpen] ++ tokP p) u) ∧ Hid (Below (w.heap.size + 1) w1 wr))
    (fun _ i _ => 1 - (intOf i).toNat)
  case atStart => exact ⟨rfl, HO5, S5⟩
  case round =>
    obtain ⟨rfl, HO9, S9⟩ := hrel
    have hs9 : w.heap.size + 1 ≤ wr.heap.size := Nat.le_trans hs1 S9.out.size
    have W9 := Lib.hid (BX.out.trans (S9.out.mono (show w.heap.size ≤ w.heap.size + 1 by omega)))
    have z6 : wr.cell? ⟨w.heap.size, 6, none⟩ = some (.slice ao 0 cap) := HCB.out.below (show w.heap.size < w.heap.size + 1 by omega) S9.out 6 _ rfl
    have zl : w.heap.size < wr.heap.size := by omega
    obtain ⟨ao9, m9, cap9, rfl⟩ := TokOwn.shape3 HO9.out
    go_wp2_with (at_builtin; refine wpList_appT rfl _ _ rfl (w.heap.size + 1) _ ([exprWord op, wOpen] ++ tokP p) rfl (HO9.out.stays (new_onlyR wr _)) [wEnd] _ rfl _ (Nat.le_refl _) (TokIn.lit1 wEnd ⟨#[41]⟩ rfl (by decide)) (by first | (simp; done) | (have := HLN.out; simp at this ⊢; omega)) (by simp; omega) ?_)
    intro vy wy hown hg
    have Sy := Lib.hid (below_app ((S9.out).alloc hs9 _) hg (by simp; omega) (HO9.out.stays (new_onlyR wr _)) (Nat.le_refl _))
    have HOy : Hid (TokOwn (w.heap.size + 1) wy ([exprWord op, wOpen] ++ tokP p ++ [wEnd]) vy) := Lib.hid (by simpa using hown)
    obtain ⟨aoy, my, capy, rfl⟩ := TokOwn.shape3 hown
    clear hown hg HO9 z6
    go_wp2
    go_ret
    have hfin : TokNew w.heap.size wy ([exprWord op, wOpen] ++ tokP p ++ [wEnd]) (.slice aoy my capy) := (HOy.out.rowN (fun t ht => HOK.out t (by simpa [or_assoc] using ht)) (by first | (simp; done) | (have := HLN.out; simp at this ⊢; omega))).mono (by omega)
    exact ⟨_, rfl, by simpa using hfin, BX.out.trans (Sy.out.mono (by omega))⟩
set_option maxRecDepth 100000 in
set_option maxHeartbeats 8000000 in
theorem docE_word1p (B : Nat) (op : Nat) (hop : 21 ≤ op ∧ op ≤ 36) (a : PE) (i : Int) (n s : ByteArray) (p : PP) (pos : Int) (hpn : kT p.name ≠ []) (IH : DocEAt B a) : DocEAt B (.mk (op : Int) i n s p [a] pos) := by
  intro v w hB hx hlen hok
  obtain ⟨p1, n1, c1, ao, cap, b, o, rfl, ⟨_, hi64, hsn, hss⟩, hp, hn, k1, hr⟩ := PE.In.partsR hx
  obtain ⟨w1, hw1⟩ : ∃ w1, w1 = w.alloc (.cells ((PE.mk (op : Int) i n s p [a] pos).cells ⟨.slice p1 n1 c1, .slice ao 1 cap⟩).toArray 37) := ⟨_, rfl⟩
  have bx : Below w.heap.size w w1 := by rw [hw1]; exact new_onlyR _ _
  have hz : w.heap.size < w1.heap.size := by rw [hw1]; simp
  have HC : CellsAt w1 w.heap.size 0 ((PE.mk (op : Int) i n s p [a] pos).cells ⟨.slice p1 n1 c1, .slice ao 1 cap⟩) := by rw [hw1]; exact cells_madeR (heap_alloc_new w _)
  have et : tokE (.mk (op : Int) i n s p [a] pos) = [exprWord op, wOpen] ++ tokP p ++ [wComma] ++ tokE a ++ [wEnd] := by rw [tokE, if_neg (by omega), if_neg (by omega), if_neg (by omega), if_neg (by omega), if_neg (by omega), if_neg (by omega), if_neg (by omega), if_neg (by omega), if_neg (by omega), if_neg (by omega), if_neg (by omega)]; unfold placeT; rw [if_neg hpn]; simp [tokEs, joinT]
  rw [et] at hlen hok ⊢
  have HCB := Lib.hid HC
  have BX := Lib.hid bx
  have HLN := Lib.hid hlen
  have HOK := Lib.hid hok
  have HR := Lib.hid hr
  have HP := Lib.hid hp
  have HK := Lib.hid k1
  have HS := Lib.hid fun (W : World) => docStrong_calls (op : Int) W
  have hs1 : w.heap.size + 1 ≤ w1.heap.size := hz
  have hB1 : B ≤ w1.heap.size := by omega
  have S1 : Hid (Below (w.heap.size + 1) w1 w1) := Lib.hid (Below.refl _ _)
  have W1 : Hid (Below w.heap.size w w1) := Lib.hid bx
  have HO1 : Hid (TokOwn (w.heap.size + 1) w1 [] (.slice none 0 0)) := Lib.hid (TokOwn.nil _ _)
  have e1 : (op : Int) ≠ 1 := by omega
  have e2 : (op : Int) ≠ 2 := by omega
  have e3 : (op : Int) ≠ 3 := by omega
  have e4 : (op : Int) ≠ 4 := by omega
  have e5 : (op : Int) ≠ 5 := by omega
  have e6 : (op : Int) ≠ 6 := by omega
  have e18 : (op : Int) ≠ 18 := by omega
  have e19 : (op : Int) ≠ 19 := by omega
  have e20 : (op : Int) ≠ 20 := by omega
  have hop36 : op ≤ 36 := by omega
  have hwl : (exprWord op).length ≤ maxLen := hwl0 op hop36
  obtain ⟨ow, how⟩ : ∃ ow : Int, ow = (strongB op : Int) := ⟨_, rfl⟩
  rw [← how] at HS
  have hs7 : strongB op = 7 := by
    unfold strongB
    rw [if_neg (by omega), if_neg (by omega), if_neg (by omega), if_neg (by omega), if_neg (by omega), if_neg (by omega), if_neg (by omega)]
  obtain rfl : ow = 7 := by rw [how, hs7]; rfl
  clear how hs7
  obtain ⟨rfl, hbB⟩ := k1.resolve_left (by simp)
  obtain ⟨va, ca, ia⟩ := PE.Row.get hr (show ([a] : List PE)[0]? = some a from rfl)
  obtain ⟨q1a, m1a, d1a, q2a, m2a, d2a, rfl⟩ := ia.shape
  have HCA := Lib.hid ca
  have HIA := Lib.hid ia
  clear ca ia
  have hemp : (!p.name.toList.isEmpty) = true := by
    rw [ByteArray.toList_eq]
    have : p.name.data.toList.isEmpty = false := by
      cases h : p.name.data.toList with
      | nil => exact absurd h hpn
      | cons _ _ => rfl
    rw [this]; rfl
  have cb1 := HCB.out.below (show w.heap.size < w.heap.size + 1 by omega) S1.out
  have y1_0 : w1.cell? ⟨w.heap.size, 0, none⟩ = some (.int .u8 (op : Int)) := cb1 0 _ rfl
  have y1_1 : w1.cell? ⟨w.heap.size, 1, none⟩ = some (.int .i64 i) := cb1 1 _ rfl
  have y1_2 : w1.cell? ⟨w.heap.size, 2, none⟩ = some (.string n) := cb1 2 _ rfl
  have y1_3 : w1.cell? ⟨w.heap.size, 3, none⟩ = some (.string s) := cb1 3 _ rfl
  have y1_4 : w1.cell? ⟨w.heap.size, 4, none⟩ = some (.string p.name) := cb1 4 _ rfl
  have y1_5 : w1.cell? ⟨w.heap.size, 5, none⟩ = some (.slice p1 n1 c1) := cb1 5 _ rfl
  have y1_6 : w1.cell? ⟨w.heap.size, 6, none⟩ = some (.slice (some ⟨b, o, none⟩) 1 cap) := cb1 6 _ rfl
  have yl1 : w.heap.size < w1.heap.size := by omega
  clear cb1
  show Calls Tryz.prog 22 #[.agg #[.int .u8 (op : Int), .int .i64 i, .string n, .string s, .string p.name, .slice p1 n1 c1, .slice (some ⟨b, o, none⟩) 1 cap, .int .i64 pos]] w _
  have hw1' : w1 = w.alloc (.cells #[.int .u8 (op : Int), .int .i64 i, .string n, .string s, .string p.name, .slice p1 n1 c1, .slice (some ⟨b, o, none⟩) 1 cap, .int .i64 pos] 37) := hw1
  clear hw1 HC hx hlen hok et bx hr hp k1
  go_enter Tryz.func22, Tryz.ntmps22
  go_upto_region 1 with (fail)
  rw [← hw1']
  clear hw1'
  go_wp2_with fail
  (with_reducible refine (HS.out _).mono ?_)
  rintro e w0 ⟨rfl, hw0⟩
  subst w0
  have CW := Lib.hid (docWord_calls op hop36 w1)
  go_wp2_with fail
  (with_reducible refine (CW.out).mono ?_)
  rintro e w2 ⟨rfl, b3⟩
  have HO2 := Lib.hid (HO1.out.stays b3)
  have S2 := Lib.hid (S1.out.trans (b3.mono hs1))
  have hs2 : w.heap.size + 1 ≤ w2.heap.size := Nat.le_trans hs1 b3.size
  clear b3 CW HO1
  clear y1_0 y1_1 y1_2 y1_3 y1_4 y1_5 y1_6
  have cb2 := HCB.out.below (show w.heap.size < w.heap.size + 1 by omega) S2.out
  have y2_0 : w2.cell? ⟨w.heap.size, 0, none⟩ = some (.int .u8 (op : Int)) := cb2 0 _ rfl
  have y2_1 : w2.cell? ⟨w.heap.size, 1, none⟩ = some (.int .i64 i) := cb2 1 _ rfl
  have y2_2 : w2.cell? ⟨w.heap.size, 2, none⟩ = some (.string n) := cb2 2 _ rfl
  have y2_3 : w2.cell? ⟨w.heap.size, 3, none⟩ = some (.string s) := cb2 3 _ rfl
  have y2_4 : w2.cell? ⟨w.heap.size, 4, none⟩ = some (.string p.name) := cb2 4 _ rfl
  have y2_5 : w2.cell? ⟨w.heap.size, 5, none⟩ = some (.slice p1 n1 c1) := cb2 5 _ rfl
  have y2_6 : w2.cell? ⟨w.heap.size, 6, none⟩ = some (.slice (some ⟨b, o, none⟩) 1 cap) := cb2 6 _ rfl
  have yl2 : w.heap.size < w2.heap.size := by omega
  clear cb2
  go_wp2_with (at_builtin; refine wpList_appT rfl _ _ rfl (w.heap.size + 1) _ ([]) rfl (HO2.out.stays (new_onlyR w2 _)) [exprWord op, wOpen] _ rfl _ (Nat.le_refl _) (TokIn.lit2 (exprWord op) (wOpen) (bT (exprWord op)) (⟨#[40]⟩) rfl rfl hwl (by decide)) (by first | (simp; done) | (have := HLN.out; simp at this ⊢; omega)) (by simp; omega) ?_)
  intro v3 w3 hown hg
  have S3 := Lib.hid (below_app ((S2.out).alloc hs2 _) hg (by simp; omega) (HO2.out.stays (new_onlyR w2 _)) (Nat.le_refl _))
  have HO3 : Hid (TokOwn (w.heap.size + 1) w3 ([exprWord op, wOpen]) v3) := Lib.hid (by simpa using hown)
  have hs3 : w.heap.size + 1 ≤ w3.heap.size := Nat.le_trans hs1 S3.out.size
  obtain ⟨ao3, m3, cap3, rfl⟩ := TokOwn.shape3 hown
  have W3 := Lib.hid (BX.out.trans (S3.out.mono (show w.heap.size ≤ w.heap.size + 1 by omega)))
  have hB3 : B ≤ w3.heap.size := by omega
  clear hown hg HO2
  clear y2_0 y2_1 y2_2 y2_3 y2_4 y2_5 y2_6
  have cb3 := HCB.out.below (show w.heap.size < w.heap.size + 1 by omega) S3.out
  have y3_0 : w3.cell? ⟨w.heap.size, 0, none⟩ = some (.int .u8 (op : Int)) := cb3 0 _ rfl
  have y3_1 : w3.cell? ⟨w.heap.size, 1, none⟩ = some (.int .i64 i) := cb3 1 _ rfl
  have y3_2 : w3.cell? ⟨w.heap.size, 2, none⟩ = some (.string n) := cb3 2 _ rfl
  have y3_3 : w3.cell? ⟨w.heap.size, 3, none⟩ = some (.string s) := cb3 3 _ rfl
  have y3_4 : w3.cell? ⟨w.heap.size, 4, none⟩ = some (.string p.name) := cb3 4 _ rfl
  have y3_5 : w3.cell? ⟨w.heap.size, 5, none⟩ = some (.slice p1 n1 c1) := cb3 5 _ rfl
  have y3_6 : w3.cell? ⟨w.heap.size, 6, none⟩ = some (.slice (some ⟨b, o, none⟩) 1 cap) := cb3 6 _ rfl
  have yl3 : w.heap.size < w3.heap.size := by omega
  clear cb3
  have C : Hid (Calls Tryz.prog 24 #[.agg #[.string p.name, .slice p1 n1 c1]] w3 fun e w' => ∃ u, e = .returned u ∧ TokNew w3.heap.size w' (tokP p) u ∧ Below w3.heap.size w3 w') := Lib.hid (docP_calls B p _ w3 hB3 (HP.out.below (W3.out.mono hB)) (by first | (simp; done) | (have := HLN.out; simp only [List.length_append, List.length_cons, List.length_nil] at this ⊢; omega) | (have := HLN.out; simp at this ⊢; omega)) (fun t ht => HOK.out t (by simp [ht])))
  go_wp2_with fail
  (with_reducible refine (C.out).mono ?_)
  rintro e w4 ⟨v4, rfl, h3, b3⟩
  have H3 := Lib.hid h3.row
  have HO4 := Lib.hid (HO3.out.stays b3)
  have S4 := Lib.hid (S3.out.trans (b3.mono hs3))
  have hs4 : w.heap.size + 1 ≤ w4.heap.size := Nat.le_trans hs3 b3.size
  clear h3 b3 C HO3
  go_wp2_with (at_builtin; refine wpList_appT rfl _ _ rfl (w.heap.size + 1) _ ([exprWord op, wOpen]) rfl HO4.out (tokP p) v4 rfl w4.heap.size (Nat.le_refl _) H3.out (by have := HLN.out; simp at this ⊢; omega) hs4 ?_)
  intro v5 w5 hown hg
  have S5 := Lib.hid (below_app S4.out hg hs4 HO4.out (Nat.le_refl _))
  have HO5 : Hid (TokOwn (w.heap.size + 1) w5 ([exprWord op, wOpen] ++ tokP p) v5) := Lib.hid (by simpa using hown)
  have hs5 : w.heap.size + 1 ≤ w5.heap.size := Nat.le_trans hs1 S5.out.size
  obtain ⟨ao5, m5, cap5, rfl⟩ := TokOwn.shape3 hown
  have W5 := Lib.hid (BX.out.trans (S5.out.mono (show w.heap.size ≤ w.heap.size + 1 by omega)))
  have hB5 : B ≤ w5.heap.size := by omega
  clear hown hg HO4 H3
  clear y3_0 y3_1 y3_2 y3_3 y3_4 y3_5 y3_6
  have cb5 := HCB.out.below (show w.heap.size < w.heap.size + 1 by omega) S5.out
  have y5_0 : w5.cell? ⟨w.heap.size, 0, none⟩ = some (.int .u8 (op : Int)) := cb5 0 _ rfl
  have y5_1 : w5.cell? ⟨w.heap.size, 1, none⟩ = some (.int .i64 i) := cb5 1 _ rfl
  have y5_2 : w5.cell? ⟨w.heap.size, 2, none⟩ = some (.string n) := cb5 2 _ rfl
  have y5_3 : w5.cell? ⟨w.heap.size, 3, none⟩ = some (.string s) := cb5 3 _ rfl
  have y5_4 : w5.cell? ⟨w.heap.size, 4, none⟩ = some (.string p.name) := cb5 4 _ rfl
  have y5_5 : w5.cell? ⟨w.heap.size, 5, none⟩ = some (.slice p1 n1 c1) := cb5 5 _ rfl
  have y5_6 : w5.cell? ⟨w.heap.size, 6, none⟩ = some (.slice (some ⟨b, o, none⟩) 1 cap) := cb5 6 _ rfl
  have yl5 : w.heap.size < w5.heap.size := by omega
  clear cb5
  go_wp2_with (at_builtin; refine wpList_appT rfl _ _ rfl (w.heap.size + 1) _ ([exprWord op, wOpen] ++ tokP p) rfl (HO5.out.stays (new_onlyR w5 _)) [wComma] _ rfl _ (Nat.le_refl _) (TokIn.lit1 (wComma) (⟨#[44]⟩) rfl (by decide)) (by first | (simp; done) | (have := HLN.out; simp at this ⊢; omega)) (by simp; omega) ?_)
  intro v6 w6 hown hg
  have S6 := Lib.hid (below_app ((S5.out).alloc hs5 _) hg (by simp; omega) (HO5.out.stays (new_onlyR w5 _)) (Nat.le_refl _))
  have HO6 : Hid (TokOwn (w.heap.size + 1) w6 ([exprWord op, wOpen] ++ tokP p ++ [wComma]) v6) := Lib.hid (by simpa using hown)
  have hs6 : w.heap.size + 1 ≤ w6.heap.size := Nat.le_trans hs1 S6.out.size
  obtain ⟨ao6, m6, cap6, rfl⟩ := TokOwn.shape3 hown
  have W6 := Lib.hid (BX.out.trans (S6.out.mono (show w.heap.size ≤ w.heap.size + 1 by omega)))
  have hB6 : B ≤ w6.heap.size := by omega
  clear hown hg HO5
  clear y5_0 y5_1 y5_2 y5_3 y5_4 y5_5 y5_6
  have cb6 := HCB.out.below (show w.heap.size < w.heap.size + 1 by omega) S6.out
  have y6_0 : w6.cell? ⟨w.heap.size, 0, none⟩ = some (.int .u8 (op : Int)) := cb6 0 _ rfl
  have y6_1 : w6.cell? ⟨w.heap.size, 1, none⟩ = some (.int .i64 i) := cb6 1 _ rfl
  have y6_2 : w6.cell? ⟨w.heap.size, 2, none⟩ = some (.string n) := cb6 2 _ rfl
  have y6_3 : w6.cell? ⟨w.heap.size, 3, none⟩ = some (.string s) := cb6 3 _ rfl
  have y6_4 : w6.cell? ⟨w.heap.size, 4, none⟩ = some (.string p.name) := cb6 4 _ rfl
  have y6_5 : w6.cell? ⟨w.heap.size, 5, none⟩ = some (.slice p1 n1 c1) := cb6 5 _ rfl
  have y6_6 : w6.cell? ⟨w.heap.size, 6, none⟩ = some (.slice (some ⟨b, o, none⟩) 1 cap) := cb6 6 _ rfl
  have yl6 : w.heap.size < w6.heap.size := by omega
  clear cb6
  go_wp2_with fail
  go_loopw [4, 6] (fun u i wr => ((i = .int .i64 0 ∧ Hid (TokOwn (w.heap.size + 1) wr ([exprWord op, wOpen] ++ tokP p ++ [wComma]) u)) ∨ (i = .int .i64 1 ∧ Hid (TokOwn (w.heap.size + 1) wr ([exprWord op, wOpen] ++ tokP p ++ [wComma] ++ tokE a) u))) ∧ Hid (Below (w.heap.size + 1) w1 wr))
    (fun _ i _ => 1 - (intOf i).toNat)
  case atStart => exact ⟨.inl ⟨rfl, HO6⟩, S6⟩
  case round =>
    obtain ⟨hor, S9⟩ := hrel
    have hs9 : w.heap.size + 1 ≤ wr.heap.size := Nat.le_trans hs1 S9.out.size
    have W9 := Lib.hid (BX.out.trans (S9.out.mono (show w.heap.size ≤ w.heap.size + 1 by omega)))
    have hB9 : B ≤ wr.heap.size := by omega
    have z6 : wr.cell? ⟨w.heap.size, 6, none⟩ = some (.slice (some ⟨b, o, none⟩) 1 cap) := HCB.out.below (show w.heap.size < w.heap.size + 1 by omega) S9.out 6 _ rfl
    have zl : w.heap.size < wr.heap.size := by omega
    rcases hor with ⟨rfl, HO9⟩ | ⟨rfl, HO9⟩
    · obtain ⟨ao9, m9, cap9, rfl⟩ := TokOwn.shape3 HO9.out
      have cw := HCA.out.below hbB (W9.out.mono hB)
      have u0 : wr.cell? ⟨b, o, none⟩ = some (.int .u8 a.op) := by simpa using cw 0 _ rfl
      have u1 : wr.cell? ⟨b, o + 1, none⟩ = some (.int .i64 a.int) := by simpa using cw 1 _ rfl
      have u2 : wr.cell? ⟨b, o + 2, none⟩ = some (.string a.name) := by simpa using cw 2 _ rfl
      have u3 : wr.cell? ⟨b, o + 3, none⟩ = some (.string a.second) := by simpa using cw 3 _ rfl
      have u4 : wr.cell? ⟨b, o + 4, none⟩ = some (.string a.place.name) := by simpa using cw 4 _ rfl
      have u5 : wr.cell? ⟨b, o + 5, none⟩ = some (.slice q1a m1a d1a) := by simpa using cw 5 _ rfl
      have u6 : wr.cell? ⟨b, o + 6, none⟩ = some (.slice q2a m2a d2a) := by simpa using cw 6 _ rfl
      have u7 : wr.cell? ⟨b, o + 7, none⟩ = some (.int .i64 a.pos) := by simpa using cw 7 _ rfl
      have hbw : b < wr.heap.size := by omega
      clear cw
      have C : Hid (Calls Tryz.prog 22 #[.agg #[.int .u8 a.op, .int .i64 a.int, .string a.name, .string a.second, .string a.place.name, .slice q1a m1a d1a, .slice q2a m2a d2a, .int .i64 a.pos]] wr fun e w' => ∃ u, e = .returned u ∧ TokNew wr.heap.size w' (tokE a) u ∧ Below wr.heap.size wr w') := Lib.hid (IH ⟨.slice q1a m1a d1a, .slice q2a m2a d2a⟩ wr hB9 (PE.In.below (W9.out.mono hB) HIA.out) (by first | (simp; done) | (have := HLN.out; simp only [List.length_append, List.length_cons, List.length_nil] at this ⊢; omega) | (have := HLN.out; simp at this ⊢; omega)) (fun t ht => HOK.out t (by simp [ht])))
      go_wp2_with fail
      (with_reducible refine (C.out).mono ?_)
      rintro e wx ⟨vx, rfl, h3, b3⟩
      have H3 := Lib.hid h3.row
      have HOx := Lib.hid (HO9.out.stays b3)
      have Sx := Lib.hid (S9.out.trans (b3.mono hs9))
      have hsx : w.heap.size + 1 ≤ wx.heap.size := Nat.le_trans hs9 b3.size
      clear h3 b3 C HO9 u0 u1 u2 u3 u4 u5 u6 u7 z6
      go_wp2_with (at_builtin; refine wpList_appT rfl _ _ rfl (w.heap.size + 1) _ ([exprWord op, wOpen] ++ tokP p ++ [wComma]) rfl HOx.out (tokE a) vx rfl wx.heap.size (Nat.le_refl _) H3.out (by have := HLN.out; simp at this ⊢; omega) hsx ?_)
      intro vy wy hown hg
      have Sy := Lib.hid (below_app Sx.out hg hsx HOx.out (Nat.le_refl _))
      have HOy : Hid (TokOwn (w.heap.size + 1) wy ([exprWord op, wOpen] ++ tokP p ++ [wComma] ++ tokE a) vy) := Lib.hid (by simpa using hown)
      clear hown hg HOx H3
      go_wp2
      go_roundw
      case rel => exact ⟨.inr ⟨by go_num, HOy⟩, Sy⟩
      case measure => simp [intOf]
    · obtain ⟨ao9, m9, cap9, rfl⟩ := TokOwn.shape3 HO9.out
      go_wp2_with (at_builtin; refine wpList_appT rfl _ _ rfl (w.heap.size + 1) _ ([exprWord op, wOpen] ++ tokP p ++ [wComma] ++ tokE a) rfl (HO9.out.stays (new_onlyR wr _)) [wEnd] _ rfl _ (Nat.le_refl _) (TokIn.lit1 wEnd ⟨#[41]⟩ rfl (by decide)) (by first | (simp; done) | (have := HLN.out; simp at this ⊢; omega)) (by simp; omega) ?_)
      intro vy wy hown hg
      have Sy := Lib.hid (below_app ((S9.out).alloc hs9 _) hg (by simp; omega) (HO9.out.stays (new_onlyR wr _)) (Nat.le_refl _))
      have HOy : Hid (TokOwn (w.heap.size + 1) wy ([exprWord op, wOpen] ++ tokP p ++ [wComma] ++ tokE a ++ [wEnd]) vy) := Lib.hid (by simpa using hown)
      obtain ⟨aoy, my, capy, rfl⟩ := TokOwn.shape3 hown
      clear hown hg HO9 z6
      go_wp2
      go_ret
      have hfin : TokNew w.heap.size wy ([exprWord op, wOpen] ++ tokP p ++ [wComma] ++ tokE a ++ [wEnd]) (.slice aoy my capy) := (HOy.out.rowN (fun t ht => HOK.out t (by simpa [or_assoc] using ht)) (by first | (simp; done) | (have := HLN.out; simp at this ⊢; omega))).mono (by omega)
      exact ⟨_, rfl, by simpa using hfin, BX.out.trans (Sy.out.mono (by omega))⟩
end Go.Proofs.YthilicmhdkmipaaGreatDoor
