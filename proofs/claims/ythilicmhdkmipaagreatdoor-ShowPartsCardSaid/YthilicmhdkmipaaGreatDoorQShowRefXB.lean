/- The document's tokens of an expression: cases. -/
import Derived.Test.YthilicmhdkmipaaGreatDoorQJoinAY
namespace Go.Proofs.YthilicmhdkmipaaGreatDoor
open Go.RowKit
set_option linter.unusedVariables false
set_option maxRecDepth 100000 in
set_option maxHeartbeats 8000000 in
theorem docE_call (B : Nat) (i : Int) (n s : ByteArray) (p : PP) (l : List PE) (pos : Int) (hl6 : l.length ≤ 1000) (IH : ∀ x ∈ l, DocEAt B x) : DocEAt B (.mk 18 i n s p l pos) := by
  intro v w hB hx hlen hok
  obtain ⟨p1, n1, c1, ao, cap, b, o, rfl, ⟨_, hi64, hsn, hss⟩, hp, hn, k1, hr⟩ := PE.In.partsR hx
  obtain ⟨w1, hw1⟩ : ∃ w1, w1 = w.alloc (.cells ((PE.mk 18 i n s p l pos).cells ⟨.slice p1 n1 c1, .slice ao l.length cap⟩).toArray 37) := ⟨_, rfl⟩
  have bx : Below w.heap.size w w1 := by rw [hw1]; exact new_onlyR _ _
  have hz : w.heap.size < w1.heap.size := by rw [hw1]; simp
  have HC : CellsAt w1 w.heap.size 0 ((PE.mk 18 i n s p l pos).cells ⟨.slice p1 n1 c1, .slice ao l.length cap⟩) := by rw [hw1]; exact cells_madeR (heap_alloc_new w _)
  have et : tokE (.mk 18 i n s p l pos) = [kT n] ++ (wOpen :: (joinT (tokEs l) ++ [wEnd])) := by rw [tokE]; rfl
  rw [et] at hlen hok ⊢
  have HCB := Lib.hid HC
  have BX := Lib.hid bx
  have HLN := Lib.hid hlen
  have HOK := Lib.hid hok
  have HR := Lib.hid hr
  have HP := Lib.hid hp
  have HK := Lib.hid k1
  have HS := Lib.hid fun (W : World) => docStrong_calls 18 W
  have hs1 : w.heap.size + 1 ≤ w1.heap.size := hz
  have hB1 : B ≤ w1.heap.size := by omega
  have S1 : Hid (Below (w.heap.size + 1) w1 w1) := Lib.hid (Below.refl _ _)
  have W1 : Hid (Below w.heap.size w w1) := Lib.hid bx
  have HO1 : Hid (TokOwn (w.heap.size + 1) w1 [] (.slice none 0 0)) := Lib.hid (TokOwn.nil _ _)
  have cb1 := HCB.out.below (show w.heap.size < w.heap.size + 1 by omega) S1.out
  have y1_0 : w1.cell? ⟨w.heap.size, 0, none⟩ = some (.int .u8 18) := cb1 0 _ rfl
  have y1_1 : w1.cell? ⟨w.heap.size, 1, none⟩ = some (.int .i64 i) := cb1 1 _ rfl
  have y1_2 : w1.cell? ⟨w.heap.size, 2, none⟩ = some (.string n) := cb1 2 _ rfl
  have y1_3 : w1.cell? ⟨w.heap.size, 3, none⟩ = some (.string s) := cb1 3 _ rfl
  have y1_4 : w1.cell? ⟨w.heap.size, 4, none⟩ = some (.string p.name) := cb1 4 _ rfl
  have y1_5 : w1.cell? ⟨w.heap.size, 5, none⟩ = some (.slice p1 n1 c1) := cb1 5 _ rfl
  have y1_6 : w1.cell? ⟨w.heap.size, 6, none⟩ = some (.slice ao l.length cap) := cb1 6 _ rfl
  have yl1 : w.heap.size < w1.heap.size := by omega
  clear cb1
  show Calls Tryz.prog 22 #[.agg #[.int .u8 18, .int .i64 i, .string n, .string s, .string p.name, .slice p1 n1 c1, .slice ao l.length cap, .int .i64 pos]] w _
  have hw1' : w1 = w.alloc (.cells #[.int .u8 18, .int .i64 i, .string n, .string s, .string p.name, .slice p1 n1 c1, .slice ao l.length cap, .int .i64 pos] 37) := hw1
  clear hw1 HC hx hlen hok et bx hr hp k1
  go_enter Tryz.func22, Tryz.ntmps22
  go_upto_region 1 with (fail)
  rw [← hw1']
  clear hw1'
  go_wp2_with fail
  (with_reducible refine (HS.out _).mono ?_)
  rintro e w0 ⟨rfl, hw0⟩
  subst w0
  go_wp2_with (at_builtin; refine wpList_appT rfl _ _ rfl (w.heap.size + 1) _ ([]) rfl (HO1.out.stays (new_onlyR w1 _)) [kT n] _ rfl _ (Nat.le_refl _) (TokIn.lit1 (kT n) (n) (bT_kT n).symm hsn) (by first | (simp; done) | (have := HLN.out; simp at this ⊢; omega)) (by simp; omega) ?_)
  intro v2 w2 hown hg
  have S2 := Lib.hid (below_app ((S1.out).alloc hs1 _) hg (by simp; omega) (HO1.out.stays (new_onlyR w1 _)) (Nat.le_refl _))
  have HO2 : Hid (TokOwn (w.heap.size + 1) w2 ([kT n]) v2) := Lib.hid (by simpa using hown)
  have hs2 : w.heap.size + 1 ≤ w2.heap.size := Nat.le_trans hs1 S2.out.size
  obtain ⟨ao2, m2, cap2, rfl⟩ := TokOwn.shape3 hown
  have W2 := Lib.hid (BX.out.trans (S2.out.mono (show w.heap.size ≤ w.heap.size + 1 by omega)))
  have hB2 : B ≤ w2.heap.size := by omega
  clear hown hg HO1
  clear y1_0 y1_1 y1_2 y1_3 y1_4 y1_5 y1_6
  have cb2 := HCB.out.below (show w.heap.size < w.heap.size + 1 by omega) S2.out
  have y2_0 : w2.cell? ⟨w.heap.size, 0, none⟩ = some (.int .u8 18) := cb2 0 _ rfl
  have y2_1 : w2.cell? ⟨w.heap.size, 1, none⟩ = some (.int .i64 i) := cb2 1 _ rfl
  have y2_2 : w2.cell? ⟨w.heap.size, 2, none⟩ = some (.string n) := cb2 2 _ rfl
  have y2_3 : w2.cell? ⟨w.heap.size, 3, none⟩ = some (.string s) := cb2 3 _ rfl
  have y2_4 : w2.cell? ⟨w.heap.size, 4, none⟩ = some (.string p.name) := cb2 4 _ rfl
  have y2_5 : w2.cell? ⟨w.heap.size, 5, none⟩ = some (.slice p1 n1 c1) := cb2 5 _ rfl
  have y2_6 : w2.cell? ⟨w.heap.size, 6, none⟩ = some (.slice ao l.length cap) := cb2 6 _ rfl
  have yl2 : w.heap.size < w2.heap.size := by omega
  clear cb2
  have HRR : Hid (PE.Row B w2 b o l) := Lib.hid (by
    rcases HK.out with h | ⟨_, h⟩
    · have : l = [] := List.length_eq_zero_iff.1 h
      subst this; trivial
    · exact PE.Row.below (W2.out.mono hB) h HR.out)
  have C : Hid (Calls Tryz.prog 60 #[.slice ao l.length cap, .string ⟨#[40]⟩, .string ⟨#[41]⟩] w2 fun e w' => ∃ u, e = .returned u ∧ TokNew w2.heap.size w' (wOpen :: (joinT (tokEs l) ++ [wEnd])) u ∧ Below w2.heap.size w2 w') := Lib.hid (docArgs_calls B l IH wOpen wEnd ⟨#[40]⟩ ⟨#[41]⟩ rfl rfl _ b o w2 hB2 ⟨hn, _, _, rfl, HK.out⟩ HRR.out hl6 (by first | (simp; done) | (have := HLN.out; simp only [List.length_append, List.length_cons, List.length_nil] at this ⊢; omega) | (have := HLN.out; simp at this ⊢; omega)) (fun t ht => HOK.out t (List.mem_append_right _ ht)))
  go_wp2_with fail
  (with_reducible refine (C.out).mono ?_)
  rintro e w3 ⟨v3, rfl, h3, b3⟩
  have H3 := Lib.hid h3.row
  have HO3 := Lib.hid (HO2.out.stays b3)
  have S3 := Lib.hid (S2.out.trans (b3.mono hs2))
  have hs3 : w.heap.size + 1 ≤ w3.heap.size := Nat.le_trans hs2 b3.size
  clear h3 b3 C HO2
  go_wp2_with (at_builtin; refine wpList_appT rfl _ _ rfl (w.heap.size + 1) _ ([kT n]) rfl HO3.out (wOpen :: (joinT (tokEs l) ++ [wEnd])) v3 rfl w3.heap.size (Nat.le_refl _) H3.out (by have := HLN.out; simp at this ⊢; omega) hs3 ?_)
  intro v4 w4 hown hg
  have S4 := Lib.hid (below_app S3.out hg hs3 HO3.out (Nat.le_refl _))
  have HO4 : Hid (TokOwn (w.heap.size + 1) w4 ([kT n] ++ wOpen :: (joinT (tokEs l) ++ [wEnd])) v4) := Lib.hid (by simpa using hown)
  have hs4 : w.heap.size + 1 ≤ w4.heap.size := Nat.le_trans hs1 S4.out.size
  obtain ⟨ao4, m4, cap4, rfl⟩ := TokOwn.shape3 hown
  have W4 := Lib.hid (BX.out.trans (S4.out.mono (show w.heap.size ≤ w.heap.size + 1 by omega)))
  have hB4 : B ≤ w4.heap.size := by omega
  clear hown hg HO3 H3
  clear y2_0 y2_1 y2_2 y2_3 y2_4 y2_5 y2_6
  go_wp2
  go_ret
  have hfin : TokNew w.heap.size w4 ([kT n] ++ (wOpen :: (joinT (tokEs l) ++ [wEnd]))) (.slice ao4 m4 cap4) := (HO4.out.rowN (fun t ht => HOK.out t (by simpa [or_assoc] using ht)) (by first | (simp; done) | (have := HLN.out; simp at this ⊢; omega))).mono (by omega)
  exact ⟨_, rfl, by simpa using hfin, W4.out⟩
set_option maxRecDepth 100000 in
set_option maxHeartbeats 8000000 in
theorem docE_struct (B : Nat) (i : Int) (n s : ByteArray) (p : PP) (l : List PE) (pos : Int) (hpl : p.path.length = l.length) (IH : ∀ x ∈ l, DocEAt B x) : DocEAt B (.mk 19 i n s p l pos) := by
  intro v w hB hx hlen hok
  obtain ⟨p1, n1, c1, ao, cap, b, o, rfl, ⟨_, hi64, hsn, hss⟩, hp, hn, k1, hr⟩ := PE.In.partsR hx
  obtain ⟨w1, hw1⟩ : ∃ w1, w1 = w.alloc (.cells ((PE.mk 19 i n s p l pos).cells ⟨.slice p1 n1 c1, .slice ao l.length cap⟩).toArray 37) := ⟨_, rfl⟩
  have bx : Below w.heap.size w w1 := by rw [hw1]; exact new_onlyR _ _
  have hz : w.heap.size < w1.heap.size := by rw [hw1]; simp
  have HC : CellsAt w1 w.heap.size 0 ((PE.mk 19 i n s p l pos).cells ⟨.slice p1 n1 c1, .slice ao l.length cap⟩) := by rw [hw1]; exact cells_madeR (heap_alloc_new w _)
  have et : tokE (.mk 19 i n s p l pos) = [kT n, wLeft] ++ joinT (pairsT p.path (tokEs l)) ++ [wRight] := by rw [tokE]; simp
  rw [et] at hlen hok ⊢
  have HCB := Lib.hid HC
  have BX := Lib.hid bx
  have HLN := Lib.hid hlen
  have HOK := Lib.hid hok
  have HR := Lib.hid hr
  have HP := Lib.hid hp
  have HK := Lib.hid k1
  have HS := Lib.hid fun (W : World) => docStrong_calls 19 W
  have hs1 : w.heap.size + 1 ≤ w1.heap.size := hz
  have hB1 : B ≤ w1.heap.size := by omega
  have S1 : Hid (Below (w.heap.size + 1) w1 w1) := Lib.hid (Below.refl _ _)
  have W1 : Hid (Below w.heap.size w w1) := Lib.hid bx
  have HO1 : Hid (TokOwn (w.heap.size + 1) w1 [] (.slice none 0 0)) := Lib.hid (TokOwn.nil _ _)
  have cb1 := HCB.out.below (show w.heap.size < w.heap.size + 1 by omega) S1.out
  have y1_0 : w1.cell? ⟨w.heap.size, 0, none⟩ = some (.int .u8 19) := cb1 0 _ rfl
  have y1_1 : w1.cell? ⟨w.heap.size, 1, none⟩ = some (.int .i64 i) := cb1 1 _ rfl
  have y1_2 : w1.cell? ⟨w.heap.size, 2, none⟩ = some (.string n) := cb1 2 _ rfl
  have y1_3 : w1.cell? ⟨w.heap.size, 3, none⟩ = some (.string s) := cb1 3 _ rfl
  have y1_4 : w1.cell? ⟨w.heap.size, 4, none⟩ = some (.string p.name) := cb1 4 _ rfl
  have y1_5 : w1.cell? ⟨w.heap.size, 5, none⟩ = some (.slice p1 n1 c1) := cb1 5 _ rfl
  have y1_6 : w1.cell? ⟨w.heap.size, 6, none⟩ = some (.slice ao l.length cap) := cb1 6 _ rfl
  have yl1 : w.heap.size < w1.heap.size := by omega
  clear cb1
  show Calls Tryz.prog 22 #[.agg #[.int .u8 19, .int .i64 i, .string n, .string s, .string p.name, .slice p1 n1 c1, .slice ao l.length cap, .int .i64 pos]] w _
  have hw1' : w1 = w.alloc (.cells #[.int .u8 19, .int .i64 i, .string n, .string s, .string p.name, .slice p1 n1 c1, .slice ao l.length cap, .int .i64 pos] 37) := hw1
  clear hw1 HC hx hlen hok et bx hr hp k1
  go_enter Tryz.func22, Tryz.ntmps22
  go_upto_region 1 with (fail)
  rw [← hw1']
  clear hw1'
  go_wp2_with fail
  (with_reducible refine (HS.out _).mono ?_)
  rintro e w0 ⟨rfl, hw0⟩
  subst w0
  go_wp2_with (at_builtin; refine wpList_appT rfl _ _ rfl (w.heap.size + 1) _ ([]) rfl (HO1.out.stays (new_onlyR w1 _)) [kT n, wLeft] _ rfl _ (Nat.le_refl _) (TokIn.lit2 (kT n) (wLeft) (n) (⟨#[123]⟩) (bT_kT n).symm rfl hsn (by decide)) (by first | (simp; done) | (have := HLN.out; simp at this ⊢; omega)) (by simp; omega) ?_)
  intro v2 w2 hown hg
  have S2 := Lib.hid (below_app ((S1.out).alloc hs1 _) hg (by simp; omega) (HO1.out.stays (new_onlyR w1 _)) (Nat.le_refl _))
  have HO2 : Hid (TokOwn (w.heap.size + 1) w2 ([kT n, wLeft]) v2) := Lib.hid (by simpa using hown)
  have hs2 : w.heap.size + 1 ≤ w2.heap.size := Nat.le_trans hs1 S2.out.size
  obtain ⟨ao2, m2, cap2, rfl⟩ := TokOwn.shape3 hown
  have W2 := Lib.hid (BX.out.trans (S2.out.mono (show w.heap.size ≤ w.heap.size + 1 by omega)))
  have hB2 : B ≤ w2.heap.size := by omega
  clear hown hg HO1
  clear y1_0 y1_1 y1_2 y1_3 y1_4 y1_5 y1_6
  have cb2 := HCB.out.below (show w.heap.size < w.heap.size + 1 by omega) S2.out
  have y2_0 : w2.cell? ⟨w.heap.size, 0, none⟩ = some (.int .u8 19) := cb2 0 _ rfl
  have y2_1 : w2.cell? ⟨w.heap.size, 1, none⟩ = some (.int .i64 i) := cb2 1 _ rfl
  have y2_2 : w2.cell? ⟨w.heap.size, 2, none⟩ = some (.string n) := cb2 2 _ rfl
  have y2_3 : w2.cell? ⟨w.heap.size, 3, none⟩ = some (.string s) := cb2 3 _ rfl
  have y2_4 : w2.cell? ⟨w.heap.size, 4, none⟩ = some (.string p.name) := cb2 4 _ rfl
  have y2_5 : w2.cell? ⟨w.heap.size, 5, none⟩ = some (.slice p1 n1 c1) := cb2 5 _ rfl
  have y2_6 : w2.cell? ⟨w.heap.size, 6, none⟩ = some (.slice ao l.length cap) := cb2 6 _ rfl
  have yl2 : w.heap.size < w2.heap.size := by omega
  clear cb2
  obtain ⟨bp, op', hsl, hrp⟩ := (HP.out.below (W2.out.mono hB)).2
  have HRR : Hid (PE.Row B w2 b o l) := Lib.hid (by
    rcases HK.out with h | ⟨_, h⟩
    · have : l = [] := List.length_eq_zero_iff.1 h
      subst this; trivial
    · exact PE.Row.below (W2.out.mono hB) h HR.out)
  have C : Hid (Calls Tryz.prog 61 #[.slice p1 n1 c1, .slice ao l.length cap] w2 fun e w' => ∃ u, e = .returned u ∧ TokNew w2.heap.size w' (joinT (pairsT p.path (tokEs l))) u ∧ Below w2.heap.size w2 w') := Lib.hid (docGiven_calls B p.path l hpl IH _ _ bp op' b o w2 hB2 hsl hrp ⟨hn, _, _, rfl, HK.out⟩ HRR.out (by first | (simp; done) | (have := HLN.out; simp only [List.length_append, List.length_cons, List.length_nil] at this ⊢; omega) | (have := HLN.out; simp at this ⊢; omega)) (fun t ht => HOK.out t (List.mem_append_left _ (List.mem_append_right _ ht))))
  go_wp2_with fail
  (with_reducible refine (C.out).mono ?_)
  rintro e w3 ⟨v3, rfl, h3, b3⟩
  have H3 := Lib.hid h3.row
  have HO3 := Lib.hid (HO2.out.stays b3)
  have S3 := Lib.hid (S2.out.trans (b3.mono hs2))
  have hs3 : w.heap.size + 1 ≤ w3.heap.size := Nat.le_trans hs2 b3.size
  clear h3 b3 C HO2
  go_wp2_with (at_builtin; refine wpList_appT rfl _ _ rfl (w.heap.size + 1) _ ([kT n, wLeft]) rfl HO3.out (joinT (pairsT p.path (tokEs l))) v3 rfl w3.heap.size (Nat.le_refl _) H3.out (by have := HLN.out; simp at this ⊢; omega) hs3 ?_)
  intro v4 w4 hown hg
  have S4 := Lib.hid (below_app S3.out hg hs3 HO3.out (Nat.le_refl _))
  have HO4 : Hid (TokOwn (w.heap.size + 1) w4 ([kT n, wLeft] ++ joinT (pairsT p.path (tokEs l))) v4) := Lib.hid (by simpa using hown)
  have hs4 : w.heap.size + 1 ≤ w4.heap.size := Nat.le_trans hs1 S4.out.size
  obtain ⟨ao4, m4, cap4, rfl⟩ := TokOwn.shape3 hown
  have W4 := Lib.hid (BX.out.trans (S4.out.mono (show w.heap.size ≤ w.heap.size + 1 by omega)))
  have hB4 : B ≤ w4.heap.size := by omega
  clear hown hg HO3 H3
  clear y2_0 y2_1 y2_2 y2_3 y2_4 y2_5 y2_6
  have cb4 := HCB.out.below (show w.heap.size < w.heap.size + 1 by omega) S4.out
  have y4_0 : w4.cell? ⟨w.heap.size, 0, none⟩ = some (.int .u8 19) := cb4 0 _ rfl
  have y4_1 : w4.cell? ⟨w.heap.size, 1, none⟩ = some (.int .i64 i) := cb4 1 _ rfl
  have y4_2 : w4.cell? ⟨w.heap.size, 2, none⟩ = some (.string n) := cb4 2 _ rfl
  have y4_3 : w4.cell? ⟨w.heap.size, 3, none⟩ = some (.string s) := cb4 3 _ rfl
  have y4_4 : w4.cell? ⟨w.heap.size, 4, none⟩ = some (.string p.name) := cb4 4 _ rfl
  have y4_5 : w4.cell? ⟨w.heap.size, 5, none⟩ = some (.slice p1 n1 c1) := cb4 5 _ rfl
  have y4_6 : w4.cell? ⟨w.heap.size, 6, none⟩ = some (.slice ao l.length cap) := cb4 6 _ rfl
  have yl4 : w.heap.size < w4.heap.size := by omega
  clear cb4
  go_wp2_with (at_builtin; refine wpList_appT rfl _ _ rfl (w.heap.size + 1) _ ([kT n, wLeft] ++ joinT (pairsT p.path (tokEs l))) rfl (HO4.out.stays (new_onlyR w4 _)) [wRight] _ rfl _ (Nat.le_refl _) (TokIn.lit1 (wRight) (⟨#[125]⟩) rfl (by decide)) (by first | (simp; done) | (have := HLN.out; simp at this ⊢; omega)) (by simp; omega) ?_)
  intro v5 w5 hown hg
  have S5 := Lib.hid (below_app ((S4.out).alloc hs4 _) hg (by simp; omega) (HO4.out.stays (new_onlyR w4 _)) (Nat.le_refl _))
  have HO5 : Hid (TokOwn (w.heap.size + 1) w5 ([kT n, wLeft] ++ joinT (pairsT p.path (tokEs l)) ++ [wRight]) v5) := Lib.hid (by simpa using hown)
  have hs5 : w.heap.size + 1 ≤ w5.heap.size := Nat.le_trans hs1 S5.out.size
  obtain ⟨ao5, m5, cap5, rfl⟩ := TokOwn.shape3 hown
  have W5 := Lib.hid (BX.out.trans (S5.out.mono (show w.heap.size ≤ w.heap.size + 1 by omega)))
  have hB5 : B ≤ w5.heap.size := by omega
  clear hown hg HO4
  clear y4_0 y4_1 y4_2 y4_3 y4_4 y4_5 y4_6
  go_wp2
  go_ret
  have hfin : TokNew w.heap.size w5 ([kT n, wLeft] ++ joinT (pairsT p.path (tokEs l)) ++ [wRight]) (.slice ao5 m5 cap5) := (HO5.out.rowN (fun t ht => HOK.out t (by simpa [or_assoc] using ht)) (by first | (simp; done) | (have := HLN.out; simp at this ⊢; omega))).mono (by omega)
  exact ⟨_, rfl, by simpa using hfin, W5.out⟩
set_option maxRecDepth 100000 in
set_option maxHeartbeats 8000000 in
theorem docE_enum0 (B : Nat) (i : Int) (n s : ByteArray) (p : PP) (pos : Int) : DocEAt B (.mk 20 i n s p [] pos) := by
  intro v w hB hx hlen hok
  obtain ⟨p1, n1, c1, ao, cap, b, o, rfl, ⟨_, hi64, hsn, hss⟩, hp, hn, k1, hr⟩ := PE.In.partsR hx
  obtain ⟨w1, hw1⟩ : ∃ w1, w1 = w.alloc (.cells ((PE.mk 20 i n s p [] pos).cells ⟨.slice p1 n1 c1, .slice ao 0 cap⟩).toArray 37) := ⟨_, rfl⟩
  have bx : Below w.heap.size w w1 := by rw [hw1]; exact new_onlyR _ _
  have hz : w.heap.size < w1.heap.size := by rw [hw1]; simp
  have HC : CellsAt w1 w.heap.size 0 ((PE.mk 20 i n s p [] pos).cells ⟨.slice p1 n1 c1, .slice ao 0 cap⟩) := by rw [hw1]; exact cells_madeR (heap_alloc_new w _)
  have et : tokE (.mk 20 i n s p [] pos) = [kT n, wDot, kT s] := by rw [tokE, tokEs]; rfl
  rw [et] at hlen hok ⊢
  have HCB := Lib.hid HC
  have BX := Lib.hid bx
  have HLN := Lib.hid hlen
  have HOK := Lib.hid hok
  have HR := Lib.hid hr
  have HP := Lib.hid hp
  have HK := Lib.hid k1
  have HS := Lib.hid fun (W : World) => docStrong_calls 20 W
  have hs1 : w.heap.size + 1 ≤ w1.heap.size := hz
  have hB1 : B ≤ w1.heap.size := by omega
  have S1 : Hid (Below (w.heap.size + 1) w1 w1) := Lib.hid (Below.refl _ _)
  have W1 : Hid (Below w.heap.size w w1) := Lib.hid bx
  have HO1 : Hid (TokOwn (w.heap.size + 1) w1 [] (.slice none 0 0)) := Lib.hid (TokOwn.nil _ _)
  have cb1 := HCB.out.below (show w.heap.size < w.heap.size + 1 by omega) S1.out
  have y1_0 : w1.cell? ⟨w.heap.size, 0, none⟩ = some (.int .u8 20) := cb1 0 _ rfl
  have y1_1 : w1.cell? ⟨w.heap.size, 1, none⟩ = some (.int .i64 i) := cb1 1 _ rfl
  have y1_2 : w1.cell? ⟨w.heap.size, 2, none⟩ = some (.string n) := cb1 2 _ rfl
  have y1_3 : w1.cell? ⟨w.heap.size, 3, none⟩ = some (.string s) := cb1 3 _ rfl
  have y1_4 : w1.cell? ⟨w.heap.size, 4, none⟩ = some (.string p.name) := cb1 4 _ rfl
  have y1_5 : w1.cell? ⟨w.heap.size, 5, none⟩ = some (.slice p1 n1 c1) := cb1 5 _ rfl
  have y1_6 : w1.cell? ⟨w.heap.size, 6, none⟩ = some (.slice ao 0 cap) := cb1 6 _ rfl
  have yl1 : w.heap.size < w1.heap.size := by omega
  clear cb1
  show Calls Tryz.prog 22 #[.agg #[.int .u8 20, .int .i64 i, .string n, .string s, .string p.name, .slice p1 n1 c1, .slice ao 0 cap, .int .i64 pos]] w _
  have hw1' : w1 = w.alloc (.cells #[.int .u8 20, .int .i64 i, .string n, .string s, .string p.name, .slice p1 n1 c1, .slice ao 0 cap, .int .i64 pos] 37) := hw1
  clear hw1 HC hx hlen hok et bx hr hp k1
  go_enter Tryz.func22, Tryz.ntmps22
  go_upto_region 1 with (fail)
  rw [← hw1']
  clear hw1'
  go_wp2_with fail
  (with_reducible refine (HS.out _).mono ?_)
  rintro e w0 ⟨rfl, hw0⟩
  subst w0
  go_wp2_with (at_builtin; refine wpList_appT rfl _ _ rfl (w.heap.size + 1) _ ([]) rfl (HO1.out.stays (new_onlyR w1 _)) [kT n, wDot, kT s] _ rfl _ (Nat.le_refl _) (TokIn.lit3 (kT n) (wDot) (kT s) (n) (⟨#[46]⟩) (s) (bT_kT n).symm rfl (bT_kT s).symm hsn (by decide) hss) (by first | (simp; done) | (have := HLN.out; simp at this ⊢; omega)) (by simp; omega) ?_)
  intro v2 w2 hown hg
  have S2 := Lib.hid (below_app ((S1.out).alloc hs1 _) hg (by simp; omega) (HO1.out.stays (new_onlyR w1 _)) (Nat.le_refl _))
  have HO2 : Hid (TokOwn (w.heap.size + 1) w2 ([kT n, wDot, kT s]) v2) := Lib.hid (by simpa using hown)
  have hs2 : w.heap.size + 1 ≤ w2.heap.size := Nat.le_trans hs1 S2.out.size
  obtain ⟨ao2, m2, cap2, rfl⟩ := TokOwn.shape3 hown
  have W2 := Lib.hid (BX.out.trans (S2.out.mono (show w.heap.size ≤ w.heap.size + 1 by omega)))
  have hB2 : B ≤ w2.heap.size := by omega
  clear hown hg HO1
  clear y1_0 y1_1 y1_2 y1_3 y1_4 y1_5 y1_6
  have cb2 := HCB.out.below (show w.heap.size < w.heap.size + 1 by omega) S2.out
  have y2_0 : w2.cell? ⟨w.heap.size, 0, none⟩ = some (.int .u8 20) := cb2 0 _ rfl
  have y2_1 : w2.cell? ⟨w.heap.size, 1, none⟩ = some (.int .i64 i) := cb2 1 _ rfl
  have y2_2 : w2.cell? ⟨w.heap.size, 2, none⟩ = some (.string n) := cb2 2 _ rfl
  have y2_3 : w2.cell? ⟨w.heap.size, 3, none⟩ = some (.string s) := cb2 3 _ rfl
  have y2_4 : w2.cell? ⟨w.heap.size, 4, none⟩ = some (.string p.name) := cb2 4 _ rfl
  have y2_5 : w2.cell? ⟨w.heap.size, 5, none⟩ = some (.slice p1 n1 c1) := cb2 5 _ rfl
  have y2_6 : w2.cell? ⟨w.heap.size, 6, none⟩ = some (.slice ao 0 cap) := cb2 6 _ rfl
  have yl2 : w.heap.size < w2.heap.size := by omega
  clear cb2
  go_wp2
  go_ret
  have hfin : TokNew w.heap.size w2 ([kT n, wDot, kT s]) (.slice ao2 m2 cap2) := (HO2.out.rowN (fun t ht => HOK.out t (by simpa [or_assoc] using ht)) (by first | (simp; done) | (have := HLN.out; simp at this ⊢; omega))).mono (by omega)
  exact ⟨_, rfl, by simpa using hfin, W2.out⟩
set_option maxRecDepth 100000 in
set_option maxHeartbeats 8000000 in
theorem docE_enum1 (B : Nat) (a : PE) (i : Int) (n s : ByteArray) (p : PP) (pos : Int) (IH : DocEAt B a) : DocEAt B (.mk 20 i n s p [a] pos) := by
  intro v w hB hx hlen hok
  obtain ⟨p1, n1, c1, ao, cap, b, o, rfl, ⟨_, hi64, hsn, hss⟩, hp, hn, k1, hr⟩ := PE.In.partsR hx
  obtain ⟨w1, hw1⟩ : ∃ w1, w1 = w.alloc (.cells ((PE.mk 20 i n s p [a] pos).cells ⟨.slice p1 n1 c1, .slice ao 1 cap⟩).toArray 37) := ⟨_, rfl⟩
  have bx : Below w.heap.size w w1 := by rw [hw1]; exact new_onlyR _ _
  have hz : w.heap.size < w1.heap.size := by rw [hw1]; simp
  have HC : CellsAt w1 w.heap.size 0 ((PE.mk 20 i n s p [a] pos).cells ⟨.slice p1 n1 c1, .slice ao 1 cap⟩) := by rw [hw1]; exact cells_madeR (heap_alloc_new w _)
  have et : tokE (.mk 20 i n s p [a] pos) = [kT n, wDot, kT s] ++ (wOpen :: (joinT (tokEs [a]) ++ [wEnd])) := by rw [tokE, tokEs, tokEs]; simp [enumT, joinT]
  rw [et] at hlen hok ⊢
  have HCB := Lib.hid HC
  have BX := Lib.hid bx
  have HLN := Lib.hid hlen
  have HOK := Lib.hid hok
  have HR := Lib.hid hr
  have HP := Lib.hid hp
  have HK := Lib.hid k1
  have HS := Lib.hid fun (W : World) => docStrong_calls 20 W
  have hs1 : w.heap.size + 1 ≤ w1.heap.size := hz
  have hB1 : B ≤ w1.heap.size := by omega
  have S1 : Hid (Below (w.heap.size + 1) w1 w1) := Lib.hid (Below.refl _ _)
  have W1 : Hid (Below w.heap.size w w1) := Lib.hid bx
  have HO1 : Hid (TokOwn (w.heap.size + 1) w1 [] (.slice none 0 0)) := Lib.hid (TokOwn.nil _ _)
  have cb1 := HCB.out.below (show w.heap.size < w.heap.size + 1 by omega) S1.out
  have y1_0 : w1.cell? ⟨w.heap.size, 0, none⟩ = some (.int .u8 20) := cb1 0 _ rfl
  have y1_1 : w1.cell? ⟨w.heap.size, 1, none⟩ = some (.int .i64 i) := cb1 1 _ rfl
  have y1_2 : w1.cell? ⟨w.heap.size, 2, none⟩ = some (.string n) := cb1 2 _ rfl
  have y1_3 : w1.cell? ⟨w.heap.size, 3, none⟩ = some (.string s) := cb1 3 _ rfl
  have y1_4 : w1.cell? ⟨w.heap.size, 4, none⟩ = some (.string p.name) := cb1 4 _ rfl
  have y1_5 : w1.cell? ⟨w.heap.size, 5, none⟩ = some (.slice p1 n1 c1) := cb1 5 _ rfl
  have y1_6 : w1.cell? ⟨w.heap.size, 6, none⟩ = some (.slice ao 1 cap) := cb1 6 _ rfl
  have yl1 : w.heap.size < w1.heap.size := by omega
  clear cb1
  show Calls Tryz.prog 22 #[.agg #[.int .u8 20, .int .i64 i, .string n, .string s, .string p.name, .slice p1 n1 c1, .slice ao 1 cap, .int .i64 pos]] w _
  have hw1' : w1 = w.alloc (.cells #[.int .u8 20, .int .i64 i, .string n, .string s, .string p.name, .slice p1 n1 c1, .slice ao 1 cap, .int .i64 pos] 37) := hw1
  clear hw1 HC hx hlen hok et bx hr hp k1
  go_enter Tryz.func22, Tryz.ntmps22
  go_upto_region 1 with (fail)
  rw [← hw1']
  clear hw1'
  go_wp2_with fail
  (with_reducible refine (HS.out _).mono ?_)
  rintro e w0 ⟨rfl, hw0⟩
  subst w0
  go_wp2_with (at_builtin; refine wpList_appT rfl _ _ rfl (w.heap.size + 1) _ ([]) rfl (HO1.out.stays (new_onlyR w1 _)) [kT n, wDot, kT s] _ rfl _ (Nat.le_refl _) (TokIn.lit3 (kT n) (wDot) (kT s) (n) (⟨#[46]⟩) (s) (bT_kT n).symm rfl (bT_kT s).symm hsn (by decide) hss) (by first | (simp; done) | (have := HLN.out; simp at this ⊢; omega)) (by simp; omega) ?_)
  intro v2 w2 hown hg
  have S2 := Lib.hid (below_app ((S1.out).alloc hs1 _) hg (by simp; omega) (HO1.out.stays (new_onlyR w1 _)) (Nat.le_refl _))
  have HO2 : Hid (TokOwn (w.heap.size + 1) w2 ([kT n, wDot, kT s]) v2) := Lib.hid (by simpa using hown)
  have hs2 : w.heap.size + 1 ≤ w2.heap.size := Nat.le_trans hs1 S2.out.size
  obtain ⟨ao2, m2, cap2, rfl⟩ := TokOwn.shape3 hown
  have W2 := Lib.hid (BX.out.trans (S2.out.mono (show w.heap.size ≤ w.heap.size + 1 by omega)))
  have hB2 : B ≤ w2.heap.size := by omega
  clear hown hg HO1
  clear y1_0 y1_1 y1_2 y1_3 y1_4 y1_5 y1_6
  have cb2 := HCB.out.below (show w.heap.size < w.heap.size + 1 by omega) S2.out
  have y2_0 : w2.cell? ⟨w.heap.size, 0, none⟩ = some (.int .u8 20) := cb2 0 _ rfl
  have y2_1 : w2.cell? ⟨w.heap.size, 1, none⟩ = some (.int .i64 i) := cb2 1 _ rfl
  have y2_2 : w2.cell? ⟨w.heap.size, 2, none⟩ = some (.string n) := cb2 2 _ rfl
  have y2_3 : w2.cell? ⟨w.heap.size, 3, none⟩ = some (.string s) := cb2 3 _ rfl
  have y2_4 : w2.cell? ⟨w.heap.size, 4, none⟩ = some (.string p.name) := cb2 4 _ rfl
  have y2_5 : w2.cell? ⟨w.heap.size, 5, none⟩ = some (.slice p1 n1 c1) := cb2 5 _ rfl
  have y2_6 : w2.cell? ⟨w.heap.size, 6, none⟩ = some (.slice ao 1 cap) := cb2 6 _ rfl
  have yl2 : w.heap.size < w2.heap.size := by omega
  clear cb2
  have HRR : Hid (PE.Row B w2 b o [a]) := Lib.hid (by
    obtain ⟨_, h⟩ := HK.out.resolve_left (by simp)
    exact PE.Row.below (W2.out.mono hB) h HR.out)
  have C : Hid (Calls Tryz.prog 60 #[.slice ao 1 cap, .string ⟨#[40]⟩, .string ⟨#[41]⟩] w2 fun e w' => ∃ u, e = .returned u ∧ TokNew w2.heap.size w' (wOpen :: (joinT (tokEs [a]) ++ [wEnd])) u ∧ Below w2.heap.size w2 w') := Lib.hid (docArgs_calls B [a] (fun x hx => by simp at hx; rw [hx]; exact IH) wOpen wEnd ⟨#[40]⟩ ⟨#[41]⟩ rfl rfl (.slice ao 1 cap) b o w2 hB2 ⟨hn, _, _, rfl, HK.out⟩ HRR.out (by simp) (by first | (simp; done) | (have := HLN.out; simp only [List.length_append, List.length_cons, List.length_nil] at this ⊢; omega) | (have := HLN.out; simp at this ⊢; omega)) (fun t ht => HOK.out t (List.mem_append_right _ ht)))
  go_wp2_with fail
  (with_reducible refine (C.out).mono ?_)
  rintro e w3 ⟨v3, rfl, h3, b3⟩
  have H3 := Lib.hid h3.row
  have HO3 := Lib.hid (HO2.out.stays b3)
  have S3 := Lib.hid (S2.out.trans (b3.mono hs2))
  have hs3 : w.heap.size + 1 ≤ w3.heap.size := Nat.le_trans hs2 b3.size
  clear h3 b3 C HO2
  go_wp2_with (at_builtin; refine wpList_appT rfl _ _ rfl (w.heap.size + 1) _ ([kT n, wDot, kT s]) rfl HO3.out (wOpen :: (joinT (tokEs [a]) ++ [wEnd])) v3 rfl w3.heap.size (Nat.le_refl _) H3.out (by have := HLN.out; simp at this ⊢; omega) hs3 ?_)
  intro v4 w4 hown hg
  have S4 := Lib.hid (below_app S3.out hg hs3 HO3.out (Nat.le_refl _))
  have HO4 : Hid (TokOwn (w.heap.size + 1) w4 ([kT n, wDot, kT s] ++ wOpen :: (joinT (tokEs [a]) ++ [wEnd])) v4) := Lib.hid (by simpa using hown)
  have hs4 : w.heap.size + 1 ≤ w4.heap.size := Nat.le_trans hs1 S4.out.size
  obtain ⟨ao4, m4, cap4, rfl⟩ := TokOwn.shape3 hown
  have W4 := Lib.hid (BX.out.trans (S4.out.mono (show w.heap.size ≤ w.heap.size + 1 by omega)))
  have hB4 : B ≤ w4.heap.size := by omega
  clear hown hg HO3 H3
  clear y2_0 y2_1 y2_2 y2_3 y2_4 y2_5 y2_6
  go_wp2
  go_ret
  have hfin : TokNew w.heap.size w4 ([kT n, wDot, kT s] ++ (wOpen :: (joinT (tokEs [a]) ++ [wEnd]))) (.slice ao4 m4 cap4) := (HO4.out.rowN (fun t ht => HOK.out t (by simpa [or_assoc] using ht)) (by first | (simp; done) | (have := HLN.out; simp at this ⊢; omega))).mono (by omega)
  exact ⟨_, rfl, by simpa using hfin, W4.out⟩
end Go.Proofs.YthilicmhdkmipaaGreatDoor
