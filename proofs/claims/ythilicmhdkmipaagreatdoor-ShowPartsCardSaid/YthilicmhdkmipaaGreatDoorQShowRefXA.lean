/- The document's tokens of an expression: cases. -/
import Derived.Test.YthilicmhdkmipaaGreatDoorQJoinAY
namespace Go.Proofs.YthilicmhdkmipaaGreatDoor
open Go.RowKit
set_option linter.unusedVariables false
set_option maxRecDepth 100000 in
set_option maxHeartbeats 8000000 in
theorem docE_unit (B : Nat) (i : Int) (n s : ByteArray) (p : PP) (l : List PE) (pos : Int) : DocEAt B (.mk 3 i n s p l pos) := by
  intro v w hB hx hlen hok
  obtain ⟨p1, n1, c1, ao, cap, b, o, rfl, ⟨_, hi64, hsn, hss⟩, hp, hn, k1, hr⟩ := PE.In.partsR hx
  obtain ⟨w1, hw1⟩ : ∃ w1, w1 = w.alloc (.cells ((PE.mk 3 i n s p l pos).cells ⟨.slice p1 n1 c1, .slice ao l.length cap⟩).toArray 37) := ⟨_, rfl⟩
  have bx : Below w.heap.size w w1 := by rw [hw1]; exact new_onlyR _ _
  have hz : w.heap.size < w1.heap.size := by rw [hw1]; simp
  have HC : CellsAt w1 w.heap.size 0 ((PE.mk 3 i n s p l pos).cells ⟨.slice p1 n1 c1, .slice ao l.length cap⟩) := by rw [hw1]; exact cells_madeR (heap_alloc_new w _)
  have et : tokE (.mk 3 i n s p l pos) = [wOpen, wEnd] := by rw [tokE]; rfl
  rw [et] at hlen hok ⊢
  have HCB := Lib.hid HC
  have BX := Lib.hid bx
  have HLN := Lib.hid hlen
  have HOK := Lib.hid hok
  have HR := Lib.hid hr
  have HP := Lib.hid hp
  have HK := Lib.hid k1
  have HS := Lib.hid fun (W : World) => docStrong_calls 3 W
  have hs1 : w.heap.size + 1 ≤ w1.heap.size := hz
  have hB1 : B ≤ w1.heap.size := by omega
  have S1 : Hid (Below (w.heap.size + 1) w1 w1) := Lib.hid (Below.refl _ _)
  have W1 : Hid (Below w.heap.size w w1) := Lib.hid bx
  have HO1 : Hid (TokOwn (w.heap.size + 1) w1 [] (.slice none 0 0)) := Lib.hid (TokOwn.nil _ _)
  have cb1 := HCB.out.below (show w.heap.size < w.heap.size + 1 by omega) S1.out
  have y1_0 : w1.cell? ⟨w.heap.size, 0, none⟩ = some (.int .u8 3) := cb1 0 _ rfl
  have y1_1 : w1.cell? ⟨w.heap.size, 1, none⟩ = some (.int .i64 i) := cb1 1 _ rfl
  have y1_2 : w1.cell? ⟨w.heap.size, 2, none⟩ = some (.string n) := cb1 2 _ rfl
  have y1_3 : w1.cell? ⟨w.heap.size, 3, none⟩ = some (.string s) := cb1 3 _ rfl
  have y1_4 : w1.cell? ⟨w.heap.size, 4, none⟩ = some (.string p.name) := cb1 4 _ rfl
  have y1_5 : w1.cell? ⟨w.heap.size, 5, none⟩ = some (.slice p1 n1 c1) := cb1 5 _ rfl
  have y1_6 : w1.cell? ⟨w.heap.size, 6, none⟩ = some (.slice ao l.length cap) := cb1 6 _ rfl
  have yl1 : w.heap.size < w1.heap.size := by omega
  clear cb1
  show Calls Tryz.prog 22 #[.agg #[.int .u8 3, .int .i64 i, .string n, .string s, .string p.name, .slice p1 n1 c1, .slice ao l.length cap, .int .i64 pos]] w _
  have hw1' : w1 = w.alloc (.cells #[.int .u8 3, .int .i64 i, .string n, .string s, .string p.name, .slice p1 n1 c1, .slice ao l.length cap, .int .i64 pos] 37) := hw1
  clear hw1 HC hx hlen hok et bx hr hp k1
  go_enter Tryz.func22, Tryz.ntmps22
  go_upto_region 1 with (fail)
  rw [← hw1']
  clear hw1'
  go_wp2_with fail
  (with_reducible refine (HS.out _).mono ?_)
  rintro e w0 ⟨rfl, hw0⟩
  subst w0
  have hlit := TokOwn.lit2 (w := w1) w1.heap.size wOpen wEnd ⟨#[40]⟩ ⟨#[41]⟩ rfl rfl (Nat.le_refl _)
  have HL2 := Lib.hid (hlit.rowN HOK.out (by simp))
  clear hlit
  go_wp2
  go_ret
  exact ⟨_, rfl, HL2.out.mono (by omega), BX.out.trans (new_onlyR w1 _ |>.mono (by omega))⟩
set_option maxRecDepth 100000 in
set_option maxHeartbeats 8000000 in
theorem docE_bool (B : Nat) (i : Int) (n s : ByteArray) (p : PP) (l : List PE) (pos : Int) : DocEAt B (.mk 2 i n s p l pos) := by
  intro v w hB hx hlen hok
  obtain ⟨p1, n1, c1, ao, cap, b, o, rfl, ⟨_, hi64, hsn, hss⟩, hp, hn, k1, hr⟩ := PE.In.partsR hx
  obtain ⟨w1, hw1⟩ : ∃ w1, w1 = w.alloc (.cells ((PE.mk 2 i n s p l pos).cells ⟨.slice p1 n1 c1, .slice ao l.length cap⟩).toArray 37) := ⟨_, rfl⟩
  have bx : Below w.heap.size w w1 := by rw [hw1]; exact new_onlyR _ _
  have hz : w.heap.size < w1.heap.size := by rw [hw1]; simp
  have HC : CellsAt w1 w.heap.size 0 ((PE.mk 2 i n s p l pos).cells ⟨.slice p1 n1 c1, .slice ao l.length cap⟩) := by rw [hw1]; exact cells_madeR (heap_alloc_new w _)
  have et : tokE (.mk 2 i n s p l pos) = [boolWord i] := by rw [tokE]; rfl
  rw [et] at hlen hok ⊢
  have HCB := Lib.hid HC
  have BX := Lib.hid bx
  have HLN := Lib.hid hlen
  have HOK := Lib.hid hok
  have HR := Lib.hid hr
  have HP := Lib.hid hp
  have HK := Lib.hid k1
  have HS := Lib.hid fun (W : World) => docStrong_calls 2 W
  have hs1 : w.heap.size + 1 ≤ w1.heap.size := hz
  have hB1 : B ≤ w1.heap.size := by omega
  have S1 : Hid (Below (w.heap.size + 1) w1 w1) := Lib.hid (Below.refl _ _)
  have W1 : Hid (Below w.heap.size w w1) := Lib.hid bx
  have HO1 : Hid (TokOwn (w.heap.size + 1) w1 [] (.slice none 0 0)) := Lib.hid (TokOwn.nil _ _)
  have cb1 := HCB.out.below (show w.heap.size < w.heap.size + 1 by omega) S1.out
  have y1_0 : w1.cell? ⟨w.heap.size, 0, none⟩ = some (.int .u8 2) := cb1 0 _ rfl
  have y1_1 : w1.cell? ⟨w.heap.size, 1, none⟩ = some (.int .i64 i) := cb1 1 _ rfl
  have y1_2 : w1.cell? ⟨w.heap.size, 2, none⟩ = some (.string n) := cb1 2 _ rfl
  have y1_3 : w1.cell? ⟨w.heap.size, 3, none⟩ = some (.string s) := cb1 3 _ rfl
  have y1_4 : w1.cell? ⟨w.heap.size, 4, none⟩ = some (.string p.name) := cb1 4 _ rfl
  have y1_5 : w1.cell? ⟨w.heap.size, 5, none⟩ = some (.slice p1 n1 c1) := cb1 5 _ rfl
  have y1_6 : w1.cell? ⟨w.heap.size, 6, none⟩ = some (.slice ao l.length cap) := cb1 6 _ rfl
  have yl1 : w.heap.size < w1.heap.size := by omega
  clear cb1
  show Calls Tryz.prog 22 #[.agg #[.int .u8 2, .int .i64 i, .string n, .string s, .string p.name, .slice p1 n1 c1, .slice ao l.length cap, .int .i64 pos]] w _
  have hw1' : w1 = w.alloc (.cells #[.int .u8 2, .int .i64 i, .string n, .string s, .string p.name, .slice p1 n1 c1, .slice ao l.length cap, .int .i64 pos] 37) := hw1
  clear hw1 HC hx hlen hok et bx hr hp k1
  go_enter Tryz.func22, Tryz.ntmps22
  go_upto_region 1 with (fail)
  rw [← hw1']
  clear hw1'
  go_wp2_with fail
  (with_reducible refine (HS.out _).mono ?_)
  rintro e w0 ⟨rfl, hw0⟩
  subst w0
  by_cases h1 : i = 1
  · subst h1
    have hlit := TokOwn.lit (w := w1) w1.heap.size (boolWord 1) ⟨#[116, 114, 117, 101]⟩ rfl (Nat.le_refl _)
    have HL2 := Lib.hid (hlit.rowN HOK.out (by simp))
    clear hlit
    go_wp2
    go_ret
    exact ⟨_, rfl, HL2.out.mono (by omega), BX.out.trans (new_onlyR w1 _ |>.mono (by omega))⟩
  · have hbw : boolWord i = [102, 97, 108, 115, 101] := by unfold boolWord; rw [if_neg h1]
    have hlit := TokOwn.lit (w := w1) w1.heap.size (boolWord i) ⟨#[102, 97, 108, 115, 101]⟩ (by rw [hbw]; rfl) (Nat.le_refl _)
    have HL2 := Lib.hid (hlit.rowN HOK.out (by simp))
    have hi1 : (i == 1) = false := beq_eq_false_iff_ne.2 h1
    clear hlit
    go_wp2
    go_ret
    exact ⟨_, rfl, HL2.out.mono (by omega), BX.out.trans (new_onlyR w1 _ |>.mono (by omega))⟩
set_option maxRecDepth 100000 in
set_option maxHeartbeats 8000000 in
theorem docE_use (B : Nat) (i : Int) (n s : ByteArray) (p : PP) (l : List PE) (pos : Int) : DocEAt B (.mk 4 i n s p l pos) := by
  intro v w hB hx hlen hok
  obtain ⟨p1, n1, c1, ao, cap, b, o, rfl, ⟨_, hi64, hsn, hss⟩, hp, hn, k1, hr⟩ := PE.In.partsR hx
  obtain ⟨w1, hw1⟩ : ∃ w1, w1 = w.alloc (.cells ((PE.mk 4 i n s p l pos).cells ⟨.slice p1 n1 c1, .slice ao l.length cap⟩).toArray 37) := ⟨_, rfl⟩
  have bx : Below w.heap.size w w1 := by rw [hw1]; exact new_onlyR _ _
  have hz : w.heap.size < w1.heap.size := by rw [hw1]; simp
  have HC : CellsAt w1 w.heap.size 0 ((PE.mk 4 i n s p l pos).cells ⟨.slice p1 n1 c1, .slice ao l.length cap⟩) := by rw [hw1]; exact cells_madeR (heap_alloc_new w _)
  have et : tokE (.mk 4 i n s p l pos) = tokP p := by rw [tokE]; rfl
  rw [et] at hlen hok ⊢
  have HCB := Lib.hid HC
  have BX := Lib.hid bx
  have HLN := Lib.hid hlen
  have HOK := Lib.hid hok
  have HR := Lib.hid hr
  have HP := Lib.hid hp
  have HK := Lib.hid k1
  have HS := Lib.hid fun (W : World) => docStrong_calls 4 W
  have hs1 : w.heap.size + 1 ≤ w1.heap.size := hz
  have hB1 : B ≤ w1.heap.size := by omega
  have S1 : Hid (Below (w.heap.size + 1) w1 w1) := Lib.hid (Below.refl _ _)
  have W1 : Hid (Below w.heap.size w w1) := Lib.hid bx
  have HO1 : Hid (TokOwn (w.heap.size + 1) w1 [] (.slice none 0 0)) := Lib.hid (TokOwn.nil _ _)
  have cb1 := HCB.out.below (show w.heap.size < w.heap.size + 1 by omega) S1.out
  have y1_0 : w1.cell? ⟨w.heap.size, 0, none⟩ = some (.int .u8 4) := cb1 0 _ rfl
  have y1_1 : w1.cell? ⟨w.heap.size, 1, none⟩ = some (.int .i64 i) := cb1 1 _ rfl
  have y1_2 : w1.cell? ⟨w.heap.size, 2, none⟩ = some (.string n) := cb1 2 _ rfl
  have y1_3 : w1.cell? ⟨w.heap.size, 3, none⟩ = some (.string s) := cb1 3 _ rfl
  have y1_4 : w1.cell? ⟨w.heap.size, 4, none⟩ = some (.string p.name) := cb1 4 _ rfl
  have y1_5 : w1.cell? ⟨w.heap.size, 5, none⟩ = some (.slice p1 n1 c1) := cb1 5 _ rfl
  have y1_6 : w1.cell? ⟨w.heap.size, 6, none⟩ = some (.slice ao l.length cap) := cb1 6 _ rfl
  have yl1 : w.heap.size < w1.heap.size := by omega
  clear cb1
  show Calls Tryz.prog 22 #[.agg #[.int .u8 4, .int .i64 i, .string n, .string s, .string p.name, .slice p1 n1 c1, .slice ao l.length cap, .int .i64 pos]] w _
  have hw1' : w1 = w.alloc (.cells #[.int .u8 4, .int .i64 i, .string n, .string s, .string p.name, .slice p1 n1 c1, .slice ao l.length cap, .int .i64 pos] 37) := hw1
  clear hw1 HC hx hlen hok et bx hr hp k1
  go_enter Tryz.func22, Tryz.ntmps22
  go_upto_region 1 with (fail)
  rw [← hw1']
  clear hw1'
  go_wp2_with fail
  (with_reducible refine (HS.out _).mono ?_)
  rintro e w0 ⟨rfl, hw0⟩
  subst w0
  have C := Lib.hid (docP_calls B p _ w1 hB1 (HP.out.below (W1.out.mono hB)) HLN.out HOK.out)
  go_wp2_with fail
  (with_reducible refine (C.out).mono ?_)
  rintro e w3 ⟨u, rfl, h3, b3⟩
  have H3 := Lib.hid (h3.mono (Nat.le_of_lt hz))
  have B3 := Lib.hid (BX.out.trans (b3.mono (Nat.le_of_lt hz)))
  clear h3 b3 C
  go_wp2
  go_ret
  exact ⟨_, rfl, H3.out, B3.out⟩
set_option maxRecDepth 100000 in
set_option maxHeartbeats 8000000 in
theorem docE_share (B : Nat) (i : Int) (n s : ByteArray) (p : PP) (l : List PE) (pos : Int) : DocEAt B (.mk 5 i n s p l pos) := by
  intro v w hB hx hlen hok
  obtain ⟨p1, n1, c1, ao, cap, b, o, rfl, ⟨_, hi64, hsn, hss⟩, hp, hn, k1, hr⟩ := PE.In.partsR hx
  obtain ⟨w1, hw1⟩ : ∃ w1, w1 = w.alloc (.cells ((PE.mk 5 i n s p l pos).cells ⟨.slice p1 n1 c1, .slice ao l.length cap⟩).toArray 37) := ⟨_, rfl⟩
  have bx : Below w.heap.size w w1 := by rw [hw1]; exact new_onlyR _ _
  have hz : w.heap.size < w1.heap.size := by rw [hw1]; simp
  have HC : CellsAt w1 w.heap.size 0 ((PE.mk 5 i n s p l pos).cells ⟨.slice p1 n1 c1, .slice ao l.length cap⟩) := by rw [hw1]; exact cells_madeR (heap_alloc_new w _)
  have et : tokE (.mk 5 i n s p l pos) = [wAmp] ++ tokP p := by rw [tokE]; rfl
  rw [et] at hlen hok ⊢
  have HCB := Lib.hid HC
  have BX := Lib.hid bx
  have HLN := Lib.hid hlen
  have HOK := Lib.hid hok
  have HR := Lib.hid hr
  have HP := Lib.hid hp
  have HK := Lib.hid k1
  have HS := Lib.hid fun (W : World) => docStrong_calls 5 W
  have hs1 : w.heap.size + 1 ≤ w1.heap.size := hz
  have hB1 : B ≤ w1.heap.size := by omega
  have S1 : Hid (Below (w.heap.size + 1) w1 w1) := Lib.hid (Below.refl _ _)
  have W1 : Hid (Below w.heap.size w w1) := Lib.hid bx
  have HO1 : Hid (TokOwn (w.heap.size + 1) w1 [] (.slice none 0 0)) := Lib.hid (TokOwn.nil _ _)
  have cb1 := HCB.out.below (show w.heap.size < w.heap.size + 1 by omega) S1.out
  have y1_0 : w1.cell? ⟨w.heap.size, 0, none⟩ = some (.int .u8 5) := cb1 0 _ rfl
  have y1_1 : w1.cell? ⟨w.heap.size, 1, none⟩ = some (.int .i64 i) := cb1 1 _ rfl
  have y1_2 : w1.cell? ⟨w.heap.size, 2, none⟩ = some (.string n) := cb1 2 _ rfl
  have y1_3 : w1.cell? ⟨w.heap.size, 3, none⟩ = some (.string s) := cb1 3 _ rfl
  have y1_4 : w1.cell? ⟨w.heap.size, 4, none⟩ = some (.string p.name) := cb1 4 _ rfl
  have y1_5 : w1.cell? ⟨w.heap.size, 5, none⟩ = some (.slice p1 n1 c1) := cb1 5 _ rfl
  have y1_6 : w1.cell? ⟨w.heap.size, 6, none⟩ = some (.slice ao l.length cap) := cb1 6 _ rfl
  have yl1 : w.heap.size < w1.heap.size := by omega
  clear cb1
  show Calls Tryz.prog 22 #[.agg #[.int .u8 5, .int .i64 i, .string n, .string s, .string p.name, .slice p1 n1 c1, .slice ao l.length cap, .int .i64 pos]] w _
  have hw1' : w1 = w.alloc (.cells #[.int .u8 5, .int .i64 i, .string n, .string s, .string p.name, .slice p1 n1 c1, .slice ao l.length cap, .int .i64 pos] 37) := hw1
  clear hw1 HC hx hlen hok et bx hr hp k1
  go_enter Tryz.func22, Tryz.ntmps22
  go_upto_region 1 with (fail)
  rw [← hw1']
  clear hw1'
  go_wp2_with fail
  (with_reducible refine (HS.out _).mono ?_)
  rintro e w0 ⟨rfl, hw0⟩
  subst w0
  go_wp2_with (at_builtin; refine wpList_appT rfl _ _ rfl (w.heap.size + 1) _ ([]) rfl (HO1.out.stays (new_onlyR w1 _)) [wAmp] _ rfl _ (Nat.le_refl _) (TokIn.lit1 (wAmp) (⟨#[38]⟩) rfl (by decide)) (by first | (simp; done) | (have := HLN.out; simp at this ⊢; omega)) (by simp; omega) ?_)
  intro v2 w2 hown hg
  have S2 := Lib.hid (below_app ((S1.out).alloc hs1 _) hg (by simp; omega) (HO1.out.stays (new_onlyR w1 _)) (Nat.le_refl _))
  have HO2 : Hid (TokOwn (w.heap.size + 1) w2 ([wAmp]) v2) := Lib.hid (by simpa using hown)
  have hs2 : w.heap.size + 1 ≤ w2.heap.size := Nat.le_trans hs1 S2.out.size
  obtain ⟨ao2, m2, cap2, rfl⟩ := TokOwn.shape3 hown
  have W2 := Lib.hid (BX.out.trans (S2.out.mono (show w.heap.size ≤ w.heap.size + 1 by omega)))
  have hB2 : B ≤ w2.heap.size := by omega
  clear hown hg HO1
  clear y1_0 y1_1 y1_2 y1_3 y1_4 y1_5 y1_6
  have cb2 := HCB.out.below (show w.heap.size < w.heap.size + 1 by omega) S2.out
  have y2_0 : w2.cell? ⟨w.heap.size, 0, none⟩ = some (.int .u8 5) := cb2 0 _ rfl
  have y2_1 : w2.cell? ⟨w.heap.size, 1, none⟩ = some (.int .i64 i) := cb2 1 _ rfl
  have y2_2 : w2.cell? ⟨w.heap.size, 2, none⟩ = some (.string n) := cb2 2 _ rfl
  have y2_3 : w2.cell? ⟨w.heap.size, 3, none⟩ = some (.string s) := cb2 3 _ rfl
  have y2_4 : w2.cell? ⟨w.heap.size, 4, none⟩ = some (.string p.name) := cb2 4 _ rfl
  have y2_5 : w2.cell? ⟨w.heap.size, 5, none⟩ = some (.slice p1 n1 c1) := cb2 5 _ rfl
  have y2_6 : w2.cell? ⟨w.heap.size, 6, none⟩ = some (.slice ao l.length cap) := cb2 6 _ rfl
  have yl2 : w.heap.size < w2.heap.size := by omega
  clear cb2
  have C : Hid (Calls Tryz.prog 24 #[.agg #[.string p.name, .slice p1 n1 c1]] w2 fun e w' => ∃ u, e = .returned u ∧ TokNew w2.heap.size w' (tokP p) u ∧ Below w2.heap.size w2 w') := Lib.hid (docP_calls B p _ w2 hB2 (HP.out.below (W2.out.mono hB)) (by first | (simp; done) | (have := HLN.out; simp only [List.length_append, List.length_cons, List.length_nil] at this ⊢; omega) | (have := HLN.out; simp at this ⊢; omega)) (fun t ht => HOK.out t (by simp [ht])))
  go_wp2_with fail
  (with_reducible refine (C.out).mono ?_)
  rintro e w3 ⟨v3, rfl, h3, b3⟩
  have H3 := Lib.hid h3.row
  have HO3 := Lib.hid (HO2.out.stays b3)
  have S3 := Lib.hid (S2.out.trans (b3.mono hs2))
  have hs3 : w.heap.size + 1 ≤ w3.heap.size := Nat.le_trans hs2 b3.size
  clear h3 b3 C HO2
  go_wp2_with (at_builtin; refine wpList_appT rfl _ _ rfl (w.heap.size + 1) _ ([wAmp]) rfl HO3.out (tokP p) v3 rfl w3.heap.size (Nat.le_refl _) H3.out (by have := HLN.out; simp at this ⊢; omega) hs3 ?_)
  intro v4 w4 hown hg
  have S4 := Lib.hid (below_app S3.out hg hs3 HO3.out (Nat.le_refl _))
  have HO4 : Hid (TokOwn (w.heap.size + 1) w4 ([wAmp] ++ tokP p) v4) := Lib.hid (by simpa using hown)
  have hs4 : w.heap.size + 1 ≤ w4.heap.size := Nat.le_trans hs1 S4.out.size
  obtain ⟨ao4, m4, cap4, rfl⟩ := TokOwn.shape3 hown
  have W4 := Lib.hid (BX.out.trans (S4.out.mono (show w.heap.size ≤ w.heap.size + 1 by omega)))
  have hB4 : B ≤ w4.heap.size := by omega
  clear hown hg HO3 H3
  clear y2_0 y2_1 y2_2 y2_3 y2_4 y2_5 y2_6
  go_wp2
  go_ret
  have hfin : TokNew w.heap.size w4 ([wAmp] ++ tokP p) (.slice ao4 m4 cap4) := (HO4.out.rowN (fun t ht => HOK.out t (by simpa [or_assoc] using ht)) (by first | (simp; done) | (have := HLN.out; simp at this ⊢; omega))).mono (by omega)
  exact ⟨_, rfl, by simpa using hfin, W4.out⟩
set_option maxRecDepth 100000 in
set_option maxHeartbeats 8000000 in
theorem docE_mut (B : Nat) (i : Int) (n s : ByteArray) (p : PP) (l : List PE) (pos : Int) : DocEAt B (.mk 6 i n s p l pos) := by
  intro v w hB hx hlen hok
  obtain ⟨p1, n1, c1, ao, cap, b, o, rfl, ⟨_, hi64, hsn, hss⟩, hp, hn, k1, hr⟩ := PE.In.partsR hx
  obtain ⟨w1, hw1⟩ : ∃ w1, w1 = w.alloc (.cells ((PE.mk 6 i n s p l pos).cells ⟨.slice p1 n1 c1, .slice ao l.length cap⟩).toArray 37) := ⟨_, rfl⟩
  have bx : Below w.heap.size w w1 := by rw [hw1]; exact new_onlyR _ _
  have hz : w.heap.size < w1.heap.size := by rw [hw1]; simp
  have HC : CellsAt w1 w.heap.size 0 ((PE.mk 6 i n s p l pos).cells ⟨.slice p1 n1 c1, .slice ao l.length cap⟩) := by rw [hw1]; exact cells_madeR (heap_alloc_new w _)
  have et : tokE (.mk 6 i n s p l pos) = [wAmp, wMut] ++ tokP p := by rw [tokE]; rfl
  rw [et] at hlen hok ⊢
  have HCB := Lib.hid HC
  have BX := Lib.hid bx
  have HLN := Lib.hid hlen
  have HOK := Lib.hid hok
  have HR := Lib.hid hr
  have HP := Lib.hid hp
  have HK := Lib.hid k1
  have HS := Lib.hid fun (W : World) => docStrong_calls 6 W
  have hs1 : w.heap.size + 1 ≤ w1.heap.size := hz
  have hB1 : B ≤ w1.heap.size := by omega
  have S1 : Hid (Below (w.heap.size + 1) w1 w1) := Lib.hid (Below.refl _ _)
  have W1 : Hid (Below w.heap.size w w1) := Lib.hid bx
  have HO1 : Hid (TokOwn (w.heap.size + 1) w1 [] (.slice none 0 0)) := Lib.hid (TokOwn.nil _ _)
  have cb1 := HCB.out.below (show w.heap.size < w.heap.size + 1 by omega) S1.out
  have y1_0 : w1.cell? ⟨w.heap.size, 0, none⟩ = some (.int .u8 6) := cb1 0 _ rfl
  have y1_1 : w1.cell? ⟨w.heap.size, 1, none⟩ = some (.int .i64 i) := cb1 1 _ rfl
  have y1_2 : w1.cell? ⟨w.heap.size, 2, none⟩ = some (.string n) := cb1 2 _ rfl
  have y1_3 : w1.cell? ⟨w.heap.size, 3, none⟩ = some (.string s) := cb1 3 _ rfl
  have y1_4 : w1.cell? ⟨w.heap.size, 4, none⟩ = some (.string p.name) := cb1 4 _ rfl
  have y1_5 : w1.cell? ⟨w.heap.size, 5, none⟩ = some (.slice p1 n1 c1) := cb1 5 _ rfl
  have y1_6 : w1.cell? ⟨w.heap.size, 6, none⟩ = some (.slice ao l.length cap) := cb1 6 _ rfl
  have yl1 : w.heap.size < w1.heap.size := by omega
  clear cb1
  show Calls Tryz.prog 22 #[.agg #[.int .u8 6, .int .i64 i, .string n, .string s, .string p.name, .slice p1 n1 c1, .slice ao l.length cap, .int .i64 pos]] w _
  have hw1' : w1 = w.alloc (.cells #[.int .u8 6, .int .i64 i, .string n, .string s, .string p.name, .slice p1 n1 c1, .slice ao l.length cap, .int .i64 pos] 37) := hw1
  clear hw1 HC hx hlen hok et bx hr hp k1
  go_enter Tryz.func22, Tryz.ntmps22
  go_upto_region 1 with (fail)
  rw [← hw1']
  clear hw1'
  go_wp2_with fail
  (with_reducible refine (HS.out _).mono ?_)
  rintro e w0 ⟨rfl, hw0⟩
  subst w0
  go_wp2_with (at_builtin; refine wpList_appT rfl _ _ rfl (w.heap.size + 1) _ ([]) rfl (HO1.out.stays (new_onlyR w1 _)) [wAmp, wMut] _ rfl _ (Nat.le_refl _) (TokIn.lit2 (wAmp) (wMut) (⟨#[38]⟩) (⟨#[109, 117, 116]⟩) rfl rfl (by decide) (by decide)) (by first | (simp; done) | (have := HLN.out; simp at this ⊢; omega)) (by simp; omega) ?_)
  intro v2 w2 hown hg
  have S2 := Lib.hid (below_app ((S1.out).alloc hs1 _) hg (by simp; omega) (HO1.out.stays (new_onlyR w1 _)) (Nat.le_refl _))
  have HO2 : Hid (TokOwn (w.heap.size + 1) w2 ([wAmp, wMut]) v2) := Lib.hid (by simpa using hown)
  have hs2 : w.heap.size + 1 ≤ w2.heap.size := Nat.le_trans hs1 S2.out.size
  obtain ⟨ao2, m2, cap2, rfl⟩ := TokOwn.shape3 hown
  have W2 := Lib.hid (BX.out.trans (S2.out.mono (show w.heap.size ≤ w.heap.size + 1 by omega)))
  have hB2 : B ≤ w2.heap.size := by omega
  clear hown hg HO1
  clear y1_0 y1_1 y1_2 y1_3 y1_4 y1_5 y1_6
  have cb2 := HCB.out.below (show w.heap.size < w.heap.size + 1 by omega) S2.out
  have y2_0 : w2.cell? ⟨w.heap.size, 0, none⟩ = some (.int .u8 6) := cb2 0 _ rfl
  have y2_1 : w2.cell? ⟨w.heap.size, 1, none⟩ = some (.int .i64 i) := cb2 1 _ rfl
  have y2_2 : w2.cell? ⟨w.heap.size, 2, none⟩ = some (.string n) := cb2 2 _ rfl
  have y2_3 : w2.cell? ⟨w.heap.size, 3, none⟩ = some (.string s) := cb2 3 _ rfl
  have y2_4 : w2.cell? ⟨w.heap.size, 4, none⟩ = some (.string p.name) := cb2 4 _ rfl
  have y2_5 : w2.cell? ⟨w.heap.size, 5, none⟩ = some (.slice p1 n1 c1) := cb2 5 _ rfl
  have y2_6 : w2.cell? ⟨w.heap.size, 6, none⟩ = some (.slice ao l.length cap) := cb2 6 _ rfl
  have yl2 : w.heap.size < w2.heap.size := by omega
  clear cb2
  have C : Hid (Calls Tryz.prog 24 #[.agg #[.string p.name, .slice p1 n1 c1]] w2 fun e w' => ∃ u, e = .returned u ∧ TokNew w2.heap.size w' (tokP p) u ∧ Below w2.heap.size w2 w') := Lib.hid (docP_calls B p _ w2 hB2 (HP.out.below (W2.out.mono hB)) (by first | (simp; done) | (have := HLN.out; simp only [List.length_append, List.length_cons, List.length_nil] at this ⊢; omega) | (have := HLN.out; simp at this ⊢; omega)) (fun t ht => HOK.out t (by simp [ht])))
  go_wp2_with fail
  (with_reducible refine (C.out).mono ?_)
  rintro e w3 ⟨v3, rfl, h3, b3⟩
  have H3 := Lib.hid h3.row
  have HO3 := Lib.hid (HO2.out.stays b3)
  have S3 := Lib.hid (S2.out.trans (b3.mono hs2))
  have hs3 : w.heap.size + 1 ≤ w3.heap.size := Nat.le_trans hs2 b3.size
  clear h3 b3 C HO2
  go_wp2_with (at_builtin; refine wpList_appT rfl _ _ rfl (w.heap.size + 1) _ ([wAmp, wMut]) rfl HO3.out (tokP p) v3 rfl w3.heap.size (Nat.le_refl _) H3.out (by have := HLN.out; simp at this ⊢; omega) hs3 ?_)
  intro v4 w4 hown hg
  have S4 := Lib.hid (below_app S3.out hg hs3 HO3.out (Nat.le_refl _))
  have HO4 : Hid (TokOwn (w.heap.size + 1) w4 ([wAmp, wMut] ++ tokP p) v4) := Lib.hid (by simpa using hown)
  have hs4 : w.heap.size + 1 ≤ w4.heap.size := Nat.le_trans hs1 S4.out.size
  obtain ⟨ao4, m4, cap4, rfl⟩ := TokOwn.shape3 hown
  have W4 := Lib.hid (BX.out.trans (S4.out.mono (show w.heap.size ≤ w.heap.size + 1 by omega)))
  have hB4 : B ≤ w4.heap.size := by omega
  clear hown hg HO3 H3
  clear y2_0 y2_1 y2_2 y2_3 y2_4 y2_5 y2_6
  go_wp2
  go_ret
  have hfin : TokNew w.heap.size w4 ([wAmp, wMut] ++ tokP p) (.slice ao4 m4 cap4) := (HO4.out.rowN (fun t ht => HOK.out t (by simpa [or_assoc] using ht)) (by first | (simp; done) | (have := HLN.out; simp at this ⊢; omega))).mono (by omega)
  exact ⟨_, rfl, by simpa using hfin, W4.out⟩
set_option maxRecDepth 100000 in
set_option maxHeartbeats 8000000 in
theorem docE_int (B : Nat) (i : Int) (n s : ByteArray) (p : PP) (l : List PE) (pos : Int) : DocEAt B (.mk 1 i n s p l pos) := by
  intro v w hB hx hlen hok
  obtain ⟨p1, n1, c1, ao, cap, b, o, rfl, ⟨_, hi64, hsn, hss⟩, hp, hn, k1, hr⟩ := PE.In.partsR hx
  obtain ⟨w1, hw1⟩ : ∃ w1, w1 = w.alloc (.cells ((PE.mk 1 i n s p l pos).cells ⟨.slice p1 n1 c1, .slice ao l.length cap⟩).toArray 37) := ⟨_, rfl⟩
  have bx : Below w.heap.size w w1 := by rw [hw1]; exact new_onlyR _ _
  have hz : w.heap.size < w1.heap.size := by rw [hw1]; simp
  have HC : CellsAt w1 w.heap.size 0 ((PE.mk 1 i n s p l pos).cells ⟨.slice p1 n1 c1, .slice ao l.length cap⟩) := by rw [hw1]; exact cells_madeR (heap_alloc_new w _)
  have et : tokE (.mk 1 i n s p l pos) = [Lib.itoa i] := by rw [tokE]; rfl
  rw [et] at hlen hok ⊢
  have HCB := Lib.hid HC
  have BX := Lib.hid bx
  have HLN := Lib.hid hlen
  have HOK := Lib.hid hok
  have HR := Lib.hid hr
  have HP := Lib.hid hp
  have HK := Lib.hid k1
  have HS := Lib.hid fun (W : World) => docStrong_calls 1 W
  have hs1 : w.heap.size + 1 ≤ w1.heap.size := hz
  have hB1 : B ≤ w1.heap.size := by omega
  have S1 : Hid (Below (w.heap.size + 1) w1 w1) := Lib.hid (Below.refl _ _)
  have W1 : Hid (Below w.heap.size w w1) := Lib.hid bx
  have HO1 : Hid (TokOwn (w.heap.size + 1) w1 [] (.slice none 0 0)) := Lib.hid (TokOwn.nil _ _)
  have cb1 := HCB.out.below (show w.heap.size < w.heap.size + 1 by omega) S1.out
  have y1_0 : w1.cell? ⟨w.heap.size, 0, none⟩ = some (.int .u8 1) := cb1 0 _ rfl
  have y1_1 : w1.cell? ⟨w.heap.size, 1, none⟩ = some (.int .i64 i) := cb1 1 _ rfl
  have y1_2 : w1.cell? ⟨w.heap.size, 2, none⟩ = some (.string n) := cb1 2 _ rfl
  have y1_3 : w1.cell? ⟨w.heap.size, 3, none⟩ = some (.string s) := cb1 3 _ rfl
  have y1_4 : w1.cell? ⟨w.heap.size, 4, none⟩ = some (.string p.name) := cb1 4 _ rfl
  have y1_5 : w1.cell? ⟨w.heap.size, 5, none⟩ = some (.slice p1 n1 c1) := cb1 5 _ rfl
  have y1_6 : w1.cell? ⟨w.heap.size, 6, none⟩ = some (.slice ao l.length cap) := cb1 6 _ rfl
  have yl1 : w.heap.size < w1.heap.size := by omega
  clear cb1
  show Calls Tryz.prog 22 #[.agg #[.int .u8 1, .int .i64 i, .string n, .string s, .string p.name, .slice p1 n1 c1, .slice ao l.length cap, .int .i64 pos]] w _
  have hw1' : w1 = w.alloc (.cells #[.int .u8 1, .int .i64 i, .string n, .string s, .string p.name, .slice p1 n1 c1, .slice ao l.length cap, .int .i64 pos] 37) := hw1
  clear hw1 HC hx hlen hok et bx hr hp k1
  go_enter Tryz.func22, Tryz.ntmps22
  go_upto_region 1 with (fail)
  rw [← hw1']
  clear hw1'
  go_wp2_with fail
  (with_reducible refine (HS.out _).mono ?_)
  rintro e w0 ⟨rfl, hw0⟩
  subst w0
  have C := Lib.hid (refPrint_calls i (i64_geR hi64) (i64_lt hi64) w1)
  go_wp2_with fail
  (with_reducible refine (C.out).mono ?_)
  rintro e w3 ⟨rfl, b3⟩
  have hs3 : w.heap.size < w3.heap.size := Nat.lt_of_lt_of_le hz b3.size
  have hlit := TokOwn.lit (w := w3) w3.heap.size (Lib.itoa i) ⟨(Lib.itoa i).toArray⟩ rfl (Nat.le_refl _)
  have HL2 := Lib.hid (hlit.rowN HOK.out (by simp))
  have B3 := Lib.hid (BX.out.trans (b3.mono (Nat.le_of_lt hz)))
  clear hlit b3 C
  go_wp2
  go_ret
  exact ⟨_, rfl, HL2.out.mono (by omega), B3.out.trans (new_onlyR w3 _ |>.mono (by omega))⟩
end Go.Proofs.YthilicmhdkmipaaGreatDoor
