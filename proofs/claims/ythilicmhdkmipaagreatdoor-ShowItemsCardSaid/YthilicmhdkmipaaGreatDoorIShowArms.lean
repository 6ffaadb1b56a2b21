/- What the writer writes of a match, arm by arm. -/
import Derived.Test.YthilicmhdkmipaaGreatDoorIShowWithB
namespace Go.Proofs.YthilicmhdkmipaaGreatDoor
open Go.RowKit
set_option linter.unusedVariables false

theorem ba_full {s : ByteArray} (h : s.size ≠ 0) : s.toList.isEmpty = false := by
  rw [ByteArray.toList_eq]
  have : s.data.toList ≠ [] := fun e => h (by show s.data.toList.length = 0; rw [e]; rfl)
  simpa using this
theorem ba_empty {s : ByteArray} (h : s.size = 0) : s.toList.isEmpty = true := by
  rw [ByteArray.toList_eq]
  have : s.data.toList = [] := List.length_eq_zero_iff.1 h
  rw [this]; rfl
theorem kT_full {s : ByteArray} (h : s.size ≠ 0) : ¬ kT s = [] := fun e => h (by show (kT s).length = 0; rw [e]; rfl)
theorem kT_empty {s : ByteArray} (h : s.size = 0) : kT s = [] := List.length_eq_zero_iff.1 h
theorem tokAs_take : ∀ (l : List PA) (k : Nat) (x : PA), l[k]? = some x → tokAs (l.take (k + 1)) = tokAs (l.take k) ++ tokA x
  | y :: l, 0, x, h => by
    obtain rfl : y = x := by simpa using h
    simp [tokAs]
  | y :: l, k + 1, x, h => by
    rw [List.take_succ_cons, List.take_succ_cons, tokAs, tokAs, tokAs_take l k x (by simpa using h)]; simp
theorem tokAs_split (l : List PA) (k : Nat) : tokAs l = tokAs (l.take k) ++ tokAs (l.drop k) := by
  induction l generalizing k with
  | nil => simp [tokAs]
  | cons a l ih => cases k with
    | zero => simp [tokAs]
    | succ k => rw [List.take_succ_cons, List.drop_succ_cons, tokAs, tokAs, ih k]; simp
theorem PA.Row.got {B : Nat} {w : World} {b : Nat} : ∀ {l : List PA} {o k : Nat} {t : PA}, PA.Row B w b o l → l[k]? = some t → ∃ v, CellsAt w b (o + k * 3) (t.cells v) ∧ PA.In B w t v
  | a :: l, o, 0, t, ⟨⟨v, h1, h2⟩, _⟩, h => by
    obtain rfl : a = t := by simpa using h
    exact ⟨v, by simpa using h1, h2⟩
  | a :: l, o, k + 1, t, ⟨_, hr⟩, h => by
    obtain ⟨v, h1, h2⟩ := PA.Row.got hr (by simpa using h : l[k]? = some t)
    exact ⟨v, by rw [show o + (k + 1) * 3 = o + 3 + k * 3 by omega]; exact h1, h2⟩
set_option maxRecDepth 100000 in
set_option maxHeartbeats 4000000 in
theorem arms_calls (B R : Nat) (l : List PA) (IH : ∀ va na bo, PA.mk va na bo ∈ l → StmtsAt B R bo) (T0 G0 : TkB) (ts : List TkB) (v : Value) (b o : Nat) (w : World) (hB : B ≤ w.heap.size) (hW : Words B w) (hA : AtW B R T0 G0 ts w) (hs : SlV B v l.length b o) (hr : PA.Row B w b o l) (hL : Lim T0 G0 (ts ++ tokAs l)) :
    Calls Tryz.prog 223 #[.pointer (some ⟨R, 0, none⟩), v] w fun e w' => e = .returned (.tuple #[]) ∧ AtW B R T0 G0 (ts ++ tokAs l) w' ∧ WBut B R w w' := by
  obtain ⟨hl, ao, cap, rfl, kk⟩ := hs
  obtain ⟨n, hn⟩ : ∃ n, n = l.length := ⟨_, rfl⟩
  rw [← hn] at hl kk ⊢
  have hn' : n ≤ 9223372036854775807 := by unfold maxLen at hl; omega
  have Hn := Lib.hid hn
  have HA := Lib.hid hA
  have HW := Lib.hid hW
  have HR := Lib.hid hr
  have HI := Lib.hid IH
  have HK := Lib.hid kk
  have HL0 := Lib.hid hL
  have hRR : R < w.heap.size := hA.lt
  clear hn IH hW hA hr hL kk
  go_enter Tryz.func223, Tryz.ntmps223
  go_wp2_with fail
  go_loopw [8] (fun i wr => ∃ k : Nat, k ≤ n ∧ i = .int .i64 k ∧ Hid (AtW B R T0 G0 (ts ++ tokAs (l.take k)) wr) ∧ Hid (WBut B R w wr))
    (fun i _ => n - (intOf i).toNat)
  case atStart => exact ⟨0, by omega, rfl, Lib.hid (by simpa [tokAs] using HA.out), Lib.hid (WBut.refl B R w)⟩
  case round =>
    obtain ⟨k, hk, rfl, Hw, Hb⟩ := hrel
    by_cases hlt : k < n
    · obtain ⟨x, hx⟩ := (⟨l[k]'(by rw [← Hn.out]; exact hlt), List.getElem?_eq_getElem _⟩ : ∃ a, l[k]? = some a)
      obtain ⟨rfl, hbB⟩ := HK.out.resolve_left (by omega)
      obtain ⟨va, na, bo⟩ := x
      obtain ⟨vx, cx, ⟨hva, hns⟩, b1, o1, s1, r1⟩ := PA.Row.got HR.out hx
      obtain ⟨a1, c1, rfl⟩ := s1.shape
      obtain ⟨n1, hn1⟩ : ∃ n1, n1 = bo.length := ⟨_, rfl⟩
      have hBr : B ≤ wr.heap.size := Nat.le_trans hB Hb.out.size
      have HTS := Lib.hid (tokAs_take l k _ hx)
      obtain ⟨tb, htb⟩ : ∃ tb, tb = ts ++ tokAs (l.take k) := ⟨_, rfl⟩
      have HTB : Hid (ts ++ tokAs (l.take (k + 1)) = tb ++ tokA (.mk va na bo)) := Lib.hid (by rw [HTS.out, htb, List.append_assoc])
      have hlim : Lim T0 G0 (tb ++ tokA (.mk va na bo)) := by
        rw [← HTB.out]
        have h1 : Lim T0 G0 ((ts ++ tokAs (l.take (k + 1))) ++ tokAs (l.drop (k + 1))) := by
          rw [List.append_assoc, ← tokAs_split]; exact HL0.out
        exact h1.less
      have hbo := HI.out va na bo (List.mem_of_getElem? hx)
      have RB := Lib.hid r1
      have hcx := cx.below hbB Hb.out.bel
      have hbr : b < wr.heap.size := by omega
      have d0 : wr.cell? ⟨b, o + k * 3, none⟩ = some (.string va) := by simpa using hcx 0 _ rfl
      have d1 : wr.cell? ⟨b, o + k * 3 + 1, none⟩ = some (.string na) := hcx 1 _ rfl
      have d2 : wr.cell? ⟨b, o + k * 3 + 2, none⟩ = some (.slice a1 n1 c1) := by rw [hn1]; exact hcx 2 _ rfl
      have S1 := Lib.hid s1
      clear hx cx hcx s1 r1
      obtain ⟨w1, hw1⟩ : ∃ w1, w1 = wr.alloc (.cells #[.string va, .string na, .slice a1 n1 c1] 133) := ⟨_, rfl⟩
      have hRr : R < wr.heap.size := by have := Hb.out.size; omega
      have E1 : Hid (CBox R wr.heap.size [.string va, .string na, .slice a1 n1 c1] w1) := Lib.hid (by rw [hw1]; exact CBox.new _ (by decide) hRr)
      have bx1 : Below wr.heap.size wr w1 := by rw [hw1]; exact new_only _ _
      have B1 := Lib.hid (Hb.out.trans (WBut.of bx1 hBr (R := R)))
      have A1 : Hid (AtW B R T0 G0 tb w1) := Lib.hid (by rw [htb]; exact Hw.out.stays bx1)
      clear bx1 Hw htb
      have s1 : SlV B (.slice a1 n1 c1) bo.length b1 o1 := by rw [hn1]; exact S1.out
      clear hn1 S1
      go_upto_region 3 with (fail)
      rw [← hw1]
      clear hw1 d0 d1 d2
      by_cases hna : na.size = 0
      · have hem : na.toList.isEmpty = true := ba_empty hna
        have etk : tb ++ tokA (.mk va na bo) = ((tb ++ [kT va]) ++ [wThen]) ++ blockT (tokSs bo) := by
          have e0 : tokA (.mk va na bo) = kT va :: ((if kT na = [] then [] else [wOpen, kT na, wEnd]) ++ wThen :: blockT (tokSs bo)) := by rw [tokA]
          rw [e0, if_pos (kT_empty hna)]
          simp
        have HLa : Hid (Lim T0 G0 (((tb ++ [kT va]) ++ [wThen]) ++ blockT (tokSs bo))) := Lib.hid (by rw [← etk]; exact hlim)
        have HT := Lib.hid etk
        clear etk hlim hna
        have HL := HLa
        have x1_0 : w1.cell? ⟨wr.heap.size, 0, none⟩ = some (.string va) := E1.out.has 0 _ rfl
        have z1 : wr.heap.size < w1.heap.size := E1.out.lt
        have hB1 : B ≤ w1.heap.size := Nat.le_trans hB B1.out.size
        have P := Lib.hid (put1_calls B R va T0 G0 tb _ w1 (new_drew w1 (.cells #[.string va] 9)) (drew_new w1 _) hB1 A1.out hva HL.out.less.less)
        go_upto_region 3 with (fail)
        go_cut [5] from 12 to 19 (fun s3 wx => s3 = .pointer (some ⟨wr.heap.size, 0, none⟩) ∧ Hid (AtW B R T0 G0 (tb ++ [kT va]) wx) ∧ Hid (WBut B R w1 wx))
        case first =>
          go_region_held3 (fun w' => w'.cell? ⟨wr.heap.size, 0, none⟩ = some (.string va)) (first | exact x1_0 | exact (low_new w1 _ _ _ z1).trans x1_0 | exact XB0)
            (first
              | (go_at_call 98; (with_reducible refine (P.out).mono ?_)
                 rintro e wy ⟨rfl, h1, b1⟩
                 have H1 := Lib.hid h1
                 have BB := Lib.hid b1
                 have XB0 := (E1.out.safe.cell b1 0).trans x1_0
                 clear h1 b1))
          go_wp2_with fail
          go_meet
          case rel => exact ⟨rfl, H1, BB⟩
        case rest =>
          obtain ⟨rfl, A2, b⟩ := hcut
          have B2 := Lib.hid (B1.out.trans b.out)
          have E2 := Lib.hid (E1.out.but b.out)
        
          obtain ⟨w2, hwc⟩ : ∃ x, x = wc := ⟨_, rfl⟩
          rw [← hwc] at A2 B2 E2 ⊢
          clear hwc b P x1_0 z1 A1 E1
          have x2_1 : w2.cell? ⟨wr.heap.size, 1, none⟩ = some (.string na) := E2.out.has 1 _ rfl
          have z2 : wr.heap.size < w2.heap.size := E2.out.lt
          have hB2 : B ≤ w2.heap.size := Nat.le_trans hB B2.out.size
          have P := Lib.hid (put1_calls B R ⟨#[61, 62]⟩ T0 G0 (tb ++ [kT va]) _ w2 (new_only w2 (.cells #[.string ⟨#[61, 62]⟩] 9)) (heap_alloc_new w2 _) hB2 A2.out (by decide) HL.out.less)
          go_wp2_with fail
          (with_reducible refine (P.out).mono ?_)
          rintro e w3 ⟨rfl, h, b⟩
          have A3 := Lib.hid h
          have B3 := Lib.hid (B2.out.trans b)
          have E3 := Lib.hid (E2.out.but b)
          clear h b P x2_1 z2 A2 E2
          have x3_2 : w3.cell? ⟨wr.heap.size, 2, none⟩ = some (.slice a1 n1 c1) := E3.out.has 2 _ rfl
          have z3 : wr.heap.size < w3.heap.size := E3.out.lt
          have hB3 : B ≤ w3.heap.size := Nat.le_trans hB B3.out.size
          have P := Lib.hid (block_calls B R bo hbo T0 G0 ((tb ++ [kT va]) ++ [wThen]) (.slice a1 n1 c1) b1 o1 w3 hB3 (HW.out.below B3.out.bel) A3.out s1 (PS.Row.below' B3.out.bel s1 RB.out) HL.out)
          go_wp2_with fail
          (with_reducible refine (P.out).mono ?_)
          rintro e w4 ⟨rfl, h, b⟩
          have A4 := Lib.hid h
          have B4 := Lib.hid (B3.out.trans b)
          have E4 := Lib.hid (E3.out.but b)
          clear h b P x3_2 z3 A3 E3
          have AE : Hid (AtW B R T0 G0 (ts ++ tokAs (l.take (k + 1))) w4) := Lib.hid (by
            have := A4.out
            rw [← HT.out] at this
            rw [HTB.out]
            exact this)
          clear A4
          go_wp2
          go_roundw
          case rel => exact ⟨k + 1, by omega, by go_num, AE, B4⟩
          case measure => simp [intOf]; omega
      · have hem : na.toList.isEmpty = false := ba_full hna
        have etk : tb ++ tokA (.mk va na bo) = (((tb ++ [kT va]) ++ [wOpen, kT na, wEnd]) ++ [wThen]) ++ blockT (tokSs bo) := by
          have e0 : tokA (.mk va na bo) = kT va :: ((if kT na = [] then [] else [wOpen, kT na, wEnd]) ++ wThen :: blockT (tokSs bo)) := by rw [tokA]
          rw [e0, if_neg (kT_full hna)]
          simp
        have HLa : Hid (Lim T0 G0 ((((tb ++ [kT va]) ++ [wOpen, kT na, wEnd]) ++ [wThen]) ++ blockT (tokSs bo))) := Lib.hid (by rw [← etk]; exact hlim)
        have HT := Lib.hid etk
        clear etk hlim hna
        have HL := HLa
        have x1_0 : w1.cell? ⟨wr.heap.size, 0, none⟩ = some (.string va) := E1.out.has 0 _ rfl
        have z1 : wr.heap.size < w1.heap.size := E1.out.lt
        have hB1 : B ≤ w1.heap.size := Nat.le_trans hB B1.out.size
        have P := Lib.hid (put1_calls B R va T0 G0 tb _ w1 (new_drew w1 (.cells #[.string va] 9)) (drew_new w1 _) hB1 A1.out hva HL.out.less.less.less)
        go_upto_region 3 with (fail)
        go_cut [5] from 12 to 19 (fun s3 wx => s3 = .pointer (some ⟨wr.heap.size, 0, none⟩) ∧ Hid (AtW B R T0 G0 (tb ++ [kT va]) wx) ∧ Hid (WBut B R w1 wx))
        case first =>
          go_region_held3 (fun w' => w'.cell? ⟨wr.heap.size, 0, none⟩ = some (.string va)) (first | exact x1_0 | exact (low_new w1 _ _ _ z1).trans x1_0 | exact XB0)
            (first
              | (go_at_call 98; (with_reducible refine (P.out).mono ?_)
                 rintro e wy ⟨rfl, h1, b1⟩
                 have H1 := Lib.hid h1
                 have BB := Lib.hid b1
                 have XB0 := (E1.out.safe.cell b1 0).trans x1_0
                 clear h1 b1))
          go_wp2_with fail
          go_meet
          case rel => exact ⟨rfl, H1, BB⟩
        case rest =>
          obtain ⟨rfl, A2, b⟩ := hcut
          have B2 := Lib.hid (B1.out.trans b.out)
          have E2 := Lib.hid (E1.out.but b.out)
        
          obtain ⟨w2, hwc⟩ : ∃ x, x = wc := ⟨_, rfl⟩
          rw [← hwc] at A2 B2 E2 ⊢
          clear hwc b P x1_0 z1 A1 E1
          have x2_9 : w2.cell? ⟨wr.heap.size, 1, none⟩ = some (.string na) := E2.out.has 1 _ rfl
          have z29 : wr.heap.size < w2.heap.size := E2.out.lt
          have x2_1 : w2.cell? ⟨wr.heap.size, 1, none⟩ = some (.string na) := E2.out.has 1 _ rfl
          have z2 : wr.heap.size < w2.heap.size := E2.out.lt
          have hB2 : B ≤ w2.heap.size := Nat.le_trans hB B2.out.size
          have P := Lib.hid (put3_calls B R ⟨#[40]⟩ na ⟨#[41]⟩ T0 G0 (tb ++ [kT va]) _ w2 (new_drew w2 (.cells #[.string ⟨#[40]⟩, .string na, .string ⟨#[41]⟩] 9)) (drew_new w2 _) hB2 A2.out (by decide) hns (by decide) HL.out.less.less)
          go_upto_region 5 with (fail)
          go_cut [5] from 22 to 29 (fun s3 wx => s3 = .pointer (some ⟨wr.heap.size, 0, none⟩) ∧ Hid (AtW B R T0 G0 ((tb ++ [kT va]) ++ [wOpen, kT na, wEnd]) wx) ∧ Hid (WBut B R w2 wx))
          case first =>
            go_region_held3 (fun w' => w'.cell? ⟨wr.heap.size, 1, none⟩ = some (.string na)) (first | exact x2_1 | exact (low_new w2 _ _ _ z2).trans x2_1 | exact XB1)
              (first
                | (go_at_call 98; (with_reducible refine (P.out).mono ?_)
                   rintro e wy ⟨rfl, h1, b1⟩
                   have H1 := Lib.hid h1
                   have BB := Lib.hid b1
                   have XB1 := (E2.out.safe.cell b1 1).trans x2_1
                   clear h1 b1))
            go_wp2_with fail
            go_meet
            case rel => exact ⟨rfl, H1, BB⟩
          case rest =>
            obtain ⟨rfl, A3, b⟩ := hcut
            have B3 := Lib.hid (B2.out.trans b.out)
            have E3 := Lib.hid (E2.out.but b.out)
          
            obtain ⟨w3, hwc⟩ : ∃ x, x = wc := ⟨_, rfl⟩
            rw [← hwc] at A3 B3 E3 ⊢
            clear hwc b P x2_1 z2 A2 E2
            have z3 : wr.heap.size < w3.heap.size := E3.out.lt
            have hB3 : B ≤ w3.heap.size := Nat.le_trans hB B3.out.size
            have P := Lib.hid (put1_calls B R ⟨#[61, 62]⟩ T0 G0 ((tb ++ [kT va]) ++ [wOpen, kT na, wEnd]) _ w3 (new_only w3 (.cells #[.string ⟨#[61, 62]⟩] 9)) (heap_alloc_new w3 _) hB3 A3.out (by decide) HL.out.less)
            go_wp2_with fail
            (with_reducible refine (P.out).mono ?_)
            rintro e w4 ⟨rfl, h, b⟩
            have A4 := Lib.hid h
            have B4 := Lib.hid (B3.out.trans b)
            have E4 := Lib.hid (E3.out.but b)
            clear h b P  z3 A3 E3
            have x4_2 : w4.cell? ⟨wr.heap.size, 2, none⟩ = some (.slice a1 n1 c1) := E4.out.has 2 _ rfl
            have z4 : wr.heap.size < w4.heap.size := E4.out.lt
            have hB4 : B ≤ w4.heap.size := Nat.le_trans hB B4.out.size
            have P := Lib.hid (block_calls B R bo hbo T0 G0 (((tb ++ [kT va]) ++ [wOpen, kT na, wEnd]) ++ [wThen]) (.slice a1 n1 c1) b1 o1 w4 hB4 (HW.out.below B4.out.bel) A4.out s1 (PS.Row.below' B4.out.bel s1 RB.out) HL.out)
            go_wp2_with fail
            (with_reducible refine (P.out).mono ?_)
            rintro e w5 ⟨rfl, h, b⟩
            have A5 := Lib.hid h
            have B5 := Lib.hid (B4.out.trans b)
            have E5 := Lib.hid (E4.out.but b)
            clear h b P x4_2 z4 A4 E4
            have AE : Hid (AtW B R T0 G0 (ts ++ tokAs (l.take (k + 1))) w5) := Lib.hid (by
              have := A5.out
              rw [← HT.out] at this
              rw [HTB.out]
              exact this)
            clear A5
            go_wp2
            go_roundw
            case rel => exact ⟨k + 1, by omega, by go_num, AE, B5⟩
            case measure => simp [intOf]; omega
    · obtain rfl : k = n := by omega
      have hall : l.take k = l := List.take_of_length_le (by rw [Hn.out]; exact Nat.le_refl _)
      go_wp2
      go_end0
      exact ⟨rfl, by rw [hall] at Hw; exact Hw.out, Hb.out⟩
set_option maxRecDepth 100000 in
set_option maxHeartbeats 4000000 in
theorem wb_match (B R : Nat) (nm sc : ByteArray) (ns : List ByteArray) (ty : PT) (it : Int) (pl : PP) (es : List PE) (bo el : List PS) (ar : List PA) (pos : Int) (ha : ∀ va na b, PA.mk va na b ∈ ar → StmtsAt B R b) (T0 G0 : TkB) (ts : List TkB) (v : VS) (w : World) (hB : B ≤ w.heap.size) (hW : Words B w) (hA : AtW B R T0 G0 ts w) (hx : PS.In B w (.mk 8 nm sc ns ty it pl es bo el ar pos) v) (hL : Lim T0 G0 (ts ++ (wMatch :: kT nm :: wColon :: kT sc :: wLeft :: (tokAs ar ++ [wRight])))) :
    Calls Tryz.prog 215 #[.pointer (some ⟨R, 0, none⟩), .agg (PS.cells (.mk 8 nm sc ns ty it pl es bo el ar pos) v).toArray] w fun e w' => e = .returned (.tuple #[]) ∧ AtW B R T0 G0 (ts ++ (wMatch :: kT nm :: wColon :: kT sc :: wLeft :: (tokAs ar ++ [wRight]))) w' ∧ WBut B R w w' := by
  have HX := Lib.hid hx
  obtain ⟨a1, n1, c1, a2, n2, c2, a3, n3, c3, a4, n4, c4, a5, n5, c5, a6, n6, c6, a7, n7, c7, rfl⟩ := hx.shape
  obtain ⟨⟨_, hi64, _, hsn, hss⟩, ⟨bn, on, sn, rn⟩, hty, hpl, ⟨b4, o4, s4, r4⟩, ⟨b5, o5, s5, r5⟩, ⟨b6, o6, s6, r6⟩, b7, o7, s7, r7⟩ := hx
  have RN := Lib.hid rn
  have R4 := Lib.hid r4
  have R5 := Lib.hid r5
  have R6 := Lib.hid r6
  have R7 := Lib.hid r7
  have HTY := Lib.hid hty
  have HPL := Lib.hid hpl
  clear rn r4 r5 r6 r7 hty hpl
  have hRR : R < w.heap.size := hA.lt
  obtain ⟨w1, hw1⟩ : ∃ w1, w1 = w.alloc (.cells #[.int .u8 8, .string nm, .string sc, .slice a1 n1 c1, .int .u8 ty.kind, .string ty.name, .slice a2 n2 c2, .int .i64 it, .string pl.name, .slice a3 n3 c3, .slice a4 n4 c4, .slice a5 n5 c5, .slice a6 n6 c6, .slice a7 n7 c7, .int .i64 pos] 130) := ⟨_, rfl⟩
  have bx : Below w.heap.size w w1 := by rw [hw1]; exact new_only _ _
  have E1 : Hid (CBox R w.heap.size [.int .u8 8, .string nm, .string sc, .slice a1 n1 c1, .int .u8 ty.kind, .string ty.name, .slice a2 n2 c2, .int .i64 it, .string pl.name, .slice a3 n3 c3, .slice a4 n4 c4, .slice a5 n5 c5, .slice a6 n6 c6, .slice a7 n7 c7, .int .i64 pos] w1) := Lib.hid (by rw [hw1]; exact CBox.new _ (by decide) hRR)
  have et : ts ++ (wMatch :: kT nm :: wColon :: kT sc :: wLeft :: (tokAs ar ++ [wRight])) = ((ts ++ [wMatch, kT nm, wColon, kT sc, wLeft]) ++ tokAs ar) ++ [wRight] := by simp
  rw [et] at hL ⊢
  clear et
  have B1 : Hid (WBut B R w w1) := Lib.hid (WBut.of bx hB (R := R))
  have HW := Lib.hid hW
  have A1 := Lib.hid (hA.stays bx)
  have HL := Lib.hid hL
  show Calls Tryz.prog 215 #[.pointer (some ⟨R, 0, none⟩), .agg #[.int .u8 8, .string nm, .string sc, .slice a1 n1 c1, .int .u8 ty.kind, .string ty.name, .slice a2 n2 c2, .int .i64 it, .string pl.name, .slice a3 n3 c3, .slice a4 n4 c4, .slice a5 n5 c5, .slice a6 n6 c6, .slice a7 n7 c7, .int .i64 pos]] w _
  clear hW hA hL bx
  go_enter Tryz.func215, Tryz.ntmps215
  go_upto_region 1 with (fail)
  (try simp only [size_alloc])
  rw [← hw1]
  clear hw1
  have x0_0 : w1.cell? ⟨w.heap.size, 0, none⟩ = some (.int .u8 8) := E1.out.has 0 _ rfl
  have zz0 : w.heap.size < w1.heap.size := E1.out.lt
  have x1_1 : w1.cell? ⟨w.heap.size, 1, none⟩ = some (.string nm) := E1.out.has 1 _ rfl
  have x1_2 : w1.cell? ⟨w.heap.size, 2, none⟩ = some (.string sc) := E1.out.has 2 _ rfl
  have z1 : w.heap.size < w1.heap.size := E1.out.lt
  have hB1 : B ≤ w1.heap.size := Nat.le_trans hB B1.out.size
  have P := Lib.hid (put5_calls B R ⟨#[109, 97, 116, 99, 104]⟩ nm ⟨#[58]⟩ sc ⟨#[123]⟩ T0 G0 ts _ w1 (new_drew w1 (.cells #[.string ⟨#[109, 97, 116, 99, 104]⟩, .string nm, .string ⟨#[58]⟩, .string sc, .string ⟨#[123]⟩] 9)) (drew_new w1 _) hB1 A1.out (by decide) hsn (by decide) hss (by decide) HL.out.less.less)
  go_upto_region 12 with (fail)
  go_cut [3] from 46 to 55 (fun s3 wx => s3 = .pointer (some ⟨w.heap.size, 0, none⟩) ∧ Hid (AtW B R T0 G0 (ts ++ [wMatch, kT nm, wColon, kT sc, wLeft]) wx) ∧ Hid (WBut B R w1 wx))
  case first =>
    go_region_held3 (fun w' => w'.cell? ⟨w.heap.size, 1, none⟩ = some (.string nm) ∧ w'.cell? ⟨w.heap.size, 2, none⟩ = some (.string sc)) (first | exact ⟨x1_1, x1_2⟩ | exact ⟨(low_new w1 _ _ _ z1).trans x1_1, (low_new w1 _ _ _ z1).trans x1_2⟩ | exact ⟨XB1, XB2⟩)
      (first
        | (go_at_call 98; (with_reducible refine (P.out).mono ?_)
           rintro e wy ⟨rfl, h1, b1⟩
           have H1 := Lib.hid h1
           have BB := Lib.hid b1
           have XB1 := (E1.out.safe.cell b1 1).trans x1_1
           have XB2 := (E1.out.safe.cell b1 2).trans x1_2
           clear h1 b1))
    go_wp2_with fail
    go_meet
    case rel => exact ⟨rfl, H1, BB⟩
  case rest =>
    obtain ⟨rfl, A2, b⟩ := hcut
    have B2 := Lib.hid (B1.out.trans b.out)
    have E2 := Lib.hid (E1.out.but b.out)
  
    obtain ⟨w2, hwc⟩ : ∃ x, x = wc := ⟨_, rfl⟩
    rw [← hwc] at A2 B2 E2 ⊢
    clear hwc b P x1_1 x1_2 z1 A1 E1
    have x2_13 : w2.cell? ⟨w.heap.size, 13, none⟩ = some (.slice a7 n7 c7) := E2.out.has 13 _ rfl
    have z2 : w.heap.size < w2.heap.size := E2.out.lt
    have hB2 : B ≤ w2.heap.size := Nat.le_trans hB B2.out.size
    have P := Lib.hid (arms_calls B R ar ha T0 G0 (ts ++ [wMatch, kT nm, wColon, kT sc, wLeft]) (.slice a7 n7 c7) b7 o7 w2 hB2 (HW.out.below B2.out.bel) A2.out s7 (PA.Row.below' B2.out.bel s7 R7.out) HL.out.less)
    go_wp2_with fail
    (with_reducible refine (P.out).mono ?_)
    rintro e w3 ⟨rfl, h, b⟩
    have A3 := Lib.hid h
    have B3 := Lib.hid (B2.out.trans b)
    have E3 := Lib.hid (E2.out.but b)
    clear h b P x2_13 z2 A2 E2
    have z3 : w.heap.size < w3.heap.size := E3.out.lt
    have hB3 : B ≤ w3.heap.size := Nat.le_trans hB B3.out.size
    have P := Lib.hid (put1_calls B R ⟨#[125]⟩ T0 G0 ((ts ++ [wMatch, kT nm, wColon, kT sc, wLeft]) ++ tokAs ar) _ w3 (new_only w3 (.cells #[.string ⟨#[125]⟩] 9)) (heap_alloc_new w3 _) hB3 A3.out (by decide) HL.out)
    go_wp2_with fail
    (with_reducible refine (P.out).mono ?_)
    rintro e w4 ⟨rfl, h, b⟩
    have A4 := Lib.hid h
    have B4 := Lib.hid (B3.out.trans b)
    have E4 := Lib.hid (E3.out.but b)
    clear h b P  z3 A3 E3
    go_wp2
    go_end0
    exact ⟨rfl, A4.out, B4.out⟩
end Go.Proofs.YthilicmhdkmipaaGreatDoor

