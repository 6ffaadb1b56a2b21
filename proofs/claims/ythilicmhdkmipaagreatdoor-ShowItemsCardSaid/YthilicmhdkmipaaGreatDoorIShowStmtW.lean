/- What the writer writes of the other statements. -/
import Derived.Test.YthilicmhdkmipaaGreatDoorIShowArms
import Derived.Test.YthilicmhdkmipaaGreatDoorIJoinAJ
namespace Go.Proofs.YthilicmhdkmipaaGreatDoor
open Go.RowKit
set_option linter.unusedVariables false

set_option maxRecDepth 100000 in
set_option maxHeartbeats 4000000 in
theorem end_calls (B R : Nat) (xe : PE) (he : ExprAt B R xe) (T0 G0 : TkB) (ts : List TkB) (v : VE) (w : World) (hB : B ≤ w.heap.size) (hW : Words B w) (hA : AtW B R T0 G0 ts w) (hx : PE.In B w xe v) (hL : Lim T0 G0 (ts ++ (tokE xe ++ [wSemi]))) :
    Calls Tryz.prog 213 #[.pointer (some ⟨R, 0, none⟩), .agg (xe.cells v).toArray] w fun e w' => e = .returned (.tuple #[]) ∧ AtW B R T0 G0 (ts ++ (tokE xe ++ [wSemi])) w' ∧ WBut B R w w' := by
  have HX := Lib.hid hx
  obtain ⟨g1, l1, m1, g2, l2, m2, rfl⟩ := hx.shape
  have hRR : R < w.heap.size := hA.lt
  obtain ⟨w1, hw1⟩ : ∃ w1, w1 = w.alloc (.cells #[.int .u8 xe.op, .int .i64 xe.int, .string xe.name, .string xe.second, .string xe.place.name, .slice g1 l1 m1, .slice g2 l2 m2, .int .i64 xe.pos] 37) := ⟨_, rfl⟩
  have bx : Below w.heap.size w w1 := by rw [hw1]; exact new_only _ _
  have E1 : Hid (CBox R w.heap.size [.int .u8 xe.op, .int .i64 xe.int, .string xe.name, .string xe.second, .string xe.place.name, .slice g1 l1 m1, .slice g2 l2 m2, .int .i64 xe.pos] w1) := Lib.hid (by rw [hw1]; exact CBox.new _ (by decide) hRR)
  have et : ts ++ (tokE xe ++ [wSemi]) = (ts ++ tokE xe) ++ [wSemi] := by simp
  rw [et] at hL ⊢
  clear et
  have B1 : Hid (WBut B R w w1) := Lib.hid (WBut.of bx hB (R := R))
  have HW := Lib.hid hW
  have A1 := Lib.hid (hA.stays bx)
  have HL := Lib.hid hL
  show Calls Tryz.prog 213 #[.pointer (some ⟨R, 0, none⟩), .agg #[.int .u8 xe.op, .int .i64 xe.int, .string xe.name, .string xe.second, .string xe.place.name, .slice g1 l1 m1, .slice g2 l2 m2, .int .i64 xe.pos]] w _
  clear hW hA hL bx
  go_enter Tryz.func213, Tryz.ntmps213
  go_upto_region 1 with (fail)
  (try simp only [size_alloc])
  rw [← hw1]
  clear hw1
  have x1_0 : w1.cell? ⟨w.heap.size, 0, none⟩ = some (.int .u8 xe.op) := E1.out.has 0 _ rfl
  have x1_1 : w1.cell? ⟨w.heap.size, 1, none⟩ = some (.int .i64 xe.int) := E1.out.has 1 _ rfl
  have x1_2 : w1.cell? ⟨w.heap.size, 2, none⟩ = some (.string xe.name) := E1.out.has 2 _ rfl
  have x1_3 : w1.cell? ⟨w.heap.size, 3, none⟩ = some (.string xe.second) := E1.out.has 3 _ rfl
  have x1_4 : w1.cell? ⟨w.heap.size, 4, none⟩ = some (.string xe.place.name) := E1.out.has 4 _ rfl
  have x1_5 : w1.cell? ⟨w.heap.size, 5, none⟩ = some (.slice g1 l1 m1) := E1.out.has 5 _ rfl
  have x1_6 : w1.cell? ⟨w.heap.size, 6, none⟩ = some (.slice g2 l2 m2) := E1.out.has 6 _ rfl
  have x1_7 : w1.cell? ⟨w.heap.size, 7, none⟩ = some (.int .i64 xe.pos) := E1.out.has 7 _ rfl
  have z1 : w.heap.size < w1.heap.size := E1.out.lt
  have hB1 : B ≤ w1.heap.size := Nat.le_trans hB B1.out.size
  have P := Lib.hid (he T0 G0 ts ⟨.slice g1 l1 m1, .slice g2 l2 m2⟩ w1 hB1 (HW.out.below B1.out.bel) A1.out (PE.In.below B1.out.bel HX.out) HL.out.less)
  have P : Hid (Calls Tryz.prog 69 #[.pointer (some ⟨R, 0, none⟩), .agg #[.int .u8 xe.op, .int .i64 xe.int, .string xe.name, .string xe.second, .string xe.place.name, .slice g1 l1 m1, .slice g2 l2 m2, .int .i64 xe.pos]] w1 fun e w' => e = .returned (.tuple #[]) ∧ AtW B R T0 G0 (ts ++ tokE xe) w' ∧ WBut B R w1 w') := Lib.hid P.out
  go_wp2_with fail
  (with_reducible refine (P.out).mono ?_)
  rintro e w2 ⟨rfl, h, b⟩
  have A2 := Lib.hid h
  have B2 := Lib.hid (B1.out.trans b)
  have E2 := Lib.hid (E1.out.but b)
  clear h b P x1_0 x1_1 x1_2 x1_3 x1_4 x1_5 x1_6 x1_7 z1 A1 E1
  have z2 : w.heap.size < w2.heap.size := E2.out.lt
  have hB2 : B ≤ w2.heap.size := Nat.le_trans hB B2.out.size
  have P := Lib.hid (put1_calls B R ⟨#[59]⟩ T0 G0 (ts ++ tokE xe) _ w2 (new_only w2 (.cells #[.string ⟨#[59]⟩] 9)) (heap_alloc_new w2 _) hB2 A2.out (by decide) HL.out)
  go_wp2_with fail
  (with_reducible refine (P.out).mono ?_)
  rintro e w3 ⟨rfl, h, b⟩
  have A3 := Lib.hid h
  have B3 := Lib.hid (B2.out.trans b)
  have E3 := Lib.hid (E2.out.but b)
  clear h b P  z2 A2 E2
  go_wp2
  go_end0
  exact ⟨rfl, A3.out, B3.out⟩
set_option maxRecDepth 100000 in
set_option maxHeartbeats 4000000 in
theorem st_let (B R : Nat) (nm sc : ByteArray) (ns : List ByteArray) (ty : PT) (it : Int) (pl : PP) (xe : PE) (bo el : List PS) (ar : List PA) (pos : Int) (he : ExprAt B R xe) (T0 G0 : TkB) (ts : List TkB) (v : VS) (w : World) (hB : B ≤ w.heap.size) (hW : Words B w) (hA : AtW B R T0 G0 ts w) (hx : PS.In B w (.mk 1 nm sc ns ty it pl [xe] bo el ar pos) v) (hL : Lim T0 G0 (ts ++ (wLet :: kT nm :: wGives :: (tokE xe ++ [wSemi])))) :
    Calls Tryz.prog 198 #[.pointer (some ⟨R, 0, none⟩), .agg (PS.cells (.mk 1 nm sc ns ty it pl [xe] bo el ar pos) v).toArray] w fun e w' => e = .returned (.tuple #[]) ∧ AtW B R T0 G0 (ts ++ (wLet :: kT nm :: wGives :: (tokE xe ++ [wSemi]))) w' ∧ WBut B R w w' := by
  have HX := Lib.hid hx
  obtain ⟨a1, n1, c1, a2, n2, c2, a3, n3, c3, a4, n4, c4, a5, n5, c5, a6, n6, c6, a7, n7, c7, rfl⟩ := hx.shape
  obtain ⟨⟨_, hi64, _, hsn, hss⟩, ⟨bn, on, sn, rn⟩, hty, hpl, ⟨b4, o4, s4, r4⟩, ⟨b5, o5, s5, r5⟩, ⟨b6, o6, s6, r6⟩, b7, o7, s7, r7⟩ := hx
  have RN := Lib.hid rn
  have R4 := Lib.hid r4
  have R5 := Lib.hid r5
  have R6 := Lib.hid r6
  have R7 := Lib.hid r7
  have HTY := Lib.hid hty
  have HPL := Lib.hid hpl
  clear rn r4 r5 r6 r7 hty hpl
  obtain ⟨_, ao4, cp4, e4, hk4⟩ := s4
  injection e4 with e41 e42 e43
  subst e41; subst e42; subst e43
  obtain ⟨rfl, hb4⟩ := hk4.resolve_left (by simp)
  obtain ⟨ve, ce, ie⟩ := PE.Row.get R4.out (show ([xe] : List PE)[0]? = some xe from rfl)
  obtain ⟨g1, l1, m1, g2, l2, m2, rfl⟩ := ie.shape
  have HCE := Lib.hid ce
  have HIE := Lib.hid ie
  clear ce ie hk4
  have hRR : R < w.heap.size := hA.lt
  obtain ⟨w1, hw1⟩ : ∃ w1, w1 = (w.alloc (.cells #[.pointer (some ⟨R, 0, none⟩)] 81)).alloc (.cells #[.int .u8 1, .string nm, .string sc, .slice a1 n1 c1, .int .u8 ty.kind, .string ty.name, .slice a2 n2 c2, .int .i64 it, .string pl.name, .slice a3 n3 c3, .slice (some ⟨b4, o4, none⟩) 1 c4, .slice a5 n5 c5, .slice a6 n6 c6, .slice a7 n7 c7, .int .i64 pos] 130) := ⟨_, rfl⟩
  have bx : Below w.heap.size w w1 := by rw [hw1]; exact (new_only _ _).alloc (by simp) _
  have E1 : Hid (CBox R (w.heap.size + 1) [.int .u8 1, .string nm, .string sc, .slice a1 n1 c1, .int .u8 ty.kind, .string ty.name, .slice a2 n2 c2, .int .i64 it, .string pl.name, .slice a3 n3 c3, .slice (some ⟨b4, o4, none⟩) 1 c4, .slice a5 n5 c5, .slice a6 n6 c6, .slice a7 n7 c7, .int .i64 pos] w1) := Lib.hid (by rw [hw1]; exact CBox.new2 _ _ _ (by decide) hRR)
  have Q1 : Hid (CBox R w.heap.size [.pointer (some ⟨R, 0, none⟩)] w1) := Lib.hid (by rw [hw1]; exact CBox.old _ _ nePW hRR)
  have et : ts ++ (wLet :: kT nm :: wGives :: (tokE xe ++ [wSemi])) = (ts ++ [wLet, kT nm, wGives]) ++ (tokE xe ++ [wSemi]) := by simp
  rw [et] at hL ⊢
  clear et
  have B1 : Hid (WBut B R w w1) := Lib.hid (WBut.of bx hB (R := R))
  have HW := Lib.hid hW
  have A1 := Lib.hid (hA.stays bx)
  have HL := Lib.hid hL
  show Calls Tryz.prog 198 #[.pointer (some ⟨R, 0, none⟩), .agg #[.int .u8 1, .string nm, .string sc, .slice a1 n1 c1, .int .u8 ty.kind, .string ty.name, .slice a2 n2 c2, .int .i64 it, .string pl.name, .slice a3 n3 c3, .slice (some ⟨b4, o4, none⟩) 1 c4, .slice a5 n5 c5, .slice a6 n6 c6, .slice a7 n7 c7, .int .i64 pos]] w _
  clear hW hA hL bx
  go_enter Tryz.func198, Tryz.ntmps198
  go_upto_region 1 with (fail)
  (try simp only [size_alloc])
  rw [← hw1]
  clear hw1
  have x1_0 : w1.cell? ⟨w.heap.size + 1, 0, none⟩ = some (.int .u8 1) := E1.out.has 0 _ rfl
  have zz1 : w.heap.size + 1 < w1.heap.size := E1.out.lt
  have x1_1 : w1.cell? ⟨w.heap.size + 1, 1, none⟩ = some (.string nm) := E1.out.has 1 _ rfl
  have y1 : w1.cell? ⟨w.heap.size, 0, none⟩ = some (.pointer (some ⟨R, 0, none⟩)) := Q1.out.has 0 _ rfl
  have zq1 : w.heap.size < w1.heap.size := Q1.out.lt
  have z1 : w.heap.size + 1 < w1.heap.size := E1.out.lt
  have hB1 : B ≤ w1.heap.size := Nat.le_trans hB B1.out.size
  have P := Lib.hid (put3_calls B R ⟨#[108, 101, 116]⟩ nm ⟨#[61]⟩ T0 G0 ts _ w1 (new_drew w1 (.cells #[.string ⟨#[108, 101, 116]⟩, .string nm, .string ⟨#[61]⟩] 9)) (drew_new w1 _) hB1 A1.out (by decide) hsn (by decide) HL.out.less)
  go_upto_region 4 with (fail)
  go_cut [3] from 11 to 18 (fun s3 wx => s3 = .pointer (some ⟨w.heap.size + 1, 0, none⟩) ∧ Hid (AtW B R T0 G0 (ts ++ [wLet, kT nm, wGives]) wx) ∧ Hid (WBut B R w1 wx))
  case first =>
    go_region_held3 (fun w' => w'.cell? ⟨w.heap.size, 0, none⟩ = some (.pointer (some ⟨R, 0, none⟩)) ∧ w'.cell? ⟨w.heap.size + 1, 1, none⟩ = some (.string nm)) (first | exact ⟨y1, x1_1⟩ | exact ⟨(low_new w1 _ _ _ zq1).trans y1, (low_new w1 _ _ _ z1).trans x1_1⟩ | exact ⟨XQ, XB1⟩)
      (first
        | (go_at_call 98; (with_reducible refine (P.out).mono ?_)
           rintro e wy ⟨rfl, h1, b1⟩
           have H1 := Lib.hid h1
           have BB := Lib.hid b1
           have XQ := (Q1.out.safe.cell b1 0).trans y1
           have XB1 := (E1.out.safe.cell b1 1).trans x1_1
           clear h1 b1))
    go_wp2_with fail
    go_meet
    case rel => exact ⟨rfl, H1, BB⟩
  case rest =>
    obtain ⟨rfl, A2, b⟩ := hcut
    have B2 := Lib.hid (B1.out.trans b.out)
    have E2 := Lib.hid (E1.out.but b.out)
    have Q2 := Lib.hid (Q1.out.but b.out)
    obtain ⟨w2, hwc⟩ : ∃ x, x = wc := ⟨_, rfl⟩
    rw [← hwc] at A2 B2 E2 Q2 ⊢
    clear hwc b P x1_1 z1 A1 E1 y1 zq1 Q1
    have x2_10 : w2.cell? ⟨w.heap.size + 1, 10, none⟩ = some (.slice (some ⟨b4, o4, none⟩) 1 c4) := E2.out.has 10 _ rfl
    have y2 : w2.cell? ⟨w.heap.size, 0, none⟩ = some (.pointer (some ⟨R, 0, none⟩)) := Q2.out.has 0 _ rfl
    have zq2 : w.heap.size < w2.heap.size := Q2.out.lt
    have z2 : w.heap.size + 1 < w2.heap.size := E2.out.lt
    have hB2 : B ≤ w2.heap.size := Nat.le_trans hB B2.out.size
    have ce2 := HCE.out.below hb4 B2.out.bel
    have u2_0 : w2.cell? ⟨b4, o4, none⟩ = some (.int .u8 xe.op) := by simpa using ce2 0 _ rfl
    have u2_1 : w2.cell? ⟨b4, o4 + 1, none⟩ = some (.int .i64 xe.int) := by simpa using ce2 1 _ rfl
    have u2_2 : w2.cell? ⟨b4, o4 + 2, none⟩ = some (.string xe.name) := by simpa using ce2 2 _ rfl
    have u2_3 : w2.cell? ⟨b4, o4 + 3, none⟩ = some (.string xe.second) := by simpa using ce2 3 _ rfl
    have u2_4 : w2.cell? ⟨b4, o4 + 4, none⟩ = some (.string xe.place.name) := by simpa using ce2 4 _ rfl
    have u2_5 : w2.cell? ⟨b4, o4 + 5, none⟩ = some (.slice g1 l1 m1) := by simpa using ce2 5 _ rfl
    have u2_6 : w2.cell? ⟨b4, o4 + 6, none⟩ = some (.slice g2 l2 m2) := by simpa using ce2 6 _ rfl
    have u2_7 : w2.cell? ⟨b4, o4 + 7, none⟩ = some (.int .i64 xe.pos) := by simpa using ce2 7 _ rfl
    have zb2 : b4 < w2.heap.size := by have := hB2; omega
    clear ce2
    have bd : Below w2.heap.size w2 w2.drew := (Below.refl _ w2).drew
    have P : Hid (Calls Tryz.prog 213 #[.pointer (some ⟨R, 0, none⟩), .agg #[.int .u8 xe.op, .int .i64 xe.int, .string xe.name, .string xe.second, .string xe.place.name, .slice g1 l1 m1, .slice g2 l2 m2, .int .i64 xe.pos]] w2.drew fun e w' => e = .returned (.tuple #[]) ∧ AtW B R T0 G0 ((ts ++ [wLet, kT nm, wGives]) ++ (tokE xe ++ [wSemi])) w' ∧ WBut B R w2.drew w') := Lib.hid (end_calls B R xe he T0 G0 (ts ++ [wLet, kT nm, wGives]) ⟨.slice g1 l1 m1, .slice g2 l2 m2⟩ w2.drew (by simpa using hB2) ((HW.out.below B2.out.bel).below (bd.mono hB2)) (A2.out.stays bd) (PE.In.below (bd.mono hB2) (PE.In.below B2.out.bel HIE.out)) HL.out)
    have WD : WBut B R w w2.drew := B2.out.trans (WBut.of bd hB2)
    clear bd
    go_upto_region 5 with (fail)
    go_region_with (first
      | (go_at_call 213; (with_reducible refine (P.out).mono ?_)
         rintro e wz ⟨rfl, h, b⟩
         have AZ := Lib.hid h
         have BZ := Lib.hid (WD.trans b)
         clear h b))
    all_goals
      go_wp2
      go_end0
      exact ⟨rfl, AZ.out, BZ.out⟩
set_option maxRecDepth 100000 in
set_option maxHeartbeats 4000000 in
theorem st_do (B R : Nat) (nm sc : ByteArray) (ns : List ByteArray) (ty : PT) (it : Int) (pl : PP) (xe : PE) (bo el : List PS) (ar : List PA) (pos : Int) (he : ExprAt B R xe) (T0 G0 : TkB) (ts : List TkB) (v : VS) (w : World) (hB : B ≤ w.heap.size) (hW : Words B w) (hA : AtW B R T0 G0 ts w) (hx : PS.In B w (.mk 4 nm sc ns ty it pl [xe] bo el ar pos) v) (hL : Lim T0 G0 (ts ++ ((tokE xe ++ [wSemi])))) :
    Calls Tryz.prog 198 #[.pointer (some ⟨R, 0, none⟩), .agg (PS.cells (.mk 4 nm sc ns ty it pl [xe] bo el ar pos) v).toArray] w fun e w' => e = .returned (.tuple #[]) ∧ AtW B R T0 G0 (ts ++ ((tokE xe ++ [wSemi]))) w' ∧ WBut B R w w' := by
  have HX := Lib.hid hx
  obtain ⟨a1, n1, c1, a2, n2, c2, a3, n3, c3, a4, n4, c4, a5, n5, c5, a6, n6, c6, a7, n7, c7, rfl⟩ := hx.shape
  obtain ⟨⟨_, hi64, _, hsn, hss⟩, ⟨bn, on, sn, rn⟩, hty, hpl, ⟨b4, o4, s4, r4⟩, ⟨b5, o5, s5, r5⟩, ⟨b6, o6, s6, r6⟩, b7, o7, s7, r7⟩ := hx
  have RN := Lib.hid rn
  have R4 := Lib.hid r4
  have R5 := Lib.hid r5
  have R6 := Lib.hid r6
  have R7 := Lib.hid r7
  have HTY := Lib.hid hty
  have HPL := Lib.hid hpl
  clear rn r4 r5 r6 r7 hty hpl
  obtain ⟨_, ao4, cp4, e4, hk4⟩ := s4
  injection e4 with e41 e42 e43
  subst e41; subst e42; subst e43
  obtain ⟨rfl, hb4⟩ := hk4.resolve_left (by simp)
  obtain ⟨ve, ce, ie⟩ := PE.Row.get R4.out (show ([xe] : List PE)[0]? = some xe from rfl)
  obtain ⟨g1, l1, m1, g2, l2, m2, rfl⟩ := ie.shape
  have HCE := Lib.hid ce
  have HIE := Lib.hid ie
  clear ce ie hk4
  have hRR : R < w.heap.size := hA.lt
  obtain ⟨w1, hw1⟩ : ∃ w1, w1 = (w.alloc (.cells #[.pointer (some ⟨R, 0, none⟩)] 81)).alloc (.cells #[.int .u8 4, .string nm, .string sc, .slice a1 n1 c1, .int .u8 ty.kind, .string ty.name, .slice a2 n2 c2, .int .i64 it, .string pl.name, .slice a3 n3 c3, .slice (some ⟨b4, o4, none⟩) 1 c4, .slice a5 n5 c5, .slice a6 n6 c6, .slice a7 n7 c7, .int .i64 pos] 130) := ⟨_, rfl⟩
  have bx : Below w.heap.size w w1 := by rw [hw1]; exact (new_only _ _).alloc (by simp) _
  have E1 : Hid (CBox R (w.heap.size + 1) [.int .u8 4, .string nm, .string sc, .slice a1 n1 c1, .int .u8 ty.kind, .string ty.name, .slice a2 n2 c2, .int .i64 it, .string pl.name, .slice a3 n3 c3, .slice (some ⟨b4, o4, none⟩) 1 c4, .slice a5 n5 c5, .slice a6 n6 c6, .slice a7 n7 c7, .int .i64 pos] w1) := Lib.hid (by rw [hw1]; exact CBox.new2 _ _ _ (by decide) hRR)
  have Q1 : Hid (CBox R w.heap.size [.pointer (some ⟨R, 0, none⟩)] w1) := Lib.hid (by rw [hw1]; exact CBox.old _ _ nePW hRR)
  have et : ts ++ ((tokE xe ++ [wSemi])) = ts ++ (tokE xe ++ [wSemi]) := by simp
  rw [et] at hL ⊢
  clear et
  have B1 : Hid (WBut B R w w1) := Lib.hid (WBut.of bx hB (R := R))
  have HW := Lib.hid hW
  have A1 := Lib.hid (hA.stays bx)
  have HL := Lib.hid hL
  show Calls Tryz.prog 198 #[.pointer (some ⟨R, 0, none⟩), .agg #[.int .u8 4, .string nm, .string sc, .slice a1 n1 c1, .int .u8 ty.kind, .string ty.name, .slice a2 n2 c2, .int .i64 it, .string pl.name, .slice a3 n3 c3, .slice (some ⟨b4, o4, none⟩) 1 c4, .slice a5 n5 c5, .slice a6 n6 c6, .slice a7 n7 c7, .int .i64 pos]] w _
  clear hW hA hL bx
  go_enter Tryz.func198, Tryz.ntmps198
  go_upto_region 1 with (fail)
  (try simp only [size_alloc])
  rw [← hw1]
  clear hw1
  have x1_0 : w1.cell? ⟨w.heap.size + 1, 0, none⟩ = some (.int .u8 4) := E1.out.has 0 _ rfl
  have zz1 : w.heap.size + 1 < w1.heap.size := E1.out.lt
  have x1_10 : w1.cell? ⟨w.heap.size + 1, 10, none⟩ = some (.slice (some ⟨b4, o4, none⟩) 1 c4) := E1.out.has 10 _ rfl
  have y1 : w1.cell? ⟨w.heap.size, 0, none⟩ = some (.pointer (some ⟨R, 0, none⟩)) := Q1.out.has 0 _ rfl
  have zq1 : w.heap.size < w1.heap.size := Q1.out.lt
  have z1 : w.heap.size + 1 < w1.heap.size := E1.out.lt
  have hB1 : B ≤ w1.heap.size := Nat.le_trans hB B1.out.size
  have ce1 := HCE.out.below hb4 B1.out.bel
  have u1_0 : w1.cell? ⟨b4, o4, none⟩ = some (.int .u8 xe.op) := by simpa using ce1 0 _ rfl
  have u1_1 : w1.cell? ⟨b4, o4 + 1, none⟩ = some (.int .i64 xe.int) := by simpa using ce1 1 _ rfl
  have u1_2 : w1.cell? ⟨b4, o4 + 2, none⟩ = some (.string xe.name) := by simpa using ce1 2 _ rfl
  have u1_3 : w1.cell? ⟨b4, o4 + 3, none⟩ = some (.string xe.second) := by simpa using ce1 3 _ rfl
  have u1_4 : w1.cell? ⟨b4, o4 + 4, none⟩ = some (.string xe.place.name) := by simpa using ce1 4 _ rfl
  have u1_5 : w1.cell? ⟨b4, o4 + 5, none⟩ = some (.slice g1 l1 m1) := by simpa using ce1 5 _ rfl
  have u1_6 : w1.cell? ⟨b4, o4 + 6, none⟩ = some (.slice g2 l2 m2) := by simpa using ce1 6 _ rfl
  have u1_7 : w1.cell? ⟨b4, o4 + 7, none⟩ = some (.int .i64 xe.pos) := by simpa using ce1 7 _ rfl
  have zb1 : b4 < w1.heap.size := by have := hB1; omega
  clear ce1
  have bd : Below w1.heap.size w1 w1.drew := (Below.refl _ w1).drew
  have P : Hid (Calls Tryz.prog 213 #[.pointer (some ⟨R, 0, none⟩), .agg #[.int .u8 xe.op, .int .i64 xe.int, .string xe.name, .string xe.second, .string xe.place.name, .slice g1 l1 m1, .slice g2 l2 m2, .int .i64 xe.pos]] w1.drew fun e w' => e = .returned (.tuple #[]) ∧ AtW B R T0 G0 (ts ++ (tokE xe ++ [wSemi])) w' ∧ WBut B R w1.drew w') := Lib.hid (end_calls B R xe he T0 G0 ts ⟨.slice g1 l1 m1, .slice g2 l2 m2⟩ w1.drew (by simpa using hB1) ((HW.out.below B1.out.bel).below (bd.mono hB1)) (A1.out.stays bd) (PE.In.below (bd.mono hB1) (PE.In.below B1.out.bel HIE.out)) HL.out)
  have WD : WBut B R w w1.drew := B1.out.trans (WBut.of bd hB1)
  clear bd
  go_upto_region 16 with (fail)
  go_region_with (first
    | (go_at_call 213; (with_reducible refine (P.out).mono ?_)
       rintro e wz ⟨rfl, h, b⟩
       have AZ := Lib.hid h
       have BZ := Lib.hid (WD.trans b)
       clear h b))
  all_goals
    go_wp2
    go_end0
    exact ⟨rfl, AZ.out, BZ.out⟩
set_option maxRecDepth 100000 in
set_option maxHeartbeats 4000000 in
theorem st_assign (B R : Nat) (nm sc : ByteArray) (ns : List ByteArray) (ty : PT) (it : Int) (pl : PP) (xe : PE) (bo el : List PS) (ar : List PA) (pos : Int) (he : ExprAt B R xe) (T0 G0 : TkB) (ts : List TkB) (v : VS) (w : World) (hB : B ≤ w.heap.size) (hW : Words B w) (hA : AtW B R T0 G0 ts w) (hx : PS.In B w (.mk 3 nm sc ns ty it pl [xe] bo el ar pos) v) (hL : Lim T0 G0 (ts ++ (tokP pl ++ wGives :: (tokE xe ++ [wSemi])))) :
    Calls Tryz.prog 198 #[.pointer (some ⟨R, 0, none⟩), .agg (PS.cells (.mk 3 nm sc ns ty it pl [xe] bo el ar pos) v).toArray] w fun e w' => e = .returned (.tuple #[]) ∧ AtW B R T0 G0 (ts ++ (tokP pl ++ wGives :: (tokE xe ++ [wSemi]))) w' ∧ WBut B R w w' := by
  have HX := Lib.hid hx
  obtain ⟨a1, n1, c1, a2, n2, c2, a3, n3, c3, a4, n4, c4, a5, n5, c5, a6, n6, c6, a7, n7, c7, rfl⟩ := hx.shape
  obtain ⟨⟨_, hi64, _, hsn, hss⟩, ⟨bn, on, sn, rn⟩, hty, hpl, ⟨b4, o4, s4, r4⟩, ⟨b5, o5, s5, r5⟩, ⟨b6, o6, s6, r6⟩, b7, o7, s7, r7⟩ := hx
  have RN := Lib.hid rn
  have R4 := Lib.hid r4
  have R5 := Lib.hid r5
  have R6 := Lib.hid r6
  have R7 := Lib.hid r7
  have HTY := Lib.hid hty
  have HPL := Lib.hid hpl
  clear rn r4 r5 r6 r7 hty hpl
  obtain ⟨_, ao4, cp4, e4, hk4⟩ := s4
  injection e4 with e41 e42 e43
  subst e41; subst e42; subst e43
  obtain ⟨rfl, hb4⟩ := hk4.resolve_left (by simp)
  obtain ⟨ve, ce, ie⟩ := PE.Row.get R4.out (show ([xe] : List PE)[0]? = some xe from rfl)
  obtain ⟨g1, l1, m1, g2, l2, m2, rfl⟩ := ie.shape
  have HCE := Lib.hid ce
  have HIE := Lib.hid ie
  clear ce ie hk4
  have hRR : R < w.heap.size := hA.lt
  obtain ⟨w1, hw1⟩ : ∃ w1, w1 = (w.alloc (.cells #[.pointer (some ⟨R, 0, none⟩)] 81)).alloc (.cells #[.int .u8 3, .string nm, .string sc, .slice a1 n1 c1, .int .u8 ty.kind, .string ty.name, .slice a2 n2 c2, .int .i64 it, .string pl.name, .slice a3 n3 c3, .slice (some ⟨b4, o4, none⟩) 1 c4, .slice a5 n5 c5, .slice a6 n6 c6, .slice a7 n7 c7, .int .i64 pos] 130) := ⟨_, rfl⟩
  have bx : Below w.heap.size w w1 := by rw [hw1]; exact (new_only _ _).alloc (by simp) _
  have E1 : Hid (CBox R (w.heap.size + 1) [.int .u8 3, .string nm, .string sc, .slice a1 n1 c1, .int .u8 ty.kind, .string ty.name, .slice a2 n2 c2, .int .i64 it, .string pl.name, .slice a3 n3 c3, .slice (some ⟨b4, o4, none⟩) 1 c4, .slice a5 n5 c5, .slice a6 n6 c6, .slice a7 n7 c7, .int .i64 pos] w1) := Lib.hid (by rw [hw1]; exact CBox.new2 _ _ _ (by decide) hRR)
  have Q1 : Hid (CBox R w.heap.size [.pointer (some ⟨R, 0, none⟩)] w1) := Lib.hid (by rw [hw1]; exact CBox.old _ _ nePW hRR)
  have et : ts ++ (tokP pl ++ wGives :: (tokE xe ++ [wSemi])) = ((ts ++ tokP pl) ++ [wGives]) ++ (tokE xe ++ [wSemi]) := by simp
  rw [et] at hL ⊢
  clear et
  have B1 : Hid (WBut B R w w1) := Lib.hid (WBut.of bx hB (R := R))
  have HW := Lib.hid hW
  have A1 := Lib.hid (hA.stays bx)
  have HL := Lib.hid hL
  show Calls Tryz.prog 198 #[.pointer (some ⟨R, 0, none⟩), .agg #[.int .u8 3, .string nm, .string sc, .slice a1 n1 c1, .int .u8 ty.kind, .string ty.name, .slice a2 n2 c2, .int .i64 it, .string pl.name, .slice a3 n3 c3, .slice (some ⟨b4, o4, none⟩) 1 c4, .slice a5 n5 c5, .slice a6 n6 c6, .slice a7 n7 c7, .int .i64 pos]] w _
  clear hW hA hL bx
  go_enter Tryz.func198, Tryz.ntmps198
  go_upto_region 1 with (fail)
  (try simp only [size_alloc])
  rw [← hw1]
  clear hw1
  have x1_0 : w1.cell? ⟨w.heap.size + 1, 0, none⟩ = some (.int .u8 3) := E1.out.has 0 _ rfl
  have zz1 : w.heap.size + 1 < w1.heap.size := E1.out.lt
  have x1_8 : w1.cell? ⟨w.heap.size + 1, 8, none⟩ = some (.string pl.name) := E1.out.has 8 _ rfl
  have x1_9 : w1.cell? ⟨w.heap.size + 1, 9, none⟩ = some (.slice a3 n3 c3) := E1.out.has 9 _ rfl
  have y1 : w1.cell? ⟨w.heap.size, 0, none⟩ = some (.pointer (some ⟨R, 0, none⟩)) := Q1.out.has 0 _ rfl
  have zq1 : w.heap.size < w1.heap.size := Q1.out.lt
  have z1 : w.heap.size + 1 < w1.heap.size := E1.out.lt
  have hB1 : B ≤ w1.heap.size := Nat.le_trans hB B1.out.size
  have P := Lib.hid (place_calls B R pl T0 G0 ts (.slice a3 n3 c3) w1 hB1 A1.out (HPL.out.below B1.out.bel) HL.out.less.less)
  go_wp2_with fail
  (with_reducible refine (P.out).mono ?_)
  rintro e w2 ⟨rfl, h, b⟩
  have A2 := Lib.hid h
  have B2 := Lib.hid (B1.out.trans b)
  have E2 := Lib.hid (E1.out.but b)
  have Q2 := Lib.hid (Q1.out.but b)
  clear h b P x1_8 x1_9 z1 A1 E1 y1 zq1 Q1
  have y2 : w2.cell? ⟨w.heap.size, 0, none⟩ = some (.pointer (some ⟨R, 0, none⟩)) := Q2.out.has 0 _ rfl
  have zq2 : w.heap.size < w2.heap.size := Q2.out.lt
  have z2 : w.heap.size + 1 < w2.heap.size := E2.out.lt
  have hB2 : B ≤ w2.heap.size := Nat.le_trans hB B2.out.size
  have P := Lib.hid (put1_calls B R ⟨#[61]⟩ T0 G0 (ts ++ tokP pl) _ w2 (new_only w2 (.cells #[.string ⟨#[61]⟩] 9)) (heap_alloc_new w2 _) hB2 A2.out (by decide) HL.out.less)
  go_wp2_with fail
  (with_reducible refine (P.out).mono ?_)
  rintro e w3 ⟨rfl, h, b⟩
  have A3 := Lib.hid h
  have B3 := Lib.hid (B2.out.trans b)
  have E3 := Lib.hid (E2.out.but b)
  have Q3 := Lib.hid (Q2.out.but b)
  clear h b P  z2 A2 E2 y2 zq2 Q2
  have x3_10 : w3.cell? ⟨w.heap.size + 1, 10, none⟩ = some (.slice (some ⟨b4, o4, none⟩) 1 c4) := E3.out.has 10 _ rfl
  have y3 : w3.cell? ⟨w.heap.size, 0, none⟩ = some (.pointer (some ⟨R, 0, none⟩)) := Q3.out.has 0 _ rfl
  have zq3 : w.heap.size < w3.heap.size := Q3.out.lt
  have z3 : w.heap.size + 1 < w3.heap.size := E3.out.lt
  have hB3 : B ≤ w3.heap.size := Nat.le_trans hB B3.out.size
  have ce3 := HCE.out.below hb4 B3.out.bel
  have u3_0 : w3.cell? ⟨b4, o4, none⟩ = some (.int .u8 xe.op) := by simpa using ce3 0 _ rfl
  have u3_1 : w3.cell? ⟨b4, o4 + 1, none⟩ = some (.int .i64 xe.int) := by simpa using ce3 1 _ rfl
  have u3_2 : w3.cell? ⟨b4, o4 + 2, none⟩ = some (.string xe.name) := by simpa using ce3 2 _ rfl
  have u3_3 : w3.cell? ⟨b4, o4 + 3, none⟩ = some (.string xe.second) := by simpa using ce3 3 _ rfl
  have u3_4 : w3.cell? ⟨b4, o4 + 4, none⟩ = some (.string xe.place.name) := by simpa using ce3 4 _ rfl
  have u3_5 : w3.cell? ⟨b4, o4 + 5, none⟩ = some (.slice g1 l1 m1) := by simpa using ce3 5 _ rfl
  have u3_6 : w3.cell? ⟨b4, o4 + 6, none⟩ = some (.slice g2 l2 m2) := by simpa using ce3 6 _ rfl
  have u3_7 : w3.cell? ⟨b4, o4 + 7, none⟩ = some (.int .i64 xe.pos) := by simpa using ce3 7 _ rfl
  have zb3 : b4 < w3.heap.size := by have := hB3; omega
  clear ce3
  have bd : Below w3.heap.size w3 w3.drew := (Below.refl _ w3).drew
  have P : Hid (Calls Tryz.prog 213 #[.pointer (some ⟨R, 0, none⟩), .agg #[.int .u8 xe.op, .int .i64 xe.int, .string xe.name, .string xe.second, .string xe.place.name, .slice g1 l1 m1, .slice g2 l2 m2, .int .i64 xe.pos]] w3.drew fun e w' => e = .returned (.tuple #[]) ∧ AtW B R T0 G0 (((ts ++ tokP pl) ++ [wGives]) ++ (tokE xe ++ [wSemi])) w' ∧ WBut B R w3.drew w') := Lib.hid (end_calls B R xe he T0 G0 ((ts ++ tokP pl) ++ [wGives]) ⟨.slice g1 l1 m1, .slice g2 l2 m2⟩ w3.drew (by simpa using hB3) ((HW.out.below B3.out.bel).below (bd.mono hB3)) (A3.out.stays bd) (PE.In.below (bd.mono hB3) (PE.In.below B3.out.bel HIE.out)) HL.out)
  have WD : WBut B R w w3.drew := B3.out.trans (WBut.of bd hB3)
  clear bd
  go_upto_region 14 with (fail)
  go_region_with (first
    | (go_at_call 213; (with_reducible refine (P.out).mono ?_)
       rintro e wz ⟨rfl, h, b⟩
       have AZ := Lib.hid h
       have BZ := Lib.hid (WD.trans b)
       clear h b))
  all_goals
    go_wp2
    go_end0
    exact ⟨rfl, AZ.out, BZ.out⟩
set_option maxRecDepth 100000 in
set_option maxHeartbeats 4000000 in
theorem st_drop (B R : Nat) (nm sc : ByteArray) (ns : List ByteArray) (ty : PT) (it : Int) (pl : PP) (es : List PE) (bo el : List PS) (ar : List PA) (pos : Int) (T0 G0 : TkB) (ts : List TkB) (v : VS) (w : World) (hB : B ≤ w.heap.size) (hW : Words B w) (hA : AtW B R T0 G0 ts w) (hx : PS.In B w (.mk 5 nm sc ns ty it pl es bo el ar pos) v) (hL : Lim T0 G0 (ts ++ ([wDrop, kT nm, wSemi]))) :
    Calls Tryz.prog 198 #[.pointer (some ⟨R, 0, none⟩), .agg (PS.cells (.mk 5 nm sc ns ty it pl es bo el ar pos) v).toArray] w fun e w' => e = .returned (.tuple #[]) ∧ AtW B R T0 G0 (ts ++ ([wDrop, kT nm, wSemi])) w' ∧ WBut B R w w' := by
  have HX := Lib.hid hx
  obtain ⟨a1, n1, c1, a2, n2, c2, a3, n3, c3, a4, n4, c4, a5, n5, c5, a6, n6, c6, a7, n7, c7, rfl⟩ := hx.shape
  obtain ⟨⟨_, hi64, _, hsn, hss⟩, ⟨bn, on, sn, rn⟩, hty, hpl, ⟨b4, o4, s4, r4⟩, ⟨b5, o5, s5, r5⟩, ⟨b6, o6, s6, r6⟩, b7, o7, s7, r7⟩ := hx
  have RN := Lib.hid rn
  have R4 := Lib.hid r4
  have R5 := Lib.hid r5
  have R6 := Lib.hid r6
  have R7 := Lib.hid r7
  have HTY := Lib.hid hty
  have HPL := Lib.hid hpl
  clear rn r4 r5 r6 r7 hty hpl
  have hRR : R < w.heap.size := hA.lt
  obtain ⟨w1, hw1⟩ : ∃ w1, w1 = (w.alloc (.cells #[.pointer (some ⟨R, 0, none⟩)] 81)).alloc (.cells #[.int .u8 5, .string nm, .string sc, .slice a1 n1 c1, .int .u8 ty.kind, .string ty.name, .slice a2 n2 c2, .int .i64 it, .string pl.name, .slice a3 n3 c3, .slice a4 n4 c4, .slice a5 n5 c5, .slice a6 n6 c6, .slice a7 n7 c7, .int .i64 pos] 130) := ⟨_, rfl⟩
  have bx : Below w.heap.size w w1 := by rw [hw1]; exact (new_only _ _).alloc (by simp) _
  have E1 : Hid (CBox R (w.heap.size + 1) [.int .u8 5, .string nm, .string sc, .slice a1 n1 c1, .int .u8 ty.kind, .string ty.name, .slice a2 n2 c2, .int .i64 it, .string pl.name, .slice a3 n3 c3, .slice a4 n4 c4, .slice a5 n5 c5, .slice a6 n6 c6, .slice a7 n7 c7, .int .i64 pos] w1) := Lib.hid (by rw [hw1]; exact CBox.new2 _ _ _ (by decide) hRR)
  have Q1 : Hid (CBox R w.heap.size [.pointer (some ⟨R, 0, none⟩)] w1) := Lib.hid (by rw [hw1]; exact CBox.old _ _ nePW hRR)
  have et : ts ++ ([wDrop, kT nm, wSemi]) = ts ++ [wDrop, kT nm, wSemi] := by simp
  rw [et] at hL ⊢
  clear et
  have B1 : Hid (WBut B R w w1) := Lib.hid (WBut.of bx hB (R := R))
  have HW := Lib.hid hW
  have A1 := Lib.hid (hA.stays bx)
  have HL := Lib.hid hL
  show Calls Tryz.prog 198 #[.pointer (some ⟨R, 0, none⟩), .agg #[.int .u8 5, .string nm, .string sc, .slice a1 n1 c1, .int .u8 ty.kind, .string ty.name, .slice a2 n2 c2, .int .i64 it, .string pl.name, .slice a3 n3 c3, .slice a4 n4 c4, .slice a5 n5 c5, .slice a6 n6 c6, .slice a7 n7 c7, .int .i64 pos]] w _
  clear hW hA hL bx
  go_enter Tryz.func198, Tryz.ntmps198
  go_upto_region 1 with (fail)
  (try simp only [size_alloc])
  rw [← hw1]
  clear hw1
  have x1_0 : w1.cell? ⟨w.heap.size + 1, 0, none⟩ = some (.int .u8 5) := E1.out.has 0 _ rfl
  have zz1 : w.heap.size + 1 < w1.heap.size := E1.out.lt
  have x1_1 : w1.cell? ⟨w.heap.size + 1, 1, none⟩ = some (.string nm) := E1.out.has 1 _ rfl
  have y1 : w1.cell? ⟨w.heap.size, 0, none⟩ = some (.pointer (some ⟨R, 0, none⟩)) := Q1.out.has 0 _ rfl
  have zq1 : w.heap.size < w1.heap.size := Q1.out.lt
  have z1 : w.heap.size + 1 < w1.heap.size := E1.out.lt
  have hB1 : B ≤ w1.heap.size := Nat.le_trans hB B1.out.size
  have P := Lib.hid (put3_calls B R ⟨#[100, 114, 111, 112]⟩ nm ⟨#[59]⟩ T0 G0 ts _ w1 (new_drew w1 (.cells #[.string ⟨#[100, 114, 111, 112]⟩, .string nm, .string ⟨#[59]⟩] 9)) (drew_new w1 _) hB1 A1.out (by decide) hsn (by decide) HL.out)
  go_upto_region 18 with (fail)
  go_region_held3 (fun w' => w'.cell? ⟨w.heap.size, 0, none⟩ = some (.pointer (some ⟨R, 0, none⟩)) ∧ w'.cell? ⟨w.heap.size + 1, 1, none⟩ = some (.string nm)) (first | exact ⟨y1, x1_1⟩ | exact ⟨(low_new w1 _ _ _ zq1).trans y1, (low_new w1 _ _ _ z1).trans x1_1⟩ | exact ⟨XQ, XB1⟩)
    (first
      | (go_at_call 98; (with_reducible refine (P.out).mono ?_)
         rintro e wy ⟨rfl, h1, b1⟩
         have AZ := Lib.hid h1
         have BZ := Lib.hid (B1.out.trans b1)
         have XQ := (Q1.out.safe.cell b1 0).trans y1
         have XB1 := (E1.out.safe.cell b1 1).trans x1_1
         clear h1 b1))
  all_goals
    go_wp2
    go_end0
    exact ⟨rfl, AZ.out, BZ.out⟩
end Go.Proofs.YthilicmhdkmipaaGreatDoor

