/- What the writer writes of a STake, a SChan. -/
import Derived.Test.YthilicmhdkmipaaGreatDoorIShowStmtW
namespace Go.Proofs.YthilicmhdkmipaaGreatDoor
open Go.RowKit
set_option linter.unusedVariables false

theorem stmt1_enters : ∀ args w, (callFunc 214 args).run Tryz.prog w = .ok (.enter 214 args) w := enters_of Tryz.func214 (by kernel_rfl) rfl
set_option maxRecDepth 100000 in
set_option maxHeartbeats 4000000 in
theorem stmt1_calls (B R : Nat) (a : ByteArray) (k n : Nat) (hk : k < n) (hn : n ≤ maxLen) (gw gs b o cap : Nat) (T0 G0 : TkB) (ts : List TkB) (w : World) (hB : B ≤ w.heap.size) (hA : AtW B R T0 G0 ts w) (hs : a.size ≤ maxLen) (hL : Lim T0 G0 (ts ++ [kT a]))
    (s0 : Safe R w gw) (s1 : Safe R w gs) (h0 : w.cell? ⟨gw, 0, none⟩ = some (.pointer (some ⟨R, 0, none⟩))) (h1 : w.cell? ⟨gs, 3, none⟩ = some (.slice (some ⟨b, o, none⟩) n cap)) (hbB : b < B) (xn : w.cell? ⟨b, o + k, none⟩ = some (.string a)) :
    Calls Tryz.prog 214 #[.int .i64 k, .pointer (some ⟨gw, 0, none⟩), .pointer (some ⟨gs, 0, none⟩)] w fun e w' => e = .returned (.tuple #[]) ∧ AtW B R T0 G0 (ts ++ [kT a]) w' ∧ WBut B R w w' := by
  have hn' : n ≤ 9223372036854775807 := by unfold maxLen at hn; omega
  have P1 := Lib.hid (put1_calls B R a T0 G0 ts _ w (new_drew w (.cells #[.string a] 9)) (drew_new w _) hB hA hs hL)
  have hb : b < w.heap.size := by omega
  have g0 := s0.lt
  have g1 := s1.lt
  clear hA hL
  go_enter Tryz.func214, Tryz.ntmps214
  go_upto_region 0 with (fail)
  go_region_held3 (fun w' => w'.cell? ⟨gw, 0, none⟩ = some (.pointer (some ⟨R, 0, none⟩)) ∧ w'.cell? ⟨gs, 3, none⟩ = some (.slice (some ⟨b, o, none⟩) n cap) ∧ w'.cell? ⟨b, o + k, none⟩ = some (.string a)) (first | exact ⟨h0, h1, xn⟩ | exact ⟨(low_new w _ _ _ g0).trans h0, (low_new w _ _ _ g1).trans h1, (low_new w _ _ _ hb).trans xn⟩ | exact ⟨XA, XB, XC⟩)
    (first
      | (go_at_call 98; (with_reducible refine (P1.out).mono ?_)
         rintro e w2 ⟨rfl, q1, b1⟩
         have H1 := Lib.hid q1
         have B1 := Lib.hid b1
         have XA := (s0.cell b1 0).trans h0
         have XB := (s1.cell b1 3).trans h1
         have XC := (b1.bel.cell (p := ⟨b, o + k, none⟩) hbB).trans xn
         clear q1 b1))
  all_goals
    go_wp2
    go_end0
    exact ⟨rfl, H1.out, B1.out⟩
set_option maxRecDepth 100000 in
set_option maxHeartbeats 4000000 in
theorem st_take (B R : Nat) (nm sc : ByteArray) (ns : List ByteArray) (ty : PT) (it : Int) (pl : PP) (xe : PE) (bo el : List PS) (ar : List PA) (pos : Int) (he : ExprAt B R xe) (T0 G0 : TkB) (ts : List TkB) (v : VS) (w : World) (hB : B ≤ w.heap.size) (hW : Words B w) (hA : AtW B R T0 G0 ts w) (hx : PS.In B w (.mk 2 nm sc ns ty it pl [xe] bo el ar pos) v) (hL : Lim T0 G0 (ts ++ (wLet :: kT nm :: wLeft :: (joinT (ns.map fun x => [kT x]) ++ wRight :: wGives :: (tokE xe ++ [wSemi]))))) :
    Calls Tryz.prog 198 #[.pointer (some ⟨R, 0, none⟩), .agg (PS.cells (.mk 2 nm sc ns ty it pl [xe] bo el ar pos) v).toArray] w fun e w' => e = .returned (.tuple #[]) ∧ AtW B R T0 G0 (ts ++ (wLet :: kT nm :: wLeft :: (joinT (ns.map fun x => [kT x]) ++ wRight :: wGives :: (tokE xe ++ [wSemi])))) w' ∧ WBut B R w w' := by
  have HX := Lib.hid hx
  obtain ⟨a1, n1, c1, a2, n2, c2, a3, n3, c3, a4, n4, c4, a5, n5, c5, a6, n6, c6, a7, n7, c7, rfl⟩ := hx.shape
  obtain ⟨⟨_, hi64, _, hsn, hss⟩, ⟨bn, on, sn, rn⟩, hty, hpl, ⟨b4, o4, s4, r4⟩, ⟨b5, o5, s5, r5⟩, ⟨b6, o6, s6, r6⟩, b7, o7, s7, r7⟩ := hx
  have RN := Lib.hid rn
  have R4 := Lib.hid r4
  have R5 := Lib.hid r5
  have R6 := Lib.hid r6
  have R7 := Lib.hid r7
  have HTY := Lib.hid hty
  have HPL := Lib.hid hpl
  clear rn r4 r5 r6 r7 hty hpl
  obtain ⟨_, ao4, cp4, e4, hk4⟩ := s4
  injection e4 with e41 e42 e43
  subst e41; subst e42; subst e43
  obtain ⟨rfl, hb4⟩ := hk4.resolve_left (by simp)
  obtain ⟨ve, ce, ie⟩ := PE.Row.get R4.out (show ([xe] : List PE)[0]? = some xe from rfl)
  obtain ⟨g1, l1, m1, g2, l2, m2, rfl⟩ := ie.shape
  have HCE := Lib.hid ce
  have HIE := Lib.hid ie
  clear ce ie hk4
  have hRR : R < w.heap.size := hA.lt
  obtain ⟨w1, hw1⟩ : ∃ w1, w1 = (w.alloc (.cells #[.pointer (some ⟨R, 0, none⟩)] 81)).alloc (.cells #[.int .u8 2, .string nm, .string sc, .slice a1 n1 c1, .int .u8 ty.kind, .string ty.name, .slice a2 n2 c2, .int .i64 it, .string pl.name, .slice a3 n3 c3, .slice (some ⟨b4, o4, none⟩) 1 c4, .slice a5 n5 c5, .slice a6 n6 c6, .slice a7 n7 c7, .int .i64 pos] 130) := ⟨_, rfl⟩
  have bx : Below w.heap.size w w1 := by rw [hw1]; exact (new_only _ _).alloc (by simp) _
  have E1 : Hid (CBox R (w.heap.size + 1) [.int .u8 2, .string nm, .string sc, .slice a1 n1 c1, .int .u8 ty.kind, .string ty.name, .slice a2 n2 c2, .int .i64 it, .string pl.name, .slice a3 n3 c3, .slice (some ⟨b4, o4, none⟩) 1 c4, .slice a5 n5 c5, .slice a6 n6 c6, .slice a7 n7 c7, .int .i64 pos] w1) := Lib.hid (by rw [hw1]; exact CBox.new2 _ _ _ (by decide) hRR)
  have Q1 : Hid (CBox R w.heap.size [.pointer (some ⟨R, 0, none⟩)] w1) := Lib.hid (by rw [hw1]; exact CBox.old _ _ nePW hRR)
  have et : ts ++ (wLet :: kT nm :: wLeft :: (joinT (ns.map fun x => [kT x]) ++ wRight :: wGives :: (tokE xe ++ [wSemi]))) = (((ts ++ [wLet, kT nm, wLeft]) ++ joinT (ns.map fun x => [kT x])) ++ [wRight, wGives]) ++ (tokE xe ++ [wSemi]) := by simp
  rw [et] at hL ⊢
  clear et
  have B1 : Hid (WBut B R w w1) := Lib.hid (WBut.of bx hB (R := R))
  have HW := Lib.hid hW
  have A1 := Lib.hid (hA.stays bx)
  have HL := Lib.hid hL
  show Calls Tryz.prog 198 #[.pointer (some ⟨R, 0, none⟩), .agg #[.int .u8 2, .string nm, .string sc, .slice a1 n1 c1, .int .u8 ty.kind, .string ty.name, .slice a2 n2 c2, .int .i64 it, .string pl.name, .slice a3 n3 c3, .slice (some ⟨b4, o4, none⟩) 1 c4, .slice a5 n5 c5, .slice a6 n6 c6, .slice a7 n7 c7, .int .i64 pos]] w _
  clear hW hA hL bx
  go_enter Tryz.func198, Tryz.ntmps198
  go_upto_region 1 with (fail)
  (try simp only [size_alloc])
  rw [← hw1]
  clear hw1
  have x1_0 : w1.cell? ⟨w.heap.size + 1, 0, none⟩ = some (.int .u8 2) := E1.out.has 0 _ rfl
  have zz1 : w.heap.size + 1 < w1.heap.size := E1.out.lt
  have x1_1 : w1.cell? ⟨w.heap.size + 1, 1, none⟩ = some (.string nm) := E1.out.has 1 _ rfl
  have y1 : w1.cell? ⟨w.heap.size, 0, none⟩ = some (.pointer (some ⟨R, 0, none⟩)) := Q1.out.has 0 _ rfl
  have zq1 : w.heap.size < w1.heap.size := Q1.out.lt
  have z1 : w.heap.size + 1 < w1.heap.size := E1.out.lt
  have hB1 : B ≤ w1.heap.size := Nat.le_trans hB B1.out.size
  have P := Lib.hid (put3_calls B R ⟨#[108, 101, 116]⟩ nm ⟨#[123]⟩ T0 G0 ts _ w1 (new_drew w1 (.cells #[.string ⟨#[108, 101, 116]⟩, .string nm, .string ⟨#[123]⟩] 9)) (drew_new w1 _) hB1 A1.out (by decide) hsn (by decide) HL.out.less.less.less)
  go_upto_region 7 with (fail)
  go_cut [3] from 26 to 33 (fun s3 wx => s3 = .pointer (some ⟨w.heap.size + 1, 0, none⟩) ∧ Hid (AtW B R T0 G0 (ts ++ [wLet, kT nm, wLeft]) wx) ∧ Hid (WBut B R w1 wx))
  case first =>
    go_region_held3 (fun w' => w'.cell? ⟨w.heap.size, 0, none⟩ = some (.pointer (some ⟨R, 0, none⟩)) ∧ w'.cell? ⟨w.heap.size + 1, 1, none⟩ = some (.string nm)) (first | exact ⟨y1, x1_1⟩ | exact ⟨(low_new w1 _ _ _ zq1).trans y1, (low_new w1 _ _ _ z1).trans x1_1⟩ | exact ⟨XQ, XB1⟩)
      (first
        | (go_at_call 98; (with_reducible refine (P.out).mono ?_)
           rintro e wy ⟨rfl, h1, b1⟩
           have H1 := Lib.hid h1
           have BB := Lib.hid b1
           have XQ := (Q1.out.safe.cell b1 0).trans y1
           have XB1 := (E1.out.safe.cell b1 1).trans x1_1
           clear h1 b1))
    go_wp2_with fail
    go_meet
    case rel => exact ⟨rfl, H1, BB⟩
  case rest =>
    obtain ⟨rfl, A2, b⟩ := hcut
    have B2 := Lib.hid (B1.out.trans b.out)
    have E2 := Lib.hid (E1.out.but b.out)
    have Q2 := Lib.hid (Q1.out.but b.out)
    obtain ⟨w2, hwc⟩ : ∃ x, x = wc := ⟨_, rfl⟩
    rw [← hwc] at A2 B2 E2 Q2 ⊢
    clear hwc b P x1_1 z1 A1 E1 y1 zq1 Q1
    have x2_3 : w2.cell? ⟨w.heap.size + 1, 3, none⟩ = some (.slice a1 n1 c1) := E2.out.has 3 _ rfl
    have y2 : w2.cell? ⟨w.heap.size, 0, none⟩ = some (.pointer (some ⟨R, 0, none⟩)) := Q2.out.has 0 _ rfl
    have zq2 : w.heap.size < w2.heap.size := Q2.out.lt
    have z2 : w.heap.size + 1 < w2.heap.size := E2.out.lt
    have hB2 : B ≤ w2.heap.size := Nat.le_trans hB B2.out.size
    have bd : Below w2.heap.size w2 w2.drew := (Below.refl _ w2).drew
    have DW : WBut B R w2 w2.drew := WBut.of bd hB2
    have hnl : n1 = ns.length := by
      obtain ⟨_, _, _, en, _⟩ := sn
      injection en
    have hml : n1 ≤ maxLen := by rw [hnl]; exact sn.1
    have hml' : n1 ≤ 9223372036854775807 := by unfold maxLen at hml; omega
    have P : Hid (Calls Tryz.prog 145 #[.pointer (some ⟨R, 0, none⟩), .int .i64 n1, .func (.func 214) #[] #[.pointer (some ⟨w.heap.size, 0, none⟩), .pointer (some ⟨w.heap.size + 1, 0, none⟩)]] w2.drew fun e w' => e = .returned (.tuple #[]) ∧ AtW B R T0 G0 ((ts ++ [wLet, kT nm, wLeft]) ++ joinT (ns.map fun x => [kT x])) w' ∧ WBut B R w2.drew w') := Lib.hid (by
      have C := list_calls B R (lb := #[.pointer (some ⟨w.heap.size, 0, none⟩), .pointer (some ⟨w.heap.size + 1, 0, none⟩)]) (ns.map fun x => [kT x]) T0 G0 (ts ++ [wLet, kT nm, wLeft]) w2.drew stmt1_enters (by simpa using hB2) (A2.out.stays bd) (by rw [List.length_map, ← hnl]; exact hml) HL.out.less.less (by
        intro i a ha us W hBW bW hAW hLW
        rw [List.getElem?_map, Option.map_eq_some_iff] at ha
        obtain ⟨z, hz, rfl⟩ := ha
        have hil : i < n1 := by rw [hnl]; exact (List.getElem?_eq_some_iff.1 hz).1
        obtain ⟨_, aon, cpn, en, hkn⟩ := sn
        injection en with en1 en2 en3
        subst en1; subst en3
        obtain ⟨rfl, hbB⟩ := hkn.resolve_left (by omega)
        obtain ⟨hsz, cz⟩ := NRow.get RN.out hz
        have bl : Below B w W := (B2.out.trans (DW.trans bW)).bel
        have cz' : W.cell? ⟨bn, on + i, none⟩ = some (.string z) := by
          have := cz.below hbB bl 0 _ rfl
          simpa using this
        exact stmt1_calls B R z i n1 hil hml w.heap.size (w.heap.size + 1) bn on _ T0 G0 us W hBW hAW hsz hLW ((Q2.out.safe.but DW).but bW) ((E2.out.safe.but DW).but bW) (((Q2.out.safe.cell DW 0).symm ▸ ((Q2.out.safe.but DW).cell bW 0)).trans y2) (((E2.out.safe.but DW).cell bW 3).trans ((E2.out.safe.cell DW 3).trans x2_3)) hbB cz')
      rw [List.length_map, ← hnl] at C
      exact C)
    clear hnl hml
    go_upto_region 8 with (fail)
    go_cut [3] from 33 to 41 (fun s3 wx => s3 = .pointer (some ⟨w.heap.size + 1, 0, none⟩) ∧ Hid (AtW B R T0 G0 ((ts ++ [wLet, kT nm, wLeft]) ++ joinT (ns.map fun x => [kT x])) wx) ∧ Hid (WBut B R w2 wx))
    case first =>
      go_region_with (first
        | (go_at_call 145; (with_reducible refine (P.out).mono ?_)
           rintro e wz ⟨rfl, h, b⟩
           have AZ := Lib.hid h
           have BZ := Lib.hid (DW.trans b)
           clear h b))
      all_goals
        go_wp2_with fail
        go_meet
        case rel => exact ⟨rfl, AZ, BZ⟩
    case rest =>
      obtain ⟨rfl, A3, b⟩ := hcut
      have B3 := Lib.hid (B2.out.trans b.out)
      have E3 := Lib.hid (E2.out.but b.out)
      have Q3 := Lib.hid (Q2.out.but b.out)
      obtain ⟨w3, hwc⟩ : ∃ x, x = wc := ⟨_, rfl⟩
      rw [← hwc] at A3 B3 E3 Q3 ⊢
      clear hwc b P x2_3 z2 A2 E2 y2 zq2 Q2 DW bd
      have y3 : w3.cell? ⟨w.heap.size, 0, none⟩ = some (.pointer (some ⟨R, 0, none⟩)) := Q3.out.has 0 _ rfl
      have zq3 : w.heap.size < w3.heap.size := Q3.out.lt
      have z3 : w.heap.size + 1 < w3.heap.size := E3.out.lt
      have hB3 : B ≤ w3.heap.size := Nat.le_trans hB B3.out.size
      have P := Lib.hid (put2_calls B R ⟨#[125]⟩ ⟨#[61]⟩ T0 G0 ((ts ++ [wLet, kT nm, wLeft]) ++ joinT (ns.map fun x => [kT x])) _ w3 (new_only w3 (.cells #[.string ⟨#[125]⟩, .string ⟨#[61]⟩] 9)) (heap_alloc_new w3 _) hB3 A3.out (by decide) (by decide) HL.out.less)
      go_wp2_with fail
      (with_reducible refine (P.out).mono ?_)
      rintro e w4 ⟨rfl, h, b⟩
      have A4 := Lib.hid h
      have B4 := Lib.hid (B3.out.trans b)
      have E4 := Lib.hid (E3.out.but b)
      have Q4 := Lib.hid (Q3.out.but b)
      clear h b P  z3 A3 E3 y3 zq3 Q3
      have x4_10 : w4.cell? ⟨w.heap.size + 1, 10, none⟩ = some (.slice (some ⟨b4, o4, none⟩) 1 c4) := E4.out.has 10 _ rfl
      have y4 : w4.cell? ⟨w.heap.size, 0, none⟩ = some (.pointer (some ⟨R, 0, none⟩)) := Q4.out.has 0 _ rfl
      have zq4 : w.heap.size < w4.heap.size := Q4.out.lt
      have z4 : w.heap.size + 1 < w4.heap.size := E4.out.lt
      have hB4 : B ≤ w4.heap.size := Nat.le_trans hB B4.out.size
      have ce4 := HCE.out.below hb4 B4.out.bel
      have u4_0 : w4.cell? ⟨b4, o4, none⟩ = some (.int .u8 xe.op) := by simpa using ce4 0 _ rfl
      have u4_1 : w4.cell? ⟨b4, o4 + 1, none⟩ = some (.int .i64 xe.int) := by simpa using ce4 1 _ rfl
      have u4_2 : w4.cell? ⟨b4, o4 + 2, none⟩ = some (.string xe.name) := by simpa using ce4 2 _ rfl
      have u4_3 : w4.cell? ⟨b4, o4 + 3, none⟩ = some (.string xe.second) := by simpa using ce4 3 _ rfl
      have u4_4 : w4.cell? ⟨b4, o4 + 4, none⟩ = some (.string xe.place.name) := by simpa using ce4 4 _ rfl
      have u4_5 : w4.cell? ⟨b4, o4 + 5, none⟩ = some (.slice g1 l1 m1) := by simpa using ce4 5 _ rfl
      have u4_6 : w4.cell? ⟨b4, o4 + 6, none⟩ = some (.slice g2 l2 m2) := by simpa using ce4 6 _ rfl
      have u4_7 : w4.cell? ⟨b4, o4 + 7, none⟩ = some (.int .i64 xe.pos) := by simpa using ce4 7 _ rfl
      have zb4 : b4 < w4.heap.size := by have := hB4; omega
      clear ce4
      have bd : Below w4.heap.size w4 w4.drew := (Below.refl _ w4).drew
      have P : Hid (Calls Tryz.prog 213 #[.pointer (some ⟨R, 0, none⟩), .agg #[.int .u8 xe.op, .int .i64 xe.int, .string xe.name, .string xe.second, .string xe.place.name, .slice g1 l1 m1, .slice g2 l2 m2, .int .i64 xe.pos]] w4.drew fun e w' => e = .returned (.tuple #[]) ∧ AtW B R T0 G0 ((((ts ++ [wLet, kT nm, wLeft]) ++ joinT (ns.map fun x => [kT x])) ++ [wRight, wGives]) ++ (tokE xe ++ [wSemi])) w' ∧ WBut B R w4.drew w') := Lib.hid (end_calls B R xe he T0 G0 (((ts ++ [wLet, kT nm, wLeft]) ++ joinT (ns.map fun x => [kT x])) ++ [wRight, wGives]) ⟨.slice g1 l1 m1, .slice g2 l2 m2⟩ w4.drew (by simpa using hB4) ((HW.out.below B4.out.bel).below (bd.mono hB4)) (A4.out.stays bd) (PE.In.below (bd.mono hB4) (PE.In.below B4.out.bel HIE.out)) HL.out)
      have WD : WBut B R w w4.drew := B4.out.trans (WBut.of bd hB4)
      clear bd
      go_upto_region 10 with (fail)
      go_region_with (first
        | (go_at_call 213; (with_reducible refine (P.out).mono ?_)
           rintro e wz ⟨rfl, h, b⟩
           have AZ := Lib.hid h
           have BZ := Lib.hid (WD.trans b)
           clear h b))
      all_goals
        go_wp2
        go_end0
        exact ⟨rfl, AZ.out, BZ.out⟩
set_option maxRecDepth 100000 in
set_option maxHeartbeats 4000000 in
theorem st_chan (B R : Nat) (nm sc : ByteArray) (ns : List ByteArray) (ty : PT) (it : Int) (pl : PP) (es : List PE) (bo el : List PS) (ar : List PA) (pos : Int) (ht : TypedAt B R ty) (T0 G0 : TkB) (ts : List TkB) (v : VS) (w : World) (hB : B ≤ w.heap.size) (hW : Words B w) (hA : AtW B R T0 G0 ts w) (hx : PS.In B w (.mk 12 nm sc ns ty it pl es bo el ar pos) v) (hL : Lim T0 G0 (ts ++ (wChan :: wLess :: (tokT ty ++ [wMore, wOpen, Lib.itoa it, wEnd, wAs, kT nm, wComma, kT sc, wSemi])))) :
    Calls Tryz.prog 198 #[.pointer (some ⟨R, 0, none⟩), .agg (PS.cells (.mk 12 nm sc ns ty it pl es bo el ar pos) v).toArray] w fun e w' => e = .returned (.tuple #[]) ∧ AtW B R T0 G0 (ts ++ (wChan :: wLess :: (tokT ty ++ [wMore, wOpen, Lib.itoa it, wEnd, wAs, kT nm, wComma, kT sc, wSemi]))) w' ∧ WBut B R w w' := by
  have HX := Lib.hid hx
  obtain ⟨a1, n1, c1, a2, n2, c2, a3, n3, c3, a4, n4, c4, a5, n5, c5, a6, n6, c6, a7, n7, c7, rfl⟩ := hx.shape
  obtain ⟨⟨_, hi64, _, hsn, hss⟩, ⟨bn, on, sn, rn⟩, hty, hpl, ⟨b4, o4, s4, r4⟩, ⟨b5, o5, s5, r5⟩, ⟨b6, o6, s6, r6⟩, b7, o7, s7, r7⟩ := hx
  have RN := Lib.hid rn
  have R4 := Lib.hid r4
  have R5 := Lib.hid r5
  have R6 := Lib.hid r6
  have R7 := Lib.hid r7
  have HTY := Lib.hid hty
  have HPL := Lib.hid hpl
  clear rn r4 r5 r6 r7 hty hpl
  have hRR : R < w.heap.size := hA.lt
  obtain ⟨w1, hw1⟩ : ∃ w1, w1 = (w.alloc (.cells #[.pointer (some ⟨R, 0, none⟩)] 81)).alloc (.cells #[.int .u8 12, .string nm, .string sc, .slice a1 n1 c1, .int .u8 ty.kind, .string ty.name, .slice a2 n2 c2, .int .i64 it, .string pl.name, .slice a3 n3 c3, .slice a4 n4 c4, .slice a5 n5 c5, .slice a6 n6 c6, .slice a7 n7 c7, .int .i64 pos] 130) := ⟨_, rfl⟩
  have bx : Below w.heap.size w w1 := by rw [hw1]; exact (new_only _ _).alloc (by simp) _
  have E1 : Hid (CBox R (w.heap.size + 1) [.int .u8 12, .string nm, .string sc, .slice a1 n1 c1, .int .u8 ty.kind, .string ty.name, .slice a2 n2 c2, .int .i64 it, .string pl.name, .slice a3 n3 c3, .slice a4 n4 c4, .slice a5 n5 c5, .slice a6 n6 c6, .slice a7 n7 c7, .int .i64 pos] w1) := Lib.hid (by rw [hw1]; exact CBox.new2 _ _ _ (by decide) hRR)
  have Q1 : Hid (CBox R w.heap.size [.pointer (some ⟨R, 0, none⟩)] w1) := Lib.hid (by rw [hw1]; exact CBox.old _ _ nePW hRR)
  have et : ts ++ (wChan :: wLess :: (tokT ty ++ [wMore, wOpen, Lib.itoa it, wEnd, wAs, kT nm, wComma, kT sc, wSemi])) = ((ts ++ [wChan, wLess]) ++ tokT ty) ++ [wMore, wOpen, Lib.itoa it, wEnd, wAs, kT nm, wComma, kT sc, wSemi] := by simp
  rw [et] at hL ⊢
  clear et
  have B1 : Hid (WBut B R w w1) := Lib.hid (WBut.of bx hB (R := R))
  have HW := Lib.hid hW
  have A1 := Lib.hid (hA.stays bx)
  have HL := Lib.hid hL
  show Calls Tryz.prog 198 #[.pointer (some ⟨R, 0, none⟩), .agg #[.int .u8 12, .string nm, .string sc, .slice a1 n1 c1, .int .u8 ty.kind, .string ty.name, .slice a2 n2 c2, .int .i64 it, .string pl.name, .slice a3 n3 c3, .slice a4 n4 c4, .slice a5 n5 c5, .slice a6 n6 c6, .slice a7 n7 c7, .int .i64 pos]] w _
  clear hW hA hL bx
  go_enter Tryz.func198, Tryz.ntmps198
  go_upto_region 1 with (fail)
  (try simp only [size_alloc])
  rw [← hw1]
  clear hw1
  have x1_0 : w1.cell? ⟨w.heap.size + 1, 0, none⟩ = some (.int .u8 12) := E1.out.has 0 _ rfl
  have zz1 : w.heap.size + 1 < w1.heap.size := E1.out.lt
  have y1 : w1.cell? ⟨w.heap.size, 0, none⟩ = some (.pointer (some ⟨R, 0, none⟩)) := Q1.out.has 0 _ rfl
  have zq1 : w.heap.size < w1.heap.size := Q1.out.lt
  have z1 : w.heap.size + 1 < w1.heap.size := E1.out.lt
  have hB1 : B ≤ w1.heap.size := Nat.le_trans hB B1.out.size
  have P := Lib.hid (put2_calls B R ⟨#[99, 104, 97, 110]⟩ ⟨#[60]⟩ T0 G0 ts _ w1 (new_only w1 (.cells #[.string ⟨#[99, 104, 97, 110]⟩, .string ⟨#[60]⟩] 9)) (heap_alloc_new w1 _) hB1 A1.out (by decide) (by decide) HL.out.less.less)
  go_wp2_with fail
  (with_reducible refine (P.out).mono ?_)
  rintro e w2 ⟨rfl, h, b⟩
  have A2 := Lib.hid h
  have B2 := Lib.hid (B1.out.trans b)
  have E2 := Lib.hid (E1.out.but b)
  have Q2 := Lib.hid (Q1.out.but b)
  clear h b P  z1 A1 E1 y1 zq1 Q1
  have x2_4 : w2.cell? ⟨w.heap.size + 1, 4, none⟩ = some (.int .u8 ty.kind) := E2.out.has 4 _ rfl
  have x2_5 : w2.cell? ⟨w.heap.size + 1, 5, none⟩ = some (.string ty.name) := E2.out.has 5 _ rfl
  have x2_6 : w2.cell? ⟨w.heap.size + 1, 6, none⟩ = some (.slice a2 n2 c2) := E2.out.has 6 _ rfl
  have y2 : w2.cell? ⟨w.heap.size, 0, none⟩ = some (.pointer (some ⟨R, 0, none⟩)) := Q2.out.has 0 _ rfl
  have zq2 : w.heap.size < w2.heap.size := Q2.out.lt
  have z2 : w.heap.size + 1 < w2.heap.size := E2.out.lt
  have hB2 : B ≤ w2.heap.size := Nat.le_trans hB B2.out.size
  have P := Lib.hid (ht T0 G0 (ts ++ [wChan, wLess]) (.slice a2 n2 c2) w2 hB2 (HW.out.below B2.out.bel) A2.out (PT.In.below B2.out.bel HTY.out) HL.out.less)
  go_wp2_with fail
  (with_reducible refine (P.out).mono ?_)
  rintro e w3 ⟨rfl, h, b⟩
  have A3 := Lib.hid h
  have B3 := Lib.hid (B2.out.trans b)
  have E3 := Lib.hid (E2.out.but b)
  have Q3 := Lib.hid (Q2.out.but b)
  clear h b P x2_4 x2_5 x2_6 z2 A2 E2 y2 zq2 Q2
  have x3_1 : w3.cell? ⟨w.heap.size + 1, 1, none⟩ = some (.string nm) := E3.out.has 1 _ rfl
  have x3_2 : w3.cell? ⟨w.heap.size + 1, 2, none⟩ = some (.string sc) := E3.out.has 2 _ rfl
  have x3_7 : w3.cell? ⟨w.heap.size + 1, 7, none⟩ = some (.int .i64 it) := E3.out.has 7 _ rfl
  have y3 : w3.cell? ⟨w.heap.size, 0, none⟩ = some (.pointer (some ⟨R, 0, none⟩)) := Q3.out.has 0 _ rfl
  have zq3 : w.heap.size < w3.heap.size := Q3.out.lt
  have z3 : w.heap.size + 1 < w3.heap.size := E3.out.lt
  have hB3 : B ≤ w3.heap.size := Nat.le_trans hB B3.out.size
  have h0 : -9223372036854775808 ≤ it := i64_ge hi64
  have h1 : it ≤ 9223372036854775807 := i64_lt hi64
  have HWk := Lib.hid (HW.out.below B3.out.bel)
  have HI := Lib.hid (fun (W : World) (kk : Below B w3 W) => Tryz.strconv_FormatInt_10 it h0 h1 W (HWk.out.tens W kk))
  have hsz : (⟨(Lib.itoa it).toArray⟩ : ByteArray).size ≤ maxLen := by
    show (Lib.itoa it).toArray.size ≤ _
    rw [List.size_toArray]
    have := Lib.itoa_length_le it h0 h1
    unfold maxLen; omega
  have ek : kT ⟨(Lib.itoa it).toArray⟩ = Lib.itoa it := kT_mk _
  obtain ⟨D, hD⟩ : ∃ D : ByteArray, D = ⟨(Lib.itoa it).toArray⟩ := ⟨_, rfl⟩
  rw [← hD] at hsz ek HI
  have HP1 := Lib.hid (fun (W : World) g1 g2 => putl_calls B R [⟨#[62]⟩, ⟨#[40]⟩, D, ⟨#[41]⟩, ⟨#[97, 115]⟩, nm, ⟨#[44]⟩, sc, ⟨#[59]⟩] (by simp) T0 G0 ((ts ++ [wChan, wLess]) ++ tokT ty) _ W (new_only W (.cells #[.string ⟨#[62]⟩, .string ⟨#[40]⟩, .string D, .string ⟨#[41]⟩, .string ⟨#[97, 115]⟩, .string nm, .string ⟨#[44]⟩, .string sc, .string ⟨#[59]⟩] 9)) (heap_alloc_new W _) g1 g2 (fun a ha => by
    simp only [List.mem_cons, List.not_mem_nil, or_false] at ha
    rcases ha with rfl | rfl | rfl | rfl | rfl | rfl | rfl | rfl | rfl <;> first | assumption | decide) (by
      show Lim T0 G0 (((ts ++ [wChan, wLess]) ++ tokT ty) ++ [wMore, wOpen, kT D, wEnd, wAs, kT nm, wComma, kT sc, wSemi])
      rw [ek]; exact HL.out))
  have HP2 : Hid (∀ W : World, B ≤ W.heap.size → AtW B R T0 G0 ((ts ++ [wChan, wLess]) ++ tokT ty) W → Calls Tryz.prog 98 #[.pointer (some ⟨R, 0, none⟩), .slice (some ⟨W.heap.size, 0, none⟩) 9 9] (W.alloc (.cells #[.string ⟨#[62]⟩, .string ⟨#[40]⟩, .string D, .string ⟨#[41]⟩, .string ⟨#[97, 115]⟩, .string nm, .string ⟨#[44]⟩, .string sc, .string ⟨#[59]⟩] 9)) fun e w' => e = .returned (.tuple #[]) ∧ AtW B R T0 G0 (((ts ++ [wChan, wLess]) ++ tokT ty) ++ [wMore, wOpen, Lib.itoa it, wEnd, wAs, kT nm, wComma, kT sc, wSemi]) w' ∧ WBut B R W w') := Lib.hid (fun W g1 g2 => by
    have := HP1.out W g1 g2
    rw [← ek]
    exact this)
  clear hD ek HP1

  have hd : Below B w3 w3.drew := (Below.refl _ w3).drew.mono hB3
  go_upto_region 22 with (fail)
  go_region_held3 (fun w' => w'.cell? ⟨w.heap.size, 0, none⟩ = some (.pointer (some ⟨R, 0, none⟩)) ∧ w'.cell? ⟨w.heap.size + 1, 1, none⟩ = some (.string nm) ∧ w'.cell? ⟨w.heap.size + 1, 2, none⟩ = some (.string sc) ∧ w'.cell? ⟨w.heap.size + 1, 7, none⟩ = some (.int .i64 it)) (first | exact ⟨y3, x3_1, x3_2, x3_7⟩ | exact ⟨XQ, XA1, XA2, XA7⟩ | exact ⟨(low_new w2 _ _ _ hq2).trans XQ, (low_new w2 _ _ _ hz2).trans XA1, (low_new w2 _ _ _ hz2).trans XA2, (low_new w2 _ _ _ hz2).trans XA7⟩ | exact ⟨XR, XB1, XB2, XB7⟩)
    (first
      | (go_at_call 99; (with_reducible refine (HI.out _ hd).mono ?_)
         rintro e w2 ⟨rfl, kk, os, hw2⟩
         have b2 := grow_belowW hw2
         clear hw2
         have hz2 : w.heap.size + 1 < w2.heap.size := Nat.lt_of_lt_of_le z3 b2.size
         have hq2 : w.heap.size < w2.heap.size := Nat.lt_of_lt_of_le zq3 b2.size
         have XQ := (b2.cell (p := ⟨w.heap.size, 0, none⟩) zq3).trans y3
         have XA1 := (b2.cell (p := ⟨w.heap.size + 1, 1, none⟩) z3).trans x3_1
         have XA2 := (b2.cell (p := ⟨w.heap.size + 1, 2, none⟩) z3).trans x3_2
         have XA7 := (b2.cell (p := ⟨w.heap.size + 1, 7, none⟩) z3).trans x3_7
         have C2 := Lib.hid (HP2.out w2 (Nat.le_trans hB3 b2.size) (A3.out.stays b2))
         have B2 := Lib.hid (B3.out.trans (WBut.of b2 hB3))
         have B2K := Lib.hid b2
         clear b2)
      | (go_at_call 98; (with_reducible refine (C2.out).mono ?_)
         rintro e wz ⟨rfl, h9, b9⟩
         have AZ := Lib.hid h9
         have BZ := Lib.hid (B2.out.trans b9)
         have XR := ((Q3.out.safe.but (WBut.of B2K.out hB3)).cell b9 0).trans XQ
         have XB1 := ((E3.out.safe.but (WBut.of B2K.out hB3)).cell b9 1).trans XA1
         have XB2 := ((E3.out.safe.but (WBut.of B2K.out hB3)).cell b9 2).trans XA2
         have XB7 := ((E3.out.safe.but (WBut.of B2K.out hB3)).cell b9 7).trans XA7
         clear h9 b9))
  all_goals
    go_wp2
    go_end0
    exact ⟨rfl, AZ.out, BZ.out⟩
end Go.Proofs.YthilicmhdkmipaaGreatDoor

