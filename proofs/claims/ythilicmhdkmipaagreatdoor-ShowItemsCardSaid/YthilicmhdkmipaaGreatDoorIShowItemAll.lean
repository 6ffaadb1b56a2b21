/- What the writer writes of an item that is whole. -/
import Derived.Test.YthilicmhdkmipaaGreatDoorIJoinAU
import Derived.Test.YthilicmhdkmipaaGreatDoorIJoinAH
namespace Go.Proofs.YthilicmhdkmipaaGreatDoor
open Go.RowKit
set_option linter.unusedVariables false

theorem item1_enters : ∀ args w, (callFunc 146 args).run Tryz.prog w = .ok (.enter 146 args) w := enters_of Tryz.func146 (by kernel_rfl) rfl
theorem variant_calls (B R : Nat) (f : PF) (ht : f.type.kind ≠ 0 → TypedAt B R f.type) (T0 G0 : TkB) (ts : List TkB) (v : Value) (w : World) (hB : B ≤ w.heap.size) (hW : Words B w) (hA : AtW B R T0 G0 ts w) (hx : PF.In B w f v) (hL : Lim T0 G0 (ts ++ variantT f)) :
    Calls Tryz.prog 147 #[.pointer (some ⟨R, 0, none⟩), .agg (PF.cells f v).toArray] w fun e w' => e = .returned (.tuple #[]) ∧ AtW B R T0 G0 (ts ++ variantT f) w' ∧ WBut B R w w' := by
  obtain ⟨nm, t⟩ := f
  by_cases h0 : t.kind = 0
  · have e : variantT ⟨nm, t⟩ = [kT nm] := by unfold variantT; rw [if_pos h0]
    rw [e] at hL ⊢
    exact variant_bare B R nm t h0 T0 G0 ts v w hB hW hA hx hL
  · have e : variantT ⟨nm, t⟩ = kT nm :: wOpen :: (tokT t ++ [wEnd]) := by unfold variantT; rw [if_neg h0]
    rw [e] at hL ⊢
    exact variant_with B R nm t h0 (ht h0) T0 G0 ts v w hB hW hA hx hL
set_option maxRecDepth 100000 in
set_option maxHeartbeats 4000000 in
theorem item1_calls (B R : Nat) (f : PF) (ht : f.type.kind ≠ 0 → TypedAt B R f.type) (k n : Nat) (hk : k < n) (hn : n ≤ maxLen) (gw gi b o cap : Nat) (T0 G0 : TkB) (ts : List TkB) (v : Value) (w : World) (hB : B ≤ w.heap.size) (hW : Words B w) (hA : AtW B R T0 G0 ts w) (hx : f.In B w v) (hL : Lim T0 G0 (ts ++ variantT f))
    (h0 : w.cell? ⟨gw, 0, none⟩ = some (.pointer (some ⟨R, 0, none⟩))) (h1 : w.cell? ⟨gi, 2, none⟩ = some (.slice (some ⟨b, o, none⟩) n cap)) (hc : CellsAt w b (o + k * 4) (f.cells v)) :
    Calls Tryz.prog 146 #[.int .i64 k, .pointer (some ⟨gw, 0, none⟩), .pointer (some ⟨gi, 0, none⟩)] w fun e w' => e = .returned (.tuple #[]) ∧ AtW B R T0 G0 (ts ++ variantT f) w' ∧ WBut B R w w' := by
  obtain ⟨p1, m1, c1, rfl⟩ := hx.2.shape
  have hn' : n ≤ 9223372036854775807 := by unfold maxLen at hn; omega
  have bd : Below w.heap.size w w.drew := (Below.refl _ w).drew
  have P : Hid (Calls Tryz.prog 147 #[.pointer (some ⟨R, 0, none⟩), .agg #[.string f.name, .int .u8 f.type.kind, .string f.type.name, .slice p1 m1 c1]] w.drew fun e w' => e = .returned (.tuple #[]) ∧ AtW B R T0 G0 (ts ++ variantT f) w' ∧ WBut B R w.drew w') := Lib.hid (variant_calls B R f ht T0 G0 ts _ w.drew (by simpa using hB) (hW.below (bd.mono hB)) (hA.stays bd) (PF.In.below (bd.mono hB) hx) hL)
  have x0 : w.cell? ⟨b, o + k * 4, none⟩ = some (.string f.name) := by simpa using hc 0 _ rfl
  have x1 : w.cell? ⟨b, o + k * 4 + 1, none⟩ = some (.int .u8 f.type.kind) := hc 1 _ rfl
  have x2 : w.cell? ⟨b, o + k * 4 + 2, none⟩ = some (.string f.type.name) := hc 2 _ rfl
  have x3 : w.cell? ⟨b, o + k * 4 + 3, none⟩ = some (.slice p1 m1 c1) := hc 3 _ rfl
  have WD : WBut B R w w.drew := WBut.of bd hB
  clear hW hA hx hL ht hc bd
  generalize variantT f = tx at *
  go_enter Tryz.func146, Tryz.ntmps146
  go_region_with (first
    | (go_at_call 147; (with_reducible refine (P.out).mono ?_)
       rintro e w3 ⟨rfl, h3, b3⟩
       have H3 := Lib.hid h3
       have B3 := Lib.hid (WD.trans b3)
       clear h3 b3))
  all_goals
    go_wp2
    go_end0
    exact ⟨rfl, H3.out, B3.out⟩
set_option maxRecDepth 100000 in
set_option maxHeartbeats 4000000 in
theorem item_struct (B R : Nat) (nm : ByteArray) (fs : List PF) (ty : PT) (bo : List PS) (ret : PE) (pos : Int) (hf : ∀ x ∈ fs, TypedAt B R x.type) (T0 G0 : TkB) (ts : List TkB) (v : VI) (w : World) (hB : B ≤ w.heap.size) (hW : Words B w) (hA : AtW B R T0 G0 ts w) (hx : PI.In B w ⟨1, nm, fs, ty, bo, ret, pos⟩ v) (hL : Lim T0 G0 (ts ++ (wStruct :: kT nm :: wLeft :: (joinT (fs.map fieldT) ++ [wRight])))) :
    Calls Tryz.prog 88 #[.pointer (some ⟨R, 0, none⟩), .agg (PI.cells ⟨1, nm, fs, ty, bo, ret, pos⟩ v).toArray] w fun e w' => e = .returned (.tuple #[]) ∧ AtW B R T0 G0 (ts ++ (wStruct :: kT nm :: wLeft :: (joinT (fs.map fieldT) ++ [wRight]))) w' ∧ WBut B R w w' := by
  have HX := Lib.hid hx
  obtain ⟨a1, n1, c1, a2, n2, c2, a3, n3, c3, a4, n4, c4, a5, n5, c5, rfl⟩ := hx.shape
  obtain ⟨⟨_, _, hsn⟩, ⟨b1, o1, s1, r1⟩, _⟩ := hx
  have R1 := Lib.hid r1
  clear r1
  have hRR : R < w.heap.size := hA.lt
  obtain ⟨w1, hw1⟩ : ∃ w1, w1 = (w.alloc (.cells #[.pointer (some ⟨R, 0, none⟩)] 81)).alloc (.cells #[.int .u8 1, .string nm, .slice a1 n1 c1, .int .u8 ty.kind, .string ty.name, .slice a2 n2 c2, .slice a3 n3 c3, .int .u8 ret.op, .int .i64 ret.int, .string ret.name, .string ret.second, .string ret.place.name, .slice a4 n4 c4, .slice a5 n5 c5, .int .i64 ret.pos, .int .i64 pos] 68) := ⟨_, rfl⟩
  have bx : Below w.heap.size w w1 := by rw [hw1]; exact (new_only _ _).alloc (by simp) _
  have E1 : Hid (CBox R (w.heap.size + 1) [.int .u8 1, .string nm, .slice a1 n1 c1, .int .u8 ty.kind, .string ty.name, .slice a2 n2 c2, .slice a3 n3 c3, .int .u8 ret.op, .int .i64 ret.int, .string ret.name, .string ret.second, .string ret.place.name, .slice a4 n4 c4, .slice a5 n5 c5, .int .i64 ret.pos, .int .i64 pos] w1) := Lib.hid (by rw [hw1]; exact CBox.new2 _ _ _ (by decide) hRR)
  have Q1 : Hid (CBox R w.heap.size [.pointer (some ⟨R, 0, none⟩)] w1) := Lib.hid (by rw [hw1]; exact CBox.old _ _ nePW hRR)
  have et : ts ++ (wStruct :: kT nm :: wLeft :: (joinT (fs.map fieldT) ++ [wRight])) = ((ts ++ [wStruct, kT nm, wLeft]) ++ joinT (fs.map fieldT)) ++ [wRight] := by simp
  rw [et] at hL ⊢
  clear et
  have B1 : Hid (WBut B R w w1) := Lib.hid (WBut.of bx hB (R := R))
  have HW := Lib.hid hW
  have A1 := Lib.hid (hA.stays bx)
  have HL := Lib.hid hL
  show Calls Tryz.prog 88 #[.pointer (some ⟨R, 0, none⟩), .agg #[.int .u8 1, .string nm, .slice a1 n1 c1, .int .u8 ty.kind, .string ty.name, .slice a2 n2 c2, .slice a3 n3 c3, .int .u8 ret.op, .int .i64 ret.int, .string ret.name, .string ret.second, .string ret.place.name, .slice a4 n4 c4, .slice a5 n5 c5, .int .i64 ret.pos, .int .i64 pos]] w _
  clear hW hA hL bx
  go_enter Tryz.func88, Tryz.ntmps88
  go_upto_region 1 with (fail)
  (try simp only [size_alloc])
  rw [← hw1]
  clear hw1
  have x1_0 : w1.cell? ⟨w.heap.size + 1, 0, none⟩ = some (.int .u8 1) := E1.out.has 0 _ rfl
  have zz1 : w.heap.size + 1 < w1.heap.size := E1.out.lt
  have x1_1 : w1.cell? ⟨w.heap.size + 1, 1, none⟩ = some (.string nm) := E1.out.has 1 _ rfl
  have y1 : w1.cell? ⟨w.heap.size, 0, none⟩ = some (.pointer (some ⟨R, 0, none⟩)) := Q1.out.has 0 _ rfl
  have zq1 : w.heap.size < w1.heap.size := Q1.out.lt
  have z1 : w.heap.size + 1 < w1.heap.size := E1.out.lt
  have hB1 : B ≤ w1.heap.size := Nat.le_trans hB B1.out.size
  have P := Lib.hid (put3_calls B R ⟨#[115, 116, 114, 117, 99, 116]⟩ nm ⟨#[123]⟩ T0 G0 ts _ w1 (new_drew w1 (.cells #[.string ⟨#[115, 116, 114, 117, 99, 116]⟩, .string nm, .string ⟨#[123]⟩] 9)) (drew_new w1 _) hB1 A1.out (by decide) hsn (by decide) HL.out.less.less)
  go_upto_region 3 with (fail)
  go_cut [3] from 8 to 15 (fun s3 wx => s3 = .pointer (some ⟨w.heap.size + 1, 0, none⟩) ∧ Hid (AtW B R T0 G0 (ts ++ [wStruct, kT nm, wLeft]) wx) ∧ Hid (WBut B R w1 wx))
  case first =>
    go_region_held3 (fun w' => w'.cell? ⟨w.heap.size, 0, none⟩ = some (.pointer (some ⟨R, 0, none⟩)) ∧ w'.cell? ⟨w.heap.size + 1, 1, none⟩ = some (.string nm)) (first | exact ⟨y1, x1_1⟩ | exact ⟨(low_new w1 _ _ _ zq1).trans y1, (low_new w1 _ _ _ z1).trans x1_1⟩ | exact ⟨XQ, XB1⟩)
      (first
        | (go_at_call 98; (with_reducible refine (P.out).mono ?_)
           rintro e wy ⟨rfl, h1, b1⟩
           have H1 := Lib.hid h1
           have BB := Lib.hid b1
           have XQ := (Q1.out.safe.cell b1 0).trans y1
           have XB1 := (E1.out.safe.cell b1 1).trans x1_1
           clear h1 b1))
    go_wp2_with fail
    go_meet
    case rel => exact ⟨rfl, H1, BB⟩
  case rest =>
    obtain ⟨rfl, A2, b⟩ := hcut
    have B2 := Lib.hid (B1.out.trans b.out)
    have E2 := Lib.hid (E1.out.but b.out)
    have Q2 := Lib.hid (Q1.out.but b.out)
    obtain ⟨w2, hwc⟩ : ∃ x, x = wc := ⟨_, rfl⟩
    rw [← hwc] at A2 B2 E2 Q2 ⊢
    clear hwc b P x1_1 z1 A1 E1 y1 zq1 Q1
    have x2_2 : w2.cell? ⟨w.heap.size + 1, 2, none⟩ = some (.slice a1 n1 c1) := E2.out.has 2 _ rfl
    have y2 : w2.cell? ⟨w.heap.size, 0, none⟩ = some (.pointer (some ⟨R, 0, none⟩)) := Q2.out.has 0 _ rfl
    have zq2 : w.heap.size < w2.heap.size := Q2.out.lt
    have z2 : w.heap.size + 1 < w2.heap.size := E2.out.lt
    have hB2 : B ≤ w2.heap.size := Nat.le_trans hB B2.out.size
    have P := Lib.hid (fields_calls B R fs hf T0 G0 (ts ++ [wStruct, kT nm, wLeft]) (.slice a1 n1 c1) b1 o1 w2 hB2 (HW.out.below B2.out.bel) A2.out s1 (PF.Row.below' B2.out.bel s1 R1.out) HL.out.less)
    go_wp2_with fail
    (with_reducible refine (P.out).mono ?_)
    rintro e w3 ⟨rfl, h, b⟩
    have A3 := Lib.hid h
    have B3 := Lib.hid (B2.out.trans b)
    have E3 := Lib.hid (E2.out.but b)
    have Q3 := Lib.hid (Q2.out.but b)
    clear h b P x2_2 z2 A2 E2 y2 zq2 Q2
    have y3 : w3.cell? ⟨w.heap.size, 0, none⟩ = some (.pointer (some ⟨R, 0, none⟩)) := Q3.out.has 0 _ rfl
    have zq3 : w.heap.size < w3.heap.size := Q3.out.lt
    have z3 : w.heap.size + 1 < w3.heap.size := E3.out.lt
    have hB3 : B ≤ w3.heap.size := Nat.le_trans hB B3.out.size
    have P := Lib.hid (put1_calls B R ⟨#[125]⟩ T0 G0 ((ts ++ [wStruct, kT nm, wLeft]) ++ joinT (fs.map fieldT)) _ w3 (new_only w3 (.cells #[.string ⟨#[125]⟩] 9)) (heap_alloc_new w3 _) hB3 A3.out (by decide) HL.out)
    go_wp2_with fail
    (with_reducible refine (P.out).mono ?_)
    rintro e w4 ⟨rfl, h, b⟩
    have A4 := Lib.hid h
    have B4 := Lib.hid (B3.out.trans b)
    have E4 := Lib.hid (E3.out.but b)
    have Q4 := Lib.hid (Q3.out.but b)
    clear h b P  z3 A3 E3 y3 zq3 Q3
    go_wp2
    go_end0
    exact ⟨rfl, A4.out, B4.out⟩
set_option maxRecDepth 100000 in
set_option maxHeartbeats 4000000 in
theorem item_enum (B R : Nat) (nm : ByteArray) (fs : List PF) (ty : PT) (bo : List PS) (ret : PE) (pos : Int) (hf : ∀ x ∈ fs, x.type.kind ≠ 0 → TypedAt B R x.type) (T0 G0 : TkB) (ts : List TkB) (v : VI) (w : World) (hB : B ≤ w.heap.size) (hW : Words B w) (hA : AtW B R T0 G0 ts w) (hx : PI.In B w ⟨2, nm, fs, ty, bo, ret, pos⟩ v) (hL : Lim T0 G0 (ts ++ (wEnum :: kT nm :: wLeft :: (joinT (fs.map variantT) ++ [wRight])))) :
    Calls Tryz.prog 88 #[.pointer (some ⟨R, 0, none⟩), .agg (PI.cells ⟨2, nm, fs, ty, bo, ret, pos⟩ v).toArray] w fun e w' => e = .returned (.tuple #[]) ∧ AtW B R T0 G0 (ts ++ (wEnum :: kT nm :: wLeft :: (joinT (fs.map variantT) ++ [wRight]))) w' ∧ WBut B R w w' := by
  have HX := Lib.hid hx
  obtain ⟨a1, n1, c1, a2, n2, c2, a3, n3, c3, a4, n4, c4, a5, n5, c5, rfl⟩ := hx.shape
  obtain ⟨⟨_, _, hsn⟩, ⟨b1, o1, s1, r1⟩, _⟩ := hx
  have R1 := Lib.hid r1
  clear r1
  have hRR : R < w.heap.size := hA.lt
  obtain ⟨w1, hw1⟩ : ∃ w1, w1 = (w.alloc (.cells #[.pointer (some ⟨R, 0, none⟩)] 81)).alloc (.cells #[.int .u8 2, .string nm, .slice a1 n1 c1, .int .u8 ty.kind, .string ty.name, .slice a2 n2 c2, .slice a3 n3 c3, .int .u8 ret.op, .int .i64 ret.int, .string ret.name, .string ret.second, .string ret.place.name, .slice a4 n4 c4, .slice a5 n5 c5, .int .i64 ret.pos, .int .i64 pos] 68) := ⟨_, rfl⟩
  have bx : Below w.heap.size w w1 := by rw [hw1]; exact (new_only _ _).alloc (by simp) _
  have E1 : Hid (CBox R (w.heap.size + 1) [.int .u8 2, .string nm, .slice a1 n1 c1, .int .u8 ty.kind, .string ty.name, .slice a2 n2 c2, .slice a3 n3 c3, .int .u8 ret.op, .int .i64 ret.int, .string ret.name, .string ret.second, .string ret.place.name, .slice a4 n4 c4, .slice a5 n5 c5, .int .i64 ret.pos, .int .i64 pos] w1) := Lib.hid (by rw [hw1]; exact CBox.new2 _ _ _ (by decide) hRR)
  have Q1 : Hid (CBox R w.heap.size [.pointer (some ⟨R, 0, none⟩)] w1) := Lib.hid (by rw [hw1]; exact CBox.old _ _ nePW hRR)
  have et : ts ++ (wEnum :: kT nm :: wLeft :: (joinT (fs.map variantT) ++ [wRight])) = ((ts ++ [wEnum, kT nm, wLeft]) ++ joinT (fs.map variantT)) ++ [wRight] := by simp
  rw [et] at hL ⊢
  clear et
  have B1 : Hid (WBut B R w w1) := Lib.hid (WBut.of bx hB (R := R))
  have HW := Lib.hid hW
  have A1 := Lib.hid (hA.stays bx)
  have HL := Lib.hid hL
  show Calls Tryz.prog 88 #[.pointer (some ⟨R, 0, none⟩), .agg #[.int .u8 2, .string nm, .slice a1 n1 c1, .int .u8 ty.kind, .string ty.name, .slice a2 n2 c2, .slice a3 n3 c3, .int .u8 ret.op, .int .i64 ret.int, .string ret.name, .string ret.second, .string ret.place.name, .slice a4 n4 c4, .slice a5 n5 c5, .int .i64 ret.pos, .int .i64 pos]] w _
  clear hW hA hL bx
  go_enter Tryz.func88, Tryz.ntmps88
  go_upto_region 1 with (fail)
  (try simp only [size_alloc])
  rw [← hw1]
  clear hw1
  have x1_0 : w1.cell? ⟨w.heap.size + 1, 0, none⟩ = some (.int .u8 2) := E1.out.has 0 _ rfl
  have zz1 : w.heap.size + 1 < w1.heap.size := E1.out.lt
  have x1_1 : w1.cell? ⟨w.heap.size + 1, 1, none⟩ = some (.string nm) := E1.out.has 1 _ rfl
  have y1 : w1.cell? ⟨w.heap.size, 0, none⟩ = some (.pointer (some ⟨R, 0, none⟩)) := Q1.out.has 0 _ rfl
  have zq1 : w.heap.size < w1.heap.size := Q1.out.lt
  have z1 : w.heap.size + 1 < w1.heap.size := E1.out.lt
  have hB1 : B ≤ w1.heap.size := Nat.le_trans hB B1.out.size
  have P := Lib.hid (put3_calls B R ⟨#[101, 110, 117, 109]⟩ nm ⟨#[123]⟩ T0 G0 ts _ w1 (new_drew w1 (.cells #[.string ⟨#[101, 110, 117, 109]⟩, .string nm, .string ⟨#[123]⟩] 9)) (drew_new w1 _) hB1 A1.out (by decide) hsn (by decide) HL.out.less.less)
  go_upto_region 7 with (fail)
  go_cut [3] from 26 to 33 (fun s3 wx => s3 = .pointer (some ⟨w.heap.size + 1, 0, none⟩) ∧ Hid (AtW B R T0 G0 (ts ++ [wEnum, kT nm, wLeft]) wx) ∧ Hid (WBut B R w1 wx))
  case first =>
    go_region_held3 (fun w' => w'.cell? ⟨w.heap.size, 0, none⟩ = some (.pointer (some ⟨R, 0, none⟩)) ∧ w'.cell? ⟨w.heap.size + 1, 1, none⟩ = some (.string nm)) (first | exact ⟨y1, x1_1⟩ | exact ⟨(low_new w1 _ _ _ zq1).trans y1, (low_new w1 _ _ _ z1).trans x1_1⟩ | exact ⟨XQ, XB1⟩)
      (first
        | (go_at_call 98; (with_reducible refine (P.out).mono ?_)
           rintro e wy ⟨rfl, h1, b1⟩
           have H1 := Lib.hid h1
           have BB := Lib.hid b1
           have XQ := (Q1.out.safe.cell b1 0).trans y1
           have XB1 := (E1.out.safe.cell b1 1).trans x1_1
           clear h1 b1))
    go_wp2_with fail
    go_meet
    case rel => exact ⟨rfl, H1, BB⟩
  case rest =>
    obtain ⟨rfl, A2, b⟩ := hcut
    have B2 := Lib.hid (B1.out.trans b.out)
    have E2 := Lib.hid (E1.out.but b.out)
    have Q2 := Lib.hid (Q1.out.but b.out)
    obtain ⟨w2, hwc⟩ : ∃ x, x = wc := ⟨_, rfl⟩
    rw [← hwc] at A2 B2 E2 Q2 ⊢
    clear hwc b P x1_1 z1 A1 E1 y1 zq1 Q1
    have x2_2 : w2.cell? ⟨w.heap.size + 1, 2, none⟩ = some (.slice a1 n1 c1) := E2.out.has 2 _ rfl
    have y2 : w2.cell? ⟨w.heap.size, 0, none⟩ = some (.pointer (some ⟨R, 0, none⟩)) := Q2.out.has 0 _ rfl
    have zq2 : w.heap.size < w2.heap.size := Q2.out.lt
    have z2 : w.heap.size + 1 < w2.heap.size := E2.out.lt
    have hB2 : B ≤ w2.heap.size := Nat.le_trans hB B2.out.size
    have bd : Below w2.heap.size w2 w2.drew := (Below.refl _ w2).drew
    have DW : WBut B R w2 w2.drew := WBut.of bd hB2
    have hnl : n1 = fs.length := by
      obtain ⟨_, _, _, en, _⟩ := s1
      injection en
    have hml : n1 ≤ maxLen := by rw [hnl]; exact s1.1
    have hml' : n1 ≤ 9223372036854775807 := by unfold maxLen at hml; omega
    have P : Hid (Calls Tryz.prog 145 #[.pointer (some ⟨R, 0, none⟩), .int .i64 n1, .func (.func 146) #[] #[.pointer (some ⟨w.heap.size, 0, none⟩), .pointer (some ⟨w.heap.size + 1, 0, none⟩)]] w2.drew fun e w' => e = .returned (.tuple #[]) ∧ AtW B R T0 G0 ((ts ++ [wEnum, kT nm, wLeft]) ++ joinT (fs.map variantT)) w' ∧ WBut B R w2.drew w') := Lib.hid (by
      have C := list_calls B R (lb := #[.pointer (some ⟨w.heap.size, 0, none⟩), .pointer (some ⟨w.heap.size + 1, 0, none⟩)]) (fs.map variantT) T0 G0 (ts ++ [wEnum, kT nm, wLeft]) w2.drew item1_enters (by simpa using hB2) (A2.out.stays bd) (by rw [List.length_map, ← hnl]; exact hml) HL.out.less (by
        intro i a ha us W hBW bW hAW hLW
        rw [List.getElem?_map, Option.map_eq_some_iff] at ha
        obtain ⟨z, hz, rfl⟩ := ha
        have hil : i < n1 := by rw [hnl]; exact (List.getElem?_eq_some_iff.1 hz).1
        obtain ⟨_, aon, cpn, en, hkn⟩ := s1
        injection en with en1 en2 en3
        subst en1; subst en3
        obtain ⟨rfl, hbB⟩ := hkn.resolve_left (by omega)
        obtain ⟨vz, cz, iz⟩ := PF.Row.get R1.out hz
        have bl : Below B w W := (B2.out.trans (DW.trans bW)).bel
        exact item1_calls B R z (hf z (List.mem_of_getElem? hz)) i n1 hil hml w.heap.size (w.heap.size + 1) b1 o1 _ T0 G0 us vz W hBW (HW.out.below bl) hAW (PF.In.below bl iz) hLW (((Q2.out.safe.but DW).cell bW 0).trans ((Q2.out.safe.cell DW 0).trans y2)) (((E2.out.safe.but DW).cell bW 2).trans ((E2.out.safe.cell DW 2).trans x2_2)) (cz.below hbB bl))
      rw [List.length_map, ← hnl] at C
      exact C)
    clear hnl hml
    go_upto_region 8 with (fail)
    go_cut [3] from 33 to 41 (fun s3 wx => s3 = .pointer (some ⟨w.heap.size + 1, 0, none⟩) ∧ Hid (AtW B R T0 G0 ((ts ++ [wEnum, kT nm, wLeft]) ++ joinT (fs.map variantT)) wx) ∧ Hid (WBut B R w2 wx))
    case first =>
      go_region_with (first
        | (go_at_call 145; (with_reducible refine (P.out).mono ?_)
           rintro e wz ⟨rfl, h, b⟩
           have AZ := Lib.hid h
           have BZ := Lib.hid (DW.trans b)
           clear h b))
      all_goals
        go_wp2_with fail
        go_meet
        case rel => exact ⟨rfl, AZ, BZ⟩
    case rest =>
      obtain ⟨rfl, A3, b⟩ := hcut
      have B3 := Lib.hid (B2.out.trans b.out)
      have E3 := Lib.hid (E2.out.but b.out)
      have Q3 := Lib.hid (Q2.out.but b.out)
      obtain ⟨w3, hwc⟩ : ∃ x, x = wc := ⟨_, rfl⟩
      rw [← hwc] at A3 B3 E3 Q3 ⊢
      clear hwc b P x2_2 z2 A2 E2 y2 zq2 Q2 DW bd
      have y3 : w3.cell? ⟨w.heap.size, 0, none⟩ = some (.pointer (some ⟨R, 0, none⟩)) := Q3.out.has 0 _ rfl
      have zq3 : w.heap.size < w3.heap.size := Q3.out.lt
      have z3 : w.heap.size + 1 < w3.heap.size := E3.out.lt
      have hB3 : B ≤ w3.heap.size := Nat.le_trans hB B3.out.size
      have P := Lib.hid (put1_calls B R ⟨#[125]⟩ T0 G0 ((ts ++ [wEnum, kT nm, wLeft]) ++ joinT (fs.map variantT)) _ w3 (new_only w3 (.cells #[.string ⟨#[125]⟩] 9)) (heap_alloc_new w3 _) hB3 A3.out (by decide) HL.out)
      go_wp2_with fail
      (with_reducible refine (P.out).mono ?_)
      rintro e w4 ⟨rfl, h, b⟩
      have A4 := Lib.hid h
      have B4 := Lib.hid (B3.out.trans b)
      have E4 := Lib.hid (E3.out.but b)
      have Q4 := Lib.hid (Q3.out.but b)
      clear h b P  z3 A3 E3 y3 zq3 Q3
      go_wp2
      go_end0
      exact ⟨rfl, A4.out, B4.out⟩
theorem whole2 (n : Nat) (t : PT) (h0 : t.kind ≠ 0) (h : wholeT n t 2 = true) : rT n t = true := by
  rw [← wholeT_eq]
  cases n with
  | zero => exact h
  | succ n =>
    have e : fitT t 2 = fitT t 0 := by
      unfold fitT
      rw [if_neg (fun h => h.elim (fun h => absurd h (by decide)) fun h => h0 h.2), if_neg (fun h => h.elim (fun h => absurd h (by decide)) fun h => absurd h.1 (by decide))]
    rw [wholeT] at h ⊢
    rw [e] at h
    exact h
set_option maxHeartbeats 1000000 in
theorem item_calls (B R : Nat) (n : Nat) (x : PI) (h : wholeR (n + 1) (rtI x) = true) : ItemAt B R x := by
  obtain ⟨kd, nm, fs, ty, bo, ret, pos⟩ := x
  rw [rtI, wholeR, Bool.and_eq_true, List.all_eq_true] at h
  obtain ⟨hf, hk⟩ := h
  intro T0 G0 ts v w hB hW hA hx hL
  dsimp only at hf hk
  have hfs : (iSh kd).fields = 0 → ∀ f ∈ fs, TypedAt B R f.type := fun h0 f hm => by
    have h1 := hk (rtT f.type (iSh kd).fields) (by simp only [List.mem_append, List.mem_map]; exact .inl ⟨f, hm, rfl⟩)
    rw [h0, wholeR_T, wholeT_eq] at h1
    exact typed_calls B R n f.type h1
  by_cases c1 : kd = 1
  · subst c1
    exact item_struct B R nm fs ty bo ret pos (hfs rfl) T0 G0 ts v w hB hW hA hx hL
  by_cases c2 : kd = 2
  · subst c2
    refine item_enum B R nm fs ty bo ret pos (fun f hm h0 => ?_) T0 G0 ts v w hB hW hA hx hL
    have h1 := hk (rtT f.type 2) (by simp only [List.mem_append, List.mem_map]; exact .inl ⟨f, hm, rfl⟩)
    rw [wholeR_T] at h1
    exact typed_calls B R n f.type (whole2 n f.type h0 h1)
  by_cases c3 : kd = 3
  · subst c3
    have hty : TypedAt B R ty := by
      have h1 := hk (rtT ty 0) (by simp [iSh])
      rw [wholeR_T, wholeT_eq] at h1
      exact typed_calls B R n ty h1
    have hre : ExprAt B R ret := by
      have h1 := hk (rtE ret 0) (by simp [iSh])
      obtain ⟨_, _, _, _, hr⟩ := hx
      rw [wholeR_E, wholeE_eq n ret _ 0 hr (by omega), Bool.and_eq_true] at h1
      exact expr_calls B R n ret h1.2
    have hbo : StmtsAt B R bo := stmts_calls B R bo fun s hs => stmt_calls B R n s (hk _ (by simp only [List.mem_append, List.mem_cons]; exact .inr (.inr (.inl (rtSs_mem hs)))))
    exact item_fn B R nm fs ty bo ret pos (hfs rfl) hty hbo hre T0 G0 ts v w hB hW hA hx hL
  exfalso
  unfold iSh at hf
  rw [if_neg c1, if_neg c2, if_neg c3] at hf
  simp [fitII] at hf
end Go.Proofs.YthilicmhdkmipaaGreatDoor

