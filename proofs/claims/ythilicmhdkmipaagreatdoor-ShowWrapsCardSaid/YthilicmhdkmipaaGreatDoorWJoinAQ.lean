/- What the writer writes of a function, over contracts of what it is made of. -/
import Derived.Test.YthilicmhdkmipaaGreatDoorWJoinAP
namespace Go.Proofs.YthilicmhdkmipaaGreatDoor
open Go.RowKit
set_option linter.unusedVariables false

/-- block G is a box with these cells, and the writer leaves it as it is -/
structure CBox (R G : Nat) (cs : List Value) (W : World) : Prop where
  safe : Safe R W G
  has : CellsAt W G 0 cs
theorem CBox.but {B R G : Nat} {cs : List Value} {W W' : World} (h : CBox R G cs W) (k : WBut B R W W') : CBox R G cs W' :=
  ⟨h.safe.but k, fun i u hi => (h.safe.cell k _).trans (h.has i u hi)⟩
theorem CBox.lt {R G : Nat} {cs : List Value} {W : World} (h : CBox R G cs W) : G < W.heap.size := h.safe.lt
theorem CBox.new {R : Nat} {w : World} {t : TypeId} (cs : List Value) (ht : t ≠ 5) (hR : R < w.heap.size) : CBox R w.heap.size cs (w.alloc (.cells cs.toArray t)) :=
  ⟨Safe.made (heap_alloc_new w _) ht hR, cells_made (heap_alloc_new w _)⟩
theorem CBox.new2 {R : Nat} {w : World} {t : TypeId} (v : Value) (u : TypeId) (cs : List Value) (ht : t ≠ 5) (hR : R < w.heap.size) : CBox R (w.heap.size + 1) cs ((w.alloc (.cells #[v] u)).alloc (.cells cs.toArray t)) := by
  have h := CBox.new (R := R) (w := w.alloc (.cells #[v] u)) (t := t) cs ht (by simp; omega)
  simpa using h
theorem CBox.old {R : Nat} {w : World} {t u : TypeId} (v : Value) (cs : Array Value) (hu : u ≠ 5) (hR : R < w.heap.size) : CBox R w.heap.size [v] ((w.alloc (.cells #[v] u)).alloc (.cells cs t)) := by
  have hg : ((w.alloc (.cells #[v] u)).alloc (.cells cs t)).heap[w.heap.size]? = some (.cells #[v] u (0, 0)) := (Below.heap_alloc _ _ _ (by simp)).trans (heap_alloc_new w _)
  exact ⟨Safe.made hg hu hR, cells_made (cs := [v]) hg⟩
/-- the contract of a row of statements -/
def StmtsAt (B R : Nat) (l : List PS) : Prop := ∀ (T0 G0 : TkB) (ts : List TkB) (v : Value) (b o : Nat) (w : World), B ≤ w.heap.size → Words B w → AtW B R T0 G0 ts w → SlV B v l.length b o → PS.Row B w b o l → Lim T0 G0 (ts ++ tokSs l) →
  Calls Tryz.prog 177 #[.pointer (some ⟨R, 0, none⟩), v] w fun e w' => e = .returned (.tuple #[]) ∧ AtW B R T0 G0 (ts ++ tokSs l) w' ∧ WBut B R w w'
def fnT (x : PI) : List TkB := wFn :: kT x.name :: wOpen :: (joinT (x.fields.map fieldT) ++ wEnd :: wInto :: (tokT x.result ++ wLeft :: (tokSs x.body ++ (tokE x.ret ++ [wRight]))))
set_option maxRecDepth 100000 in
set_option maxHeartbeats 4000000 in
theorem function_calls (B R : Nat) (kd : Int) (nm : ByteArray) (fs : List PF) (ty : PT) (bo : List PS) (ret : PE) (pos : Int) (hf : ∀ x ∈ fs, TypedAt B R x.type) (ht : TypedAt B R ty) (hb : StmtsAt B R bo) (he : ExprAt B R ret) (T0 G0 : TkB) (ts : List TkB) (v : VI) (w : World) (hB : B ≤ w.heap.size) (hW : Words B w) (hA : AtW B R T0 G0 ts w) (hx : PI.In B w ⟨kd, nm, fs, ty, bo, ret, pos⟩ v) (hL : Lim T0 G0 (ts ++ (fnT ⟨kd, nm, fs, ty, bo, ret, pos⟩))) :
    Calls Tryz.prog 148 #[.pointer (some ⟨R, 0, none⟩), .agg (PI.cells ⟨kd, nm, fs, ty, bo, ret, pos⟩ v).toArray] w fun e w' => e = .returned (.tuple #[]) ∧ AtW B R T0 G0 (ts ++ (fnT ⟨kd, nm, fs, ty, bo, ret, pos⟩)) w' ∧ WBut B R w w' := by
  obtain ⟨a1, n1, c1, a2, n2, c2, a3, n3, c3, a4, n4, c4, a5, n5, c5, rfl⟩ := hx.shape
  obtain ⟨⟨_, _, hsn⟩, ⟨b1, o1, s1, r1⟩, hty, ⟨b3, o3, s3, r3⟩, hre⟩ := hx
  have R1 := Lib.hid r1
  have R3 := Lib.hid r3
  have HTY := Lib.hid hty
  have HRE := Lib.hid hre
  clear r1 r3 hty hre
  have hRR : R < w.heap.size := hA.lt
  obtain ⟨w1, hw1⟩ : ∃ w1, w1 = w.alloc (.cells #[.int .u8 kd, .string nm, .slice a1 n1 c1, .int .u8 ty.kind, .string ty.name, .slice a2 n2 c2, .slice a3 n3 c3, .int .u8 ret.op, .int .i64 ret.int, .string ret.name, .string ret.second, .string ret.place.name, .slice a4 n4 c4, .slice a5 n5 c5, .int .i64 ret.pos, .int .i64 pos] 68) := ⟨_, rfl⟩
  have bx : Below w.heap.size w w1 := by rw [hw1]; exact new_only _ _
  have E1 : Hid (CBox R w.heap.size [.int .u8 kd, .string nm, .slice a1 n1 c1, .int .u8 ty.kind, .string ty.name, .slice a2 n2 c2, .slice a3 n3 c3, .int .u8 ret.op, .int .i64 ret.int, .string ret.name, .string ret.second, .string ret.place.name, .slice a4 n4 c4, .slice a5 n5 c5, .int .i64 ret.pos, .int .i64 pos] w1) := Lib.hid (by rw [hw1]; exact CBox.new _ (by decide) hRR)
  have et : ts ++ (fnT ⟨kd, nm, fs, ty, bo, ret, pos⟩) = (((((((ts ++ [wFn, kT nm, wOpen]) ++ joinT (fs.map fieldT)) ++ [wEnd, wInto]) ++ tokT ty) ++ [wLeft]) ++ tokSs bo) ++ tokE ret) ++ [wRight] := by simp [fnT]
  rw [et] at hL ⊢
  clear et
  have B1 : Hid (WBut B R w w1) := Lib.hid (WBut.of bx hB (R := R))
  have HW := Lib.hid hW
  have A1 := Lib.hid (hA.stays bx)
  have HL := Lib.hid hL
  show Calls Tryz.prog 148 #[.pointer (some ⟨R, 0, none⟩), .agg #[.int .u8 kd, .string nm, .slice a1 n1 c1, .int .u8 ty.kind, .string ty.name, .slice a2 n2 c2, .slice a3 n3 c3, .int .u8 ret.op, .int .i64 ret.int, .string ret.name, .string ret.second, .string ret.place.name, .slice a4 n4 c4, .slice a5 n5 c5, .int .i64 ret.pos, .int .i64 pos]] w _
  clear hW hA hL bx
  go_enter Tryz.func148, Tryz.ntmps148
  go_upto_region 1 with (fail)
  (try simp only [size_alloc])
  rw [← hw1]
  clear hw1
  have x1_1 : w1.cell? ⟨w.heap.size, 1, none⟩ = some (.string nm) := E1.out.has 1 _ rfl
  have z1 : w.heap.size < w1.heap.size := E1.out.lt
  have hB1 : B ≤ w1.heap.size := Nat.le_trans hB B1.out.size
  have P := Lib.hid (put3_calls B R ⟨#[102, 110]⟩ nm ⟨#[40]⟩ T0 G0 ts _ w1 (new_drew w1 (.cells #[.string ⟨#[102, 110]⟩, .string nm, .string ⟨#[40]⟩] 9)) (drew_new w1 _) hB1 A1.out (by decide) hsn (by decide) HL.out.less.less.less.less.less.less.less)
  go_upto_region 1 with (fail)
  go_cut [3] from 4 to 11 (fun s3 wx => s3 = .pointer (some ⟨w.heap.size, 0, none⟩) ∧ Hid (AtW B R T0 G0 (ts ++ [wFn, kT nm, wOpen]) wx) ∧ Hid (WBut B R w1 wx))
  case first =>
    go_region_held3 (fun w' => w'.cell? ⟨w.heap.size, 1, none⟩ = some (.string nm)) (first | exact x1_1 | exact (low_new w1 _ _ _ z1).trans x1_1 | exact XB1)
      (first
        | (go_at_call 98; (with_reducible refine (P.out).mono ?_)
           rintro e wy ⟨rfl, h1, b1⟩
           have H1 := Lib.hid h1
           have BB := Lib.hid b1
           have XB1 := (E1.out.safe.cell b1 1).trans x1_1
           clear h1 b1))
    go_wp2_with fail
    go_meet
    case rel => exact ⟨rfl, H1, BB⟩
  case rest =>
    obtain ⟨rfl, A2, b⟩ := hcut
    have B2 := Lib.hid (B1.out.trans b.out)
    have E2 := Lib.hid (E1.out.but b.out)
  
    obtain ⟨w2, hwc⟩ : ∃ x, x = wc := ⟨_, rfl⟩
    rw [← hwc] at A2 B2 E2 ⊢
    clear hwc b P x1_1 z1 A1 E1
    have x2_2 : w2.cell? ⟨w.heap.size, 2, none⟩ = some (.slice a1 n1 c1) := E2.out.has 2 _ rfl
    have z2 : w.heap.size < w2.heap.size := E2.out.lt
    have hB2 : B ≤ w2.heap.size := Nat.le_trans hB B2.out.size
    have P := Lib.hid (fields_calls B R fs hf T0 G0 (ts ++ [wFn, kT nm, wOpen]) (.slice a1 n1 c1) b1 o1 w2 hB2 (HW.out.below B2.out.bel) A2.out s1 (PF.Row.below' B2.out.bel s1 R1.out) HL.out.less.less.less.less.less.less)
    go_wp2_with fail
    (with_reducible refine (P.out).mono ?_)
    rintro e w3 ⟨rfl, h, b⟩
    have A3 := Lib.hid h
    have B3 := Lib.hid (B2.out.trans b)
    have E3 := Lib.hid (E2.out.but b)
    clear h b P x2_2 z2 A2 E2
    have z3 : w.heap.size < w3.heap.size := E3.out.lt
    have hB3 : B ≤ w3.heap.size := Nat.le_trans hB B3.out.size
    have P := Lib.hid (put2_calls B R ⟨#[41]⟩ ⟨#[45, 62]⟩ T0 G0 ((ts ++ [wFn, kT nm, wOpen]) ++ joinT (fs.map fieldT)) _ w3 (new_only w3 (.cells #[.string ⟨#[41]⟩, .string ⟨#[45, 62]⟩] 9)) (heap_alloc_new w3 _) hB3 A3.out (by decide) (by decide) HL.out.less.less.less.less.less)
    go_wp2_with fail
    (with_reducible refine (P.out).mono ?_)
    rintro e w4 ⟨rfl, h, b⟩
    have A4 := Lib.hid h
    have B4 := Lib.hid (B3.out.trans b)
    have E4 := Lib.hid (E3.out.but b)
    clear h b P  z3 A3 E3
    have x4_3 : w4.cell? ⟨w.heap.size, 3, none⟩ = some (.int .u8 ty.kind) := E4.out.has 3 _ rfl
    have x4_4 : w4.cell? ⟨w.heap.size, 4, none⟩ = some (.string ty.name) := E4.out.has 4 _ rfl
    have x4_5 : w4.cell? ⟨w.heap.size, 5, none⟩ = some (.slice a2 n2 c2) := E4.out.has 5 _ rfl
    have z4 : w.heap.size < w4.heap.size := E4.out.lt
    have hB4 : B ≤ w4.heap.size := Nat.le_trans hB B4.out.size
    have P := Lib.hid (ht T0 G0 (((ts ++ [wFn, kT nm, wOpen]) ++ joinT (fs.map fieldT)) ++ [wEnd, wInto]) (.slice a2 n2 c2) w4 hB4 (HW.out.below B4.out.bel) A4.out (PT.In.below B4.out.bel HTY.out) HL.out.less.less.less.less)
    go_wp2_with fail
    (with_reducible refine (P.out).mono ?_)
    rintro e w5 ⟨rfl, h, b⟩
    have A5 := Lib.hid h
    have B5 := Lib.hid (B4.out.trans b)
    have E5 := Lib.hid (E4.out.but b)
    clear h b P x4_3 x4_4 x4_5 z4 A4 E4
    have z5 : w.heap.size < w5.heap.size := E5.out.lt
    have hB5 : B ≤ w5.heap.size := Nat.le_trans hB B5.out.size
    have P := Lib.hid (put1_calls B R ⟨#[123]⟩ T0 G0 ((((ts ++ [wFn, kT nm, wOpen]) ++ joinT (fs.map fieldT)) ++ [wEnd, wInto]) ++ tokT ty) _ w5 (new_only w5 (.cells #[.string ⟨#[123]⟩] 9)) (heap_alloc_new w5 _) hB5 A5.out (by decide) HL.out.less.less.less)
    go_wp2_with fail
    (with_reducible refine (P.out).mono ?_)
    rintro e w6 ⟨rfl, h, b⟩
    have A6 := Lib.hid h
    have B6 := Lib.hid (B5.out.trans b)
    have E6 := Lib.hid (E5.out.but b)
    clear h b P  z5 A5 E5
    have x6_6 : w6.cell? ⟨w.heap.size, 6, none⟩ = some (.slice a3 n3 c3) := E6.out.has 6 _ rfl
    have z6 : w.heap.size < w6.heap.size := E6.out.lt
    have hB6 : B ≤ w6.heap.size := Nat.le_trans hB B6.out.size
    have P := Lib.hid (hb T0 G0 (((((ts ++ [wFn, kT nm, wOpen]) ++ joinT (fs.map fieldT)) ++ [wEnd, wInto]) ++ tokT ty) ++ [wLeft]) (.slice a3 n3 c3) b3 o3 w6 hB6 (HW.out.below B6.out.bel) A6.out s3 (PS.Row.below' B6.out.bel s3 R3.out) HL.out.less.less)
    go_wp2_with fail
    (with_reducible refine (P.out).mono ?_)
    rintro e w7 ⟨rfl, h, b⟩
    have A7 := Lib.hid h
    have B7 := Lib.hid (B6.out.trans b)
    have E7 := Lib.hid (E6.out.but b)
    clear h b P x6_6 z6 A6 E6
    have x7_7 : w7.cell? ⟨w.heap.size, 7, none⟩ = some (.int .u8 ret.op) := E7.out.has 7 _ rfl
    have x7_8 : w7.cell? ⟨w.heap.size, 8, none⟩ = some (.int .i64 ret.int) := E7.out.has 8 _ rfl
    have x7_9 : w7.cell? ⟨w.heap.size, 9, none⟩ = some (.string ret.name) := E7.out.has 9 _ rfl
    have x7_10 : w7.cell? ⟨w.heap.size, 10, none⟩ = some (.string ret.second) := E7.out.has 10 _ rfl
    have x7_11 : w7.cell? ⟨w.heap.size, 11, none⟩ = some (.string ret.place.name) := E7.out.has 11 _ rfl
    have x7_12 : w7.cell? ⟨w.heap.size, 12, none⟩ = some (.slice a4 n4 c4) := E7.out.has 12 _ rfl
    have x7_13 : w7.cell? ⟨w.heap.size, 13, none⟩ = some (.slice a5 n5 c5) := E7.out.has 13 _ rfl
    have x7_14 : w7.cell? ⟨w.heap.size, 14, none⟩ = some (.int .i64 ret.pos) := E7.out.has 14 _ rfl
    have z7 : w.heap.size < w7.heap.size := E7.out.lt
    have hB7 : B ≤ w7.heap.size := Nat.le_trans hB B7.out.size
    have P := Lib.hid (he T0 G0 ((((((ts ++ [wFn, kT nm, wOpen]) ++ joinT (fs.map fieldT)) ++ [wEnd, wInto]) ++ tokT ty) ++ [wLeft]) ++ tokSs bo) ⟨.slice a4 n4 c4, .slice a5 n5 c5⟩ w7 hB7 (HW.out.below B7.out.bel) A7.out (PE.In.below B7.out.bel HRE.out) HL.out.less)
    have P : Hid (Calls Tryz.prog 69 #[.pointer (some ⟨R, 0, none⟩), .agg #[.int .u8 ret.op, .int .i64 ret.int, .string ret.name, .string ret.second, .string ret.place.name, .slice a4 n4 c4, .slice a5 n5 c5, .int .i64 ret.pos]] w7 fun e w' => e = .returned (.tuple #[]) ∧ AtW B R T0 G0 (((((((ts ++ [wFn, kT nm, wOpen]) ++ joinT (fs.map fieldT)) ++ [wEnd, wInto]) ++ tokT ty) ++ [wLeft]) ++ tokSs bo) ++ tokE ret) w' ∧ WBut B R w7 w') := Lib.hid P.out
    go_wp2_with fail
    (with_reducible refine (P.out).mono ?_)
    rintro e w8 ⟨rfl, h, b⟩
    have A8 := Lib.hid h
    have B8 := Lib.hid (B7.out.trans b)
    have E8 := Lib.hid (E7.out.but b)
    clear h b P x7_7 x7_8 x7_9 x7_10 x7_11 x7_12 x7_13 x7_14 z7 A7 E7
    have z8 : w.heap.size < w8.heap.size := E8.out.lt
    have hB8 : B ≤ w8.heap.size := Nat.le_trans hB B8.out.size
    have P := Lib.hid (put1_calls B R ⟨#[125]⟩ T0 G0 (((((((ts ++ [wFn, kT nm, wOpen]) ++ joinT (fs.map fieldT)) ++ [wEnd, wInto]) ++ tokT ty) ++ [wLeft]) ++ tokSs bo) ++ tokE ret) _ w8 (new_only w8 (.cells #[.string ⟨#[125]⟩] 9)) (heap_alloc_new w8 _) hB8 A8.out (by decide) HL.out)
    go_wp2_with fail
    (with_reducible refine (P.out).mono ?_)
    rintro e w9 ⟨rfl, h, b⟩
    have A9 := Lib.hid h
    have B9 := Lib.hid (B8.out.trans b)
    have E9 := Lib.hid (E8.out.but b)
    clear h b P  z8 A8 E8
    go_wp2
    go_end0
    exact ⟨rfl, A9.out, B9.out⟩
end Go.Proofs.YthilicmhdkmipaaGreatDoor
/- What the writer writes of an item. -/
namespace Go.Proofs.YthilicmhdkmipaaGreatDoor
open Go.RowKit
set_option linter.unusedVariables false

end Go.Proofs.YthilicmhdkmipaaGreatDoor
