/- What the writer writes of a function, over contracts of what it is made of. -/
import Derived.Test.YthilicmhdkmipaaGreatDoorIJoinAC
namespace Go.Proofs.YthilicmhdkmipaaGreatDoor
open Go.RowKit
set_option linter.unusedVariables false

/-- block G is a box with these cells, and the writer leaves it as it is -/
structure CBox (R G : Nat) (cs : List Value) (W : World) : Prop where
  safe : Safe R W G
  has : CellsAt W G 0 cs
theorem CBox.but {B R G : Nat} {cs : List Value} {W W' : World} (h : CBox R G cs W) (k : WBut B R W W') : CBox R G cs W' :=
  ⟨h.safe.but k, fun i u hi => (h.safe.cell k _).trans (h.has i u hi)⟩
theorem CBox.lt {R G : Nat} {cs : List Value} {W : World} (h : CBox R G cs W) : G < W.heap.size := h.safe.lt
theorem CBox.new {R : Nat} {w : World} {t : TypeId} (cs : List Value) (ht : t ≠ 5) (hR : R < w.heap.size) : CBox R w.heap.size cs (w.alloc (.cells cs.toArray t)) :=
  ⟨Safe.made (heap_alloc_new w _) ht hR, cells_made (heap_alloc_new w _)⟩
theorem CBox.new2 {R : Nat} {w : World} {t : TypeId} (v : Value) (u : TypeId) (cs : List Value) (ht : t ≠ 5) (hR : R < w.heap.size) : CBox R (w.heap.size + 1) cs ((w.alloc (.cells #[v] u)).alloc (.cells cs.toArray t)) := by
  have h := CBox.new (R := R) (w := w.alloc (.cells #[v] u)) (t := t) cs ht (by simp; omega)
  simpa using h
theorem CBox.old {R : Nat} {w : World} {t u : TypeId} (v : Value) (cs : Array Value) (hu : u ≠ 5) (hR : R < w.heap.size) : CBox R w.heap.size [v] ((w.alloc (.cells #[v] u)).alloc (.cells cs t)) := by
  have hg : ((w.alloc (.cells #[v] u)).alloc (.cells cs t)).heap[w.heap.size]? = some (.cells #[v] u (0, 0)) := (Below.heap_alloc _ _ _ (by simp)).trans (heap_alloc_new w _)
  exact ⟨Safe.made hg hu hR, cells_made (cs := [v]) hg⟩
/-- the contract of a row of statements -/
def StmtsAt (B R : Nat) (l : List PS) : Prop := ∀ (T0 G0 : TkB) (ts : List TkB) (v : Value) (b o : Nat) (w : World), B ≤ w.heap.size → Words B w → AtW B R T0 G0 ts w → SlV B v l.length b o → PS.Row B w b o l → Lim T0 G0 (ts ++ tokSs l) →
  Calls Tryz.prog 177 #[.pointer (some ⟨R, 0, none⟩), v] w fun e w' => e = .returned (.tuple #[]) ∧ AtW B R T0 G0 (ts ++ tokSs l) w' ∧ WBut B R w w'
def fnT (x : PI) : List TkB := wFn :: kT x.name :: wOpen :: (joinT (x.fields.map fieldT) ++ wEnd :: wInto :: (tokT x.result ++ wLeft :: (tokSs x.body ++ (tokE x.ret ++ [wRight]))))
set_option maxRecDepth 100000 in
set_option maxHeartbeats 4000000 in
theorem function_calls (B R : Nat) (kd : Int) (nm : ByteArray) (fs : List PF) (ty : PT) (bo : List PS) (ret : PE) (pos : Int) (hf : ∀ x ∈ fs, TypedAt B R x.type) (ht : TypedAt B R ty) (hb : StmtsAt B R bo) (he : ExprAt B R ret) (T0 G0 : TkB) (ts : List TkB) (v : VI) (w : World) (hB : B ≤ w.heap.size) (hW : Words B w) (hA : AtW B R T0 G0 ts w) (hx : PI.In B w ⟨kd, nm, fs, ty, bo, ret, pos⟩ v) (hL : Lim T0 G0 (ts ++ (fnT ⟨kd, nm, fs, ty, bo, ret, pos⟩))) :
    Calls Tryz.prog 148 #[.pointer (some ⟨R, 0, none⟩), .agg (PI.cells ⟨kd, nm, fs, ty, bo, ret, pos⟩ v).toArray] w fun e w' => e = .returned (.tuple #[]) ∧ AtW B R T0 G0 (ts ++ (fnT ⟨kd, nm, fs, ty, bo, ret, pos⟩)) w' ∧ WBut B R w w' := by
  obtain ⟨a1, n1, c1, a2, n2, c2, a3, n3, c3, a4, n4, c4, a5, n5, c5, rfl⟩ := hx.shape
  obtain ⟨⟨_, _, hsn⟩, ⟨b1, o1, s1, r1⟩, hty, ⟨b3, o3, s3, r3⟩, hre⟩ := hx
  have R1 := Lib.hid r1
  have R3 := Lib.hid r3
  have HTY := Lib.hid hty
  have HRE := Lib.hid hre
  clear r1 r3 hty hre
  have hRR : R < w.heap.size := hA.lt
  obtain ⟨w1, hw1⟩ : ∃ w1, w1 = w.alloc (.cells #[.int .u8 kd, .string nm, .slice a1 n1 c1, .int .u8 ty.kind, .string ty.name, .slice a2 n2 c2, .slice a3 n3 c3, .int .u8 ret.op, .int .i64 ret.int, .string ret.name, .string ret.second, .string ret.place.name, .slice a4 n4 c4, .slice a5 n5 c5, .int .i64 ret.pos, .int .i64 pos] 68) := ⟨_, rfl⟩
  have bx : Below w.heap.size w w1 := by rw [hw1]; exact new_only _ _
  have E1 : Hid (CBox R w.heap.size [.int .u8 kd, .string nm, .slice a1 n1 c1, .int .u8 ty.kind, .string ty.name, .slice a2 n2 c2, .slice a3 n3 c3, .int .u8 ret.op, .int .i64 ret.int, .string ret.name, .string ret.second, .string ret.place.name, .slice a4 n4 c4, .slice a5 n5 c5, .int .i64 ret.pos, .int .i64 pos] w1) := Lib.hid (by rw [hw1]; exact CBox.new _ (by decide) hRR)
  have et : ts ++ (fnT ⟨kd, nm, fs, ty, bo, ret, pos⟩) = (((((((ts ++ [wFn, kT nm, wOpen]) ++ joinT (fs.map fieldT)) ++ [wEnd, wInto]) ++ tokT ty) ++ [wLeft]) ++ tokSs bo) ++ tokE ret) ++ [wRight] := by simp [fnT]
  rw [et] at hL ⊢
  clear et
  have B1 : Hid (WBut B R w w1) := Lib.hid (WBut.of bx hB (R := R))
  have HW := Lib.hid hW
  have A1 := Lib.hid (hA.stays bx)
  have HL := Lib.hid hL
  show Calls Tryz.prog 148 #[.pointer (some ⟨R, 0, none⟩), .agg #[.int .u8 kd, .string nm, .slice a1 n1 c1, .int .u8 ty.kind, .string ty.name, .slice a2 n2 c2, .slice a3 n3 c3, .int .u8 ret.op, .int .i64 ret.int, .string ret.name, .string ret.second, .string ret.place.name, .slice a4 n4 c4, .slice a5 n5 c5, .int .i64 ret.pos, .int .i64 pos]] w _
  clear hW hA hL bx
  go_enter Tryz.func148, Tryz.ntmps148
  go_upto_region 1 with (fail)
  (try simp only [size_alloc])
  rw [← hw1]
  clear hw1
  have x1_1 : w1.cell? ⟨w.heap.size, 1, none⟩ = some (.string nm) := E1.out.has 1 _ rfl
  have z1 : w.heap.size < w1.heap.size := E1.out.lt
  have hB1 : B ≤ w1.heap.size := Nat.le_trans hB B1.out.size
  have P := Lib.hid (put3_calls B R ⟨#[102, 110]⟩ nm ⟨#[40]⟩ T0 G0 ts _ w1 (new_drew w1 (.cells #[.string ⟨#[102, 110]⟩, .string nm, .string ⟨#[40]⟩] 9)) (drew_new w1 _) hB1 A1.out (by decide) hsn (by decide) HL.out.less.less.less.less.less.less.less)
  go_upto_region 1 with (fail)
  go_cut [3] from 4 to 11 (fun s3 wx => s3 = .pointer (some ⟨w.heap.size, 0, none⟩) ∧ Hid (AtW B R T0 G0 (ts ++ [wFn, kT nm, wOpen]) wx) ∧ Hid (WBut B R w1 wx))
  case first =>
    go_region_held3 (fun w' => w'.cell? ⟨w.heap.size, 1, none⟩ = some (.string nm)) (first | exact x1_1 | exact (low_new w1 _ _ _ z1).trans x1_1 | exact XB1)
      (first
        | (go_at_call 98; (with_reducible refine (P.out).mono ?_)
           rintro e wy ⟨rfl, h1, b1⟩
           have H1 := Lib.hid h1
           have BB := Lib.hid b1
           have XB1 := (E1.out.safe.cell b1 1).trans x1_1
           clear h1 b1))
    go_wp2_with fail
    go_meet
    case rel => exact ⟨rfl, H1, BB⟩
  case rest =>
    obtain ⟨rfl, A2, b⟩ := hcut
    have B2 := Lib.hid (B1.out.trans b.out)
    have E2 := Lib.hid (E1.out.but b.out)
  
    obtain ⟨w2, hwc⟩ : ∃ x, x = wc := ⟨_, rfl⟩
    rw [← hwc] at A2 B2 E2 ⊢
    clear hwc b P x1_1 z1 A1 E1
    have x2_2 : w2.cell? ⟨w.heap.size, 2, none⟩ = some (.slice a1 n1 c1) := E2.out.has 2 _ rfl
    have z2 : w.heap.size < w2.heap.size := E2.out.lt
    have hB2 : B ≤ w2.heap.size := Nat.le_trans hB B2.out.size
    have P := Lib.hid (fields_calls B R fs hf T0 G0 (ts ++ [wFn, kT nm, wOpen]) (.slice a1 n1 c1) b1 o1 w2 hB2 (HW.out.below B2.out.bel) A2.out s1 (PF.Row.below' B2.out.bel s1 R1.out) HL.out.less.less.less.less.less.less)
    go_wp2_with fail
    (with_reducible refine (P.out).mono ?_)
    rintro e w3 ⟨rfl, h, b⟩
    have A3 := Lib.hid h
    have B3 := Lib.hid (B2.out.trans b)
    have E3 := Lib.hid (E2.out.but b)
    clear h b P x2_2 z2 A2 E2
    have z3 : w.heap.size < w3.heap.size := E3.out.lt
    have hB3 : B ≤ w3.heap.size := Nat.le_trans hB B3.out.size
    have P := Lib.hid (put2_calls B R ⟨#[41]⟩ ⟨#[45, 62]⟩ T0 G0 ((ts ++ [wFn, kT nm, wOpen]) ++ joinT (fs.map fieldT)) _ w3 (new_only w3 (.cells #[.string ⟨#[41]⟩, .string ⟨#[45, 62]⟩] 9)) (heap_alloc_new w3 _) hB3 A3.out (by decide) (by decide) HL.out.less.less.less.less.less)
    go_wp2_with fail
    (with_reducible refine (P.out).mono ?_)
    rintro e w4 ⟨rfl, h, b⟩
    have A4 := Lib.hid h
    have B4 := Lib.hid (B3.out.trans b)
    have E4 := Lib.hid (E3.out.but b)
    clear h b P  z3 A3 E3
    have x4_3 : w4.cell? ⟨w.heap.size, 3, none⟩ = some (.int .u8 ty.kind) := E4.out.has 3 _ rfl
    have x4_4 : w4.cell? ⟨w.heap.size, 4, none⟩ = some (.string ty.name) := E4.out.has 4 _ rfl
    have x4_5 : w4.cell? ⟨w.heap.size, 5, none⟩ = some (.slice a2 n2 c2) := E4.out.has 5 _ rfl
    have z4 : w.heap.size < w4.heap.size := E4.out.lt
    have hB4 : B ≤ w4.heap.size := Nat.le_trans hB B4.out.size
    have P := Lib.hid (ht T0 G0 (((ts ++ [wFn, kT nm, wOpen]) ++ joinT (fs.map fieldT)) ++ [wEnd, wInto]) (.slice a2 n2 c2) w4 hB4 (HW.out.below B4.out.bel) A4.out (PT.In.below B4.out.bel HTY.out) HL.out.less.less.less.less)
    go_wp2_with fail
    (with_reducible refine (P.out).mono ?_)
    rintro e w5 ⟨rfl, h, b⟩
    have A5 := Lib.hid h
    have B5 := Lib.hid (B4.out.trans b)
    have E5 := Lib.hid (E4.out.but b)
    clear h b P x4_3 x4_4 x4_5 z4 A4 E4
    have z5 : w.heap.size < w5.heap.size := E5.out.lt
    have hB5 : B ≤ w5.heap.size := Nat.le_trans hB B5.out.size
    have P := Lib.hid (put1_calls B R ⟨#[123]⟩ T0 G0 ((((ts ++ [wFn, kT nm, wOpen]) ++ joinT (fs.map fieldT)) ++ [wEnd, wInto]) ++ tokT ty) _ w5 (new_only w5 (.cells #[.string ⟨#[123]⟩] 9)) (heap_alloc_new w5 _) hB5 A5.out (by decide) HL.out.less.less.less)
    go_wp2_with fail
    (with_reducible refine (P.out).mono ?_)
    rintro e w6 ⟨rfl, h, b⟩
    have A6 := Lib.hid h
    have B6 := Lib.hid (B5.out.trans b)
    have E6 := Lib.hid (E5.out.but b)
    clear h b P  z5 A5 E5
    have x6_6 : w6.cell? ⟨w.heap.size, 6, none⟩ = some (.slice a3 n3 c3) := E6.out.has 6 _ rfl
    have z6 : w.heap.size < w6.heap.size := E6.out.lt
    have hB6 : B ≤ w6.heap.size := Nat.le_trans hB B6.out.size
    have P := Lib.hid (hb T0 G0 (((((ts ++ [wFn, kT nm, wOpen]) ++ joinT (fs.map fieldT)) ++ [wEnd, wInto]) ++ tokT ty) ++ [wLeft]) (.slice a3 n3 c3) b3 o3 w6 hB6 (HW.out.below B6.out.bel) A6.out s3 (PS.Row.below' B6.out.bel s3 R3.out) HL.out.less.less)
    go_wp2_with fail
    (with_reducible refine (P.out).mono ?_)
    rintro e w7 ⟨rfl, h, b⟩
    have A7 := Lib.hid h
    have B7 := Lib.hid (B6.out.trans b)
    have E7 := Lib.hid (E6.out.but b)
    clear h b P x6_6 z6 A6 E6
    have x7_7 : w7.cell? ⟨w.heap.size, 7, none⟩ = some (.int .u8 ret.op) := E7.out.has 7 _ rfl
    have x7_8 : w7.cell? ⟨w.heap.size, 8, none⟩ = some (.int .i64 ret.int) := E7.out.has 8 _ rfl
    have x7_9 : w7.cell? ⟨w.heap.size, 9, none⟩ = some (.string ret.name) := E7.out.has 9 _ rfl
    have x7_10 : w7.cell? ⟨w.heap.size, 10, none⟩ = some (.string ret.second) := E7.out.has 10 _ rfl
    have x7_11 : w7.cell? ⟨w.heap.size, 11, none⟩ = some (.string ret.place.name) := E7.out.has 11 _ rfl
    have x7_12 : w7.cell? ⟨w.heap.size, 12, none⟩ = some (.slice a4 n4 c4) := E7.out.has 12 _ rfl
    have x7_13 : w7.cell? ⟨w.heap.size, 13, none⟩ = some (.slice a5 n5 c5) := E7.out.has 13 _ rfl
    have x7_14 : w7.cell? ⟨w.heap.size, 14, none⟩ = some (.int .i64 ret.pos) := E7.out.has 14 _ rfl
    have z7 : w.heap.size < w7.heap.size := E7.out.lt
    have hB7 : B ≤ w7.heap.size := Nat.le_trans hB B7.out.size
    have P := Lib.hid (he T0 G0 ((((((ts ++ [wFn, kT nm, wOpen]) ++ joinT (fs.map fieldT)) ++ [wEnd, wInto]) ++ tokT ty) ++ [wLeft]) ++ tokSs bo) ⟨.slice a4 n4 c4, .slice a5 n5 c5⟩ w7 hB7 (HW.out.below B7.out.bel) A7.out (PE.In.below B7.out.bel HRE.out) HL.out.less)
    have P : Hid (Calls Tryz.prog 69 #[.pointer (some ⟨R, 0, none⟩), .agg #[.int .u8 ret.op, .int .i64 ret.int, .string ret.name, .string ret.second, .string ret.place.name, .slice a4 n4 c4, .slice a5 n5 c5, .int .i64 ret.pos]] w7 fun e w' => e = .returned (.tuple #[]) ∧ AtW B R T0 G0 (((((((ts ++ [wFn, kT nm, wOpen]) ++ joinT (fs.map fieldT)) ++ [wEnd, wInto]) ++ tokT ty) ++ [wLeft]) ++ tokSs bo) ++ tokE ret) w' ∧ WBut B R w7 w') := Lib.hid P.out
    go_wp2_with fail
    (with_reducible refine (P.out).mono ?_)
    rintro e w8 ⟨rfl, h, b⟩
    have A8 := Lib.hid h
    have B8 := Lib.hid (B7.out.trans b)
    have E8 := Lib.hid (E7.out.but b)
    clear h b P x7_7 x7_8 x7_9 x7_10 x7_11 x7_12 x7_13 x7_14 z7 A7 E7
    have z8 : w.heap.size < w8.heap.size := E8.out.lt
    have hB8 : B ≤ w8.heap.size := Nat.le_trans hB B8.out.size
    have P := Lib.hid (put1_calls B R ⟨#[125]⟩ T0 G0 (((((((ts ++ [wFn, kT nm, wOpen]) ++ joinT (fs.map fieldT)) ++ [wEnd, wInto]) ++ tokT ty) ++ [wLeft]) ++ tokSs bo) ++ tokE ret) _ w8 (new_only w8 (.cells #[.string ⟨#[125]⟩] 9)) (heap_alloc_new w8 _) hB8 A8.out (by decide) HL.out)
    go_wp2_with fail
    (with_reducible refine (P.out).mono ?_)
    rintro e w9 ⟨rfl, h, b⟩
    have A9 := Lib.hid h
    have B9 := Lib.hid (B8.out.trans b)
    have E9 := Lib.hid (E8.out.but b)
    clear h b P  z8 A8 E8
    go_wp2
    go_end0
    exact ⟨rfl, A9.out, B9.out⟩
end Go.Proofs.YthilicmhdkmipaaGreatDoor
/- What the writer writes of a row of statements, over a contract of each; a block; an else; an expression with its end; longer rows of tokens. -/
namespace Go.Proofs.YthilicmhdkmipaaGreatDoor
open Go.RowKit
set_option linter.unusedVariables false

theorem NRow.all {w : World} {S : Nat} : ∀ (l : List ByteArray) (o : Nat), (∀ a ∈ l, a.size ≤ maxLen) → (∀ (j : Nat) a, l[j]? = some a → w.cell? ⟨S, o + j, none⟩ = some (.string a)) → NRow w S o l
  | [], _, _, _ => trivial
  | a :: l, o, hs, hc => ⟨⟨hs a (by simp), fun i v hi => by
    cases i with
    | zero => simp at hi; subst hi; exact hc 0 a rfl
    | succ i => simp at hi⟩, NRow.all l (o + 1) (fun b hb => hs b (by simp [hb])) (fun j b h => by
      have := hc (j + 1) b (by simpa using h)
      rw [show o + 1 + j = o + (j + 1) by omega]
      exact this)⟩
/-- put, asked at a row of tokens that was just made -/
theorem putl_calls (B R : Nat) (l : List ByteArray) (hl : l.length ≤ 1000) (T0 G0 : TkB) (ts : List TkB) (W w0 : World) (hW : Below w0.heap.size w0 W) (hc : W.heap[w0.heap.size]? = some (.cells (l.map Value.string).toArray 9 (0, 0))) (hB : B ≤ w0.heap.size) (hA : AtW B R T0 G0 ts w0) (hs : ∀ a ∈ l, a.size ≤ maxLen) (hL : Lim T0 G0 (ts ++ l.map kT)) :
    Calls Tryz.prog 98 #[.pointer (some ⟨R, 0, none⟩), .slice (some ⟨w0.heap.size, 0, none⟩) l.length l.length] W fun e w' => e = .returned (.tuple #[]) ∧ AtW B R T0 G0 (ts ++ l.map kT) w' ∧ WBut B R w0 w' := by
  have hR := hA.lt
  refine (put_calls B R l w0.heap.size 0 l.length T0 G0 ts W (Nat.le_trans hB hW.size) (by omega) (hA.stays hW) (Safe.made hc neSB hR) (NRow.all l 0 hs fun j a h => by
    rw [Nat.zero_add, cell_of_row _ _ j _ _ _ hc]
    simp [h]) hL).mono ?_
  rintro e w' ⟨rfl, h1, h2⟩
  exact ⟨rfl, h1, (WBut.of hW hB).trans h2⟩
theorem put5_calls (B R : Nat) (a b c d f : ByteArray) (T0 G0 : TkB) (ts : List TkB) (W w0 : World) (hW : Below w0.heap.size w0 W) (hc : W.heap[w0.heap.size]? = some (.cells #[.string a, .string b, .string c, .string d, .string f] 9 (0, 0))) (hB : B ≤ w0.heap.size) (hA : AtW B R T0 G0 ts w0) (ha : a.size ≤ maxLen) (hb : b.size ≤ maxLen) (hcc : c.size ≤ maxLen) (hd : d.size ≤ maxLen) (hf : f.size ≤ maxLen) (hL : Lim T0 G0 (ts ++ [kT a, kT b, kT c, kT d, kT f])) :
    Calls Tryz.prog 98 #[.pointer (some ⟨R, 0, none⟩), .slice (some ⟨w0.heap.size, 0, none⟩) 5 5] W fun e w' => e = .returned (.tuple #[]) ∧ AtW B R T0 G0 (ts ++ [kT a, kT b, kT c, kT d, kT f]) w' ∧ WBut B R w0 w' :=
  putl_calls B R [a, b, c, d, f] (by simp) T0 G0 ts W w0 hW hc hB hA (fun x hx => by
    simp only [List.mem_cons, List.not_mem_nil, or_false] at hx
    rcases hx with rfl | rfl | rfl | rfl | rfl <;> assumption) hL
/-- the contract of a statement -/
def StmtAt (B R : Nat) (x : PS) : Prop := ∀ (T0 G0 : TkB) (ts : List TkB) (v : VS) (w : World), B ≤ w.heap.size → Words B w → AtW B R T0 G0 ts w → PS.In B w x v → Lim T0 G0 (ts ++ tokS x) →
  Calls Tryz.prog 198 #[.pointer (some ⟨R, 0, none⟩), .agg (x.cells v).toArray] w fun e w' => e = .returned (.tuple #[]) ∧ AtW B R T0 G0 (ts ++ tokS x) w' ∧ WBut B R w w'
theorem tokSs_take : ∀ (l : List PS) (k : Nat) (x : PS), l[k]? = some x → tokSs (l.take (k + 1)) = tokSs (l.take k) ++ tokS x
  | y :: l, 0, x, h => by
    obtain rfl : y = x := by simpa using h
    simp [tokSs]
  | y :: l, k + 1, x, h => by
    rw [List.take_succ_cons, List.take_succ_cons, tokSs, tokSs, tokSs_take l k x (by simpa using h)]; simp
theorem tokSs_split (l : List PS) (k : Nat) : tokSs l = tokSs (l.take k) ++ tokSs (l.drop k) := by
  induction l generalizing k with
  | nil => simp [tokSs]
  | cons a l ih => cases k with
    | zero => simp [tokSs]
    | succ k => rw [List.take_succ_cons, List.drop_succ_cons, tokSs, tokSs, ih k]; simp
set_option maxRecDepth 100000 in
set_option maxHeartbeats 4000000 in
theorem stmts_calls (B R : Nat) (l : List PS) (IH : ∀ x ∈ l, StmtAt B R x) : StmtsAt B R l := by
  intro T0 G0 ts v b o w hB hW hA hs hr hL
  obtain ⟨hl, ao, cap, rfl, k1⟩ := hs
  obtain ⟨n, hn⟩ : ∃ n, n = l.length := ⟨_, rfl⟩
  rw [← hn] at hl k1 ⊢
  have hn' : n ≤ 9223372036854775807 := by unfold maxLen at hl; omega
  have Hn := Lib.hid hn
  have HA := Lib.hid hA
  have HW := Lib.hid hW
  have HR := Lib.hid hr
  have HI := Lib.hid IH
  have HK := Lib.hid k1
  have HL := Lib.hid hL
  have hRR : R < w.heap.size := hA.lt
  clear hn IH hW hA hr hL k1
  go_enter Tryz.func177, Tryz.ntmps177
  go_wp2_with fail
  go_loopw [8] (fun i wr => ∃ k : Nat, k ≤ n ∧ i = .int .i64 k ∧ Hid (AtW B R T0 G0 (ts ++ tokSs (l.take k)) wr) ∧ Hid (WBut B R w wr))
    (fun i _ => n - (intOf i).toNat)
  case atStart => exact ⟨0, by omega, rfl, Lib.hid (by simpa [tokSs] using HA.out), Lib.hid (WBut.refl B R w)⟩
  case round =>
    obtain ⟨k, hk, rfl, Hw, Hb⟩ := hrel
    by_cases hlt : k < n
    · obtain ⟨x, hx⟩ := (⟨l[k]'(by rw [← Hn.out]; exact hlt), List.getElem?_eq_getElem _⟩ : ∃ a, l[k]? = some a)
      obtain ⟨rfl, hbB⟩ := HK.out.resolve_left (by omega)
      obtain ⟨vx, cx, ix⟩ := PS.Row.get HR.out hx
      obtain ⟨a1, n1, c1, a2, n2, c2, a3, n3, c3, a4, n4, c4, a5, n5, c5, a6, n6, c6, a7, n7, c7, rfl⟩ := ix.shape
      have hBr : B ≤ wr.heap.size := Nat.le_trans hB Hb.out.size
      have hlim : Lim T0 G0 ((ts ++ tokSs (l.take k)) ++ tokS x) := by
        have h1 : Lim T0 G0 ((ts ++ tokSs (l.take (k + 1))) ++ tokSs (l.drop (k + 1))) := by
          rw [List.append_assoc, ← tokSs_split]; exact HL.out
        have h2 := h1.less
        rw [tokSs_take l k x hx, ← List.append_assoc] at h2
        exact h2
      have HS := Lib.hid (tokSs_take l k x hx)
      have HI1 := Lib.hid (HI.out x (List.mem_of_getElem? hx))
      have HX := Lib.hid (PS.In.below Hb.out.bel ix)
      have hcx := cx.below hbB Hb.out.bel
      obtain ⟨op, nm, sc, ns, ty, it, pl, es, bo, el, ar, pos⟩ := x
      have hbr : b < wr.heap.size := by omega
      have d0 : wr.cell? ⟨b, o + k * 15, none⟩ = some (.int .u8 op) := by simpa using hcx 0 _ rfl
      have d1 : wr.cell? ⟨b, o + k * 15 + 1, none⟩ = some (.string nm) := hcx 1 _ rfl
      have d2 : wr.cell? ⟨b, o + k * 15 + 2, none⟩ = some (.string sc) := hcx 2 _ rfl
      have d3 : wr.cell? ⟨b, o + k * 15 + 3, none⟩ = some (.slice a1 n1 c1) := hcx 3 _ rfl
      have d4 : wr.cell? ⟨b, o + k * 15 + 4, none⟩ = some (.int .u8 ty.kind) := hcx 4 _ rfl
      have d5 : wr.cell? ⟨b, o + k * 15 + 5, none⟩ = some (.string ty.name) := hcx 5 _ rfl
      have d6 : wr.cell? ⟨b, o + k * 15 + 6, none⟩ = some (.slice a2 n2 c2) := hcx 6 _ rfl
      have d7 : wr.cell? ⟨b, o + k * 15 + 7, none⟩ = some (.int .i64 it) := hcx 7 _ rfl
      have d8 : wr.cell? ⟨b, o + k * 15 + 8, none⟩ = some (.string pl.name) := hcx 8 _ rfl
      have d9 : wr.cell? ⟨b, o + k * 15 + 9, none⟩ = some (.slice a3 n3 c3) := hcx 9 _ rfl
      have d10 : wr.cell? ⟨b, o + k * 15 + 10, none⟩ = some (.slice a4 n4 c4) := hcx 10 _ rfl
      have d11 : wr.cell? ⟨b, o + k * 15 + 11, none⟩ = some (.slice a5 n5 c5) := hcx 11 _ rfl
      have d12 : wr.cell? ⟨b, o + k * 15 + 12, none⟩ = some (.slice a6 n6 c6) := hcx 12 _ rfl
      have d13 : wr.cell? ⟨b, o + k * 15 + 13, none⟩ = some (.slice a7 n7 c7) := hcx 13 _ rfl
      have d14 : wr.cell? ⟨b, o + k * 15 + 14, none⟩ = some (.int .i64 pos) := hcx 14 _ rfl
      clear hx cx ix hcx
      obtain ⟨w1, hw1⟩ : ∃ w1, w1 = wr.alloc (.cells #[.int .u8 op, .string nm, .string sc, .slice a1 n1 c1, .int .u8 ty.kind, .string ty.name, .slice a2 n2 c2, .int .i64 it, .string pl.name, .slice a3 n3 c3, .slice a4 n4 c4, .slice a5 n5 c5, .slice a6 n6 c6, .slice a7 n7 c7, .int .i64 pos] 130) := ⟨_, rfl⟩
      have hRr : R < wr.heap.size := by have := Hb.out.size; omega
      have EB : CBox R wr.heap.size [.int .u8 op, .string nm, .string sc, .slice a1 n1 c1, .int .u8 ty.kind, .string ty.name, .slice a2 n2 c2, .int .i64 it, .string pl.name, .slice a3 n3 c3, .slice a4 n4 c4, .slice a5 n5 c5, .slice a6 n6 c6, .slice a7 n7 c7, .int .i64 pos] w1 := by rw [hw1]; exact CBox.new _ (by decide) hRr
      have bx1 : Below wr.heap.size wr w1 := by rw [hw1]; exact new_only _ _
      have B1 := Lib.hid (Hb.out.trans (WBut.of bx1 hBr (R := R)))
      have hz1 : wr.heap.size < w1.heap.size := EB.lt
      have P : Hid (Calls Tryz.prog 198 #[.pointer (some ⟨R, 0, none⟩), .agg #[.int .u8 op, .string nm, .string sc, .slice a1 n1 c1, .int .u8 ty.kind, .string ty.name, .slice a2 n2 c2, .int .i64 it, .string pl.name, .slice a3 n3 c3, .slice a4 n4 c4, .slice a5 n5 c5, .slice a6 n6 c6, .slice a7 n7 c7, .int .i64 pos]] w1 fun e w' => e = .returned (.tuple #[]) ∧ AtW B R T0 G0 ((ts ++ tokSs (l.take k)) ++ tokS (.mk op nm sc ns ty it pl es bo el ar pos)) w' ∧ WBut B R w1 w') := Lib.hid (HI1.out T0 G0 (ts ++ tokSs (l.take k)) ⟨.slice a1 n1 c1, .slice a2 n2 c2, .slice a3 n3 c3, .slice a4 n4 c4, .slice a5 n5 c5, .slice a6 n6 c6, .slice a7 n7 c7⟩ w1 (by omega) (HW.out.below B1.out.bel) (Hw.out.stays bx1) (PS.In.below (bx1.mono hBr) HX.out) hlim)
      have y0 : w1.cell? ⟨wr.heap.size, 0, none⟩ = some (.int .u8 op) := EB.has 0 _ rfl
      have y1 : w1.cell? ⟨wr.heap.size, 1, none⟩ = some (.string nm) := EB.has 1 _ rfl
      have y2 : w1.cell? ⟨wr.heap.size, 2, none⟩ = some (.string sc) := EB.has 2 _ rfl
      have y3 : w1.cell? ⟨wr.heap.size, 3, none⟩ = some (.slice a1 n1 c1) := EB.has 3 _ rfl
      have y4 : w1.cell? ⟨wr.heap.size, 4, none⟩ = some (.int .u8 ty.kind) := EB.has 4 _ rfl
      have y5 : w1.cell? ⟨wr.heap.size, 5, none⟩ = some (.string ty.name) := EB.has 5 _ rfl
      have y6 : w1.cell? ⟨wr.heap.size, 6, none⟩ = some (.slice a2 n2 c2) := EB.has 6 _ rfl
      have y7 : w1.cell? ⟨wr.heap.size, 7, none⟩ = some (.int .i64 it) := EB.has 7 _ rfl
      have y8 : w1.cell? ⟨wr.heap.size, 8, none⟩ = some (.string pl.name) := EB.has 8 _ rfl
      have y9 : w1.cell? ⟨wr.heap.size, 9, none⟩ = some (.slice a3 n3 c3) := EB.has 9 _ rfl
      have y10 : w1.cell? ⟨wr.heap.size, 10, none⟩ = some (.slice a4 n4 c4) := EB.has 10 _ rfl
      have y11 : w1.cell? ⟨wr.heap.size, 11, none⟩ = some (.slice a5 n5 c5) := EB.has 11 _ rfl
      have y12 : w1.cell? ⟨wr.heap.size, 12, none⟩ = some (.slice a6 n6 c6) := EB.has 12 _ rfl
      have y13 : w1.cell? ⟨wr.heap.size, 13, none⟩ = some (.slice a7 n7 c7) := EB.has 13 _ rfl
      have y14 : w1.cell? ⟨wr.heap.size, 14, none⟩ = some (.int .i64 pos) := EB.has 14 _ rfl
      clear bx1 EB Hw HI1 HX hlim
      go_upto_region 3 with (fail)
      rw [← hw1]
      clear hw1
      go_wp2_with fail
      (with_reducible refine (P.out).mono ?_)
      rintro e w2 ⟨rfl, h, b2⟩
      have B2 := Lib.hid (B1.out.trans b2)
      have A2 : Hid (AtW B R T0 G0 (ts ++ tokSs (l.take (k + 1))) w2) := Lib.hid (by rw [HS.out, ← List.append_assoc]; exact h)
      clear h b2 P y0 y1 y2 y3 y4 y5 y6 y7 y8 y9 y10 y11 y12 y13 y14 d0 d1 d2 d3 d4 d5 d6 d7 d8 d9 d10 d11 d12 d13 d14
      go_wp2
      go_roundw
      case rel => exact ⟨k + 1, by omega, by go_num, A2, B2⟩
      case measure => simp [intOf]; omega
    · obtain rfl : k = n := by omega
      have hall : l.take k = l := List.take_of_length_le (by rw [Hn.out]; exact Nat.le_refl _)
      go_wp2
      go_end0
      exact ⟨rfl, by rw [hall] at Hw; exact Hw.out, Hb.out⟩
/-- a block -/
theorem block_calls (B R : Nat) (l : List PS) (hb : StmtsAt B R l) (T0 G0 : TkB) (ts : List TkB) (v : Value) (b o : Nat) (w : World) (hB : B ≤ w.heap.size) (hW : Words B w) (hA : AtW B R T0 G0 ts w) (hs : SlV B v l.length b o) (hr : PS.Row B w b o l) (hL : Lim T0 G0 (ts ++ blockT (tokSs l))) :
    Calls Tryz.prog 221 #[.pointer (some ⟨R, 0, none⟩), v] w fun e w' => e = .returned (.tuple #[]) ∧ AtW B R T0 G0 (ts ++ blockT (tokSs l)) w' ∧ WBut B R w w' := by
  have e1 : ts ++ blockT (tokSs l) = ((ts ++ [wLeft]) ++ tokSs l) ++ [wRight] := by simp [blockT]
  rw [e1] at hL ⊢
  have P1 := Lib.hid (put1_calls B R ⟨#[123]⟩ T0 G0 ts _ w (new_only w (.cells #[.string ⟨#[123]⟩] 9)) (heap_alloc_new w _) hB hA (by decide) hL.less.less)
  have HW := Lib.hid hW
  have HR := Lib.hid hr
  have HL := Lib.hid hL
  have HS := Lib.hid hs
  obtain ⟨ao, cap, rfl⟩ := hs.shape
  have hRR : R < w.heap.size := hA.lt
  clear hW hr hL hs hA e1
  go_enter Tryz.func221, Tryz.ntmps221
  go_wp2_with fail
  (with_reducible refine (P1.out).mono ?_)
  rintro e w1 ⟨rfl, h1, b1⟩
  have B1 := Lib.hid b1
  have P2 := Lib.hid (hb T0 G0 (ts ++ [wLeft]) _ b o w1 (Nat.le_trans hB b1.size) (HW.out.below b1.bel) h1 HS.out (PS.Row.below' b1.bel HS.out HR.out) HL.out.less)
  clear h1 b1 P1
  go_wp2_with fail
  (with_reducible refine (P2.out).mono ?_)
  rintro e w2 ⟨rfl, h2, b2⟩
  have B2 := Lib.hid (B1.out.trans b2)
  have P3 := Lib.hid (put1_calls B R ⟨#[125]⟩ T0 G0 ((ts ++ [wLeft]) ++ tokSs l) _ w2 (new_only w2 (.cells #[.string ⟨#[125]⟩] 9)) (heap_alloc_new w2 _) (Nat.le_trans hB B2.out.size) h2 (by decide) HL.out)
  clear h2 b2 P2
  go_wp2_with fail
  (with_reducible refine (P3.out).mono ?_)
  rintro e w3 ⟨rfl, h3, b3⟩
  have H3 := Lib.hid h3
  have B3 := Lib.hid (B2.out.trans b3)
  clear h3 b3 P3
  go_wp2
  go_end0
  exact ⟨rfl, H3.out, B3.out⟩
/-- an else, if there is one -/
theorem otherwise_calls (B R : Nat) (l : List PS) (hb : StmtsAt B R l) (T0 G0 : TkB) (ts : List TkB) (v : Value) (b o : Nat) (w : World) (hB : B ≤ w.heap.size) (hW : Words B w) (hA : AtW B R T0 G0 ts w) (hs : SlV B v l.length b o) (hr : PS.Row B w b o l) (hL : Lim T0 G0 (ts ++ elseT l.isEmpty (tokSs l))) :
    Calls Tryz.prog 222 #[.pointer (some ⟨R, 0, none⟩), v] w fun e w' => e = .returned (.tuple #[]) ∧ AtW B R T0 G0 (ts ++ elseT l.isEmpty (tokSs l)) w' ∧ WBut B R w w' := by
  have HS := Lib.hid hs
  obtain ⟨hn, ao, cap, rfl, _⟩ := hs
  have hn' : l.length ≤ 9223372036854775807 := by unfold maxLen at hn; omega
  have HA := Lib.hid hA
  have HW := Lib.hid hW
  have HR := Lib.hid hr
  by_cases h0 : l.length = 0
  · obtain rfl : l = [] := List.length_eq_zero_iff.1 h0
    have e0 : ts ++ elseT (([] : List PS).isEmpty) (tokSs []) = ts := by simp [elseT]
    rw [e0]
    show Calls Tryz.prog 222 #[.pointer (some ⟨R, 0, none⟩), .slice ao 0 cap] w _
    clear hW hA hr hL
    go_enter Tryz.func222, Tryz.ntmps222
    go_wp2
    go_end0
    exact ⟨rfl, HA.out, WBut.refl B R w⟩
  · have h1 : l.isEmpty = false := by cases l with
      | nil => exact absurd rfl h0
      | cons a l => rfl
    have e1 : ts ++ elseT l.isEmpty (tokSs l) = (ts ++ [wElse]) ++ blockT (tokSs l) := by rw [h1]; simp [elseT]
    rw [e1] at hL ⊢
    have HL := Lib.hid hL
    have P1 := Lib.hid (put1_calls B R ⟨#[101, 108, 115, 101]⟩ T0 G0 ts _ w (new_only w (.cells #[.string ⟨#[101, 108, 115, 101]⟩] 9)) (heap_alloc_new w _) hB hA (by decide) hL.less)
    have hpos : (0 : Int) < (l.length : Int) := by omega
    have hRR : R < w.heap.size := hA.lt
    clear hW hA hr hL h1 e1 h0
    have HX := Lib.hid (fun (W : World) h1 h2 h3 h4 => block_calls B R l hb T0 G0 (ts ++ [wElse]) (.slice ao l.length cap) b o W h1 h2 h3 HS.out h4 HL.out)
    generalize blockT (tokSs l) = tx at *
    have HRw := Lib.hid (fun (W : World) (k : WBut B R w W) => PS.Row.below' k.bel HS.out HR.out)
    clear HS HR
    generalize l.length = n at *
    go_enter Tryz.func222, Tryz.ntmps222
    go_wp2_with fail
    (with_reducible refine (P1.out).mono ?_)
    rintro e w1 ⟨rfl, h1, b1⟩
    have B1 := Lib.hid b1
    have P2 := Lib.hid (HX.out w1 (Nat.le_trans hB b1.size) (HW.out.below b1.bel) h1 (HRw.out w1 b1))
    clear h1 b1 P1
    go_wp2_with fail
    (with_reducible refine (P2.out).mono ?_)
    rintro e w2 ⟨rfl, h2, b2⟩
    have H2 := Lib.hid h2
    have B2 := Lib.hid (B1.out.trans b2)
    clear h2 b2 P2
    go_wp2
    go_end0
    exact ⟨rfl, H2.out, B2.out⟩
end Go.Proofs.YthilicmhdkmipaaGreatDoor
/- What the writer writes of an item. -/
namespace Go.Proofs.YthilicmhdkmipaaGreatDoor
open Go.RowKit
set_option linter.unusedVariables false

set_option maxRecDepth 100000 in
set_option maxHeartbeats 4000000 in
theorem variant_bare (B R : Nat) (nm : ByteArray) (t : PT) (h0 : t.kind = 0) (T0 G0 : TkB) (ts : List TkB) (v : Value) (w : World) (hB : B ≤ w.heap.size) (hW : Words B w) (hA : AtW B R T0 G0 ts w) (hx : PF.In B w ⟨nm, t⟩ v) (hL : Lim T0 G0 (ts ++ ([kT nm]))) :
    Calls Tryz.prog 147 #[.pointer (some ⟨R, 0, none⟩), .agg (PF.cells ⟨nm, t⟩ v).toArray] w fun e w' => e = .returned (.tuple #[]) ∧ AtW B R T0 G0 (ts ++ ([kT nm])) w' ∧ WBut B R w w' := by
  obtain ⟨hsn, htt⟩ := hx
  dsimp only at hsn htt
  obtain ⟨a1, n1, c1, rfl⟩ := htt.shape
  have HT := Lib.hid htt
  clear htt
  have hRR : R < w.heap.size := hA.lt
  obtain ⟨w1, hw1⟩ : ∃ w1, w1 = w.alloc (.cells #[.string nm, .int .u8 t.kind, .string t.name, .slice a1 n1 c1] 127) := ⟨_, rfl⟩
  have bx : Below w.heap.size w w1 := by rw [hw1]; exact new_only _ _
  have E1 : Hid (CBox R w.heap.size [.string nm, .int .u8 t.kind, .string t.name, .slice a1 n1 c1] w1) := Lib.hid (by rw [hw1]; exact CBox.new _ (by decide) hRR)
  have et : ts ++ ([kT nm]) = ts ++ [kT nm] := by simp
  rw [et] at hL ⊢
  clear et
  have B1 : Hid (WBut B R w w1) := Lib.hid (WBut.of bx hB (R := R))
  have HW := Lib.hid hW
  have A1 := Lib.hid (hA.stays bx)
  have HL := Lib.hid hL
  show Calls Tryz.prog 147 #[.pointer (some ⟨R, 0, none⟩), .agg #[.string nm, .int .u8 t.kind, .string t.name, .slice a1 n1 c1]] w _
  rw [h0] at hw1 E1 ⊢
  clear hW hA hL bx
  go_enter Tryz.func147, Tryz.ntmps147
  go_upto_region 1 with (fail)
  (try simp only [size_alloc])
  rw [← hw1]
  clear hw1
  have x1_0 : w1.cell? ⟨w.heap.size, 0, none⟩ = some (.string nm) := E1.out.has 0 _ rfl
  have z1 : w.heap.size < w1.heap.size := E1.out.lt
  have hB1 : B ≤ w1.heap.size := Nat.le_trans hB B1.out.size
  have P := Lib.hid (put1_calls B R nm T0 G0 ts _ w1 (new_drew w1 (.cells #[.string nm] 9)) (drew_new w1 _) hB1 A1.out hsn HL.out)
  go_upto_region 1 with (fail)
  go_cut [3] from 4 to 11 (fun s3 wx => s3 = .pointer (some ⟨w.heap.size, 0, none⟩) ∧ Hid (AtW B R T0 G0 (ts ++ [kT nm]) wx) ∧ Hid (WBut B R w1 wx))
  case first =>
    go_region_held3 (fun w' => w'.cell? ⟨w.heap.size, 0, none⟩ = some (.string nm)) (first | exact x1_0 | exact (low_new w1 _ _ _ z1).trans x1_0 | exact XB0)
      (first
        | (go_at_call 98; (with_reducible refine (P.out).mono ?_)
           rintro e wy ⟨rfl, h1, b1⟩
           have H1 := Lib.hid h1
           have BB := Lib.hid b1
           have XB0 := (E1.out.safe.cell b1 0).trans x1_0
           clear h1 b1))
    go_wp2_with fail
    go_meet
    case rel => exact ⟨rfl, H1, BB⟩
  case rest =>
    obtain ⟨rfl, A2, b⟩ := hcut
    have B2 := Lib.hid (B1.out.trans b.out)
    have E2 := Lib.hid (E1.out.but b.out)
  
    obtain ⟨w2, hwc⟩ : ∃ x, x = wc := ⟨_, rfl⟩
    rw [← hwc] at A2 B2 E2 ⊢
    clear hwc b P x1_0 z1 A1 E1
    have x2_1 : w2.cell? ⟨w.heap.size, 1, none⟩ = some (.int .u8 0) := E2.out.has 1 _ rfl
    have z2 : w.heap.size < w2.heap.size := E2.out.lt
    have hB2 : B ≤ w2.heap.size := Nat.le_trans hB B2.out.size
    go_wp2
    (try simp only [Exit.inBlock, Exit.then])
    refine bodyPost_ret (results_none rfl _ _ _) rfl ?_
    exact ⟨rfl, A2.out, B2.out⟩
set_option maxRecDepth 100000 in
set_option maxHeartbeats 4000000 in
theorem variant_with (B R : Nat) (nm : ByteArray) (t : PT) (h0 : t.kind ≠ 0) (ht : TypedAt B R t) (T0 G0 : TkB) (ts : List TkB) (v : Value) (w : World) (hB : B ≤ w.heap.size) (hW : Words B w) (hA : AtW B R T0 G0 ts w) (hx : PF.In B w ⟨nm, t⟩ v) (hL : Lim T0 G0 (ts ++ (kT nm :: wOpen :: (tokT t ++ [wEnd])))) :
    Calls Tryz.prog 147 #[.pointer (some ⟨R, 0, none⟩), .agg (PF.cells ⟨nm, t⟩ v).toArray] w fun e w' => e = .returned (.tuple #[]) ∧ AtW B R T0 G0 (ts ++ (kT nm :: wOpen :: (tokT t ++ [wEnd]))) w' ∧ WBut B R w w' := by
  obtain ⟨hsn, htt⟩ := hx
  dsimp only at hsn htt
  obtain ⟨a1, n1, c1, rfl⟩ := htt.shape
  have HT := Lib.hid htt
  clear htt
  have hRR : R < w.heap.size := hA.lt
  obtain ⟨w1, hw1⟩ : ∃ w1, w1 = w.alloc (.cells #[.string nm, .int .u8 t.kind, .string t.name, .slice a1 n1 c1] 127) := ⟨_, rfl⟩
  have bx : Below w.heap.size w w1 := by rw [hw1]; exact new_only _ _
  have E1 : Hid (CBox R w.heap.size [.string nm, .int .u8 t.kind, .string t.name, .slice a1 n1 c1] w1) := Lib.hid (by rw [hw1]; exact CBox.new _ (by decide) hRR)
  have et : ts ++ (kT nm :: wOpen :: (tokT t ++ [wEnd])) = (((ts ++ [kT nm]) ++ [wOpen]) ++ tokT t) ++ [wEnd] := by simp
  rw [et] at hL ⊢
  clear et
  have B1 : Hid (WBut B R w w1) := Lib.hid (WBut.of bx hB (R := R))
  have HW := Lib.hid hW
  have A1 := Lib.hid (hA.stays bx)
  have HL := Lib.hid hL
  show Calls Tryz.prog 147 #[.pointer (some ⟨R, 0, none⟩), .agg #[.string nm, .int .u8 t.kind, .string t.name, .slice a1 n1 c1]] w _
  clear hW hA hL bx
  go_enter Tryz.func147, Tryz.ntmps147
  go_upto_region 1 with (fail)
  (try simp only [size_alloc])
  rw [← hw1]
  clear hw1
  have x1_0 : w1.cell? ⟨w.heap.size, 0, none⟩ = some (.string nm) := E1.out.has 0 _ rfl
  have z1 : w.heap.size < w1.heap.size := E1.out.lt
  have hB1 : B ≤ w1.heap.size := Nat.le_trans hB B1.out.size
  have P := Lib.hid (put1_calls B R nm T0 G0 ts _ w1 (new_drew w1 (.cells #[.string nm] 9)) (drew_new w1 _) hB1 A1.out hsn HL.out.less.less.less)
  go_upto_region 1 with (fail)
  go_cut [3] from 4 to 11 (fun s3 wx => s3 = .pointer (some ⟨w.heap.size, 0, none⟩) ∧ Hid (AtW B R T0 G0 (ts ++ [kT nm]) wx) ∧ Hid (WBut B R w1 wx))
  case first =>
    go_region_held3 (fun w' => w'.cell? ⟨w.heap.size, 0, none⟩ = some (.string nm)) (first | exact x1_0 | exact (low_new w1 _ _ _ z1).trans x1_0 | exact XB0)
      (first
        | (go_at_call 98; (with_reducible refine (P.out).mono ?_)
           rintro e wy ⟨rfl, h1, b1⟩
           have H1 := Lib.hid h1
           have BB := Lib.hid b1
           have XB0 := (E1.out.safe.cell b1 0).trans x1_0
           clear h1 b1))
    go_wp2_with fail
    go_meet
    case rel => exact ⟨rfl, H1, BB⟩
  case rest =>
    obtain ⟨rfl, A2, b⟩ := hcut
    have B2 := Lib.hid (B1.out.trans b.out)
    have E2 := Lib.hid (E1.out.but b.out)
  
    obtain ⟨w2, hwc⟩ : ∃ x, x = wc := ⟨_, rfl⟩
    rw [← hwc] at A2 B2 E2 ⊢
    clear hwc b P x1_0 z1 A1 E1
    have q2 : w2.cell? ⟨w.heap.size, 1, none⟩ = some (.int .u8 t.kind) := E2.out.has 1 _ rfl
    have n0 : (t.kind == 0) = false := beq_eq_false_iff_ne.2 h0
    have z2 : w.heap.size < w2.heap.size := E2.out.lt
    have hB2 : B ≤ w2.heap.size := Nat.le_trans hB B2.out.size
    have P := Lib.hid (put1_calls B R ⟨#[40]⟩ T0 G0 (ts ++ [kT nm]) _ w2 (new_only w2 (.cells #[.string ⟨#[40]⟩] 9)) (heap_alloc_new w2 _) hB2 A2.out (by decide) HL.out.less.less)
    go_wp2_with fail
    (with_reducible refine (P.out).mono ?_)
    rintro e w3 ⟨rfl, h, b⟩
    have A3 := Lib.hid h
    have B3 := Lib.hid (B2.out.trans b)
    have E3 := Lib.hid (E2.out.but b)
    clear h b P  z2 A2 E2
    have x3_1 : w3.cell? ⟨w.heap.size, 1, none⟩ = some (.int .u8 t.kind) := E3.out.has 1 _ rfl
    have x3_2 : w3.cell? ⟨w.heap.size, 2, none⟩ = some (.string t.name) := E3.out.has 2 _ rfl
    have x3_3 : w3.cell? ⟨w.heap.size, 3, none⟩ = some (.slice a1 n1 c1) := E3.out.has 3 _ rfl
    have z3 : w.heap.size < w3.heap.size := E3.out.lt
    have hB3 : B ≤ w3.heap.size := Nat.le_trans hB B3.out.size
    have P := Lib.hid (ht T0 G0 ((ts ++ [kT nm]) ++ [wOpen]) (.slice a1 n1 c1) w3 hB3 (HW.out.below B3.out.bel) A3.out (PT.In.below B3.out.bel HT.out) HL.out.less)
    go_wp2_with fail
    (with_reducible refine (P.out).mono ?_)
    rintro e w4 ⟨rfl, h, b⟩
    have A4 := Lib.hid h
    have B4 := Lib.hid (B3.out.trans b)
    have E4 := Lib.hid (E3.out.but b)
    clear h b P x3_1 x3_2 x3_3 z3 A3 E3
    have z4 : w.heap.size < w4.heap.size := E4.out.lt
    have hB4 : B ≤ w4.heap.size := Nat.le_trans hB B4.out.size
    have P := Lib.hid (put1_calls B R ⟨#[41]⟩ T0 G0 (((ts ++ [kT nm]) ++ [wOpen]) ++ tokT t) _ w4 (new_only w4 (.cells #[.string ⟨#[41]⟩] 9)) (heap_alloc_new w4 _) hB4 A4.out (by decide) HL.out)
    go_wp2_with fail
    (with_reducible refine (P.out).mono ?_)
    rintro e w5 ⟨rfl, h, b⟩
    have A5 := Lib.hid h
    have B5 := Lib.hid (B4.out.trans b)
    have E5 := Lib.hid (E4.out.but b)
    clear h b P  z4 A4 E4
    go_wp2
    go_end0
    exact ⟨rfl, A5.out, B5.out⟩
end Go.Proofs.YthilicmhdkmipaaGreatDoor
