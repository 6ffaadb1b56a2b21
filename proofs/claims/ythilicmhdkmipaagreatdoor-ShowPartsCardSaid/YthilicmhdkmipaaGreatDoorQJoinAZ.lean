/- A row of expressions. -/
import Derived.Test.YthilicmhdkmipaaGreatDoorQJoinAY
import Derived.Test.YthilicmhdkmipaaGreatDoorQShowRefXA
namespace Go.Proofs.YthilicmhdkmipaaGreatDoor
open Go.RowKit
set_option linter.unusedVariables false

theorem exprs1_enters : ∀ args w, (callFunc 159 args).run Tryz.prog w = .ok (.enter 159 args) w := enters_of Tryz.func159 (by kernel_rfl) rfl
set_option maxRecDepth 100000 in
set_option maxHeartbeats 4000000 in
theorem exprs1_calls (B R : Nat) (x : PE) (IH : ExprAt B R x) (k n : Nat) (hk : k < n) (hn : n ≤ maxLen) (gw gl b o cap : Nat) (T0 G0 : TkB) (ts : List TkB) (v : VE) (w : World) (hB : B ≤ w.heap.size) (hW : Words B w) (hA : AtW B R T0 G0 ts w) (hx : x.In B w v) (hL : Lim T0 G0 (ts ++ tokE x))
    (h0 : w.cell? ⟨gw, 0, none⟩ = some (.pointer (some ⟨R, 0, none⟩))) (h1 : w.cell? ⟨gl, 0, none⟩ = some (.slice (some ⟨b, o, none⟩) n cap)) (hc : CellsAt w b (o + k * 8) (x.cells v)) :
    Calls Tryz.prog 159 #[.int .i64 k, .pointer (some ⟨gw, 0, none⟩), .pointer (some ⟨gl, 0, none⟩)] w fun e w' => e = .returned (.tuple #[]) ∧ AtW B R T0 G0 (ts ++ tokE x) w' ∧ WBut B R w w' := by
  obtain ⟨p1, n1, c1, p2, n2, c2, rfl⟩ := hx.shape
  have hn' : n ≤ 9223372036854775807 := by unfold maxLen at hn; omega
  have C := Lib.hid (IH T0 G0 ts _ w.drew (by simpa using hB) (hW.below (Below.refl _ w).drew) (hA.stays (Below.refl _ w).drew) (PE.In.below (Below.refl _ w).drew hx) hL)
  have C' : Hid (Calls Tryz.prog 69 #[.pointer (some ⟨R, 0, none⟩), .agg #[.int .u8 x.op, .int .i64 x.int, .string x.name, .string x.second, .string x.place.name, .slice p1 n1 c1, .slice p2 n2 c2, .int .i64 x.pos]] w.drew fun e w' => e = .returned (.tuple #[]) ∧ AtW B R T0 G0 (ts ++ tokE x) w' ∧ WBut B R w.drew w') := Lib.hid C.out
  have x0 : w.cell? ⟨b, o + k * 8, none⟩ = some (.int .u8 x.op) := by simpa using hc 0 _ rfl
  have x1 : w.cell? ⟨b, o + k * 8 + 1, none⟩ = some (.int .i64 x.int) := hc 1 _ rfl
  have x2 : w.cell? ⟨b, o + k * 8 + 2, none⟩ = some (.string x.name) := hc 2 _ rfl
  have x3 : w.cell? ⟨b, o + k * 8 + 3, none⟩ = some (.string x.second) := hc 3 _ rfl
  have x4 : w.cell? ⟨b, o + k * 8 + 4, none⟩ = some (.string x.place.name) := hc 4 _ rfl
  have x5 : w.cell? ⟨b, o + k * 8 + 5, none⟩ = some (.slice p1 n1 c1) := hc 5 _ rfl
  have x6 : w.cell? ⟨b, o + k * 8 + 6, none⟩ = some (.slice p2 n2 c2) := hc 6 _ rfl
  have x7 : w.cell? ⟨b, o + k * 8 + 7, none⟩ = some (.int .i64 x.pos) := hc 7 _ rfl
  have WD : WBut B R w w.drew := WBut.of (Below.refl _ w).drew hB
  clear hW hA hx hL IH C hc
  generalize tokE x = tx at *
  go_enter Tryz.func159, Tryz.ntmps159
  go_region_with (first
    | (go_at_call 69; (with_reducible refine (C'.out).mono ?_)
       rintro e w3 ⟨rfl, h3, b3⟩
       have H3 := Lib.hid h3
       have B3 := Lib.hid (WD.trans b3)
       clear h3 b3))
  all_goals
    go_wp2
    go_end0
    exact ⟨rfl, H3.out, B3.out⟩
end Go.Proofs.YthilicmhdkmipaaGreatDoor
/- A row of expressions, with commas between. -/
namespace Go.Proofs.YthilicmhdkmipaaGreatDoor
open Go.RowKit
set_option linter.unusedVariables false

theorem tokEs_map : ∀ l : List PE, tokEs l = l.map tokE
  | [] => rfl
  | x :: l => by rw [tokEs, tokEs_map l]; rfl
theorem tokEs_len (l : List PE) : (tokEs l).length = l.length := by rw [tokEs_map]; simp
theorem nePW : (81 : TypeId) ≠ 5 := by decide
theorem neSE : (35 : TypeId) ≠ 5 := by decide
set_option maxRecDepth 100000 in
set_option maxHeartbeats 4000000 in
theorem exprs_calls (B R : Nat) (l : List PE) (IH : ∀ x ∈ l, ExprAt B R x) (T0 G0 : TkB) (ts : List TkB) (v : Value) (b o : Nat) (w : World) (hB : B ≤ w.heap.size) (hW : Words B w) (hA : AtW B R T0 G0 ts w) (hs : SlV B v l.length b o) (hr : PE.Row B w b o l) (hL : Lim T0 G0 (ts ++ joinT (tokEs l))) :
    Calls Tryz.prog 101 #[.pointer (some ⟨R, 0, none⟩), v] w fun e w' => e = .returned (.tuple #[]) ∧ AtW B R T0 G0 (ts ++ joinT (tokEs l)) w' ∧ WBut B R w w' := by
  obtain ⟨hn, ao, cap, rfl, k1⟩ := hs
  have hRR : R < w.heap.size := hA.lt
  obtain ⟨w1, hw1⟩ : ∃ w1, w1 = (w.alloc (.cells #[.pointer (some ⟨R, 0, none⟩)] 81)).alloc (.cells #[.slice ao l.length cap] 35) := ⟨_, rfl⟩
  have bx : Below w.heap.size w w1 := by rw [hw1]; exact (new_only _ _).alloc (by simp) _
  have hz : w1.heap.size = w.heap.size + 2 := by rw [hw1]; simp
  have hg0 : w1.heap[w.heap.size]? = some (.cells #[.pointer (some ⟨R, 0, none⟩)] 81 (0, 0)) := by
    rw [hw1]; exact (Below.heap_alloc _ _ _ (by simp)).trans (heap_alloc_new w _)
  have hg1 : w1.heap[w.heap.size + 1]? = some (.cells #[.slice ao l.length cap] 35 (0, 0)) := by
    rw [hw1]
    have := heap_alloc_new (w.alloc (.cells #[.pointer (some ⟨R, 0, none⟩)] 81)) (.cells #[.slice ao l.length cap] 35)
    simpa using this
  have S0 : Safe R w1.drew w.heap.size := Safe.made (fr := (0, 0)) (show w1.drew.heap[w.heap.size]? = _ from hg0) nePW hRR
  have S1 : Safe R w1.drew (w.heap.size + 1) := Safe.made (fr := (0, 0)) (show w1.drew.heap[w.heap.size + 1]? = _ from hg1) neSE (by omega)
  have bd : Below w.heap.size w w1.drew := bx.drew
  have BX := Lib.hid (WBut.of bd hB (R := R))
  have c0 : w1.drew.cell? ⟨w.heap.size, 0, none⟩ = some (.pointer (some ⟨R, 0, none⟩)) := by rw [cell_of_row _ _ 0 _ _ _ (show w1.drew.heap[w.heap.size]? = _ from hg0)]; rfl
  have c1 : w1.drew.cell? ⟨w.heap.size + 1, 0, none⟩ = some (.slice ao l.length cap) := by rw [cell_of_row _ _ 0 _ _ _ (show w1.drew.heap[w.heap.size + 1]? = _ from hg1)]; rfl
  have hBd : B ≤ w1.drew.heap.size := Nat.le_trans hB bd.size
  have C := Lib.hid (list_calls B R (lb := #[.pointer (some ⟨w.heap.size, 0, none⟩), .pointer (some ⟨w.heap.size + 1, 0, none⟩)]) (tokEs l) T0 G0 ts w1.drew exprs1_enters hBd (hA.stays bd) (by rw [tokEs_len]; exact hn) hL (by
    intro k a ha us W hBW bW hAW hLW
    rw [tokEs_map, List.getElem?_map, Option.map_eq_some_iff] at ha
    obtain ⟨x, hx, rfl⟩ := ha
    have hkl : k < l.length := (List.getElem?_eq_some_iff.1 hx).1
    obtain ⟨rfl, hbB⟩ := k1.resolve_left (by omega)
    obtain ⟨vx, cx, ix⟩ := PE.Row.get hr hx
    have bl : Below B w W := (bd.mono hB).trans bW.bel
    exact exprs1_calls B R x (IH x (List.mem_of_getElem? hx)) k l.length hkl hn w.heap.size (w.heap.size + 1) b o cap T0 G0 us vx W hBW (hW.below bl) hAW (PE.In.below bl ix) hLW ((S0.cell bW 0).trans c0) ((S1.cell bW 0).trans c1) (cx.below hbB bl)))
  have C' : Hid (Calls Tryz.prog 145 #[.pointer (some ⟨R, 0, none⟩), .int .i64 l.length, .func (.func 159) #[] #[.pointer (some ⟨w.heap.size, 0, none⟩), .pointer (some ⟨w.heap.size + 1, 0, none⟩)]] w1.drew fun e w' => e = .returned (.tuple #[]) ∧ AtW B R T0 G0 (ts ++ joinT (tokEs l)) w' ∧ WBut B R w1.drew w') := Lib.hid (by
    have := C.out
    rw [tokEs_len] at this
    exact this)
  have d0 : w1.cell? ⟨w.heap.size, 0, none⟩ = some (.pointer (some ⟨R, 0, none⟩)) := c0
  have d1 : w1.cell? ⟨w.heap.size + 1, 0, none⟩ = some (.slice ao l.length cap) := c1
  clear hW hA hr hL IH C k1 S0 S1
  generalize joinT (tokEs l) = tx at *
  generalize l.length = n at *
  go_enter Tryz.func101, Tryz.ntmps101
  go_upto_region 1 with (fail)
  (try simp only [size_alloc])
  rw [← hw1]
  clear hw1
  go_region_with (first
    | (go_at_call 145; (with_reducible refine (C'.out).mono ?_)
       rintro e w3 ⟨rfl, h3, b3⟩
       have H3 := Lib.hid h3
       have B3 := Lib.hid (BX.out.trans b3)
       clear h3 b3))
  all_goals
    go_wp2
    go_end0
    exact ⟨rfl, H3.out, B3.out⟩
end Go.Proofs.YthilicmhdkmipaaGreatDoor
/- An expression in a box of the writer's own; three tokens. -/
namespace Go.Proofs.YthilicmhdkmipaaGreatDoor
open Go.RowKit
set_option linter.unusedVariables false

/-- block G is a box with the expression, and the writer leaves it as it is -/
structure EBox (R G : Nat) (x : PE) (v : VE) (W : World) : Prop where
  safe : Safe R W G
  has : CellsAt W G 0 (x.cells v)
theorem EBox.but {B R G : Nat} {x : PE} {v : VE} {W W' : World} (h : EBox R G x v W) (k : WBut B R W W') : EBox R G x v W' :=
  ⟨h.safe.but k, fun i u hi => (h.safe.cell k _).trans (h.has i u hi)⟩
theorem EBox.lt {R G : Nat} {x : PE} {v : VE} {W : World} (h : EBox R G x v W) : G < W.heap.size := h.safe.lt
theorem EBox.new {R : Nat} {w : World} (x : PE) (v : VE) (hR : R < w.heap.size) : EBox R w.heap.size x v (w.alloc (.cells (x.cells v).toArray 37)) :=
  ⟨Safe.made (heap_alloc_new w _) neEB hR, cells_made (heap_alloc_new w _)⟩
theorem NRow.three {w : World} {S : Nat} {a b c : ByteArray} (ha : a.size ≤ maxLen) (hb : b.size ≤ maxLen) (hc : c.size ≤ maxLen) (h0 : w.cell? ⟨S, 0, none⟩ = some (.string a)) (h1 : w.cell? ⟨S, 1, none⟩ = some (.string b)) (h2 : w.cell? ⟨S, 2, none⟩ = some (.string c)) : NRow w S 0 [a, b, c] :=
  ⟨⟨ha, fun i v hi => by
    cases i with
    | zero => simp at hi; subst hi; exact h0
    | succ i => simp at hi⟩, ⟨hb, fun i v hi => by
    cases i with
    | zero => simp at hi; subst hi; exact h1
    | succ i => simp at hi⟩, NRow.one hc h2⟩
theorem put3_calls (B R : Nat) (a b c : ByteArray) (T0 G0 : TkB) (ts : List TkB) (W w0 : World) (hW : Below w0.heap.size w0 W) (hc : W.heap[w0.heap.size]? = some (.cells #[.string a, .string b, .string c] 9 (0, 0))) (hB : B ≤ w0.heap.size) (hA : AtW B R T0 G0 ts w0) (ha : a.size ≤ maxLen) (hb' : b.size ≤ maxLen) (hc' : c.size ≤ maxLen) (hL : Lim T0 G0 (ts ++ [kT a, kT b, kT c])) :
    Calls Tryz.prog 98 #[.pointer (some ⟨R, 0, none⟩), .slice (some ⟨w0.heap.size, 0, none⟩) 3 3] W fun e w' => e = .returned (.tuple #[]) ∧ AtW B R T0 G0 (ts ++ [kT a, kT b, kT c]) w' ∧ WBut B R w0 w' := by
  have hR := hA.lt
  refine (put_calls B R [a, b, c] w0.heap.size 0 3 T0 G0 ts W (Nat.le_trans hB hW.size) (by simp) (hA.stays hW) (Safe.made hc neSB hR) (NRow.three ha hb' hc' (by rw [cell_of_row _ _ 0 _ _ _ hc]; rfl) (by rw [cell_of_row _ _ 1 _ _ _ hc]; rfl) (by rw [cell_of_row _ _ 2 _ _ _ hc]; rfl)) hL).mono ?_
  rintro e w' ⟨rfl, h1, h2⟩
  exact ⟨rfl, h1, (WBut.of hW hB).trans h2⟩
/-- a word of an expression -/
def wordE (k : Nat) : ByteArray := ⟨(exprWord k).toArray⟩
theorem wordE_kT (k : Nat) : kT (wordE k) = exprWord k := kT_mk _
theorem wordE_size (k : Nat) (h : k ≤ 36) : (wordE k).size ≤ maxLen := by
  have hall : ∀ j : Fin 37, (exprWord j.val).length ≤ 12 := by decide
  have : (exprWord k).length ≤ 12 := hall ⟨k, by omega⟩
  unfold maxLen
  show (exprWord k).toArray.size ≤ _
  rw [List.size_toArray]; omega
theorem NRow.below' {B : Nat} {w w' : World} (k : Below B w w') {v : Value} {l : List ByteArray} {b o : Nat} (hs : SlV B v l.length b o) (h : NRow w b o l) : NRow w' b o l := by
  cases l with
  | nil => trivial
  | cons a l => exact NRow.below (hs.lt (by simp)) k h
/-- an expression in memory, taken apart -/
theorem PE.In.parts {B : Nat} {w : World} {op i : Int} {n s : ByteArray} {p : PP} {l : List PE} {pos : Int} {v : VE} (h : (PE.mk op i n s p l pos).In B w v) :
    ∃ p1 n1 c1 ao cap b o, v = ⟨.slice p1 n1 c1, .slice ao l.length cap⟩ ∧ (U8 op ∧ I64 i ∧ n.size ≤ maxLen ∧ s.size ≤ maxLen) ∧ p.In B w (.slice p1 n1 c1) ∧ l.length ≤ maxLen ∧ (l.length = 0 ∨ (ao = some ⟨b, o, none⟩ ∧ b < B)) ∧ PE.Row B w b o l := by
  obtain ⟨p1, n1, c1, p2, n2, c2, rfl⟩ := h.shape
  obtain ⟨⟨hu, hi, _, h1, h2⟩, h3, b, o, ⟨h4, ao, cap, he, h5⟩, h6⟩ := h
  obtain ⟨rfl, rfl, rfl⟩ := Value.slice.inj he
  exact ⟨p1, n1, c1, p2, c2, b, o, rfl, ⟨hu, hi, h1, h2⟩, h3, h4, h5, h6⟩
end Go.Proofs.YthilicmhdkmipaaGreatDoor
/- The document's tokens of an expression: cases. -/
namespace Go.Proofs.YthilicmhdkmipaaGreatDoor
open Go.RowKit
set_option linter.unusedVariables false

theorem hwl0 (k : Nat) (h : k ≤ 36) : (exprWord k).length ≤ maxLen := by
  have hall : ∀ j : Fin 37, (exprWord j.val).length ≤ 12 := by decide
  have : (exprWord k).length ≤ 12 := hall ⟨k, by omega⟩
  unfold maxLen; omega
set_option maxRecDepth 100000 in
set_option maxHeartbeats 8000000 in
theorem docE_prefix (B : Nat) (op : Nat) (hop : op = 7 ∨ op = 8) (a : PE) (i : Int) (n s : ByteArray) (p : PP) (pos : Int) (IH : DocEAt B a) : DocEAt B (.mk (op : Int) i n s p [a] pos) := by
  intro v w hB hx hlen hok
  obtain ⟨p1, n1, c1, ao, cap, b, o, rfl, ⟨_, hi64, hsn, hss⟩, hp, hn, k1, hr⟩ := PE.In.partsR hx
  obtain ⟨w1, hw1⟩ : ∃ w1, w1 = w.alloc (.cells ((PE.mk (op : Int) i n s p [a] pos).cells ⟨.slice p1 n1 c1, .slice ao 1 cap⟩).toArray 37) := ⟨_, rfl⟩
  have bx : Below w.heap.size w w1 := by rw [hw1]; exact new_onlyR _ _
  have hz : w.heap.size < w1.heap.size := by rw [hw1]; simp
  have HC : CellsAt w1 w.heap.size 0 ((PE.mk (op : Int) i n s p [a] pos).cells ⟨.slice p1 n1 c1, .slice ao 1 cap⟩) := by rw [hw1]; exact cells_madeR (heap_alloc_new w _)
  have et : tokE (.mk (op : Int) i n s p [a] pos) = [exprWord op] ++ sideT (strongB op) a.op (tokE a) := by rcases hop with rfl | rfl <;> (rw [tokE]; rfl)
  rw [et] at hlen hok ⊢
  have HCB := Lib.hid HC
  have BX := Lib.hid bx
  have HLN := Lib.hid hlen
  have HOK := Lib.hid hok
  have HR := Lib.hid hr
  have HP := Lib.hid hp
  have HK := Lib.hid k1
  have HS := Lib.hid fun (W : World) => docStrong_calls (op : Int) W
  have hs1 : w.heap.size + 1 ≤ w1.heap.size := hz
  have hB1 : B ≤ w1.heap.size := by omega
  have S1 : Hid (Below (w.heap.size + 1) w1 w1) := Lib.hid (Below.refl _ _)
  have W1 : Hid (Below w.heap.size w w1) := Lib.hid bx
  have HO1 : Hid (TokOwn (w.heap.size + 1) w1 [] (.slice none 0 0)) := Lib.hid (TokOwn.nil _ _)
  have e1 : (op : Int) ≠ 1 := by omega
  have e2 : (op : Int) ≠ 2 := by omega
  have e3 : (op : Int) ≠ 3 := by omega
  have e4 : (op : Int) ≠ 4 := by omega
  have e5 : (op : Int) ≠ 5 := by omega
  have e6 : (op : Int) ≠ 6 := by omega
  have e18 : (op : Int) ≠ 18 := by omega
  have e19 : (op : Int) ≠ 19 := by omega
  have e20 : (op : Int) ≠ 20 := by omega
  have hop36 : op ≤ 36 := by omega
  have hwl : (exprWord op).length ≤ maxLen := hwl0 op hop36
  obtain ⟨ow, how⟩ : ∃ ow : Int, ow = (strongB op : Int) := ⟨_, rfl⟩
  rw [← how] at HS
  have ow7 : ow < 7 := by rcases hop with rfl | rfl <;> simp [how, strongB]
  have hs8 : strongB op ≤ 8 := by rcases hop with rfl | rfl <;> decide
  obtain ⟨rfl, hbB⟩ := k1.resolve_left (by simp)
  obtain ⟨va, ca, ia⟩ := PE.Row.get hr (show ([a] : List PE)[0]? = some a from rfl)
  obtain ⟨q1a, m1a, d1a, q2a, m2a, d2a, rfl⟩ := ia.shape
  have HCA := Lib.hid ca
  have HIA := Lib.hid ia
  have DA := Lib.hid (fun (W : World) h1 h2 h3 h4 => docSide_calls B a IH (strongB op) hs8 ⟨.slice q1a m1a d1a, .slice q2a m2a d2a⟩ W h1 h2 h3 h4)
  rw [← how] at DA
  clear ca ia how
  have cb1 := HCB.out.below (show w.heap.size < w.heap.size + 1 by omega) S1.out
  have y1_0 : w1.cell? ⟨w.heap.size, 0, none⟩ = some (.int .u8 (op : Int)) := cb1 0 _ rfl
  have y1_1 : w1.cell? ⟨w.heap.size, 1, none⟩ = some (.int .i64 i) := cb1 1 _ rfl
  have y1_2 : w1.cell? ⟨w.heap.size, 2, none⟩ = some (.string n) := cb1 2 _ rfl
  have y1_3 : w1.cell? ⟨w.heap.size, 3, none⟩ = some (.string s) := cb1 3 _ rfl
  have y1_4 : w1.cell? ⟨w.heap.size, 4, none⟩ = some (.string p.name) := cb1 4 _ rfl
  have y1_5 : w1.cell? ⟨w.heap.size, 5, none⟩ = some (.slice p1 n1 c1) := cb1 5 _ rfl
  have y1_6 : w1.cell? ⟨w.heap.size, 6, none⟩ = some (.slice (some ⟨b, o, none⟩) 1 cap) := cb1 6 _ rfl
  have yl1 : w.heap.size < w1.heap.size := by omega
  clear cb1
  show Calls Tryz.prog 22 #[.agg #[.int .u8 (op : Int), .int .i64 i, .string n, .string s, .string p.name, .slice p1 n1 c1, .slice (some ⟨b, o, none⟩) 1 cap, .int .i64 pos]] w _
  have hw1' : w1 = w.alloc (.cells #[.int .u8 (op : Int), .int .i64 i, .string n, .string s, .string p.name, .slice p1 n1 c1, .slice (some ⟨b, o, none⟩) 1 cap, .int .i64 pos] 37) := hw1
  clear hw1 HC hx hlen hok et bx hr hp k1
  go_enter Tryz.func22, Tryz.ntmps22
  go_upto_region 1 with (fail)
  rw [← hw1']
  clear hw1'
  go_wp2_with fail
  (with_reducible refine (HS.out _).mono ?_)
  rintro e w0 ⟨rfl, hw0⟩
  subst w0
  have CW := Lib.hid (docWord_calls op hop36 w1)
  go_wp2_with fail
  (with_reducible refine (CW.out).mono ?_)
  rintro e w2 ⟨rfl, b3⟩
  have HO2 := Lib.hid (HO1.out.stays b3)
  have S2 := Lib.hid (S1.out.trans (b3.mono hs1))
  have hs2 : w.heap.size + 1 ≤ w2.heap.size := Nat.le_trans hs1 b3.size
  clear b3 CW HO1
  clear y1_0 y1_1 y1_2 y1_3 y1_4 y1_5 y1_6
  have cb2 := HCB.out.below (show w.heap.size < w.heap.size + 1 by omega) S2.out
  have y2_0 : w2.cell? ⟨w.heap.size, 0, none⟩ = some (.int .u8 (op : Int)) := cb2 0 _ rfl
  have y2_1 : w2.cell? ⟨w.heap.size, 1, none⟩ = some (.int .i64 i) := cb2 1 _ rfl
  have y2_2 : w2.cell? ⟨w.heap.size, 2, none⟩ = some (.string n) := cb2 2 _ rfl
  have y2_3 : w2.cell? ⟨w.heap.size, 3, none⟩ = some (.string s) := cb2 3 _ rfl
  have y2_4 : w2.cell? ⟨w.heap.size, 4, none⟩ = some (.string p.name) := cb2 4 _ rfl
  have y2_5 : w2.cell? ⟨w.heap.size, 5, none⟩ = some (.slice p1 n1 c1) := cb2 5 _ rfl
  have y2_6 : w2.cell? ⟨w.heap.size, 6, none⟩ = some (.slice (some ⟨b, o, none⟩) 1 cap) := cb2 6 _ rfl
  have yl2 : w.heap.size < w2.heap.size := by omega
  clear cb2
  go_wp2_with (at_builtin; refine wpList_appT rfl _ _ rfl (w.heap.size + 1) _ ([]) rfl (HO2.out.stays (new_onlyR w2 _)) [exprWord op] _ rfl _ (Nat.le_refl _) (TokIn.lit1 (exprWord op) (bT (exprWord op)) rfl hwl) (by first | (simp; done) | (have := HLN.out; simp at this ⊢; omega)) (by simp; omega) ?_)
  intro v3 w3 hown hg
  have S3 := Lib.hid (below_app ((S2.out).alloc hs2 _) hg (by simp; omega) (HO2.out.stays (new_onlyR w2 _)) (Nat.le_refl _))
  have HO3 : Hid (TokOwn (w.heap.size + 1) w3 ([exprWord op]) v3) := Lib.hid (by simpa using hown)
  have hs3 : w.heap.size + 1 ≤ w3.heap.size := Nat.le_trans hs1 S3.out.size
  obtain ⟨ao3, m3, cap3, rfl⟩ := TokOwn.shape3 hown
  have W3 := Lib.hid (BX.out.trans (S3.out.mono (show w.heap.size ≤ w.heap.size + 1 by omega)))
  have hB3 : B ≤ w3.heap.size := by omega
  clear hown hg HO2
  clear y2_0 y2_1 y2_2 y2_3 y2_4 y2_5 y2_6
  have cb3 := HCB.out.below (show w.heap.size < w.heap.size + 1 by omega) S3.out
  have y3_0 : w3.cell? ⟨w.heap.size, 0, none⟩ = some (.int .u8 (op : Int)) := cb3 0 _ rfl
  have y3_1 : w3.cell? ⟨w.heap.size, 1, none⟩ = some (.int .i64 i) := cb3 1 _ rfl
  have y3_2 : w3.cell? ⟨w.heap.size, 2, none⟩ = some (.string n) := cb3 2 _ rfl
  have y3_3 : w3.cell? ⟨w.heap.size, 3, none⟩ = some (.string s) := cb3 3 _ rfl
  have y3_4 : w3.cell? ⟨w.heap.size, 4, none⟩ = some (.string p.name) := cb3 4 _ rfl
  have y3_5 : w3.cell? ⟨w.heap.size, 5, none⟩ = some (.slice p1 n1 c1) := cb3 5 _ rfl
  have y3_6 : w3.cell? ⟨w.heap.size, 6, none⟩ = some (.slice (some ⟨b, o, none⟩) 1 cap) := cb3 6 _ rfl
  have yl3 : w.heap.size < w3.heap.size := by omega
  clear cb3
  have cw := HCA.out.below hbB (W3.out.mono hB)
  have u0 : w3.cell? ⟨b, o, none⟩ = some (.int .u8 a.op) := by simpa using cw 0 _ rfl
  have u1 : w3.cell? ⟨b, o + 1, none⟩ = some (.int .i64 a.int) := by simpa using cw 1 _ rfl
  have u2 : w3.cell? ⟨b, o + 2, none⟩ = some (.string a.name) := by simpa using cw 2 _ rfl
  have u3 : w3.cell? ⟨b, o + 3, none⟩ = some (.string a.second) := by simpa using cw 3 _ rfl
  have u4 : w3.cell? ⟨b, o + 4, none⟩ = some (.string a.place.name) := by simpa using cw 4 _ rfl
  have u5 : w3.cell? ⟨b, o + 5, none⟩ = some (.slice q1a m1a d1a) := by simpa using cw 5 _ rfl
  have u6 : w3.cell? ⟨b, o + 6, none⟩ = some (.slice q2a m2a d2a) := by simpa using cw 6 _ rfl
  have u7 : w3.cell? ⟨b, o + 7, none⟩ = some (.int .i64 a.pos) := by simpa using cw 7 _ rfl
  have hbw : b < w3.heap.size := by omega
  clear cw
  have C : Hid (Calls Tryz.prog 63 #[.agg #[.int .u8 a.op, .int .i64 a.int, .string a.name, .string a.second, .string a.place.name, .slice q1a m1a d1a, .slice q2a m2a d2a, .int .i64 a.pos], .int .i64 ow] w3 fun e w' => ∃ u, e = .returned u ∧ TokNew w3.heap.size w' (sideT (strongB op) a.op (tokE a)) u ∧ Below w3.heap.size w3 w') := Lib.hid (DA.out w3 hB3 (PE.In.below (W3.out.mono hB) HIA.out) (by first | (simp; done) | (have := HLN.out; simp only [List.length_append, List.length_cons, List.length_nil] at this ⊢; omega) | (have := HLN.out; simp at this ⊢; omega)) (fun t ht => HOK.out t (List.mem_append_right _ ht)))
  go_wp2_with fail
  (with_reducible refine (C.out).mono ?_)
  rintro e w4 ⟨v4, rfl, h3, b3⟩
  have H3 := Lib.hid h3.row
  have HO4 := Lib.hid (HO3.out.stays b3)
  have S4 := Lib.hid (S3.out.trans (b3.mono hs3))
  have hs4 : w.heap.size + 1 ≤ w4.heap.size := Nat.le_trans hs3 b3.size
  clear h3 b3 C HO3
  go_wp2_with (at_builtin; refine wpList_appT rfl _ _ rfl (w.heap.size + 1) _ ([exprWord op]) rfl HO4.out (sideT (strongB op) a.op (tokE a)) v4 rfl w4.heap.size (Nat.le_refl _) H3.out (by have := HLN.out; simp at this ⊢; omega) hs4 ?_)
  intro v5 w5 hown hg
  have S5 := Lib.hid (below_app S4.out hg hs4 HO4.out (Nat.le_refl _))
  have HO5 : Hid (TokOwn (w.heap.size + 1) w5 ([exprWord op] ++ sideT (strongB op) a.op (tokE a)) v5) := Lib.hid (by simpa using hown)
  have hs5 : w.heap.size + 1 ≤ w5.heap.size := Nat.le_trans hs1 S5.out.size
  obtain ⟨ao5, m5, cap5, rfl⟩ := TokOwn.shape3 hown
  have W5 := Lib.hid (BX.out.trans (S5.out.mono (show w.heap.size ≤ w.heap.size + 1 by omega)))
  have hB5 : B ≤ w5.heap.size := by omega
  clear hown hg HO4 H3
  clear y3_0 y3_1 y3_2 y3_3 y3_4 y3_5 y3_6
  clear u0 u1 u2 u3 u4 u5 u6 u7
  go_wp2
  go_ret
  have hfin : TokNew w.heap.size w5 ([exprWord op] ++ sideT (strongB op) a.op (tokE a)) (.slice ao5 m5 cap5) := (HO5.out.rowN (fun t ht => HOK.out t (by simpa [or_assoc] using ht)) (by first | (simp; done) | (have := HLN.out; simp at this ⊢; omega))).mono (by omega)
  exact ⟨_, rfl, by simpa using hfin, W5.out⟩
end Go.Proofs.YthilicmhdkmipaaGreatDoor
