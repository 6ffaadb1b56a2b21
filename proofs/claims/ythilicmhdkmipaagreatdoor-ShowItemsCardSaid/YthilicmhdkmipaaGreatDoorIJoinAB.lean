/- shown: of a type, of a place, over what tells whether it is whole. -/
import Derived.Test.YthilicmhdkmipaaGreatDoorIJoinAV
namespace Go.Proofs.YthilicmhdkmipaaGreatDoor
open Go.RowKit
set_option linter.unusedVariables false

theorem SlV.wider {B B' : Nat} {v : Value} {n b o : Nat} (h : SlV B v n b o) (hb : B ≤ B') : SlV B' v n b o := by
  obtain ⟨h1, ao, cap, h2, h3⟩ := h
  exact ⟨h1, ao, cap, h2, h3.imp id fun h => ⟨h.1, by omega⟩⟩
theorem NIn.wider {B B' : Nat} {w : World} {l : List ByteArray} {v : Value} (hb : B ≤ B') (h : NIn B w l v) : NIn B' w l v := by
  obtain ⟨b, o, h1, h2⟩ := h
  exact ⟨b, o, h1.wider hb, h2⟩
theorem PP.In.wider {B B' : Nat} {w : World} {x : PP} {v : Value} (hb : B ≤ B') (h : x.In B w v) : x.In B' w v := ⟨h.1, h.2.wider hb⟩
mutual
theorem PT.In.wider {B B' : Nat} {w : World} (hb : B ≤ B') : ∀ {t : PT} {v : Value}, t.In B w v → t.In B' w v
  | .mk kd n [], v, ⟨h1, b, o, hs, _⟩ => ⟨h1, b, o, hs.wider hb, trivial⟩
  | .mk kd n (t :: us), v, ⟨h1, b, o, hs, hr⟩ => ⟨h1, b, o, hs.wider hb, PT.Row.wider hb hr⟩
theorem PT.Row.wider {B B' : Nat} {w : World} (hb : B ≤ B') {b : Nat} : ∀ {l : List PT} {o : Nat}, PT.Row B w b o l → PT.Row B' w b o l
  | [], _, _ => trivial
  | t :: l, o, ⟨⟨v, h1, h2⟩, hr⟩ => ⟨⟨v, h1, PT.In.wider hb h2⟩, PT.Row.wider hb hr⟩
end
theorem Words.wider {B B' : Nat} {w : World} (hb : B ≤ B') (h : Words B w) : Words B' w := ⟨⟨by have := h.lt.1; omega, by have := h.lt.2; omega⟩, h.t, h.e, fun w2 k2 => h.tens w2 (k2.mono hb)⟩
/-- a writer that was just made -/
theorem IsW.new (w : World) : IsW w.heap.size w.heap.size [] ⟨#[]⟩ (w.alloc (.cells #[.pointer none, .slice none 0 0, .string ⟨#[]⟩] 140)) :=
  ⟨Nat.le_refl _, _, _, .inl rfl, heap_alloc_new w _, rfl, .inl ⟨rfl, rfl⟩⟩
theorem AtW.new (w : World) : AtW w.heap.size w.heap.size [] [] [] (w.alloc (.cells #[.pointer none, .slice none 0 0, .string ⟨#[]⟩] 140)) := IsW.new w
set_option maxRecDepth 100000 in
set_option maxHeartbeats 4000000 in
theorem shownT_calls (B : Nat) (t : PT) (q : Bool) (v : Value) (w : World) (hB : B ≤ w.heap.size) (hW : Words B w) (ht : t.In B w v)
    (hq : ∀ W, Below w.heap.size w W → Calls Tryz.prog 65 #[.agg #[.int .u8 t.kind, .string t.name, v]] W fun e w' => e = .returned (.bool q) ∧ Below W.heap.size W w')
    (hT : q = true → ∀ B R, TypedAt B R t) (hL : q = true → (lineT (tokT t)).length ≤ 1000000000) (h0 : q = true → lineT (tokT t) ≠ []) :
    Calls Tryz.prog 64 #[.agg #[.int .u8 t.kind, .string t.name, v], .func (.func 65) #[] #[], .func (.func 66) #[] #[]] w fun e w' => e = .returned (.string ⟨(if q then lineT (tokT t) else []).toArray⟩) ∧ Below w.heap.size w w' := by
  obtain ⟨ao, n, cap, rfl⟩ := ht.shape
  obtain ⟨w1, hw1⟩ : ∃ w1, w1 = w.alloc (.cells #[.int .u8 t.kind, .string t.name, .slice ao n cap] 31) := ⟨_, rfl⟩
  have bx : Below w.heap.size w w1 := by rw [hw1]; exact new_only _ _
  have hz : w.heap.size < w1.heap.size := by rw [hw1]; simp
  have x0 : w1.cell? ⟨w.heap.size, 0, none⟩ = some (.int .u8 t.kind) := by rw [hw1]; go_simp
  have x1 : w1.cell? ⟨w.heap.size, 1, none⟩ = some (.string t.name) := by rw [hw1]; go_simp
  have x2 : w1.cell? ⟨w.heap.size, 2, none⟩ = some (.slice ao n cap) := by rw [hw1]; go_simp
  have C1 := Lib.hid (hq w1 bx)
  have HW := Lib.hid hW
  have HT := Lib.hid ht
  have HTy := Lib.hid hT
  have HL := Lib.hid hL
  have H0 := Lib.hid h0
  clear hq hW ht hT hL h0
  go_enter Tryz.func64, Tryz.ntmps64
  go_upto_region 1 with (fail)
  rw [← hw1]
  clear hw1
  cases q with
  | false =>
    go_wp2_with fail
    (with_reducible refine (C1.out).mono ?_)
    rintro e w2 ⟨rfl, bq⟩
    have B2 := Lib.hid (bx.trans (bq.mono (by omega)))
    clear bq
    go_wp2
    go_ret
    exact ⟨rfl, B2.out⟩
  | true =>
    go_wp2_with fail
    (with_reducible refine (C1.out).mono ?_)
    rintro e w2 ⟨rfl, bq⟩
    have B2 := Lib.hid (bx.trans (bq.mono (by omega)))
    have b2 := bq
    have z2 := bq.size
    have y0 := (b2.cell (p := ⟨w.heap.size, 0, none⟩) hz).trans x0
    have y1 := (b2.cell (p := ⟨w.heap.size, 1, none⟩) hz).trans x1
    have y2 := (b2.cell (p := ⟨w.heap.size, 2, none⟩) hz).trans x2
    have A0 := Lib.hid (AtW.new w2)
    obtain ⟨w3, hw3⟩ : ∃ w3, w3 = w2.alloc (.cells #[.pointer none, .slice none 0 0, .string ⟨#[]⟩] 140) := ⟨_, rfl⟩
    have b3 : Below w2.heap.size w2 w3 := by rw [hw3]; exact new_only _ _
    rw [← hw3] at A0
    have C2 := Lib.hid (HTy.out trivial w2.heap.size w2.heap.size [] [] [] (.slice ao n cap) w3 b3.size (((HW.out.below (B2.out.mono hB)).wider (by omega)).below b3) A0.out (PT.In.below b3 (PT.In.wider (by omega) (PT.In.below (B2.out.mono hB) HT.out))) (HL.out trivial))
    have v0 := (b3.cell (p := ⟨w.heap.size, 0, none⟩) (show w.heap.size < w2.heap.size by omega)).trans y0
    have v1 := (b3.cell (p := ⟨w.heap.size, 1, none⟩) (show w.heap.size < w2.heap.size by omega)).trans y1
    have v2 := (b3.cell (p := ⟨w.heap.size, 2, none⟩) (show w.heap.size < w2.heap.size by omega)).trans y2
    have B3 := Lib.hid (B2.out.trans (b3.mono (by omega)))
    have Z3 := b3.size
    clear bq b2 b3 C1 x0 x1 x2 y0 y1 y2
    go_upto_region 4 with (fail)
    rw [← hw3]
    clear hw3
    go_wp2_with fail
    refine (C2.out).mono ?_
    rintro e w4 ⟨rfl, h4, b4⟩
    have B4 := Lib.hid (B3.out.trans (b4.bel.mono (by omega)))
    have C3 := Lib.hid (all_row _ _ _ _ _ w4 h4 (H0.out trivial))
    clear h4 b4 C2
    go_wp2_with (go_at_call 87; refine (C3.out).mono ?_; rintro e w5 ⟨rfl, b5⟩; have B5 := Lib.hid (B4.out.trans (b5.mono (by omega))); clear b5)
    go_ret
    exact ⟨rfl, B5.out⟩
set_option maxRecDepth 100000 in
set_option maxHeartbeats 4000000 in
theorem shownP_calls (B : Nat) (t : PP) (q : Bool) (v : Value) (w : World) (hB : B ≤ w.heap.size) (ht : t.In B w v)
    (hq : ∀ W, Below w.heap.size w W → Calls Tryz.prog 71 #[.agg #[.string t.name, v]] W fun e w' => e = .returned (.bool q) ∧ Below W.heap.size W w')
    (hL : q = true → (lineT (tokP t)).length ≤ 1000000000) (h0 : q = true → lineT (tokP t) ≠ []) :
    Calls Tryz.prog 70 #[.agg #[.string t.name, v], .func (.func 71) #[] #[], .func (.func 72) #[] #[]] w fun e w' => e = .returned (.string ⟨(if q then lineT (tokP t) else []).toArray⟩) ∧ Below w.heap.size w w' := by
  obtain ⟨ao, n, cap, rfl⟩ := ht.2.shape
  obtain ⟨w1, hw1⟩ : ∃ w1, w1 = w.alloc (.cells #[.string t.name, .slice ao n cap] 34) := ⟨_, rfl⟩
  have bx : Below w.heap.size w w1 := by rw [hw1]; exact new_only _ _
  have hz : w.heap.size < w1.heap.size := by rw [hw1]; simp
  have x0 : w1.cell? ⟨w.heap.size, 0, none⟩ = some (.string t.name) := by rw [hw1]; go_simp
  have x1 : w1.cell? ⟨w.heap.size, 1, none⟩ = some (.slice ao n cap) := by rw [hw1]; go_simp
  have C1 := Lib.hid (hq w1 bx)
  have HT := Lib.hid ht
  have HL := Lib.hid hL
  have H0 := Lib.hid h0
  clear hq ht hL h0
  go_enter Tryz.func70, Tryz.ntmps70
  go_upto_region 1 with (fail)
  rw [← hw1]
  clear hw1
  cases q with
  | false =>
    go_wp2_with fail
    (with_reducible refine (C1.out).mono ?_)
    rintro e w2 ⟨rfl, bq⟩
    have B2 := Lib.hid (bx.trans (bq.mono (by omega)))
    clear bq
    go_wp2
    go_ret
    exact ⟨rfl, B2.out⟩
  | true =>
    go_wp2_with fail
    (with_reducible refine (C1.out).mono ?_)
    rintro e w2 ⟨rfl, bq⟩
    have B2 := Lib.hid (bx.trans (bq.mono (by omega)))
    have b2 := bq
    have z2 := bq.size
    have y0 := (b2.cell (p := ⟨w.heap.size, 0, none⟩) hz).trans x0
    have y1 := (b2.cell (p := ⟨w.heap.size, 1, none⟩) hz).trans x1
    have A0 := Lib.hid (AtW.new w2)
    obtain ⟨w3, hw3⟩ : ∃ w3, w3 = w2.alloc (.cells #[.pointer none, .slice none 0 0, .string ⟨#[]⟩] 140) := ⟨_, rfl⟩
    have b3 : Below w2.heap.size w2 w3 := by rw [hw3]; exact new_only _ _
    rw [← hw3] at A0
    have C2 := Lib.hid (place_calls w2.heap.size w2.heap.size t [] [] [] (.slice ao n cap) w3 b3.size A0.out (PP.In.below (PP.In.wider (by omega) (PP.In.below HT.out (B2.out.mono hB))) b3) (HL.out trivial))
    have v0 := (b3.cell (p := ⟨w.heap.size, 0, none⟩) (show w.heap.size < w2.heap.size by omega)).trans y0
    have v1 := (b3.cell (p := ⟨w.heap.size, 1, none⟩) (show w.heap.size < w2.heap.size by omega)).trans y1
    have B3 := Lib.hid (B2.out.trans (b3.mono (by omega)))
    have Z3 := b3.size
    clear bq b2 b3 C1 x0 x1 y0 y1
    go_upto_region 4 with (fail)
    rw [← hw3]
    clear hw3
    go_wp2_with fail
    refine (C2.out).mono ?_
    rintro e w4 ⟨rfl, h4, b4⟩
    have B4 := Lib.hid (B3.out.trans (b4.bel.mono (by omega)))
    have C3 := Lib.hid (all_row _ _ _ _ _ w4 h4 (H0.out trivial))
    clear h4 b4 C2
    go_wp2_with (go_at_call 87; refine (C3.out).mono ?_; rintro e w5 ⟨rfl, b5⟩; have B5 := Lib.hid (B4.out.trans (b5.mono (by omega))); clear b5)
    go_ret
    exact ⟨rfl, B5.out⟩
end Go.Proofs.YthilicmhdkmipaaGreatDoor
/- How strongly something holds together. -/
namespace Go.Proofs.YthilicmhdkmipaaGreatDoor
open Go.RowKit
set_option linter.unusedVariables false

set_option maxRecDepth 100000 in
set_option maxHeartbeats 2000000 in
theorem strong_calls (op : Int) (w : World) : Calls Tryz.prog 105 #[.int .u8 op] w fun e w' => e = .returned (.int .u8 (strongB op)) ∧ w' = w := by
  by_cases h : 7 ≤ op ∧ op ≤ 17
  · rcases (by omega : op = 7 ∨ op = 8 ∨ op = 9 ∨ op = 10 ∨ op = 11 ∨ op = 12 ∨ op = 13 ∨ op = 14 ∨ op = 15 ∨ op = 16 ∨ op = 17) with rfl | rfl | rfl | rfl | rfl | rfl | rfl | rfl | rfl | rfl | rfl
    all_goals
      go_enter Tryz.func105, Tryz.ntmps105
      go_wp2
      go_ret
      exact ⟨rfl, rfl⟩
  · have hs : strongB op = 7 := by
      unfold strongB
      rw [if_neg (by omega), if_neg (by omega), if_neg (by omega), if_neg (by omega), if_neg (by omega), if_neg (by omega), if_neg (by omega)]
    rw [hs]
    have n7 : op ≠ 7 := by omega
    have n8 : op ≠ 8 := by omega
    have n9 : op ≠ 9 := by omega
    have n10 : op ≠ 10 := by omega
    have n11 : op ≠ 11 := by omega
    have n12 : op ≠ 12 := by omega
    have n13 : op ≠ 13 := by omega
    have n14 : op ≠ 14 := by omega
    have n15 : op ≠ 15 := by omega
    have n16 : op ≠ 16 := by omega
    have n17 : op ≠ 17 := by omega
    clear h hs
    go_enter Tryz.func105, Tryz.ntmps105
    go_wp2
    go_ret
    exact ⟨rfl, rfl⟩
end Go.Proofs.YthilicmhdkmipaaGreatDoor
/- What stands beside a sign. -/
namespace Go.Proofs.YthilicmhdkmipaaGreatDoor
open Go.RowKit
set_option linter.unusedVariables false

/-- the contract of expr -/
def ExprAt (B R : Nat) (x : PE) : Prop := ∀ (T0 G0 : TkB) (ts : List TkB) (v : VE) (w : World), B ≤ w.heap.size → Words B w → AtW B R T0 G0 ts w → x.In B w v → Lim T0 G0 (ts ++ tokE x) →
  Calls Tryz.prog 69 #[.pointer (some ⟨R, 0, none⟩), .agg (x.cells v).toArray] w fun e w' => e = .returned (.tuple #[]) ∧ AtW B R T0 G0 (ts ++ tokE x) w' ∧ WBut B R w w'
theorem cells_made {w : World} {S : Nat} {cs : List Value} {t : TypeId} {fr : Nat × Nat} (h : w.heap[S]? = some (.cells cs.toArray t fr)) : CellsAt w S 0 cs := fun i v hi => by
  rw [cell_of_row _ _ (0 + i) _ _ _ h]; simpa using hi
theorem neEB : (37 : TypeId) ≠ 5 := by decide
set_option maxRecDepth 100000 in
set_option maxHeartbeats 4000000 in
theorem sideW_calls (B R : Nat) (x : PE) (IH : ExprAt B R x) (k : Nat) (hk : k ≤ 8) (T0 G0 : TkB) (ts : List TkB) (v : VE) (w : World) (hB : B ≤ w.heap.size) (hW : Words B w) (hA : AtW B R T0 G0 ts w) (hx : x.In B w v) (hL : Lim T0 G0 (ts ++ sideT k x.op (tokE x))) :
    Calls Tryz.prog 104 #[.pointer (some ⟨R, 0, none⟩), .agg (x.cells v).toArray, .int .u8 k] w fun e w' => e = .returned (.tuple #[]) ∧ AtW B R T0 G0 (ts ++ sideT k x.op (tokE x)) w' ∧ WBut B R w w' := by
  obtain ⟨p1, n1, c1, p2, n2, c2, rfl⟩ := hx.shape
  obtain ⟨w1, hw1⟩ : ∃ w1, w1 = w.alloc (.cells (x.cells ⟨.slice p1 n1 c1, .slice p2 n2 c2⟩).toArray 37) := ⟨_, rfl⟩
  have bx : Below w.heap.size w w1 := by rw [hw1]; exact new_only _ _
  have hRR : R < w.heap.size := hA.lt
  have hz : w.heap.size < w1.heap.size := by rw [hw1]; simp
  have SG : Safe R w1 w.heap.size := Safe.made (by rw [hw1]; exact heap_alloc_new w _) neEB hRR
  have HC : CellsAt w1 w.heap.size 0 (x.cells ⟨.slice p1 n1 c1, .slice p2 n2 c2⟩) := by rw [hw1]; exact cells_made (heap_alloc_new w _)
  have BX := Lib.hid (WBut.of bx hB (R := R))
  have HS := Lib.hid fun (W : World) => strong_calls x.op W
  have HI := Lib.hid IH
  have HW := Lib.hid (hW.below (bx.mono hB))
  have HX := Lib.hid (PE.In.below (bx.mono hB) hx)
  have HA := Lib.hid (hA.stays bx)
  have HL := Lib.hid hL
  clear hW hx hA hL IH
  have x0 : w1.cell? ⟨w.heap.size, 0, none⟩ = some (.int .u8 x.op) := by simpa using HC 0 _ rfl
  have x1 : w1.cell? ⟨w.heap.size, 1, none⟩ = some (.int .i64 x.int) := by simpa using HC 1 _ rfl
  have x2 : w1.cell? ⟨w.heap.size, 2, none⟩ = some (.string x.name) := by simpa using HC 2 _ rfl
  have x3 : w1.cell? ⟨w.heap.size, 3, none⟩ = some (.string x.second) := by simpa using HC 3 _ rfl
  have x4 : w1.cell? ⟨w.heap.size, 4, none⟩ = some (.string x.place.name) := by simpa using HC 4 _ rfl
  have x5 : w1.cell? ⟨w.heap.size, 5, none⟩ = some (.slice p1 n1 c1) := by simpa using HC 5 _ rfl
  have x6 : w1.cell? ⟨w.heap.size, 6, none⟩ = some (.slice p2 n2 c2) := by simpa using HC 6 _ rfl
  have x7 : w1.cell? ⟨w.heap.size, 7, none⟩ = some (.int .i64 x.pos) := by simpa using HC 7 _ rfl
  have hs8 : strongB x.op ≤ 7 := by unfold strongB; repeat (split <;> first | omega | skip)
  show Calls Tryz.prog 104 #[.pointer (some ⟨R, 0, none⟩), .agg #[.int .u8 x.op, .int .i64 x.int, .string x.name, .string x.second, .string x.place.name, .slice p1 n1 c1, .slice p2 n2 c2, .int .i64 x.pos], .int .u8 k] w _
  have hw1' : w1 = w.alloc (.cells #[.int .u8 x.op, .int .i64 x.int, .string x.name, .string x.second, .string x.place.name, .slice p1 n1 c1, .slice p2 n2 c2, .int .i64 x.pos] 37) := hw1
  clear hw1 HC
  by_cases hs : k ≤ strongB x.op
  · have es : sideT k x.op (tokE x) = tokE x := by unfold sideT; rw [if_pos hs]
    rw [es] at HL ⊢
    have C := Lib.hid (HI.out T0 G0 ts _ w1 (by omega) HW.out HA.out HX.out HL.out)
    have C' : Hid (Calls Tryz.prog 69 #[.pointer (some ⟨R, 0, none⟩), .agg #[.int .u8 x.op, .int .i64 x.int, .string x.name, .string x.second, .string x.place.name, .slice p1 n1 c1, .slice p2 n2 c2, .int .i64 x.pos]] w1 fun e w' => e = .returned (.tuple #[]) ∧ AtW B R T0 G0 (ts ++ tokE x) w' ∧ WBut B R w1 w') := Lib.hid C.out
    have hs' : (k : Int) ≤ (strongB x.op : Int) := by omega
    clear es C hs
    generalize tokE x = tx at *
    go_enter Tryz.func104, Tryz.ntmps104
    go_upto_region 1 with (fail)
    rw [← hw1']
    clear hw1'
    go_wp2_with fail
    (with_reducible refine (HS.out _).mono ?_)
    rintro e w2 ⟨rfl, rfl⟩
    go_wp2_with fail
    (with_reducible refine (C'.out).mono ?_)
    rintro e w3 ⟨rfl, h3, b3⟩
    have H3 := Lib.hid h3
    have B3 := Lib.hid (BX.out.trans b3)
    clear h3 b3
    go_wp2
    (try simp only [Exit.inBlock, Exit.then])
    refine bodyPost_ret (results_none rfl _ _ _) rfl ?_
    exact ⟨rfl, H3.out, B3.out⟩
  · have es : sideT k x.op (tokE x) = wOpen :: (tokE x ++ [wEnd]) := by unfold sideT; rw [if_neg hs]
    rw [es] at HL ⊢
    have e1 : ts ++ wOpen :: (tokE x ++ [wEnd]) = ((ts ++ [wOpen]) ++ tokE x) ++ [wEnd] := by simp
    rw [e1] at HL ⊢
    have hs' : (strongB x.op : Int) < (k : Int) := by omega
    have P1 := Lib.hid (put1_calls B R ⟨#[40]⟩ T0 G0 ts _ w1 (new_only w1 (.cells #[.string ⟨#[40]⟩] 9)) (heap_alloc_new w1 _) (by omega) HA.out (by decide) HL.out.less.less)
    clear es hs e1
    go_enter Tryz.func104, Tryz.ntmps104
    go_upto_region 1 with (fail)
    rw [← hw1']
    clear hw1'
    go_wp2_with fail
    (with_reducible refine (HS.out _).mono ?_)
    rintro e w2 ⟨rfl, rfl⟩
    go_wp2_with fail
    refine (P1.out).mono ?_
    rintro e w3 ⟨rfl, h3, b3⟩
    have B3 := Lib.hid (BX.out.trans b3)
    have y0 := (SG.cell b3 0).trans x0
    have y1 := (SG.cell b3 1).trans x1
    have y2 := (SG.cell b3 2).trans x2
    have y3 := (SG.cell b3 3).trans x3
    have y4 := (SG.cell b3 4).trans x4
    have y5 := (SG.cell b3 5).trans x5
    have y6 := (SG.cell b3 6).trans x6
    have y7 := (SG.cell b3 7).trans x7
    have hz3 : w.heap.size < w3.heap.size := Nat.lt_of_lt_of_le hz b3.size
    have C := Lib.hid (HI.out T0 G0 (ts ++ [wOpen]) _ w3 (by omega) (HW.out.below b3.bel) h3 (PE.In.below b3.bel HX.out) HL.out.less)
    have C' : Hid (Calls Tryz.prog 69 #[.pointer (some ⟨R, 0, none⟩), .agg #[.int .u8 x.op, .int .i64 x.int, .string x.name, .string x.second, .string x.place.name, .slice p1 n1 c1, .slice p2 n2 c2, .int .i64 x.pos]] w3 fun e w' => e = .returned (.tuple #[]) ∧ AtW B R T0 G0 (ts ++ [wOpen] ++ tokE x) w' ∧ WBut B R w3 w') := Lib.hid C.out
    clear h3 b3 P1 C x0 x1 x2 x3 x4 x5 x6 x7
    go_wp2_with fail
    (with_reducible refine (C'.out).mono ?_)
    rintro e w4 ⟨rfl, h4, b4⟩
    have B4 := Lib.hid (B3.out.trans b4)
    have P4 := Lib.hid (put1_calls B R ⟨#[41]⟩ T0 G0 (ts ++ [wOpen] ++ tokE x) _ w4 (new_only w4 (.cells #[.string ⟨#[41]⟩] 9)) (heap_alloc_new w4 _) (Nat.le_trans hB B4.out.size) h4 (by decide) HL.out)
    clear h4 b4 C' y0 y1 y2 y3 y4 y5 y6 y7
    go_wp2_with fail
    refine (P4.out).mono ?_
    rintro e w5 ⟨rfl, h5, b5⟩
    have H5 := Lib.hid h5
    have B5 := Lib.hid (B4.out.trans b5)
    clear h5 b5
    go_wp2
    go_end0
    exact ⟨rfl, H5.out, B5.out⟩
end Go.Proofs.YthilicmhdkmipaaGreatDoor
/- A row of expressions. -/
namespace Go.Proofs.YthilicmhdkmipaaGreatDoor
open Go.RowKit
set_option linter.unusedVariables false

theorem exprs1_enters : ∀ args w, (callFunc 159 args).run Tryz.prog w = .ok (.enter 159 args) w := enters_of Tryz.func159 (by kernel_rfl) rfl
set_option maxRecDepth 100000 in
set_option maxHeartbeats 4000000 in
theorem exprs1_calls (B R : Nat) (x : PE) (IH : ExprAt B R x) (k n : Nat) (hk : k < n) (hn : n ≤ maxLen) (gw gl b o cap : Nat) (T0 G0 : TkB) (ts : List TkB) (v : VE) (w : World) (hB : B ≤ w.heap.size) (hW : Words B w) (hA : AtW B R T0 G0 ts w) (hx : x.In B w v) (hL : Lim T0 G0 (ts ++ tokE x))
    (h0 : w.cell? ⟨gw, 0, none⟩ = some (.pointer (some ⟨R, 0, none⟩))) (h1 : w.cell? ⟨gl, 0, none⟩ = some (.slice (some ⟨b, o, none⟩) n cap)) (hc : CellsAt w b (o + k * 8) (x.cells v)) :
    Calls Tryz.prog 159 #[.int .i64 k, .pointer (some ⟨gw, 0, none⟩), .pointer (some ⟨gl, 0, none⟩)] w fun e w' => e = .returned (.tuple #[]) ∧ AtW B R T0 G0 (ts ++ tokE x) w' ∧ WBut B R w w' := by
  obtain ⟨p1, n1, c1, p2, n2, c2, rfl⟩ := hx.shape
  have hn' : n ≤ 9223372036854775807 := by unfold maxLen at hn; omega
  have C := Lib.hid (IH T0 G0 ts _ w.drew (by simpa using hB) (hW.below (Below.refl _ w).drew) (hA.stays (Below.refl _ w).drew) (PE.In.below (Below.refl _ w).drew hx) hL)
  have C' : Hid (Calls Tryz.prog 69 #[.pointer (some ⟨R, 0, none⟩), .agg #[.int .u8 x.op, .int .i64 x.int, .string x.name, .string x.second, .string x.place.name, .slice p1 n1 c1, .slice p2 n2 c2, .int .i64 x.pos]] w.drew fun e w' => e = .returned (.tuple #[]) ∧ AtW B R T0 G0 (ts ++ tokE x) w' ∧ WBut B R w.drew w') := Lib.hid C.out
  have x0 : w.cell? ⟨b, o + k * 8, none⟩ = some (.int .u8 x.op) := by simpa using hc 0 _ rfl
  have x1 : w.cell? ⟨b, o + k * 8 + 1, none⟩ = some (.int .i64 x.int) := hc 1 _ rfl
  have x2 : w.cell? ⟨b, o + k * 8 + 2, none⟩ = some (.string x.name) := hc 2 _ rfl
  have x3 : w.cell? ⟨b, o + k * 8 + 3, none⟩ = some (.string x.second) := hc 3 _ rfl
  have x4 : w.cell? ⟨b, o + k * 8 + 4, none⟩ = some (.string x.place.name) := hc 4 _ rfl
  have x5 : w.cell? ⟨b, o + k * 8 + 5, none⟩ = some (.slice p1 n1 c1) := hc 5 _ rfl
  have x6 : w.cell? ⟨b, o + k * 8 + 6, none⟩ = some (.slice p2 n2 c2) := hc 6 _ rfl
  have x7 : w.cell? ⟨b, o + k * 8 + 7, none⟩ = some (.int .i64 x.pos) := hc 7 _ rfl
  have WD : WBut B R w w.drew := WBut.of (Below.refl _ w).drew hB
  clear hW hA hx hL IH C hc
  generalize tokE x = tx at *
  go_enter Tryz.func159, Tryz.ntmps159
  go_region_with (first
    | (go_at_call 69; (with_reducible refine (C'.out).mono ?_)
       rintro e w3 ⟨rfl, h3, b3⟩
       have H3 := Lib.hid h3
       have B3 := Lib.hid (WD.trans b3)
       clear h3 b3))
  all_goals
    go_wp2
    go_end0
    exact ⟨rfl, H3.out, B3.out⟩
end Go.Proofs.YthilicmhdkmipaaGreatDoor
/- A row of expressions, with commas between. -/
namespace Go.Proofs.YthilicmhdkmipaaGreatDoor
open Go.RowKit
set_option linter.unusedVariables false

theorem tokEs_map : ∀ l : List PE, tokEs l = l.map tokE
  | [] => rfl
  | x :: l => by rw [tokEs, tokEs_map l]; rfl
theorem tokEs_len (l : List PE) : (tokEs l).length = l.length := by rw [tokEs_map]; simp
theorem nePW : (81 : TypeId) ≠ 5 := by decide
theorem neSE : (35 : TypeId) ≠ 5 := by decide
set_option maxRecDepth 100000 in
set_option maxHeartbeats 4000000 in
theorem exprs_calls (B R : Nat) (l : List PE) (IH : ∀ x ∈ l, ExprAt B R x) (T0 G0 : TkB) (ts : List TkB) (v : Value) (b o : Nat) (w : World) (hB : B ≤ w.heap.size) (hW : Words B w) (hA : AtW B R T0 G0 ts w) (hs : SlV B v l.length b o) (hr : PE.Row B w b o l) (hL : Lim T0 G0 (ts ++ joinT (tokEs l))) :
    Calls Tryz.prog 101 #[.pointer (some ⟨R, 0, none⟩), v] w fun e w' => e = .returned (.tuple #[]) ∧ AtW B R T0 G0 (ts ++ joinT (tokEs l)) w' ∧ WBut B R w w' := by
  obtain ⟨hn, ao, cap, rfl, k1⟩ := hs
  have hRR : R < w.heap.size := hA.lt
  obtain ⟨w1, hw1⟩ : ∃ w1, w1 = (w.alloc (.cells #[.pointer (some ⟨R, 0, none⟩)] 81)).alloc (.cells #[.slice ao l.length cap] 35) := ⟨_, rfl⟩
  have bx : Below w.heap.size w w1 := by rw [hw1]; exact (new_only _ _).alloc (by simp) _
  have hz : w1.heap.size = w.heap.size + 2 := by rw [hw1]; simp
  have hg0 : w1.heap[w.heap.size]? = some (.cells #[.pointer (some ⟨R, 0, none⟩)] 81 (0, 0)) := by
    rw [hw1]; exact (Below.heap_alloc _ _ _ (by simp)).trans (heap_alloc_new w _)
  have hg1 : w1.heap[w.heap.size + 1]? = some (.cells #[.slice ao l.length cap] 35 (0, 0)) := by
    rw [hw1]
    have := heap_alloc_new (w.alloc (.cells #[.pointer (some ⟨R, 0, none⟩)] 81)) (.cells #[.slice ao l.length cap] 35)
    simpa using this
  have S0 : Safe R w1.drew w.heap.size := Safe.made (fr := (0, 0)) (show w1.drew.heap[w.heap.size]? = _ from hg0) nePW hRR
  have S1 : Safe R w1.drew (w.heap.size + 1) := Safe.made (fr := (0, 0)) (show w1.drew.heap[w.heap.size + 1]? = _ from hg1) neSE (by omega)
  have bd : Below w.heap.size w w1.drew := bx.drew
  have BX := Lib.hid (WBut.of bd hB (R := R))
  have c0 : w1.drew.cell? ⟨w.heap.size, 0, none⟩ = some (.pointer (some ⟨R, 0, none⟩)) := by rw [cell_of_row _ _ 0 _ _ _ (show w1.drew.heap[w.heap.size]? = _ from hg0)]; rfl
  have c1 : w1.drew.cell? ⟨w.heap.size + 1, 0, none⟩ = some (.slice ao l.length cap) := by rw [cell_of_row _ _ 0 _ _ _ (show w1.drew.heap[w.heap.size + 1]? = _ from hg1)]; rfl
  have hBd : B ≤ w1.drew.heap.size := Nat.le_trans hB bd.size
  have C := Lib.hid (list_calls B R (lb := #[.pointer (some ⟨w.heap.size, 0, none⟩), .pointer (some ⟨w.heap.size + 1, 0, none⟩)]) (tokEs l) T0 G0 ts w1.drew exprs1_enters hBd (hA.stays bd) (by rw [tokEs_len]; exact hn) hL (by
    intro k a ha us W hBW bW hAW hLW
    rw [tokEs_map, List.getElem?_map, Option.map_eq_some_iff] at ha
    obtain ⟨x, hx, rfl⟩ := ha
    have hkl : k < l.length := (List.getElem?_eq_some_iff.1 hx).1
    obtain ⟨rfl, hbB⟩ := k1.resolve_left (by omega)
    obtain ⟨vx, cx, ix⟩ := PE.Row.get hr hx
    have bl : Below B w W := (bd.mono hB).trans bW.bel
    exact exprs1_calls B R x (IH x (List.mem_of_getElem? hx)) k l.length hkl hn w.heap.size (w.heap.size + 1) b o cap T0 G0 us vx W hBW (hW.below bl) hAW (PE.In.below bl ix) hLW ((S0.cell bW 0).trans c0) ((S1.cell bW 0).trans c1) (cx.below hbB bl)))
  have C' : Hid (Calls Tryz.prog 145 #[.pointer (some ⟨R, 0, none⟩), .int .i64 l.length, .func (.func 159) #[] #[.pointer (some ⟨w.heap.size, 0, none⟩), .pointer (some ⟨w.heap.size + 1, 0, none⟩)]] w1.drew fun e w' => e = .returned (.tuple #[]) ∧ AtW B R T0 G0 (ts ++ joinT (tokEs l)) w' ∧ WBut B R w1.drew w') := Lib.hid (by
    have := C.out
    rw [tokEs_len] at this
    exact this)
  have d0 : w1.cell? ⟨w.heap.size, 0, none⟩ = some (.pointer (some ⟨R, 0, none⟩)) := c0
  have d1 : w1.cell? ⟨w.heap.size + 1, 0, none⟩ = some (.slice ao l.length cap) := c1
  clear hW hA hr hL IH C k1 S0 S1
  generalize joinT (tokEs l) = tx at *
  generalize l.length = n at *
  go_enter Tryz.func101, Tryz.ntmps101
  go_upto_region 1 with (fail)
  (try simp only [size_alloc])
  rw [← hw1]
  clear hw1
  go_region_with (first
    | (go_at_call 145; (with_reducible refine (C'.out).mono ?_)
       rintro e w3 ⟨rfl, h3, b3⟩
       have H3 := Lib.hid h3
       have B3 := Lib.hid (BX.out.trans b3)
       clear h3 b3))
  all_goals
    go_wp2
    go_end0
    exact ⟨rfl, H3.out, B3.out⟩
end Go.Proofs.YthilicmhdkmipaaGreatDoor
/- An expression in a box of the writer's own; three tokens. -/
namespace Go.Proofs.YthilicmhdkmipaaGreatDoor
open Go.RowKit
set_option linter.unusedVariables false

/-- block G is a box with the expression, and the writer leaves it as it is -/
structure EBox (R G : Nat) (x : PE) (v : VE) (W : World) : Prop where
  safe : Safe R W G
  has : CellsAt W G 0 (x.cells v)
theorem EBox.but {B R G : Nat} {x : PE} {v : VE} {W W' : World} (h : EBox R G x v W) (k : WBut B R W W') : EBox R G x v W' :=
  ⟨h.safe.but k, fun i u hi => (h.safe.cell k _).trans (h.has i u hi)⟩
theorem EBox.lt {R G : Nat} {x : PE} {v : VE} {W : World} (h : EBox R G x v W) : G < W.heap.size := h.safe.lt
theorem EBox.new {R : Nat} {w : World} (x : PE) (v : VE) (hR : R < w.heap.size) : EBox R w.heap.size x v (w.alloc (.cells (x.cells v).toArray 37)) :=
  ⟨Safe.made (heap_alloc_new w _) neEB hR, cells_made (heap_alloc_new w _)⟩
theorem NRow.three {w : World} {S : Nat} {a b c : ByteArray} (ha : a.size ≤ maxLen) (hb : b.size ≤ maxLen) (hc : c.size ≤ maxLen) (h0 : w.cell? ⟨S, 0, none⟩ = some (.string a)) (h1 : w.cell? ⟨S, 1, none⟩ = some (.string b)) (h2 : w.cell? ⟨S, 2, none⟩ = some (.string c)) : NRow w S 0 [a, b, c] :=
  ⟨⟨ha, fun i v hi => by
    cases i with
    | zero => simp at hi; subst hi; exact h0
    | succ i => simp at hi⟩, ⟨hb, fun i v hi => by
    cases i with
    | zero => simp at hi; subst hi; exact h1
    | succ i => simp at hi⟩, NRow.one hc h2⟩
theorem put3_calls (B R : Nat) (a b c : ByteArray) (T0 G0 : TkB) (ts : List TkB) (W w0 : World) (hW : Below w0.heap.size w0 W) (hc : W.heap[w0.heap.size]? = some (.cells #[.string a, .string b, .string c] 9 (0, 0))) (hB : B ≤ w0.heap.size) (hA : AtW B R T0 G0 ts w0) (ha : a.size ≤ maxLen) (hb' : b.size ≤ maxLen) (hc' : c.size ≤ maxLen) (hL : Lim T0 G0 (ts ++ [kT a, kT b, kT c])) :
    Calls Tryz.prog 98 #[.pointer (some ⟨R, 0, none⟩), .slice (some ⟨w0.heap.size, 0, none⟩) 3 3] W fun e w' => e = .returned (.tuple #[]) ∧ AtW B R T0 G0 (ts ++ [kT a, kT b, kT c]) w' ∧ WBut B R w0 w' := by
  have hR := hA.lt
  refine (put_calls B R [a, b, c] w0.heap.size 0 3 T0 G0 ts W (Nat.le_trans hB hW.size) (by simp) (hA.stays hW) (Safe.made hc neSB hR) (NRow.three ha hb' hc' (by rw [cell_of_row _ _ 0 _ _ _ hc]; rfl) (by rw [cell_of_row _ _ 1 _ _ _ hc]; rfl) (by rw [cell_of_row _ _ 2 _ _ _ hc]; rfl)) hL).mono ?_
  rintro e w' ⟨rfl, h1, h2⟩
  exact ⟨rfl, h1, (WBut.of hW hB).trans h2⟩
/-- a word of an expression -/
def wordE (k : Nat) : ByteArray := ⟨(exprWord k).toArray⟩
theorem wordE_kT (k : Nat) : kT (wordE k) = exprWord k := kT_mk _
theorem wordE_size (k : Nat) (h : k ≤ 36) : (wordE k).size ≤ maxLen := by
  have hall : ∀ j : Fin 37, (exprWord j.val).length ≤ 12 := by decide
  have : (exprWord k).length ≤ 12 := hall ⟨k, by omega⟩
  unfold maxLen
  show (exprWord k).toArray.size ≤ _
  rw [List.size_toArray]; omega
theorem NRow.below' {B : Nat} {w w' : World} (k : Below B w w') {v : Value} {l : List ByteArray} {b o : Nat} (hs : SlV B v l.length b o) (h : NRow w b o l) : NRow w' b o l := by
  cases l with
  | nil => trivial
  | cons a l => exact NRow.below (hs.lt (by simp)) k h
/-- an expression in memory, taken apart -/
theorem PE.In.parts {B : Nat} {w : World} {op i : Int} {n s : ByteArray} {p : PP} {l : List PE} {pos : Int} {v : VE} (h : (PE.mk op i n s p l pos).In B w v) :
    ∃ p1 n1 c1 ao cap b o, v = ⟨.slice p1 n1 c1, .slice ao l.length cap⟩ ∧ (U8 op ∧ I64 i ∧ n.size ≤ maxLen ∧ s.size ≤ maxLen) ∧ p.In B w (.slice p1 n1 c1) ∧ l.length ≤ maxLen ∧ (l.length = 0 ∨ (ao = some ⟨b, o, none⟩ ∧ b < B)) ∧ PE.Row B w b o l := by
  obtain ⟨p1, n1, c1, p2, n2, c2, rfl⟩ := h.shape
  obtain ⟨⟨hu, hi, _, h1, h2⟩, h3, b, o, ⟨h4, ao, cap, he, h5⟩, h6⟩ := h
  obtain ⟨rfl, rfl, rfl⟩ := Value.slice.inj he
  exact ⟨p1, n1, c1, p2, c2, b, o, rfl, ⟨hu, hi, h1, h2⟩, h3, h4, h5, h6⟩
end Go.Proofs.YthilicmhdkmipaaGreatDoor
/- An enum's expression. -/
namespace Go.Proofs.YthilicmhdkmipaaGreatDoor
open Go.RowKit
set_option linter.unusedVariables false

set_option maxRecDepth 100000 in
set_option maxHeartbeats 4000000 in
theorem enumW_calls (B R : Nat) (i : Int) (n s : ByteArray) (p : PP) (l : List PE) (pos : Int) (hl : l.length ≤ 1) (IH : ∀ x ∈ l, ExprAt B R x) (T0 G0 : TkB) (ts : List TkB) (v : VE) (w : World) (hB : B ≤ w.heap.size) (hW : Words B w) (hA : AtW B R T0 G0 ts w) (hx : (PE.mk 20 i n s p l pos).In B w v) (hL : Lim T0 G0 (ts ++ kT n :: wDot :: kT s :: enumT (tokEs l))) :
    Calls Tryz.prog 103 #[.pointer (some ⟨R, 0, none⟩), .agg ((PE.mk 20 i n s p l pos).cells v).toArray] w fun e w' => e = .returned (.tuple #[]) ∧ AtW B R T0 G0 (ts ++ kT n :: wDot :: kT s :: enumT (tokEs l)) w' ∧ WBut B R w w' := by
  obtain ⟨p1, n1, c1, ao, cap, b, o, rfl, ⟨_, _, hsn, hss⟩, _, hn, k1, hr⟩ := hx.parts
  have hRR : R < w.heap.size := hA.lt
  obtain ⟨w1, hw1⟩ : ∃ w1, w1 = w.alloc (.cells ((PE.mk 20 i n s p l pos).cells ⟨.slice p1 n1 c1, .slice ao l.length cap⟩).toArray 37) := ⟨_, rfl⟩
  have bx : Below w.heap.size w w1 := by rw [hw1]; exact new_only _ _
  have hz : w.heap.size < w1.heap.size := by rw [hw1]; simp
  have EB : EBox R w.heap.size (PE.mk 20 i n s p l pos) ⟨.slice p1 n1 c1, .slice ao l.length cap⟩ w1 := by rw [hw1]; exact EBox.new _ _ hRR
  have e1 : ts ++ kT n :: wDot :: kT s :: enumT (tokEs l) = (ts ++ [kT n, wDot, kT s]) ++ enumT (tokEs l) := by simp
  rw [e1] at hL ⊢
  have P1 := Lib.hid (put3_calls B R n ⟨#[46]⟩ s T0 G0 ts _ w1 (new_drew w1 (.cells #[.string n, .string ⟨#[46]⟩, .string s] 9)) (drew_new w1 _) (by omega) (hA.stays bx) hsn (by decide) hss hL.less)
  have BX := Lib.hid (WBut.of bx hB (R := R))
  have HW := Lib.hid hW
  have HR := Lib.hid hr
  have HL := Lib.hid hL
  have HE := Lib.hid EB
  have x2 : w1.cell? ⟨w.heap.size, 2, none⟩ = some (.string n) := EB.has 2 _ rfl
  have x3 : w1.cell? ⟨w.heap.size, 3, none⟩ = some (.string s) := EB.has 3 _ rfl
  show Calls Tryz.prog 103 #[.pointer (some ⟨R, 0, none⟩), .agg #[.int .u8 20, .int .i64 i, .string n, .string s, .string p.name, .slice p1 n1 c1, .slice ao l.length cap, .int .i64 pos]] w _
  have hw1' : w1 = w.alloc (.cells #[.int .u8 20, .int .i64 i, .string n, .string s, .string p.name, .slice p1 n1 c1, .slice ao l.length cap, .int .i64 pos] 37) := hw1
  clear hw1 hW hA hx hr hL EB e1 bx
  have SG := HE.out.safe
  go_enter Tryz.func103, Tryz.ntmps103
  go_upto_region 1 with (fail)
  rw [← hw1']
  clear hw1'
  go_cut [3] from 4 to 13 (fun s3 wx => s3 = .pointer (some ⟨w.heap.size, 0, none⟩) ∧ Hid (AtW B R T0 G0 (ts ++ [kT n, wDot, kT s]) wx) ∧ Hid (WBut B R w1 wx))
  case first =>
    go_region_held3 (fun w' => w'.cell? ⟨w.heap.size, 2, none⟩ = some (.string n) ∧ w'.cell? ⟨w.heap.size, 3, none⟩ = some (.string s)) (first | exact ⟨x2, x3⟩ | exact ⟨(low_new w1 _ _ _ hz).trans x2, (low_new w1 _ _ _ hz).trans x3⟩ | exact ⟨XA, XB⟩)
      (first
        | (go_at_call 98; (with_reducible refine (P1.out).mono ?_)
           rintro e w2 ⟨rfl, h1, b1⟩
           have H1 := Lib.hid h1
           have B1 := Lib.hid b1
           have XA := (SG.cell b1 2).trans x2
           have XB := (SG.cell b1 3).trans x3
           clear h1 b1))
    go_wp2_with fail
    go_meet
    case rel => exact ⟨rfl, H1, B1⟩
  case rest =>
    obtain ⟨rfl, H1, B1⟩ := hcut
    have BW := Lib.hid (BX.out.trans B1.out)
    have E2 := HE.out.but B1.out
    have y6 : wc.cell? ⟨w.heap.size, 6, none⟩ = some (.slice ao l.length cap) := E2.has 6 _ rfl
    have hzc := E2.lt
    clear P1 x2 x3 SG
    cases l with
    | nil =>
      have y6' : wc.cell? ⟨w.heap.size, 6, none⟩ = some (.slice ao 0 cap) := y6
      clear y6 k1 hn E2
      go_wp2
      (try simp only [Exit.inBlock, Exit.then])
      refine bodyPost_ret (results_none rfl _ _ _) rfl ?_
      exact ⟨rfl, by simpa [tokEs, enumT] using H1.out, BW.out⟩
    | cons a r =>
      obtain rfl : r = [] := by cases r with
        | nil => rfl
        | cons _ _ => simp at hl
      obtain ⟨rfl, hbB⟩ := k1.resolve_left (by simp)
      have y6' : wc.cell? ⟨w.heap.size, 6, none⟩ = some (.slice (some ⟨b, o, none⟩) 1 cap) := y6
      obtain ⟨va, ca, ia⟩ := PE.Row.get HR.out (show ([a] : List PE)[0]? = some a from rfl)
      obtain ⟨q1, m1, d1, q2, m2, d2, rfl⟩ := ia.shape
      have e2 : (ts ++ [kT n, wDot, kT s]) ++ enumT (tokEs [a]) = (((ts ++ [kT n, wDot, kT s]) ++ [wOpen]) ++ tokE a) ++ [wEnd] := by rw [tokEs, tokEs, enumT]; simp
      have HL' : Hid (Lim T0 G0 ((((ts ++ [kT n, wDot, kT s]) ++ [wOpen]) ++ tokE a) ++ [wEnd])) := Lib.hid (by have := HL.out; rw [e2] at this; exact this)
      have HE2' := Lib.hid e2
      have hBc : B ≤ wc.heap.size := Nat.le_trans hB BW.out.size
      have P2 := Lib.hid (put1_calls B R ⟨#[40]⟩ T0 G0 (ts ++ [kT n, wDot, kT s]) _ wc (new_only wc (.cells #[.string ⟨#[40]⟩] 9)) (heap_alloc_new wc _) hBc H1.out (by decide) HL'.out.less.less)
      have HE2 := Lib.hid E2
      have HCA := Lib.hid ca
      have HIA := Lib.hid ia
      have HIH := Lib.hid (IH a (by simp))
      clear y6 k1 hn E2 HL IH H1 e2 ca ia
      go_wp2_with fail
      (with_reducible refine (P2.out).mono ?_)
      rintro e w2 ⟨rfl, h2, b2⟩
      have B2 := Lib.hid (BW.out.trans b2)
      have z6 : w2.cell? ⟨w.heap.size, 6, none⟩ = some (.slice (some ⟨b, o, none⟩) 1 cap) := (HE2.out.but b2).has 6 _ rfl
      have hz2 := (HE2.out.but b2).lt
      have cw := HCA.out.below hbB B2.out.bel
      have u0 : w2.cell? ⟨b, o, none⟩ = some (.int .u8 a.op) := by simpa using cw 0 _ rfl
      have u1 : w2.cell? ⟨b, o + 1, none⟩ = some (.int .i64 a.int) := by simpa using cw 1 _ rfl
      have u2 : w2.cell? ⟨b, o + 2, none⟩ = some (.string a.name) := by simpa using cw 2 _ rfl
      have u3 : w2.cell? ⟨b, o + 3, none⟩ = some (.string a.second) := by simpa using cw 3 _ rfl
      have u4 : w2.cell? ⟨b, o + 4, none⟩ = some (.string a.place.name) := by simpa using cw 4 _ rfl
      have u5 : w2.cell? ⟨b, o + 5, none⟩ = some (.slice q1 m1 d1) := by simpa using cw 5 _ rfl
      have u6 : w2.cell? ⟨b, o + 6, none⟩ = some (.slice q2 m2 d2) := by simpa using cw 6 _ rfl
      have u7 : w2.cell? ⟨b, o + 7, none⟩ = some (.int .i64 a.pos) := by simpa using cw 7 _ rfl
      have hb2 : b < w2.heap.size := Nat.lt_of_lt_of_le hbB (Nat.le_trans hB B2.out.size)
      have C := Lib.hid (HIH.out T0 G0 ((ts ++ [kT n, wDot, kT s]) ++ [wOpen]) _ w2 (Nat.le_trans hB B2.out.size) (HW.out.below B2.out.bel) h2 (PE.In.below B2.out.bel HIA.out) HL'.out.less)
      have C' : Hid (Calls Tryz.prog 69 #[.pointer (some ⟨R, 0, none⟩), .agg #[.int .u8 a.op, .int .i64 a.int, .string a.name, .string a.second, .string a.place.name, .slice q1 m1 d1, .slice q2 m2 d2, .int .i64 a.pos]] w2 fun e w' => e = .returned (.tuple #[]) ∧ AtW B R T0 G0 (((ts ++ [kT n, wDot, kT s]) ++ [wOpen]) ++ tokE a) w' ∧ WBut B R w2 w') := Lib.hid C.out
      clear h2 b2 P2 C cw HE2 y6'
      go_wp2_with fail
      (with_reducible refine (C'.out).mono ?_)
      rintro e w3 ⟨rfl, h3, b3⟩
      have B3 := Lib.hid (B2.out.trans b3)
      have P4 := Lib.hid (put1_calls B R ⟨#[41]⟩ T0 G0 (((ts ++ [kT n, wDot, kT s]) ++ [wOpen]) ++ tokE a) _ w3 (new_only w3 (.cells #[.string ⟨#[41]⟩] 9)) (heap_alloc_new w3 _) (Nat.le_trans hB B3.out.size) h3 (by decide) HL'.out)
      clear h3 b3 C' z6 u0 u1 u2 u3 u4 u5 u6 u7
      go_wp2_with fail
      (with_reducible refine (P4.out).mono ?_)
      rintro e w5 ⟨rfl, h5, b5⟩
      have H5 := Lib.hid h5
      have B5 := Lib.hid (B3.out.trans b5)
      clear h5 b5
      go_wp2
      go_end0
      exact ⟨rfl, by rw [HE2'.out]; exact H5.out, B5.out⟩
end Go.Proofs.YthilicmhdkmipaaGreatDoor
