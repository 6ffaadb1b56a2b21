/- ShowSides: the law, its contracts put in. -/
import Derived.Test.YthilicmhdkmipaaGreatDoorWShowSidesLaw1
import Derived.Test.YthilicmhdkmipaaGreatDoorWJoinAX
namespace Go.Proofs.YthilicmhdkmipaaGreatDoor
open Go.RowKit
set_option linter.unusedVariables false

theorem sdB_of (k : Nat) (op : Int) (L : TkB) : sdB (decide ((strongB op : Int) < (k : Int))) ⟨L.toArray⟩ = ⟨(sideB k op L).toArray⟩ := by
  unfold sdB sideB
  by_cases h : strongB op < k
  · rw [if_pos h, if_pos (decide_eq_true (by omega))]
    rw [show (⟨#[40, 32]⟩ : ByteArray) = ⟨([40, 32] : List UInt8).toArray⟩ from rfl, show (⟨#[32, 41]⟩ : ByteArray) = ⟨([32, 41] : List UInt8).toArray⟩ from rfl, ba_cat, ba_cat]
  · rw [if_neg h, if_neg (by rw [decide_eq_true_eq]; omega)]
theorem sideB_len (k : Nat) (op : Int) (L : TkB) : (sideB k op L).length ≤ L.length + 4 := by
  unfold sideB
  split
  · simp
  · omega
theorem sE_some {x : PE} (h : (sE x).size ≠ 0) : (!lentB x && rE 40 x) = true ∧ sE x = ⟨(lineT (tokE x)).toArray⟩ := by
  unfold sE at h ⊢
  by_cases hq : (!lentB x && rE 40 x) = true
  · rw [if_pos hq] at h ⊢; exact ⟨hq, rfl⟩
  · rw [if_neg hq] at h; exact absurd rfl h
theorem sE_sides (x y : PE) (h1 : (sE x).size ≠ 0) (h2 : (sE y).size ≠ 0) (h3 : (sE (exOf 9 [x, y])).size ≠ 0) :
    sE (exOf 9 [x, y]) = sdB (decide ((strongB x.op : Int) < ((4 : Nat) : Int))) (sE x) ++ ⟨#[32, 43, 32]⟩ ++ sdB (decide ((strongB y.op : Int) < ((5 : Nat) : Int))) (sE y) ∧
    sE (exOf 11 [x, y]) = sdB (decide ((strongB x.op : Int) < ((5 : Nat) : Int))) (sE x) ++ ⟨#[32, 42, 32]⟩ ++ sdB (decide ((strongB y.op : Int) < ((6 : Nat) : Int))) (sE y) := by
  obtain ⟨hx, ex⟩ := sE_some h1
  obtain ⟨hy, ey⟩ := sE_some h2
  obtain ⟨hs, es⟩ := sE_some h3
  rw [Bool.and_eq_true] at hx hy
  have nx := ne_of_line (lineT_expr 40 x hx.2)
  have ny := ne_of_line (lineT_expr 40 y hy.2)
  have hp : (!lentB (exOf 11 [x, y]) && rE 40 (exOf 11 [x, y])) = true := by
    rw [rE_two 9 (.inl rfl) 39, show lentB (exOf 9 [x, y]) = false from rfl] at hs
    rw [rE_two 11 (.inr rfl) 39, show lentB (exOf 11 [x, y]) = false from rfl]
    exact hs
  have ep : sE (exOf 11 [x, y]) = ⟨(lineT (tokE (exOf 11 [x, y]))).toArray⟩ := by unfold sE; rw [if_pos hp]
  rw [es, ep, ex, ey, sdB_of, sdB_of, sdB_of, sdB_of, line_sum x y nx ny, line_product x y nx ny]
  refine ⟨?_, ?_⟩
  · rw [show (⟨#[32, 43, 32]⟩ : ByteArray) = ⟨([32, 43, 32] : List UInt8).toArray⟩ from rfl, ba_cat, ba_cat]
  · rw [show (⟨#[32, 42, 32]⟩ : ByteArray) = ⟨([32, 42, 32] : List UInt8).toArray⟩ from rfl, ba_cat, ba_cat]
theorem two_len (op : Int) (hop : op = 9 ∨ op = 11) (x y : PE) (wx : (wtT (tokE x) : Int) ≤ 100000) (wy : (wtT (tokE y) : Int) ≤ 100000) (h : rE 40 (exOf op [x, y]) = true) : (lineT (tokE (exOf op [x, y]))).length ≤ 1000000000 := by
  have lx := wtT_line (tokE x)
  have ly := wtT_line (tokE y)
  rw [rE_two op hop 39, Bool.and_eq_true, Bool.and_eq_true, Bool.and_eq_true] at h
  have nx := ne_of_line (lineT_expr 39 x h.1.2)
  have ny := ne_of_line (lineT_expr 39 y h.2.2)
  rcases hop with rfl | rfl
  · rw [line_sum x y nx ny]
    have a := sideB_len 4 x.op (lineT (tokE x))
    have b := sideB_len 5 y.op (lineT (tokE y))
    simp only [List.length_append, List.length_cons, List.length_nil]; omega
  · rw [line_product x y nx ny]
    have a := sideB_len 5 x.op (lineT (tokE x))
    have b := sideB_len 6 y.op (lineT (tokE y))
    simp only [List.length_append, List.length_cons, List.length_nil]; omega
theorem greatX_calls (x : PE) (p1 : Option Addr) (pn1 pc1 : Nat) (p2 : Option Addr) (pn2 pc2 : Nat) (w W : World) (h : Below w.heap.size w W) (hx : PE.In w.heap.size w x ⟨.slice p1 pn1 pc1, .slice p2 pn2 pc2⟩) :
    Calls Tryz.prog 16 #[.agg #[.int .u8 x.op, .int .i64 x.int, .string x.name, .string x.second, .string x.place.name, .slice p1 pn1 pc1, .slice p2 pn2 pc2, .int .i64 x.pos]] W fun e w' => e = .returned (.bool (decide (exprR x 20000 < 0))) ∧ Below W.heap.size W w' := by
  obtain ⟨op, iv, nm, sc, pl, es, ps⟩ := x
  exact greatE_calls w.heap.size _ _ _ _ _ _ _ _ _ _ _ _ _ W h.size (PE.In.below h hx)
theorem showX_calls (x : PE) (p1 : Option Addr) (pn1 pc1 : Nat) (p2 : Option Addr) (pn2 pc2 : Nat) (w W : World) (h : Below w.heap.size w W) (hm : MaxOk w) (hW : Words w.heap.size w) (hx : PE.In w.heap.size w x ⟨.slice p1 pn1 pc1, .slice p2 pn2 pc2⟩) (hL : (lineT (tokE x)).length ≤ 1000000000) :
    Calls Tryz.prog 26 #[.agg #[.int .u8 x.op, .int .i64 x.int, .string x.name, .string x.second, .string x.place.name, .slice p1 pn1 pc1, .slice p2 pn2 pc2, .int .i64 x.pos]] W fun e w' => e = .returned (.string (sE x)) ∧ Below W.heap.size W w' := by
  obtain ⟨op, iv, nm, sc, pl, es, ps⟩ := x
  have := showE_calls w.heap.size op iv nm sc pl es ps p1 pn1 pc1 p2 pn2 pc2 W h.size (hW.below h) (hm.below h) (PE.In.below h hx) _ rfl (fun _ => hL)
  exact this
set_option maxRecDepth 100000 in
set_option maxHeartbeats 4000000 in
theorem showSides_law (x y : PE) (p1 : Option Addr) (pn1 pc1 : Nat) (p2 : Option Addr) (pn2 pc2 : Nat) (q1 : Option Addr) (qn1 qc1 : Nat) (q2 : Option Addr) (qn2 qc2 : Nat) (w : World) (hm : MaxOk w) (hW : Words w.heap.size w)
    (hx : PE.In w.heap.size w x ⟨.slice p1 pn1 pc1, .slice p2 pn2 pc2⟩) (hy : PE.In w.heap.size w y ⟨.slice q1 qn1 qc1, .slice q2 qn2 qc2⟩) :
    Calls Tryz.prog 9 #[.agg #[.int .u8 x.op, .int .i64 x.int, .string x.name, .string x.second, .string x.place.name, .slice p1 pn1 pc1, .slice p2 pn2 pc2, .int .i64 x.pos], .agg #[.int .u8 y.op, .int .i64 y.int, .string y.name, .string y.second, .string y.place.name, .slice q1 qn1 qc1, .slice q2 qn2 qc2, .int .i64 y.pos]] w fun r w' => r = .returned (.bool true) ∧ Below w.heap.size w w' := by
  have hWW : ∀ W, Below w.heap.size w W → Words W.heap.size W := fun W h => (hW.below h).wider h.size
  have AW : Hid (∀ W, Below w.heap.size w W → Calls Tryz.prog 28 #[] W fun e w' => e = .returned (.bool true) ∧ Below W.heap.size W w') := Lib.hid fun W h => awake4_calls W (hm.below h) (hWW W h)
  have G1 := Lib.hid fun W h => greatX_calls x p1 pn1 pc1 p2 pn2 pc2 w W h hx
  have G2 := Lib.hid fun W h => greatX_calls y q1 qn1 qc1 q2 qn2 qc2 w W h hy
  by_cases h1 : exprR x 20000 < 0
  · rw [decide_eq_true h1] at G1
    exact showSides_great x y p1 pn1 pc1 p2 pn2 pc2 q1 qn1 qc1 q2 qn2 qc2 w true _ (.inl rfl) AW G1 G2
  by_cases h2 : exprR y 20000 < 0
  · rw [decide_eq_false h1] at G1
    rw [decide_eq_true h2] at G2
    exact showSides_great x y p1 pn1 pc1 p2 pn2 pc2 q1 qn1 qc1 q2 qn2 qc2 w false true (.inr ⟨rfl, rfl⟩) AW G1 G2
  rw [decide_eq_false h1] at G1
  rw [decide_eq_false h2] at G2
  have wx := exprR_w x _ 20000 hx (by omega)
  have wy := exprR_w y _ 20000 hy (by omega)
  have wx' : (wtT (tokE x) : Int) ≤ 100000 := by omega
  have wy' : (wtT (tokE y) : Int) ≤ 100000 := by omega
  have lx := wtT_line (tokE x)
  have ly := wtT_line (tokE y)
  have sx := sE_size x wx'
  have sy := sE_size y wy'
  have ev : ∀ (op : Int), op = 9 ∨ op = 11 → ∀ (h : Nat) (W : World), Below w.heap.size w W → PE.In W.heap.size W (exOf op [x, y]) ⟨.slice none 0 0, .slice (some ⟨h, 0, none⟩) 2 2⟩ →
      Calls Tryz.prog 26 #[.agg #[.int .u8 op, .int .i64 0, .string ⟨#[]⟩, .string ⟨#[]⟩, .string ⟨#[]⟩, .slice none 0 0, .slice (some ⟨h, 0, none⟩) 2 2, .int .i64 0]] W fun e w' => e = .returned (.string (sE (exOf op [x, y]))) ∧ Below W.heap.size W w' := fun op hop h W hb hin => by
    have := showE_calls W.heap.size op 0 eB eB ⟨eB, []⟩ [x, y] 0 none 0 0 (some ⟨h, 0, none⟩) 2 2 W (Nat.le_refl _) (hWW W hb) (hm.below hb) hin (exOf op [x, y]) rfl (two_len op hop x y wx' wy')
    exact this
  refine showSides_walk x y p1 pn1 pc1 p2 pn2 pc2 q1 qn1 qc1 q2 qn2 qc2 w (sE x) (sE y) (sE (exOf 9 [x, y])) (sE (exOf 11 [x, y])) (decide ((strongB x.op : Int) < ((4 : Nat) : Int))) (decide ((strongB y.op : Int) < ((5 : Nat) : Int))) (decide ((strongB x.op : Int) < ((5 : Nat) : Int))) (decide ((strongB y.op : Int) < ((6 : Nat) : Int))) AW G1 G2
    (Lib.hid fun W h => showX_calls x p1 pn1 pc1 p2 pn2 pc2 w W h hm hW hx (by omega)) (Lib.hid fun W h => showX_calls y q1 qn1 qc1 q2 qn2 qc2 w W h hm hW hy (by omega))
    (Lib.hid fun W h => two_calls 9 (u8_of (by omega) (by omega)) x y ⟨.slice p1 pn1 pc1, .slice p2 pn2 pc2⟩ ⟨.slice q1 qn1 qc1, .slice q2 qn2 qc2⟩ W (PE.later hx h) (PE.later hy h)) (Lib.hid fun W h => two_calls 11 (u8_of (by omega) (by omega)) x y ⟨.slice p1 pn1 pc1, .slice p2 pn2 pc2⟩ ⟨.slice q1 qn1 qc1, .slice q2 qn2 qc2⟩ W (PE.later hx h) (PE.later hy h))
    (Lib.hid (ev 9 (.inl rfl))) (Lib.hid (ev 11 (.inr rfl)))
    (Lib.hid fun W h => weak_calls ((4 : Nat) : Int) (by omega) x p1 pn1 pc1 p2 pn2 pc2 W) (Lib.hid fun W h => weak_calls ((5 : Nat) : Int) (by omega) y q1 qn1 qc1 q2 qn2 qc2 W) (Lib.hid fun W h => weak_calls ((5 : Nat) : Int) (by omega) x p1 pn1 pc1 p2 pn2 pc2 W) (Lib.hid fun W h => weak_calls ((6 : Nat) : Int) (by omega) y q1 qn1 qc1 q2 qn2 qc2 W)
    (by omega) (by omega) (fun h => ?_) (fun h => ?_) (fun h1 h2 h3 => sE_sides x y h1 h2 h3)
  · rw [decide_eq_true_eq] at h ⊢; omega
  · rw [decide_eq_true_eq] at h ⊢; omega
end Go.Proofs.YthilicmhdkmipaaGreatDoor

