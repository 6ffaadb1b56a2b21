/- awake, first part: the program of the chapter's example in memory; small. -/
import Derived.Test.YtojeijeimpffgaaGreatQTreePartP
import Derived.Deep.Cut
namespace Go.Proofs.YtojeijeimpffgaaGreat
open Go.RowKit Go.Shelf
set_option linter.unusedVariables false

def smallI (pos : Int) : PI := ⟨3, ⟨#[109, 97, 105, 110]⟩, [], .mk 1 ByteArray.empty [], [], .mk 1 0 ByteArray.empty ByteArray.empty ⟨ByteArray.empty, []⟩ [] 0, pos⟩
def smallCells (pos : Int) : List Value := [.int .u8 3, .string ⟨#[109, 97, 105, 110]⟩, .slice none 0 0, .int .u8 1, .string ByteArray.empty, .slice none 0 0, .slice none 0 0, .int .u8 1, .int .i64 0, .string ByteArray.empty, .string ByteArray.empty, .string ByteArray.empty, .slice none 0 0, .slice none 0 0, .int .i64 0, .int .i64 pos]
theorem nil_sl (B : Nat) : SlV B (.slice none 0 0) 0 0 0 := ⟨by unfold maxLen; simp, none, 0, rfl, .inl rfl⟩
theorem small_in {B g : Nat} {W : World} {pos : Int} (hp : I64 pos) (hg : g < B) (hc : CellsAt W g 0 (smallCells pos)) : ProgIn B W [smallI pos] (.slice (some ⟨g, 0, none⟩) 1 1) := by
  refine ⟨g, 0, ⟨by unfold maxLen; simp, _, 1, rfl, .inr ⟨rfl, hg⟩⟩, ⟨⟨.slice none 0 0, .slice none 0 0, .slice none 0 0, ⟨.slice none 0 0, .slice none 0 0⟩⟩, hc, ?_⟩, trivial⟩
  refine ⟨⟨(by unfold U8; decide : U8 3), hp, by simp [smallI, ByteArray.size]; unfold maxLen; omega⟩, ⟨0, 0, nil_sl B, trivial⟩, ?_, ⟨0, 0, nil_sl B, trivial⟩, ?_⟩
  · exact ⟨⟨by unfold U8; decide, by decide⟩, 0, 0, nil_sl B, trivial⟩
  · exact ⟨⟨by unfold U8; decide, by unfold I64; decide, by unfold I64; decide, by decide, by decide⟩, ⟨by decide, 0, 0, nil_sl B, trivial⟩, 0, 0, nil_sl B, trivial⟩
theorem block_cells {W : World} {g : Nat} {cs : List Value} {T : TypeId} {f : Nat × Nat} (h : W.heap[g]? = some (.cells cs.toArray T f)) : CellsAt W g 0 cs := by
  intro i v hi
  rw [cell_of_row _ _ _ cs.toArray T f h]
  simpa using hi
set_option maxRecDepth 100000 in
set_option maxHeartbeats 2000000 in
theorem small_calls (w : World) :
    Calls Tryz.prog 41 #[] w fun e w' => ∃ g, e = .returned (.agg #[.slice (some ⟨g, 0, none⟩) 1 1]) ∧ w.heap.size ≤ g ∧ g < w'.heap.size ∧ w'.heap[g]? = some (.cells (smallCells 0).toArray 47 (0, 0)) ∧ Below w.heap.size w w' := by
  go_enter Tryz.func41, Tryz.ntmps41
  go_wp2_with fail
  have hh := heap_alloc_new (w.alloc (.cells #[.slice (some ⟨w.heap.size + 1, 0, none⟩) 1 1] 24)) (.cells (smallCells 0).toArray 47)
  rw [show (w.alloc (.cells #[.slice (some ⟨w.heap.size + 1, 0, none⟩) 1 1] 24)).heap.size = w.heap.size + 1 from by simp] at hh
  exact bodyPost_ret (v := .agg #[.slice (some ⟨w.heap.size + 1, 0, none⟩) 1 1]) (by rw [results_cell1 rfl]; go_simp) rfl ⟨w.heap.size + 1, rfl, by omega, by simp, hh, box2 _ _ _⟩
theorem whole_small : wholeR 40 (rtP [smallI 0]) = true := by decide +kernel
theorem depth_small : depthR (rtP [smallI 0]) = 3 := by decide +kernel
theorem size_small : sizeR (rtP [smallI 0]) = 2 := by decide +kernel
theorem whole_none : wholeR 40 (rtP []) = true := by decide +kernel
theorem depth_none : depthR (rtP []) = 1 := by decide +kernel
end Go.Proofs.YtojeijeimpffgaaGreat
/- awake, second part: tree.WholeType, WholeExpr, WholePlace. -/
namespace Go.Proofs.YtojeijeimpffgaaGreat
open Go.RowKit Go.Shelf
set_option linter.unusedVariables false

theorem cells_box (w : World) (cs : List Value) (T : TypeId) : CellsAt (w.alloc (.cells cs.toArray T)) w.heap.size 0 cs := block_cells (heap_alloc_new w _)
set_option maxHeartbeats 1000000 in
theorem topWholeT_calls (B : Nat) (t : PT) (ao : Option Addr) (n c : Nat) (w : World) (hB : B ≤ w.heap.size) (hm : MaxOk w) (ht : t.In B w (.slice ao n c)) :
    Calls Tryz.prog 42 #[.agg #[.int .u8 t.kind, .string t.name, .slice ao n c]] w fun e w' => e = .returned (.bool (wholeR 40 (rtT t 0))) ∧ Below w.heap.size w w' := by
  have C := Lib.hid (wholeR_calls _ 40 (by omega) _ _ _ (partT (B := B) (W0 := w.alloc (.cells #[.int .u8 t.kind, .string t.name, .slice ao n c] 38)) (by simp; omega) (hm.alloc _) t 0 w.heap.size 0 (.slice ao n c) (by omega) (by simp) (cells_box w _ _) (PT.In.below ((box1 w _).mono hB) ht)) (Below.refl _ _))
  clear ht hm
  generalize wholeR 40 (rtT t 0) = q at *
  go_enter Tryz.func42, Tryz.ntmps42
  go_wp2_with fail
  refine C.out.mono ?_; rintro e w1 ⟨rfl, b1⟩
  go_wp2
  go_ret
  exact ⟨rfl, up_tr (box1 w _) b1⟩
set_option maxHeartbeats 1000000 in
theorem topWholeE_calls (B : Nat) (op iv : Int) (nm sc : ByteArray) (pl : PP) (es : List PE) (ps : Int) (p0 : Option Addr) (n0 q0 : Nat) (p1 : Option Addr) (n1 q1 : Nat) (w : World) (hB : B ≤ w.heap.size) (hm : MaxOk w) (he : PE.In B w (.mk op iv nm sc pl es ps) ⟨.slice p0 n0 q0, .slice p1 n1 q1⟩) :
    Calls Tryz.prog 43 #[.agg #[.int .u8 op, .int .i64 iv, .string nm, .string sc, .string pl.name, .slice p0 n0 q0, .slice p1 n1 q1, .int .i64 ps]] w fun e w' => e = .returned (.bool (wholeR 40 (rtE (.mk op iv nm sc pl es ps) 0))) ∧ Below w.heap.size w w' := by
  have C := Lib.hid (wholeR_calls _ 40 (by omega) _ _ _ (partE (B := B) (W0 := w.alloc (.cells #[.int .u8 op, .int .i64 iv, .string nm, .string sc, .string pl.name, .slice p0 n0 q0, .slice p1 n1 q1, .int .i64 ps] 45)) (by simp; omega) (hm.alloc _) (.mk op iv nm sc pl es ps) 0 w.heap.size 0 ⟨.slice p0 n0 q0, .slice p1 n1 q1⟩ (by omega) (by simp) (cells_box w _ _) (PE.In.below ((box1 w _).mono hB) he)) (Below.refl _ _))
  clear he hm
  generalize wholeR 40 (rtE (.mk op iv nm sc pl es ps) 0) = q at *
  go_enter Tryz.func43, Tryz.ntmps43
  go_wp2_with fail
  refine C.out.mono ?_; rintro e w1 ⟨rfl, b1⟩
  go_wp2
  go_ret
  exact ⟨rfl, up_tr (box1 w _) b1⟩
set_option maxHeartbeats 1000000 in
theorem topPlace_calls (B : Nat) (x : PP) (ao : Option Addr) (n c : Nat) (w : World) (hB : B ≤ w.heap.size) (hm : MaxOk w) (hx : x.In B w (.slice ao n c)) :
    Calls Tryz.prog 44 #[.agg #[.string x.name, .slice ao n c]] w fun e w' => e = .returned (.bool (plB x)) ∧ Below w.heap.size w w' := by
  have C := Lib.hid (fun w' (h : Below w.heap.size w w') => isPlace_calls B x (.slice ao n c) w' (by have := h.size; omega) (hm.below h) (hx.below (h.mono hB)))
  clear hx hm
  generalize plB x = q at *
  go_enter Tryz.func44, Tryz.ntmps44
  go_wp2_with fail
  refine (C.out _ (box1 w _)).mono ?_; rintro e w1 ⟨rfl, b1⟩
  go_wp2
  go_ret
  exact ⟨rfl, up_tr (box1 w _) b1⟩
theorem closed1 : wholeR 40 (rtT (.mk 1 ByteArray.empty []) 0) = true := by decide +kernel
theorem closed2 : wholeR 40 (rtT (.mk 5 ByteArray.empty []) 0) = false := by decide +kernel
theorem closed3 : wholeR 40 (rtT (.mk 1 ⟨#[84]⟩ []) 0) = false := by decide +kernel
theorem closed4 : wholeR 40 (rtE (.mk 1 (-1) ByteArray.empty ByteArray.empty ⟨ByteArray.empty, []⟩ [] 0) 0) = false := by decide +kernel
theorem closed5 : wholeR 40 (rtE (.mk 5 0 ByteArray.empty ByteArray.empty ⟨⟨#[120]⟩, []⟩ [] 0) 0) = false := by decide +kernel
theorem closed6 : wholeR 40 (rtE (.mk 18 0 ⟨#[102]⟩ ByteArray.empty ⟨ByteArray.empty, []⟩ [.mk 5 0 ByteArray.empty ByteArray.empty ⟨⟨#[120]⟩, []⟩ [] 0] 0) 0) = true := by decide +kernel
theorem closed7 : plB ⟨⟨#[120]⟩, [⟨#[97]⟩, ⟨#[42]⟩]⟩ = true := by decide +kernel
theorem closed8 : plB ⟨⟨#[88]⟩, []⟩ = false := by decide +kernel
theorem closed9 : sameProg false [smallI 0] [smallI 7] = true := by decide +kernel
end Go.Proofs.YtojeijeimpffgaaGreat
/- awake, third part: the walk, over what Erase and Same answer. -/
namespace Go.Proofs.YtojeijeimpffgaaGreat
open Go.RowKit Go.Shelf
set_option linter.unusedVariables false

theorem box_frozen1 {w : World} {S i : Nat} {cs : Array Value} {t : TypeId} (h : w.heap[S]? = some (.cells cs t (0, 0))) : w.frozen? ⟨S, i, none⟩ = false := by simp [World.frozen?, h]
theorem set15 {W : World} {g : Nat} {T : TypeId} (h : W.heap[g]? = some (.cells (smallCells 0).toArray T (0, 0))) : CellsAt (W.setCell ⟨g, 15, none⟩ (.int .i64 7)) g 0 (smallCells 7) := by
  intro i v hi
  have hc := block_cells h
  by_cases e : i = 15
  · subst e
    obtain rfl : Value.int .i64 7 = v := by simpa [smallCells] using hi
    exact World.cell?_setCell_same' _ _ _ (by have := hc 15 _ rfl; simp at this; rw [this]; rfl)
  · rw [World.cell?_setCell_other _ _ _ _ (by first | (simp; done) | (simp; omega))]
    refine hc i v ?_
    rcases i with _|_|_|_|_|_|_|_|_|_|_|_|_|_|_|_|i <;> first | (exact absurd rfl e) | (simp [smallCells] at hi; done) | (simpa [smallCells] using hi)
set_option maxRecDepth 100000 in
set_option maxHeartbeats 4000000 in
theorem awake0_calls (w : World) (hm : MaxOk w)
    (ER : Hid (∀ (W : World) (v : Value), ProgIn W.heap.size W [smallI 7] v → Calls Tryz.prog 16 #[.agg #[v]] W fun e w' => ∃ ga go uc, e = .returned (.agg #[.slice (some ⟨ga, go, none⟩) 1 uc]) ∧ w'.cell? ⟨ga, go + 15, none⟩ = some (.int .i64 0) ∧ ga < w'.heap.size ∧ Below W.heap.size W w'))
    (SAM : Hid (∀ (W : World) (v1 v2 : Value), ProgIn W.heap.size W [smallI 0] v1 → ProgIn W.heap.size W [smallI 7] v2 → Calls Tryz.prog 17 #[.agg #[v1], .agg #[v2]] W fun e w' => e = .returned (.bool true) ∧ Below W.heap.size W w')) :
    Calls Tryz.prog 14 #[] w fun e w' => e = .returned (.bool true) ∧ Below w.heap.size w w' := by
  have SM : Hid (∀ W, Calls Tryz.prog 41 #[] W fun e w' => ∃ g, e = .returned (.agg #[.slice (some ⟨g, 0, none⟩) 1 1]) ∧ W.heap.size ≤ g ∧ g < w'.heap.size ∧ w'.heap[g]? = some (.cells (smallCells 0).toArray 47 (0, 0)) ∧ Below W.heap.size W w') := Lib.hid small_calls
  have HM := Lib.hid hm
  clear hm
  go_enter Tryz.func14, Tryz.ntmps14
  go_wp2_with fail
  refine (SM.out w).mono ?_
  rintro e w1 ⟨g1, rfl, h11, h12, h13, b1⟩
  have P1 := Lib.hid h13
  have B1 := Lib.hid b1
  clear h13 b1
  go_wp2_with fail
  refine (SM.out _).mono ?_
  rintro e w2 ⟨g2, rfl, h21, h22, h23, b2⟩
  have P2 := Lib.hid h23
  have B2 := Lib.hid b2
  have hs2 : w1.heap.size + 1 ≤ w2.heap.size := by have := b2.size; simpa using this
  have h21' : w1.heap.size + 1 ≤ g2 := by simpa using h21
  have c15 : w2.cell? ⟨g2, 15, none⟩ = some (.int .i64 0) := by have := block_cells h23 15 _ rfl; simpa using this
  have f15 : w2.frozen? ⟨g2, 15, none⟩ = false := box_frozen1 h23
  clear h23 b2 h21
  go_upto_region 5 with (fail)
  have hfz : ∀ i, w2.frozen? ⟨g2, i, none⟩ = w2.frozen? ⟨g2, 15, none⟩ := fun i => by rw [box_frozen1 P2.out, box_frozen1 P2.out]
  obtain ⟨W3, hW3⟩ : ∃ W3, W3 = ((w2.setCell ⟨g2, 15, none⟩ (.int .i64 7)).alloc (.cells #[.slice (some ⟨g2, 0, none⟩) 1 1] 24)).alloc (.cells #[.int .u8 5, .int .i64 0, .string ⟨#[]⟩, .string ⟨#[]⟩, .string ⟨#[120]⟩, .slice none 0 0, .slice none 0 0, .int .i64 0] 45) := ⟨_, rfl⟩
  rw [← hW3]
  have z3 : W3.heap.size = w2.heap.size + 2 := by rw [hW3]; simp
  have BB : Below w2.heap.size (w2.setCell ⟨g2, 15, none⟩ (.int .i64 7)) W3 := by rw [hW3]; exact ((Below.refl _ _).alloc (by simp) _).alloc (by simp) _
  have cg2 : Hid (CellsAt W3 g2 0 (smallCells 7)) := Lib.hid ((set15 P2.out).below h22 BB)
  have bw3 : Below w.heap.size w W3 := by
    have e1 : Below w.heap.size w (w2.setCell ⟨g2, 15, none⟩ (.int .i64 7)) := ((B1.out.alloc (by have := B1.out.size; omega) _).trans (B2.out.mono (by have := B1.out.size; simp; omega))).setCell (by have := B1.out.size; simp; omega) _
    rw [hW3]; exact (e1.alloc (by have := e1.size; simpa using this) _).alloc (by have := e1.size; simp at this ⊢; omega) _
  have pg1 : W3.heap[g1]? = some (.cells (smallCells 0).toArray 47 (0, 0)) := by
    have e1 : w2.heap[g1]? = w1.heap[g1]? := (B2.out.block g1 (by simp; omega)).trans (Below.heap_alloc _ _ _ (by omega))
    exact (BB.block g1 (by omega)).trans ((Below.heap_setCell _ _ _ _ (by simp; omega)).trans (e1.trans P1.out))
  have cg1 : Hid (CellsAt W3 g1 0 (smallCells 0)) := Lib.hid (block_cells pg1)
  have t1 : W3.cell? ⟨w1.heap.size, 0, none⟩ = some (.slice (some ⟨g1, 0, none⟩) 1 1) := by
    have e1 : w2.cell? ⟨w1.heap.size, 0, none⟩ = some (.slice (some ⟨g1, 0, none⟩) 1 1) := (B2.out.cell (p := ⟨w1.heap.size, 0, none⟩) (by simp)).trans (by go_simp)
    exact (BB.cell (p := ⟨w1.heap.size, 0, none⟩) (by simp; omega)).trans ((World.cell?_setCell_other _ _ _ _ (by first | (simp; done) | (simp; omega))).trans e1)
  have t2 : W3.cell? ⟨w2.heap.size, 0, none⟩ = some (.slice (some ⟨g2, 0, none⟩) 1 1) := by rw [hW3]; go_simp
  have t30 : W3.cell? ⟨w2.heap.size + 1, 0, none⟩ = some (.int .u8 5) := by rw [hW3]; go_simp
  have t31 : W3.cell? ⟨w2.heap.size + 1, 1, none⟩ = some (.int .i64 0) := by rw [hW3]; go_simp
  have t32 : W3.cell? ⟨w2.heap.size + 1, 2, none⟩ = some (.string ⟨#[]⟩) := by rw [hW3]; go_simp
  have t33 : W3.cell? ⟨w2.heap.size + 1, 3, none⟩ = some (.string ⟨#[]⟩) := by rw [hW3]; go_simp
  have t34 : W3.cell? ⟨w2.heap.size + 1, 4, none⟩ = some (.string ⟨#[120]⟩) := by rw [hW3]; go_simp
  have t35 : W3.cell? ⟨w2.heap.size + 1, 5, none⟩ = some (.slice none 0 0) := by rw [hW3]; go_simp
  have t36 : W3.cell? ⟨w2.heap.size + 1, 6, none⟩ = some (.slice none 0 0) := by rw [hW3]; go_simp
  have t37 : W3.cell? ⟨w2.heap.size + 1, 7, none⟩ = some (.int .i64 0) := by rw [hW3]; go_simp
  have m3 : Hid (MaxOk W3) := Lib.hid (HM.out.below bw3)
  have BW3 := Lib.hid bw3
  obtain ⟨s1, hs1⟩ : ∃ s1, s1 = w1.heap.size := ⟨_, rfl⟩
  obtain ⟨s2, hs2'⟩ : ∃ s2, s2 = w2.heap.size := ⟨_, rfl⟩
  rw [← hs1] at t1 h12 hs2 h21' ⊢
  rw [← hs2'] at t2 t30 t31 t32 t33 t34 t35 t36 t37 h22 hs2 z3 ⊢
  clear hW3 BB bw3 pg1 P1 P2 B1 B2 c15 f15 hfz hs1 hs2' SM HM
  have z1 : s1 < W3.heap.size := by omega
  have z2 : s2 < W3.heap.size := by omega
  have z4 : s2 + 1 < W3.heap.size := by omega
  go_wp2_with (go_at_call 16; (with_reducible refine (ER.out W3 _ ?er).mono ?_))
  case er => exact small_in (by unfold I64; decide) (by omega) cg2.out
  rintro e w4 ⟨ga, go, uc, rfl, h41, h42, b4⟩
  have B4 := Lib.hid b4
  clear b4
  go_upto_region 7 with (fail)
  obtain ⟨W5, hW5⟩ : ∃ W5, W5 = w4.alloc (.cells #[.slice (some ⟨ga, go, none⟩) 1 uc] 24) := ⟨_, rfl⟩
  rw [← hW5]
  have z5 : w4.heap.size < W5.heap.size := by rw [hW5]; simp
  have zz := B4.out.size
  have b5 : Below W3.heap.size W3 W5 := by rw [hW5]; exact B4.out.alloc zz _
  have t4 : W5.cell? ⟨w4.heap.size, 0, none⟩ = some (.slice (some ⟨ga, go, none⟩) 1 uc) := by rw [hW5]; go_simp
  have t4a : W5.cell? ⟨ga, go + 15, none⟩ = some (.int .i64 0) := by rw [hW5]; exact ((box1 w4 _).cell (p := ⟨ga, go + 15, none⟩) h42).trans h41
  have z6 : ga < W5.heap.size := by omega
  obtain ⟨s4, hs4⟩ : ∃ s4, s4 = w4.heap.size := ⟨_, rfl⟩
  rw [← hs4] at t4 z5 ⊢
  replace t1 := (b5.cell (p := ⟨s1, 0, none⟩) (by simp; omega)).trans t1
  replace t2 := (b5.cell (p := ⟨s2, 0, none⟩) (by simp; omega)).trans t2
  replace t30 := (b5.cell (p := ⟨s2 + 1, 0, none⟩) (by simp; omega)).trans t30
  replace t31 := (b5.cell (p := ⟨s2 + 1, 1, none⟩) (by simp; omega)).trans t31
  replace t32 := (b5.cell (p := ⟨s2 + 1, 2, none⟩) (by simp; omega)).trans t32
  replace t33 := (b5.cell (p := ⟨s2 + 1, 3, none⟩) (by simp; omega)).trans t33
  replace t34 := (b5.cell (p := ⟨s2 + 1, 4, none⟩) (by simp; omega)).trans t34
  replace t35 := (b5.cell (p := ⟨s2 + 1, 5, none⟩) (by simp; omega)).trans t35
  replace t36 := (b5.cell (p := ⟨s2 + 1, 6, none⟩) (by simp; omega)).trans t36
  replace t37 := (b5.cell (p := ⟨s2 + 1, 7, none⟩) (by simp; omega)).trans t37
  have PIN0 : Hid (∀ W, Below W5.heap.size W5 W → ProgIn W.heap.size W [smallI 0] (.slice (some ⟨g1, 0, none⟩) 1 1)) := Lib.hid fun W h => small_in (by unfold I64; decide) (by have := h.size; have := b5.size; omega) ((cg1.out.below (by omega) b5).below (by have := b5.size; omega) h)
  have PIN7 : Hid (∀ W, Below W5.heap.size W5 W → ProgIn W.heap.size W [smallI 7] (.slice (some ⟨g2, 0, none⟩) 1 1)) := Lib.hid fun W h => small_in (by unfold I64; decide) (by have := h.size; have := b5.size; omega) ((cg2.out.below (by omega) b5).below (by have := b5.size; omega) h)
  have m5 : Hid (∀ W, Below W5.heap.size W5 W → MaxOk W) := Lib.hid fun W h => (m3.out.below b5).below h
  have BW5 : Hid (Below w.heap.size w W5) := Lib.hid (BW3.out.trans (b5.mono BW3.out.size))
  have y1 : s1 < W5.heap.size := by have := b5.size; omega
  have y2 : s2 < W5.heap.size := by have := b5.size; omega
  have y4 : s2 + 1 < W5.heap.size := by have := b5.size; omega
  have K1 : Hid (∀ W, Below W5.heap.size W5 W → Calls Tryz.prog 7 #[.agg #[.slice none 0 0]] W fun e w' => e = .returned (.bool true) ∧ Below (W).heap.size W w') := Lib.hid fun W h => by
    have := topWhole_calls W.heap.size [] none 0 0 W (Nat.le_refl _) (m5.out W h) (show ProgIn W.heap.size W [] (.slice none 0 0) from ⟨0, 0, nil_sl _, trivial⟩)
    rwa [whole_none] at this
  have K2 : Hid (∀ W, Below W5.heap.size W5 W → Calls Tryz.prog 7 #[.agg #[.slice (some ⟨g1, 0, none⟩) 1 1]] W fun e w' => e = .returned (.bool true) ∧ Below (W).heap.size W w') := Lib.hid fun W h => by
    have := topWhole_calls W.heap.size [smallI 0] _ 1 1 W (Nat.le_refl _) (m5.out W h) (PIN0.out W h)
    rwa [whole_small] at this
  have K3 : Hid (∀ W, Below W5.heap.size W5 W → Calls Tryz.prog 9 #[.agg #[.slice (some ⟨g1, 0, none⟩) 1 1]] W fun e w' => e = .returned (.int .i64 3) ∧ Below (W).heap.size W w') := Lib.hid fun W h => by
    have := topDepth_calls W.heap.size [smallI 0] _ 1 1 W (Nat.le_refl _) (m5.out W h) (PIN0.out W h) (by rw [depth_small]; omega)
    rw [depth_small] at this; exact this
  have K4 : Hid (∀ W, Below W5.heap.size W5 W → Calls Tryz.prog 11 #[.agg #[.slice (some ⟨g1, 0, none⟩) 1 1]] W fun e w' => e = .returned (.int .i64 2) ∧ Below (W).heap.size W w') := Lib.hid fun W h => by
    have := topSize_calls W.heap.size [smallI 0] _ 1 1 W (Nat.le_refl _) (m5.out W h) (PIN0.out W h) (by rw [size_small]; omega)
    rw [size_small] at this; exact this
  have K5 : Hid (∀ W, Below W5.heap.size W5 W → Calls Tryz.prog 9 #[.agg #[.slice none 0 0]] W fun e w' => e = .returned (.int .i64 1) ∧ Below (W).heap.size W w') := Lib.hid fun W h => by
    have := topDepth_calls W.heap.size [] none 0 0 W (Nat.le_refl _) (m5.out W h) (show ProgIn W.heap.size W [] (.slice none 0 0) from ⟨0, 0, nil_sl _, trivial⟩) (by rw [depth_none]; omega)
    rw [depth_none] at this; exact this
  have K6 : Hid (∀ W, Below W5.heap.size W5 W → Calls Tryz.prog 42 #[.agg #[.int .u8 1, .string ⟨#[]⟩, .slice none 0 0]] W fun e w' => e = .returned (.bool true) ∧ Below (W).heap.size W w') := Lib.hid fun W h => by
    have := topWholeT_calls W.heap.size (.mk 1 ByteArray.empty []) none 0 0 W (Nat.le_refl _) (m5.out W h) ⟨⟨by unfold U8; decide, by decide⟩, 0, 0, nil_sl _, trivial⟩
    rwa [closed1] at this
  have K7 : Hid (∀ W, Below W5.heap.size W5 W → Calls Tryz.prog 42 #[.agg #[.int .u8 5, .string ⟨#[]⟩, .slice none 0 0]] W fun e w' => e = .returned (.bool false) ∧ Below (W).heap.size W w') := Lib.hid fun W h => by
    have := topWholeT_calls W.heap.size (.mk 5 ByteArray.empty []) none 0 0 W (Nat.le_refl _) (m5.out W h) ⟨⟨by unfold U8; decide, by decide⟩, 0, 0, nil_sl _, trivial⟩
    rwa [closed2] at this
  have K8 : Hid (∀ W, Below W5.heap.size W5 W → Calls Tryz.prog 42 #[.agg #[.int .u8 1, .string ⟨#[84]⟩, .slice none 0 0]] W fun e w' => e = .returned (.bool false) ∧ Below (W).heap.size W w') := Lib.hid fun W h => by
    have := topWholeT_calls W.heap.size (.mk 1 ⟨#[84]⟩ []) none 0 0 W (Nat.le_refl _) (m5.out W h) ⟨⟨by unfold U8; decide, by decide⟩, 0, 0, nil_sl _, trivial⟩
    rwa [closed3] at this
  have K9 : Hid (∀ W, Below W5.heap.size W5 W → Calls Tryz.prog 43 #[.agg #[.int .u8 1, .int .i64 (-1), .string ⟨#[]⟩, .string ⟨#[]⟩, .string ⟨#[]⟩, .slice none 0 0, .slice none 0 0, .int .i64 0]] W fun e w' => e = .returned (.bool false) ∧ Below (W).heap.size W w') := Lib.hid fun W h => by
    have := topWholeE_calls W.heap.size 1 (-1) ByteArray.empty ByteArray.empty ⟨ByteArray.empty, []⟩ [] 0 none 0 0 none 0 0 W (Nat.le_refl _) (m5.out W h) ⟨⟨by unfold U8; decide, by unfold I64; decide, by unfold I64; decide, by decide, by decide⟩, ⟨by decide, 0, 0, nil_sl _, trivial⟩, 0, 0, nil_sl _, trivial⟩
    rwa [closed4] at this
  have K10 : Hid (∀ W, Below W5.heap.size W5 W → Calls Tryz.prog 43 #[.agg #[.int .u8 5, .int .i64 0, .string ⟨#[]⟩, .string ⟨#[]⟩, .string ⟨#[120]⟩, .slice none 0 0, .slice none 0 0, .int .i64 0]] W fun e w' => e = .returned (.bool false) ∧ Below (W).heap.size W w') := Lib.hid fun W h => by
    have := topWholeE_calls W.heap.size 5 0 ByteArray.empty ByteArray.empty ⟨⟨#[120]⟩, []⟩ [] 0 none 0 0 none 0 0 W (Nat.le_refl _) (m5.out W h) ⟨⟨by unfold U8; decide, by unfold I64; decide, by unfold I64; decide, by decide, by decide⟩, ⟨by decide, 0, 0, nil_sl _, trivial⟩, 0, 0, nil_sl _, trivial⟩
    rwa [closed5] at this
  have K11 : Hid (∀ W, Below W5.heap.size W5 W → Calls Tryz.prog 43 #[.agg #[.int .u8 18, .int .i64 0, .string ⟨#[102]⟩, .string ⟨#[]⟩, .string ⟨#[]⟩, .slice none 0 0, .slice (some ⟨W.heap.size, 0, none⟩) 1 1, .int .i64 0]] (W.alloc (.cells #[.int .u8 5, .int .i64 0, .string ⟨#[]⟩, .string ⟨#[]⟩, .string ⟨#[120]⟩, .slice none 0 0, .slice none 0 0, .int .i64 0] 45)) fun e w' => e = .returned (.bool true) ∧ Below ((W.alloc (.cells #[.int .u8 5, .int .i64 0, .string ⟨#[]⟩, .string ⟨#[]⟩, .string ⟨#[120]⟩, .slice none 0 0, .slice none 0 0, .int .i64 0] 45))).heap.size (W.alloc (.cells #[.int .u8 5, .int .i64 0, .string ⟨#[]⟩, .string ⟨#[]⟩, .string ⟨#[120]⟩, .slice none 0 0, .slice none 0 0, .int .i64 0] 45)) w') := Lib.hid fun W h => by
    have := topWholeE_calls (W.alloc (.cells #[.int .u8 5, .int .i64 0, .string ⟨#[]⟩, .string ⟨#[]⟩, .string ⟨#[120]⟩, .slice none 0 0, .slice none 0 0, .int .i64 0] 45)).heap.size 18 0 ⟨#[102]⟩ ByteArray.empty ⟨ByteArray.empty, []⟩ [.mk 5 0 ByteArray.empty ByteArray.empty ⟨⟨#[120]⟩, []⟩ [] 0] 0 none 0 0 (some ⟨W.heap.size, 0, none⟩) 1 1 (W.alloc (.cells #[.int .u8 5, .int .i64 0, .string ⟨#[]⟩, .string ⟨#[]⟩, .string ⟨#[120]⟩, .slice none 0 0, .slice none 0 0, .int .i64 0] 45)) (Nat.le_refl _) ((m5.out W h).alloc _) ⟨⟨by unfold U8; decide, by unfold I64; decide, by unfold I64; decide, by decide, by decide⟩, ⟨by decide, 0, 0, nil_sl _, trivial⟩, W.heap.size, 0, ⟨by unfold maxLen; simp, _, 1, rfl, .inr ⟨rfl, by simp⟩⟩, ⟨⟨⟨.slice none 0 0, .slice none 0 0⟩, cells_box W _ _, ⟨⟨by unfold U8; decide, by unfold I64; decide, by unfold I64; decide, by decide, by decide⟩, ⟨by decide, 0, 0, nil_sl _, trivial⟩, 0, 0, nil_sl _, trivial⟩⟩, trivial⟩⟩
    rwa [closed6] at this
  have K12 : Hid (∀ W, Below W5.heap.size W5 W → Calls Tryz.prog 44 #[.agg #[.string ⟨#[120]⟩, .slice (some ⟨W.heap.size, 0, none⟩) 2 2]] (W.alloc (.cells #[.string ⟨#[97]⟩, .string ⟨#[42]⟩] 9)) fun e w' => e = .returned (.bool true) ∧ Below ((W.alloc (.cells #[.string ⟨#[97]⟩, .string ⟨#[42]⟩] 9))).heap.size (W.alloc (.cells #[.string ⟨#[97]⟩, .string ⟨#[42]⟩] 9)) w') := Lib.hid fun W h => by
    have hcs := cells_box W [.string ⟨#[97]⟩, .string ⟨#[42]⟩] 9
    have := topPlace_calls (W.alloc (.cells #[.string ⟨#[97]⟩, .string ⟨#[42]⟩] 9)).heap.size ⟨⟨#[120]⟩, [⟨#[97]⟩, ⟨#[42]⟩]⟩ (some ⟨W.heap.size, 0, none⟩) 2 2 (W.alloc (.cells #[.string ⟨#[97]⟩, .string ⟨#[42]⟩] 9)) (Nat.le_refl _) ((m5.out W h).alloc _) ⟨by decide, W.heap.size, 0, ⟨by unfold maxLen; simp, _, 2, rfl, .inr ⟨rfl, by simp⟩⟩, ⟨by decide, fun i v hi => by cases i with
      | zero => exact hcs 0 v (by simpa using hi)
      | succ i => simp at hi⟩, ⟨by decide, fun i v hi => by cases i with
      | zero => exact hcs 1 v (by simpa using hi)
      | succ i => simp at hi⟩, trivial⟩
    rwa [closed7] at this
  have K13 : Hid (∀ W, Below W5.heap.size W5 W → Calls Tryz.prog 44 #[.agg #[.string ⟨#[88]⟩, .slice none 0 0]] W fun e w' => e = .returned (.bool false) ∧ Below (W).heap.size W w') := Lib.hid fun W h => by
    have := topPlace_calls W.heap.size ⟨⟨#[88]⟩, []⟩ none 0 0 W (Nat.le_refl _) (m5.out W h) ⟨by decide, 0, 0, nil_sl _, trivial⟩
    rwa [closed8] at this
  have K14 : Hid (∀ W, Below W5.heap.size W5 W → Calls Tryz.prog 17 #[.agg #[.slice (some ⟨g1, 0, none⟩) 1 1], .agg #[.slice (some ⟨g2, 0, none⟩) 1 1]] W fun e w' => e = .returned (.bool true) ∧ Below (W).heap.size W w') := Lib.hid fun W h => by
    exact SAM.out W _ _ (PIN0.out W h) (PIN7.out W h)
  have HB : Hid (Below W5.heap.size W5 W5) := Lib.hid (Below.refl _ _)
  clear PIN0 PIN7 m5 m3 cg1 cg2 ER SAM hW5 hs4 B4 b5 h41 h42 BW3 z1 z2 z4 zz h12 h21' hs2 h22 z3 h11
  go_wp2_with (first
    | (go_at_call 7; (with_reducible refine (K1.out _ HB.out).mono ?_); rintro e wk ⟨rfl, bk⟩
       have zh := HB.out.size
       have HB2 : Hid (Below W5.heap.size W5 wk) := Lib.hid (HB.out.trans (bk.mono (by first | omega | (simp; done) | (simp; omega))))
       clear HB
       have HB := HB2
       have XB : ∀ b o, b < W5.heap.size → wk.cell? ⟨b, o, none⟩ = W5.cell? ⟨b, o, none⟩ := fun b o hb => HB.out.cell (p := ⟨b, o, none⟩) hb
       clear bk zh HB2)
    | (go_at_call 7; (with_reducible refine (K2.out _ HB.out).mono ?_); rintro e wk ⟨rfl, bk⟩
       have zh := HB.out.size
       have HB2 : Hid (Below W5.heap.size W5 wk) := Lib.hid (HB.out.trans (bk.mono (by first | omega | (simp; done) | (simp; omega))))
       clear HB
       have HB := HB2
       have XB : ∀ b o, b < W5.heap.size → wk.cell? ⟨b, o, none⟩ = W5.cell? ⟨b, o, none⟩ := fun b o hb => HB.out.cell (p := ⟨b, o, none⟩) hb
       clear bk zh HB2)
    | (go_at_call 9; (with_reducible refine (K3.out _ HB.out).mono ?_); rintro e wk ⟨rfl, bk⟩
       have zh := HB.out.size
       have HB2 : Hid (Below W5.heap.size W5 wk) := Lib.hid (HB.out.trans (bk.mono (by first | omega | (simp; done) | (simp; omega))))
       clear HB
       have HB := HB2
       have XB : ∀ b o, b < W5.heap.size → wk.cell? ⟨b, o, none⟩ = W5.cell? ⟨b, o, none⟩ := fun b o hb => HB.out.cell (p := ⟨b, o, none⟩) hb
       clear bk zh HB2)
    | (go_at_call 11; (with_reducible refine (K4.out _ HB.out).mono ?_); rintro e wk ⟨rfl, bk⟩
       have zh := HB.out.size
       have HB2 : Hid (Below W5.heap.size W5 wk) := Lib.hid (HB.out.trans (bk.mono (by first | omega | (simp; done) | (simp; omega))))
       clear HB
       have HB := HB2
       have XB : ∀ b o, b < W5.heap.size → wk.cell? ⟨b, o, none⟩ = W5.cell? ⟨b, o, none⟩ := fun b o hb => HB.out.cell (p := ⟨b, o, none⟩) hb
       clear bk zh HB2)
    | (go_at_call 9; (with_reducible refine (K5.out _ HB.out).mono ?_); rintro e wk ⟨rfl, bk⟩
       have zh := HB.out.size
       have HB2 : Hid (Below W5.heap.size W5 wk) := Lib.hid (HB.out.trans (bk.mono (by first | omega | (simp; done) | (simp; omega))))
       clear HB
       have HB := HB2
       have XB : ∀ b o, b < W5.heap.size → wk.cell? ⟨b, o, none⟩ = W5.cell? ⟨b, o, none⟩ := fun b o hb => HB.out.cell (p := ⟨b, o, none⟩) hb
       clear bk zh HB2)
    | (go_at_call 42; (with_reducible refine (K6.out _ HB.out).mono ?_); rintro e wk ⟨rfl, bk⟩
       have zh := HB.out.size
       have HB2 : Hid (Below W5.heap.size W5 wk) := Lib.hid (HB.out.trans (bk.mono (by first | omega | (simp; done) | (simp; omega))))
       clear HB
       have HB := HB2
       have XB : ∀ b o, b < W5.heap.size → wk.cell? ⟨b, o, none⟩ = W5.cell? ⟨b, o, none⟩ := fun b o hb => HB.out.cell (p := ⟨b, o, none⟩) hb
       clear bk zh HB2)
    | (go_at_call 42; (with_reducible refine (K7.out _ HB.out).mono ?_); rintro e wk ⟨rfl, bk⟩
       have zh := HB.out.size
       have HB2 : Hid (Below W5.heap.size W5 wk) := Lib.hid (HB.out.trans (bk.mono (by first | omega | (simp; done) | (simp; omega))))
       clear HB
       have HB := HB2
       have XB : ∀ b o, b < W5.heap.size → wk.cell? ⟨b, o, none⟩ = W5.cell? ⟨b, o, none⟩ := fun b o hb => HB.out.cell (p := ⟨b, o, none⟩) hb
       clear bk zh HB2)
    | (go_at_call 42; (with_reducible refine (K8.out _ HB.out).mono ?_); rintro e wk ⟨rfl, bk⟩
       have zh := HB.out.size
       have HB2 : Hid (Below W5.heap.size W5 wk) := Lib.hid (HB.out.trans (bk.mono (by first | omega | (simp; done) | (simp; omega))))
       clear HB
       have HB := HB2
       have XB : ∀ b o, b < W5.heap.size → wk.cell? ⟨b, o, none⟩ = W5.cell? ⟨b, o, none⟩ := fun b o hb => HB.out.cell (p := ⟨b, o, none⟩) hb
       clear bk zh HB2)
    | (go_at_call 43; (with_reducible refine (K9.out _ HB.out).mono ?_); rintro e wk ⟨rfl, bk⟩
       have zh := HB.out.size
       have HB2 : Hid (Below W5.heap.size W5 wk) := Lib.hid (HB.out.trans (bk.mono (by first | omega | (simp; done) | (simp; omega))))
       clear HB
       have HB := HB2
       have XB : ∀ b o, b < W5.heap.size → wk.cell? ⟨b, o, none⟩ = W5.cell? ⟨b, o, none⟩ := fun b o hb => HB.out.cell (p := ⟨b, o, none⟩) hb
       clear bk zh HB2)
    | (go_at_call 43; (with_reducible refine (K10.out _ HB.out).mono ?_); rintro e wk ⟨rfl, bk⟩
       have zh := HB.out.size
       have HB2 : Hid (Below W5.heap.size W5 wk) := Lib.hid (HB.out.trans (bk.mono (by first | omega | (simp; done) | (simp; omega))))
       clear HB
       have HB := HB2
       have XB : ∀ b o, b < W5.heap.size → wk.cell? ⟨b, o, none⟩ = W5.cell? ⟨b, o, none⟩ := fun b o hb => HB.out.cell (p := ⟨b, o, none⟩) hb
       clear bk zh HB2)
    | (go_at_call 43; (with_reducible refine (K11.out _ HB.out).mono ?_); rintro e wk ⟨rfl, bk⟩
       have zh := HB.out.size
       have HB2 : Hid (Below W5.heap.size W5 wk) := Lib.hid ((HB.out.trans ((box1 _ _).mono zh)).trans (bk.mono (by first | omega | (simp; done) | (simp; omega))))
       clear HB
       have HB := HB2
       have XB : ∀ b o, b < W5.heap.size → wk.cell? ⟨b, o, none⟩ = W5.cell? ⟨b, o, none⟩ := fun b o hb => HB.out.cell (p := ⟨b, o, none⟩) hb
       clear bk zh HB2)
    | (go_at_call 44; (with_reducible refine (K12.out _ HB.out).mono ?_); rintro e wk ⟨rfl, bk⟩
       have zh := HB.out.size
       have HB2 : Hid (Below W5.heap.size W5 wk) := Lib.hid ((HB.out.trans ((box1 _ _).mono zh)).trans (bk.mono (by first | omega | (simp; done) | (simp; omega))))
       clear HB
       have HB := HB2
       have XB : ∀ b o, b < W5.heap.size → wk.cell? ⟨b, o, none⟩ = W5.cell? ⟨b, o, none⟩ := fun b o hb => HB.out.cell (p := ⟨b, o, none⟩) hb
       clear bk zh HB2)
    | (go_at_call 44; (with_reducible refine (K13.out _ HB.out).mono ?_); rintro e wk ⟨rfl, bk⟩
       have zh := HB.out.size
       have HB2 : Hid (Below W5.heap.size W5 wk) := Lib.hid (HB.out.trans (bk.mono (by first | omega | (simp; done) | (simp; omega))))
       clear HB
       have HB := HB2
       have XB : ∀ b o, b < W5.heap.size → wk.cell? ⟨b, o, none⟩ = W5.cell? ⟨b, o, none⟩ := fun b o hb => HB.out.cell (p := ⟨b, o, none⟩) hb
       clear bk zh HB2)
    | (go_at_call 17; (with_reducible refine (K14.out _ HB.out).mono ?_); rintro e wk ⟨rfl, bk⟩
       have zh := HB.out.size
       have HB2 : Hid (Below W5.heap.size W5 wk) := Lib.hid (HB.out.trans (bk.mono (by first | omega | (simp; done) | (simp; omega))))
       clear HB
       have HB := HB2
       have XB : ∀ b o, b < W5.heap.size → wk.cell? ⟨b, o, none⟩ = W5.cell? ⟨b, o, none⟩ := fun b o hb => HB.out.cell (p := ⟨b, o, none⟩) hb
       clear bk zh HB2))
  go_ret
  exact ⟨rfl, BW5.out.trans (HB.out.mono BW5.out.size)⟩
end Go.Proofs.YtojeijeimpffgaaGreat
