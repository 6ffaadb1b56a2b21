/- What all laws of this layer ask of the chapter's rows. -/
import Derived.Test.YtaoalplglfdobaaDoorLoansCode2
import Derived.Test.YtaoalplglfdobaaDoorPathsLong1
import Derived.Deep.RegionHeld3
import Derived.Deep.Cut
import Derived.Deep.CutRange
namespace Go.Proofs.YtaoalplglfdobaaDoor
open Go.RowKit
set_option linter.unusedVariables false

theorem piece_le (s : ByteArray) (h : s.size ≤ 1000) : (pieceS s).length ≤ 1021 := by
  have h1 := digits_len s.size (by omega)
  have h2 : s.data.toList.length = s.size := by rw [Array.length_toList]; rfl
  unfold pieceS
  rw [List.length_append, List.length_cons, h2]
  omega
theorem pieces_le (l : List ByteArray) (h : ∀ s, s ∈ l → s.size ≤ 1000) : (piecesS l).length ≤ l.length * 1021 := by
  induction l with
  | nil => simp [piecesS]
  | cons s l ih =>
    have h1 := piece_le s (h s (by simp))
    have h2 := ih fun t ht => h t (by simp [ht])
    have e : piecesS (s :: l) = pieceS s ++ piecesS l := rfl
    rw [e, List.length_append, List.length_cons]
    omega
theorem Tight.fair {x : LN} (h : Tight x.place) (ht : (Lit.int .i64 x.till).wf = true) : x.Fair := by
  refine ⟨?_, ht⟩
  have h1 := piece_le x.place.name h.name
  have h2 := pieces_le x.place.path h.each
  have h3 := h.path
  unfold apartS
  rw [List.length_append]
  omega

theorem SIn.nil' (B : Nat) (w : World) : SIn B w [] (.slice none 0 0) := ⟨0, 0, ⟨Nat.zero_le _, none, 0, rfl, Nat.le_refl _, .inl rfl⟩, fun j s h => by cases h⟩
theorem SIn.one' {B : Nat} {w : World} {b : Nat} {s : ByteArray} (h : w.cell? ⟨b, 0, none⟩ = some (.string s)) (hb : b < B) (hs : s.size ≤ strMax) : SIn B w [s] (.slice (some ⟨b, 0, none⟩) 1 1) := by
  refine ⟨b, 0, ⟨by show 1 ≤ maxLen; decide, _, 1, rfl, Nat.le_refl _, .inr ⟨rfl, hb⟩⟩, fun j t hj => ?_⟩
  match j, hj with
  | 0, hj => cases hj; exact ⟨hs, h⟩
theorem small1' (a : UInt8) : (⟨#[a]⟩ : ByteArray).size ≤ strMax := by show 1 ≤ _; decide
theorem with_lit' (nm : ByteArray) (xs st : List ByteArray) (n : Nat) (hn : n = xs.length + st.length) (hnm : nm.size ≤ strMax) (hl : n ≤ 1000000) (B : Nat) (v vs : Value) (w : World) (hB : B ≤ w.heap.size) (hx : SIn B w xs v) (hst : SIn B w st vs) :
    Calls Tryd.prog 27 #[.agg #[.string nm, v], vs] w fun e w' => ∃ ao cap, e = .returned (.agg #[.string nm, .slice ao n cap]) ∧ Hid (PP.In w'.heap.size w' ⟨nm, xs ++ st⟩ (.slice ao n cap)) ∧ Below w.heap.size w w' := by
  subst hn
  refine (with_calls ⟨nm, xs⟩ st hl B v vs w hB ⟨hnm, hx⟩ hst).mono ?_
  rintro e w' ⟨v', he, ho, hb⟩
  have hi := with_in (x := ⟨nm, xs⟩) (B := B) (w := w) ⟨hnm, hx⟩ hst hl ho
  obtain ⟨ao, cap, rfl⟩ := hi.shape
  refine ⟨ao, cap, ?_, Lib.hid ?_, hb⟩
  · rw [he]; simp
  · simpa using hi
def qX : PP := ⟨⟨#[120]⟩, []⟩
def qA : PP := ⟨⟨#[120]⟩, [⟨#[97]⟩]⟩
def qB : PP := ⟨⟨#[120]⟩, [⟨#[98]⟩]⟩
def qY : PP := ⟨⟨#[121]⟩, []⟩
def qYA : PP := ⟨⟨#[121]⟩, [⟨#[97]⟩]⟩
def qZ : PP := ⟨⟨#[122]⟩, []⟩
def lnA : LN := ⟨qA, false, 2⟩
def lnY : LN := ⟨qY, true, 1⟩
theorem tight_lit {p : PP} (h : (decide (p.path.length ≤ 100) && (decide (p.name.size ≤ 1000) && p.path.all fun s => decide (s.size ≤ 1000))) = true) : Tight p := by
  rw [Bool.and_eq_true, Bool.and_eq_true, decide_eq_true_iff, decide_eq_true_iff, List.all_eq_true] at h
  exact ⟨h.2.1, h.1, fun s hs => of_decide_eq_true (h.2.2 s hs)⟩
theorem fairA : lnA.Fair := (tight_lit (p := lnA.place) (by decide)).fair (by decide)
theorem fairY : lnY.Fair := (tight_lit (p := lnY.place) (by decide)).fair (by decide)
theorem fitA : Fit [lnA] := Fit.one fairA (by decide)
theorem fitAY : Fit [lnA, lnY] := ⟨by decide, fun x hx => by
  simp only [List.mem_cons, List.not_mem_nil, or_false] at hx
  rcases hx with rfl | rfl
  · exact fairA
  · exact fairY, fun x hx => by
  simp only [List.mem_cons, List.not_mem_nil, or_false] at hx
  rcases hx with rfl | rfl <;> decide⟩
theorem fitNil : Fit [] := ⟨by decide, fun x hx => (by cases hx), fun x hx => (by cases hx)⟩
/-- Add at known loans: what it hands back holds -/
theorem row_add (W0 W : World) (xs : List LN) (x : LN) (n : Nat) (v1 v : Value) (hT : Hid (Tb W0.heap.size W0)) (hb : Hid (Below W0.heap.size W0 W)) (hn : n = (addB xs x).length) (hl : (addB xs x).length ≤ 400) (f1 : Fit xs) (f2 : x.Fair) (f3 : x.place.path.length ≤ 1000) (h1 : NIn W.heap.size W xs v1) (hx : x.place.In W.heap.size W v) :
    Calls Tryd.prog 16 #[v1, .agg #[.string x.place.name, v, .bool x.alone, .int .i64 x.till]] W fun e w' => ∃ ao cap, e = .returned (.slice ao n cap) ∧ Hid (NIn w'.heap.size w' (addB xs x) (.slice ao n cap)) ∧ Below W.heap.size W w' := by
  refine (add_calls W.heap.size xs x v1 v W (Nat.le_refl _) h1 hx ((hT.out.below hb.out).mono hb.out.size) f1 f2 f3).mono ?_
  rintro e w' ⟨Z, v', rfl, hz, ho, hbb⟩
  have hzl : Z.length = (addB xs x).length := by rw [← hz, List.length_map]
  have hin := ho.in (by omega)
  rw [hz] at hin
  obtain ⟨ao, cap, rfl⟩ := hin.shape
  rw [← hn] at hin ⊢
  exact ⟨ao, cap, rfl, Lib.hid hin, hbb⟩
theorem row_may (W0 W : World) (l : List LN) (n : Nat) (ao : Option Addr) (cap : Nat) (q : PP) (qv : Value) (u r : Int) (hu0 : 0 ≤ u) (hu1 : u ≤ 255) (hl : l.length ≤ 1000) (hr : mayB l q u = r) (hL : Hid (NIn W0.heap.size W0 l (.slice ao n cap))) (hb : Hid (Below W0.heap.size W0 W)) (hq : q.In W.heap.size W qv) :
    Calls Tryd.prog 12 #[.slice ao n cap, .agg #[.string q.name, qv], .int .u8 u] W fun e w' => e = .returned (.int .i64 r) ∧ Below W.heap.size W w' := by
  subst hr
  exact may_calls W.heap.size l q u hu0 hu1 _ qv hl W (Nat.le_refl _) ((hL.out.below hb.out).mono hb.out.size) hq
theorem row_end (W0 W : World) (l r : List LN) (n m : Nat) (ao : Option Addr) (cap : Nat) (d : Int) (hr : endB l d = r) (hm : m = r.length) (hf : Fit l) (hL : Hid (NIn W0.heap.size W0 l (.slice ao n cap))) (hb : Hid (Below W0.heap.size W0 W)) :
    Calls Tryd.prog 17 #[.slice ao n cap, .int .i64 d] W fun e w' => ∃ a c, e = .returned (.slice a m c) ∧ Below W.heap.size W w' := by
  refine (end_calls W.heap.size l _ d W (Nat.le_refl _) ((hL.out.below hb.out).mono hb.out.size) hf).mono ?_
  rintro e w' ⟨Z, v', rfl, hz, ho, hbb⟩
  have hzl : Z.length = m := by rw [hm, ← hr, ← hz, List.length_map]
  obtain ⟨ao, cap, b, rfl, _, _⟩ := ho.cells (by rw [← List.length_map (f := Prod.fst), hz]; have := hf.len; have := List.length_filter_le (fun x : LN => decide (x.till < d)) l; unfold endB; omega)
  exact ⟨ao, cap, by rw [hzl], hbb⟩
theorem row_of (W0 W : World) (l r : List LN) (n m : Nat) (ao : Option Addr) (cap : Nat) (s : ByteArray) (hr : ofB l s = r) (hm : m = r.length) (hf : Fit l) (hL : Hid (NIn W0.heap.size W0 l (.slice ao n cap))) (hb : Hid (Below W0.heap.size W0 W)) :
    Calls Tryd.prog 19 #[.slice ao n cap, .string s] W fun e w' => ∃ a c, e = .returned (.slice a m c) ∧ Below W.heap.size W w' := by
  refine (of_calls W.heap.size l _ s W (Nat.le_refl _) ((hL.out.below hb.out).mono hb.out.size) hf).mono ?_
  rintro e w' ⟨Z, v', rfl, hz, ho, hbb⟩
  have hzl : Z.length = m := by rw [hm, ← hr, ← hz, List.length_map]
  obtain ⟨ao, cap, b, rfl, _, _⟩ := ho.cells (by rw [← List.length_map (f := Prod.fst), hz]; have := hf.len; have := List.length_filter_le (fun x : LN => decide (keyS x.place.name = keyS s)) l; unfold ofB; omega)
  exact ⟨ao, cap, by rw [hzl], hbb⟩
theorem row_next' (W0 W W' : World) (hb : Hid (Below W0.heap.size W0 W)) (b : Below W.heap.size W W') : (∀ b o, b < W0.heap.size → W'.cell? ⟨b, o, none⟩ = W0.cell? ⟨b, o, none⟩) ∧ Hid (Below W0.heap.size W0 W') :=
  ⟨old_cells (hb.out.trans (b.mono hb.out.size)), Lib.hid (hb.out.trans (b.mono hb.out.size))⟩
theorem row_alloc' (W0 W : World) (o : Obj) (hb : Hid (Below W0.heap.size W0 W)) : (∀ b o', b < W0.heap.size → (W.alloc o).cell? ⟨b, o', none⟩ = W0.cell? ⟨b, o', none⟩) ∧ Hid (Below W0.heap.size W0 (W.alloc o)) :=
  row_next' W0 W (W.alloc o) hb (box1 W o)
theorem row_allocd' (W0 W : World) (o : Obj) (hb : Hid (Below W0.heap.size W0 W)) : (∀ b o', b < W0.heap.size → (W.alloc o).drew.cell? ⟨b, o', none⟩ = W0.cell? ⟨b, o', none⟩) ∧ Hid (Below W0.heap.size W0 (W.alloc o).drew) :=
  row_next' W0 W (W.alloc o).drew hb (box1 W o).drew
theorem row_refl' (W0 : World) : Hid (Below W0.heap.size W0 W0) := Below.refl _ _
theorem row_drew' (W0 : World) : (∀ b o, b < W0.heap.size → W0.drew.cell? ⟨b, o, none⟩ = W0.cell? ⟨b, o, none⟩) ∧ Hid (Below W0.heap.size W0 W0.drew) := ⟨old_cells ((Below.refl _ W0).drew), Lib.hid ((Below.refl _ W0).drew)⟩

theorem S_of (W0 W' : World) (h : Hid (Below W0.heap.size W0 W')) : (∀ b o, b < W0.heap.size → W'.cell? ⟨b, o, none⟩ = W0.cell? ⟨b, o, none⟩) ∧ Hid (Below W0.heap.size W0 W') := ⟨old_cells h.out, h⟩
theorem hup {a b c : World} (h : Hid (Below a.heap.size a b)) (k : Hid (Below b.heap.size b c)) : Hid (Below a.heap.size a c) := Lib.hid (up_tr h.out k.out)
/-- one step from world to world -/
structure Lk (a b : World) : Prop where
  h : Below a.heap.size a b
theorem Lk.of {a b : World} (h : Below a.heap.size a b) : Lk a b := ⟨h⟩
theorem hupL {a b c : World} (h : Hid (Below a.heap.size a b)) (k : Lk b c) : Hid (Below a.heap.size a c) := Lib.hid (up_tr h.out k.h)
theorem row_box (w : World) (o : Obj) : Hid (Below w.heap.size w (w.alloc o)) := Lib.hid (box1 w o)
theorem row_dr (w : World) : Hid (Below w.heap.size w w.drew) := Lib.hid (Below.refl _ w).drew
theorem boxed_cell (x W : World) (s : ByteArray) (e : TypeId) (h : Hid (Below (x.alloc (.cells #[.string s] e)).heap.size (x.alloc (.cells #[.string s] e)) W)) : W.cell? ⟨x.heap.size, 0, none⟩ = some (.string s) :=
  (h.out.cell (p := ⟨x.heap.size, 0, none⟩) (by simp)).trans (by go_simp)
theorem boxed_lt (x W : World) (s : ByteArray) (e : TypeId) (h : Hid (Below (x.alloc (.cells #[.string s] e)).heap.size (x.alloc (.cells #[.string s] e)) W)) : x.heap.size < W.heap.size := by
  have := h.out.size
  simp at this
  omega
theorem boxed_cell2 (x W : World) (o : Obj) (s : ByteArray) (e : TypeId) (h : Hid (Below ((x.alloc o).alloc (.cells #[.string s] e)).heap.size ((x.alloc o).alloc (.cells #[.string s] e)) W)) : W.cell? ⟨x.heap.size + 1, 0, none⟩ = some (.string s) := by
  have := boxed_cell (x.alloc o) W s e h
  simpa using this
theorem boxed_lt2 (x W : World) (o : Obj) (s : ByteArray) (e : TypeId) (h : Hid (Below ((x.alloc o).alloc (.cells #[.string s] e)).heap.size ((x.alloc o).alloc (.cells #[.string s] e)) W)) : x.heap.size + 1 < W.heap.size := by
  have := boxed_lt (x.alloc o) W s e h
  simpa using this
set_option maxRecDepth 100000 in
set_option maxHeartbeats 4000000 in
theorem awake_calls (w : World) (hT : Tb w.heap.size w) : Calls Tryd.prog 15 #[] w fun e w' => e = .returned (.bool true) ∧ Below w.heap.size w w' := by
  have hT := Lib.hid hT
  go_enter Tryd.func15, Tryd.ntmps15
  go_wp2_with fail
  obtain ⟨W1, hW⟩ : ∃ W, W = (w.alloc (.cells #[.string ⟨#[120]⟩, .slice none 0 0] 25)).alloc (.cells #[.string ⟨#[121]⟩, .slice none 0 0] 25) := ⟨_, rfl⟩
  have x0 : W1.cell? ⟨w.heap.size, 0, none⟩ = some (.string ⟨#[120]⟩) := by rw [hW]; go_simp
  have x1 : W1.cell? ⟨w.heap.size, 1, none⟩ = some (.slice none 0 0) := by rw [hW]; go_simp
  have y0 : W1.cell? ⟨w.heap.size + 1, 0, none⟩ = some (.string ⟨#[121]⟩) := by rw [hW]; go_simp
  have y1 : W1.cell? ⟨w.heap.size + 1, 1, none⟩ = some (.slice none 0 0) := by rw [hW]; go_simp
  have z1 : w.heap.size < W1.heap.size := by rw [hW]; simp; omega
  have z2 : w.heap.size + 1 < W1.heap.size := by rw [hW]; simp
  have Hb1 : Hid (Below w.heap.size w W1) := Lib.hid (by rw [hW]; exact box2 _ _ _)
  have HT1 : Hid (Tb W1.heap.size W1) := Lib.hid ((hT.out.below Hb1.out).mono Hb1.out.size)
  try rw [← hW]
  clear hW
  have V1 : Hid (∀ W b, W.cell? ⟨b, 0, none⟩ = some (.string ⟨#[97]⟩) → b < W.heap.size → Hid (Below W1.heap.size W1 W) → Calls Tryd.prog 27 #[.agg #[.string ⟨#[120]⟩, .slice none 0 0], .slice (some ⟨b, 0, none⟩) 1 1] W fun e w' => ∃ ao cap, e = .returned (.agg #[.string ⟨#[120]⟩, .slice ao 1 cap]) ∧ Hid (PP.In w'.heap.size w' qA (.slice ao 1 cap)) ∧ Below W.heap.size W w') :=
    Lib.hid fun W b h1 h2 hb => with_lit' ⟨#[120]⟩ [] [⟨#[97]⟩] 1 rfl (small1' _) (by decide) W.heap.size _ _ W (Nat.le_refl _) (SIn.nil' _ _) (SIn.one' h1 h2 (small1' _))
  have A1 : Hid (∀ W ao cap, Hid (PP.In W.heap.size W qA (.slice ao 1 cap)) → Hid (Below W1.heap.size W1 W) → Calls Tryd.prog 16 #[.slice none 0 0, .agg #[.string ⟨#[120]⟩, .slice ao 1 cap, .bool false, .int .i64 2]] W fun e w' => ∃ a c, e = .returned (.slice a 1 c) ∧ Hid (NIn w'.heap.size w' [lnA] (.slice a 1 c)) ∧ Below W.heap.size W w') :=
    Lib.hid fun W ao cap h hb => row_add W1 W [] lnA 1 _ _ HT1 hb rfl (by decide) fitNil fairA (by decide) (NIn.nil _ _) h.out
  have A2 : Hid (∀ W a c, Hid (NIn W.heap.size W [lnA] (.slice a 1 c)) → Hid (Below W1.heap.size W1 W) → Calls Tryd.prog 16 #[.slice a 1 c, .agg #[.string ⟨#[121]⟩, .slice none 0 0, .bool true, .int .i64 1]] W fun e w' => ∃ a c, e = .returned (.slice a 2 c) ∧ Hid (NIn w'.heap.size w' [lnA, lnY] (.slice a 2 c)) ∧ Below W.heap.size W w') :=
    Lib.hid fun W a c h hb => row_add W1 W [lnA] lnY 2 _ _ HT1 hb rfl (by decide) fitA fairY (by decide) h.out ⟨small1' _, SIn.nil' _ _⟩
  have K3 := Lib.hid fun W W' hb b => row_next' W1 W W' hb b
  have K4 := Lib.hid fun W o hb => row_alloc' W1 W o hb
  have K5 := Lib.hid (row_drew' W1)
  have K6 := Lib.hid fun W o hb => row_allocd' W1 W o hb
  have K7 := row_refl' W1
  clear hT
  go_region_held3 (fun w' => (∀ b o, b < W1.heap.size → w'.cell? ⟨b, o, none⟩ = W1.cell? ⟨b, o, none⟩) ∧ Hid (Below W1.heap.size W1 w')) ((first | exact XB | exact K5.out | (refine K6.out _ _ ?_; (first | assumption | (go_split_ands; done) | (go_split_ands; assumption))) | (refine K4.out _ _ ?_; (first | assumption | (go_split_ands; done) | (go_split_ands; assumption)))))
    (first
      | (go_at_call 27; (with_reducible refine (V1.out _ _ ?h1 ?h2 ?hb).mono ?_); (case hb => (first | assumption | (go_split_ands; done) | (go_split_ands; assumption))); (case h1 => go_simp); (case h2 => simp); rintro r wn ⟨ao', cap', rfl, HQ, bn⟩; have XB := K3.out _ _ (by (first | assumption | (go_split_ands; done) | (go_split_ands; assumption))) bn; clear bn)
      | (go_at_call 16; (with_reducible refine (A1.out _ _ _ ?ha ?hb).mono ?_); (case ha => assumption); (case hb => (first | assumption | (go_split_ands; done) | (go_split_ands; assumption))); rintro r wn ⟨ao', cap', rfl, HQ, bn⟩; have XB := K3.out _ _ (by (first | assumption | (go_split_ands; done) | (go_split_ands; assumption))) bn; clear bn)
      | (go_at_call 16; (with_reducible refine (A2.out _ _ _ ?ha ?hb).mono ?_); (case ha => assumption); (case hb => (first | assumption | (go_split_ands; done) | (go_split_ands; assumption))); rintro r wn ⟨ao', cap', rfl, HQ, bn⟩; have XB := K3.out _ _ (by (first | assumption | (go_split_ands; done) | (go_split_ands; assumption))) bn; clear bn))
  obtain ⟨W2, hW2⟩ : ∃ W, W = wn := ⟨_, rfl⟩
  rw [← hW2] at HQ XB
  rw [← hW2]
  clear hW2
  have x0 := (XB.1 _ _ z1).trans x0
  have x1 := (XB.1 _ _ z1).trans x1
  have y0 := (XB.1 _ _ z2).trans y0
  have y1 := (XB.1 _ _ z2).trans y1
  have hs := XB.2.out.size
  have z1 : w.heap.size < W2.heap.size := by omega
  have z2 : w.heap.size + 1 < W2.heap.size := by omega
  have Hb2 := Lib.hid (Hb1.out.trans (XB.2.out.mono Hb1.out.size))
  obtain ⟨al, hal⟩ : ∃ a, a = ao' := ⟨_, rfl⟩
  obtain ⟨cl, hcl⟩ : ∃ a, a = cap' := ⟨_, rfl⟩
  rw [← hal, ← hcl] at HQ
  rw [← hal, ← hcl]
  have HL := HQ
  clear hal hcl hs V1 A1 A2 K3 K4 K5 K6 K7 HQ XB Hb1
  have V1 : Hid (∀ W b, W.cell? ⟨b, 0, none⟩ = some (.string ⟨#[97]⟩) → b < W.heap.size → Calls Tryd.prog 27 #[.agg #[.string ⟨#[120]⟩, .slice none 0 0], .slice (some ⟨b, 0, none⟩) 1 1] W fun e w' => ∃ ao cap, e = .returned (.agg #[.string ⟨#[120]⟩, .slice ao 1 cap]) ∧ Hid (PP.In w'.heap.size w' qA (.slice ao 1 cap)) ∧ Below W.heap.size W w') :=
    Lib.hid fun W b h1 h2 => with_lit' ⟨#[120]⟩ [] [⟨#[97]⟩] 1 rfl (small1' _) (by decide) W.heap.size _ _ W (Nat.le_refl _) (SIn.nil' _ _) (SIn.one' h1 h2 (small1' _))
  have V2 : Hid (∀ W b, W.cell? ⟨b, 0, none⟩ = some (.string ⟨#[98]⟩) → b < W.heap.size → Calls Tryd.prog 27 #[.agg #[.string ⟨#[120]⟩, .slice none 0 0], .slice (some ⟨b, 0, none⟩) 1 1] W fun e w' => ∃ ao cap, e = .returned (.agg #[.string ⟨#[120]⟩, .slice ao 1 cap]) ∧ Hid (PP.In w'.heap.size w' qB (.slice ao 1 cap)) ∧ Below W.heap.size W w') :=
    Lib.hid fun W b h1 h2 => with_lit' ⟨#[120]⟩ [] [⟨#[98]⟩] 1 rfl (small1' _) (by decide) W.heap.size _ _ W (Nat.le_refl _) (SIn.nil' _ _) (SIn.one' h1 h2 (small1' _))
  have M1 : Hid (∀ W ao cap, (∃ w0 : World, Hid (PP.In w0.heap.size w0 qA (.slice ao 1 cap)) ∧ Hid (Below w0.heap.size w0 W)) → Hid (Below W2.heap.size W2 W) → Calls Tryd.prog 12 #[.slice al 2 cl, .agg #[.string ⟨#[120]⟩, .slice ao 1 cap], .int .u8 1] W fun e w' => e = .returned (.int .i64 0) ∧ Below W.heap.size W w') :=
    Lib.hid fun W ao cap ⟨w0, h, h2⟩ hb => row_may W2 W [lnA, lnY] 2 al cl qA _ 1 0 (by decide) (by decide) (by decide) (by rfl) HL hb ((h.out.below h2.out).mono h2.out.size)
  have M2 : Hid (∀ W, Hid (Below W2.heap.size W2 W) → Calls Tryd.prog 12 #[.slice al 2 cl, .agg #[.string ⟨#[120]⟩, .slice none 0 0], .int .u8 4] W fun e w' => e = .returned (.int .i64 141) ∧ Below W.heap.size W w') :=
    Lib.hid fun W hb => row_may W2 W [lnA, lnY] 2 al cl qX _ 4 141 (by decide) (by decide) (by decide) (by rfl) HL hb ⟨small1' _, SIn.nil' _ _⟩
  have M3 : Hid (∀ W ao cap, (∃ w0 : World, Hid (PP.In w0.heap.size w0 qB (.slice ao 1 cap)) ∧ Hid (Below w0.heap.size w0 W)) → Hid (Below W2.heap.size W2 W) → Calls Tryd.prog 12 #[.slice al 2 cl, .agg #[.string ⟨#[120]⟩, .slice ao 1 cap], .int .u8 5] W fun e w' => e = .returned (.int .i64 0) ∧ Below W.heap.size W w') :=
    Lib.hid fun W ao cap ⟨w0, h, h2⟩ hb => row_may W2 W [lnA, lnY] 2 al cl qB _ 5 0 (by decide) (by decide) (by decide) (by rfl) HL hb ((h.out.below h2.out).mono h2.out.size)
  have K3 := Lib.hid fun W W' hb b => row_next' W2 W W' hb b
  have K7 := row_refl' W2
  go_upto_region 3 with (fail)
  go_cut [4, 5, 6] from 20 to 32 (fun s4 s5 s6 wc => s4 = .int .i64 0 ∧ s5 = .int .i64 141 ∧ s6 = .int .i64 0 ∧ Hid (Below W2.heap.size W2 wc))
  case first =>
    go_wp2_with fail
    go_region_held3 (fun w' => (∀ b o, b < W2.heap.size → w'.cell? ⟨b, o, none⟩ = W2.cell? ⟨b, o, none⟩) ∧ Hid (Below W2.heap.size W2 w')) ((first | exact XB | (refine S_of _ _ ?_; (repeat (first | exact row_refl' _ | assumption | refine hup ?_ (row_box _ _) | refine hup ?_ (row_dr _))); done)))
      (first
        | (go_at_call 27; (with_reducible refine (V1.out _ _ ?h1 ?h2).mono ?_); (case h1 => (first | (refine boxed_cell _ _ _ 9 ?_; (repeat (first | exact row_refl' _ | exact row_box _ _ | exact row_dr _ | assumption | refine hup ?_ (row_box _ _) | refine hup ?_ (row_dr _) | (apply hupL; rotate_left; assumption))); done) | (refine boxed_cell2 _ _ (.cells #[.string ⟨#[98]⟩] 9) _ 9 ?_; (repeat (first | exact row_refl' _ | exact row_box _ _ | exact row_dr _ | assumption | refine hup ?_ (row_box _ _) | refine hup ?_ (row_dr _) | (apply hupL; rotate_left; assumption))); done))); (case h2 => (first | (simp; done) | (refine boxed_lt _ _ ⟨#[97]⟩ 9 ?_; (repeat (first | exact row_refl' _ | exact row_box _ _ | exact row_dr _ | assumption | refine hup ?_ (row_box _ _) | refine hup ?_ (row_dr _) | (apply hupL; rotate_left; assumption))); done) | (refine boxed_lt2 _ _ (.cells #[.string ⟨#[98]⟩] 9) ⟨#[97]⟩ 9 ?_; (repeat (first | exact row_refl' _ | exact row_box _ _ | exact row_dr _ | assumption | refine hup ?_ (row_box _ _) | refine hup ?_ (row_dr _) | (apply hupL; rotate_left; assumption))); done))); rintro r wn ⟨ao', cap', rfl, HQ, bn⟩; have HKC := Lk.of bn; have XB := K3.out _ _ (by ((repeat (first | exact row_refl' _ | assumption | refine hup ?_ (row_box _ _) | refine hup ?_ (row_dr _))); done)) bn; have XC := XB.2; clear bn)
        | (go_at_call 27; (with_reducible refine (V2.out _ _ ?h1 ?h2).mono ?_); (case h1 => (first | (refine boxed_cell _ _ _ 9 ?_; (repeat (first | exact row_refl' _ | exact row_box _ _ | exact row_dr _ | assumption | refine hup ?_ (row_box _ _) | refine hup ?_ (row_dr _) | (apply hupL; rotate_left; assumption))); done) | (refine boxed_cell2 _ _ (.cells #[.string ⟨#[97]⟩] 9) _ 9 ?_; (repeat (first | exact row_refl' _ | exact row_box _ _ | exact row_dr _ | assumption | refine hup ?_ (row_box _ _) | refine hup ?_ (row_dr _) | (apply hupL; rotate_left; assumption))); done))); (case h2 => (first | (simp; done) | (refine boxed_lt _ _ ⟨#[98]⟩ 9 ?_; (repeat (first | exact row_refl' _ | exact row_box _ _ | exact row_dr _ | assumption | refine hup ?_ (row_box _ _) | refine hup ?_ (row_dr _) | (apply hupL; rotate_left; assumption))); done) | (refine boxed_lt2 _ _ (.cells #[.string ⟨#[97]⟩] 9) ⟨#[98]⟩ 9 ?_; (repeat (first | exact row_refl' _ | exact row_box _ _ | exact row_dr _ | assumption | refine hup ?_ (row_box _ _) | refine hup ?_ (row_dr _) | (apply hupL; rotate_left; assumption))); done))); rintro r wn ⟨ao', cap', rfl, HQ, bn⟩; have HKC := Lk.of bn; have XB := K3.out _ _ (by ((repeat (first | exact row_refl' _ | assumption | refine hup ?_ (row_box _ _) | refine hup ?_ (row_dr _))); done)) bn; have XC := XB.2; clear bn)
        | (go_at_call 12; (with_reducible refine (M2.out _ ?hb).mono ?_); (case hb => (repeat (first | exact row_refl' _ | assumption | refine hup ?_ (row_box _ _) | refine hup ?_ (row_dr _))); done); rintro r wn ⟨rfl, bn⟩; have HKC := Lk.of bn; have XB := K3.out _ _ (by ((repeat (first | exact row_refl' _ | assumption | refine hup ?_ (row_box _ _) | refine hup ?_ (row_dr _))); done)) bn; have XC := XB.2; clear bn)
        | (go_at_call 12; (with_reducible refine (M1.out _ _ _ ?ha ?hb).mono ?_); (case hb => (repeat (first | exact row_refl' _ | assumption | refine hup ?_ (row_box _ _) | refine hup ?_ (row_dr _))); done); (case ha => (apply Exists.intro; constructor; assumption; (repeat (first | exact row_refl' _ | exact row_box _ _ | exact row_dr _ | assumption | refine hup ?_ (row_box _ _) | refine hup ?_ (row_dr _) | (apply hupL; rotate_left; assumption))); done)); rintro r wn ⟨rfl, bn⟩; have HKC := Lk.of bn; have XB := K3.out _ _ (by ((repeat (first | exact row_refl' _ | assumption | refine hup ?_ (row_box _ _) | refine hup ?_ (row_dr _))); done)) bn; have XC := XB.2; clear bn)
        | (go_at_call 12; (with_reducible refine (M3.out _ _ _ ?ha ?hb).mono ?_); (case hb => (repeat (first | exact row_refl' _ | assumption | refine hup ?_ (row_box _ _) | refine hup ?_ (row_dr _))); done); (case ha => (apply Exists.intro; constructor; assumption; (repeat (first | exact row_refl' _ | exact row_box _ _ | exact row_dr _ | assumption | refine hup ?_ (row_box _ _) | refine hup ?_ (row_dr _) | (apply hupL; rotate_left; assumption))); done)); rintro r wn ⟨rfl, bn⟩; have HKC := Lk.of bn; have XB := K3.out _ _ (by ((repeat (first | exact row_refl' _ | assumption | refine hup ?_ (row_box _ _) | refine hup ?_ (row_dr _))); done)) bn; have XC := XB.2; clear bn))

    all_goals
      go_wp2_with fail
      go_meet
      case rel => exact ⟨rfl, rfl, rfl, XB.2⟩
  case rest =>
    obtain ⟨rfl, rfl, rfl, HBc⟩ := hcut
    obtain ⟨W3, hW3⟩ : ∃ W, W = wc := ⟨_, rfl⟩
    rw [← hW3] at HBc
    rw [← hW3]
    clear hW3 V1 V2 M1 M2 M3 K3 K7
    have x0 := (old_cells HBc.out _ _ z1).trans x0
    have x1 := (old_cells HBc.out _ _ z1).trans x1
    have y0 := (old_cells HBc.out _ _ z2).trans y0
    have y1 := (old_cells HBc.out _ _ z2).trans y1
    have hs := HBc.out.size
    have z1 : w.heap.size < W3.heap.size := by omega
    have z2 : w.heap.size + 1 < W3.heap.size := by omega
    have Hb3 := Lib.hid (Hb2.out.trans (HBc.out.mono Hb2.out.size))
    have HL := Lib.hid ((HL.out.below HBc.out).mono hs)
    clear hs HBc Hb2
    have V1 : Hid (∀ W b, W.cell? ⟨b, 0, none⟩ = some (.string ⟨#[97]⟩) → b < W.heap.size → Calls Tryd.prog 27 #[.agg #[.string ⟨#[121]⟩, .slice none 0 0], .slice (some ⟨b, 0, none⟩) 1 1] W fun e w' => ∃ ao cap, e = .returned (.agg #[.string ⟨#[121]⟩, .slice ao 1 cap]) ∧ Hid (PP.In w'.heap.size w' qYA (.slice ao 1 cap)) ∧ Below W.heap.size W w') :=
      Lib.hid fun W b h1 h2 => with_lit' ⟨#[121]⟩ [] [⟨#[97]⟩] 1 rfl (small1' _) (by decide) W.heap.size _ _ W (Nat.le_refl _) (SIn.nil' _ _) (SIn.one' h1 h2 (small1' _))
    have M1 : Hid (∀ W ao cap, (∃ w0 : World, Hid (PP.In w0.heap.size w0 qYA (.slice ao 1 cap)) ∧ Hid (Below w0.heap.size w0 W)) → Hid (Below W3.heap.size W3 W) → Calls Tryd.prog 12 #[.slice al 2 cl, .agg #[.string ⟨#[121]⟩, .slice ao 1 cap], .int .u8 1] W fun e w' => e = .returned (.int .i64 141) ∧ Below W.heap.size W w') :=
      Lib.hid fun W ao cap ⟨w0, h, h2⟩ hb => row_may W3 W [lnA, lnY] 2 al cl qYA _ 1 141 (by decide) (by decide) (by decide) (by rfl) HL hb ((h.out.below h2.out).mono h2.out.size)
    have M2 : Hid (∀ W, Hid (Below W3.heap.size W3 W) → Calls Tryd.prog 12 #[.slice al 2 cl, .agg #[.string ⟨#[122]⟩, .slice none 0 0], .int .u8 6] W fun e w' => e = .returned (.int .i64 0) ∧ Below W.heap.size W w') :=
      Lib.hid fun W hb => row_may W3 W [lnA, lnY] 2 al cl qZ _ 6 0 (by decide) (by decide) (by decide) (by rfl) HL hb ⟨small1' _, SIn.nil' _ _⟩
    have M3 : Hid (∀ W, Hid (Below W3.heap.size W3 W) → Calls Tryd.prog 12 #[.slice al 2 cl, .agg #[.string ⟨#[120]⟩, .slice none 0 0], .int .u8 0] W fun e w' => e = .returned (.int .i64 2) ∧ Below W.heap.size W w') :=
      Lib.hid fun W hb => row_may W3 W [lnA, lnY] 2 al cl qX _ 0 2 (by decide) (by decide) (by decide) (by rfl) HL hb ⟨small1' _, SIn.nil' _ _⟩
    have K3 := Lib.hid fun W W' hb b => row_next' W3 W W' hb b
    have K7 := row_refl' W3
    go_wp2_with fail
    go_region_held3 (fun w' => (∀ b o, b < W3.heap.size → w'.cell? ⟨b, o, none⟩ = W3.cell? ⟨b, o, none⟩) ∧ Hid (Below W3.heap.size W3 w')) ((first | exact XB | (refine S_of _ _ ?_; (repeat (first | exact row_refl' _ | assumption | refine hup ?_ (row_box _ _) | refine hup ?_ (row_dr _))); done)))
      (first
        | (go_at_call 27; (with_reducible refine (V1.out _ _ ?h1 ?h2).mono ?_); (case h1 => (first | (refine boxed_cell _ _ _ 9 ?_; (repeat (first | exact row_refl' _ | exact row_box _ _ | exact row_dr _ | assumption | refine hup ?_ (row_box _ _) | refine hup ?_ (row_dr _) | (apply hupL; rotate_left; assumption))); done) | (refine boxed_cell2 _ _ (.cells #[.string ⟨#[98]⟩] 9) _ 9 ?_; (repeat (first | exact row_refl' _ | exact row_box _ _ | exact row_dr _ | assumption | refine hup ?_ (row_box _ _) | refine hup ?_ (row_dr _) | (apply hupL; rotate_left; assumption))); done))); (case h2 => (first | (simp; done) | (refine boxed_lt _ _ ⟨#[97]⟩ 9 ?_; (repeat (first | exact row_refl' _ | exact row_box _ _ | exact row_dr _ | assumption | refine hup ?_ (row_box _ _) | refine hup ?_ (row_dr _) | (apply hupL; rotate_left; assumption))); done) | (refine boxed_lt2 _ _ (.cells #[.string ⟨#[98]⟩] 9) ⟨#[97]⟩ 9 ?_; (repeat (first | exact row_refl' _ | exact row_box _ _ | exact row_dr _ | assumption | refine hup ?_ (row_box _ _) | refine hup ?_ (row_dr _) | (apply hupL; rotate_left; assumption))); done))); rintro r wn ⟨ao', cap', rfl, HQ, bn⟩; have HKC := Lk.of bn; have XB := K3.out _ _ (by ((repeat (first | exact row_refl' _ | assumption | refine hup ?_ (row_box _ _) | refine hup ?_ (row_dr _))); done)) bn; have XC := XB.2; clear bn)
        | (go_at_call 12; (with_reducible refine (M1.out _ _ _ ?ha ?hb).mono ?_); (case hb => (repeat (first | exact row_refl' _ | assumption | refine hup ?_ (row_box _ _) | refine hup ?_ (row_dr _))); done); (case ha => (apply Exists.intro; constructor; assumption; (repeat (first | exact row_refl' _ | exact row_box _ _ | exact row_dr _ | assumption | refine hup ?_ (row_box _ _) | refine hup ?_ (row_dr _) | (apply hupL; rotate_left; assumption))); done)); rintro r wn ⟨rfl, bn⟩; have HKC := Lk.of bn; have XB := K3.out _ _ (by ((repeat (first | exact row_refl' _ | assumption | refine hup ?_ (row_box _ _) | refine hup ?_ (row_dr _))); done)) bn; have XC := XB.2; clear bn)
        | (go_at_call 12; (with_reducible refine (M2.out _ ?hb).mono ?_); (case hb => (repeat (first | exact row_refl' _ | assumption | refine hup ?_ (row_box _ _) | refine hup ?_ (row_dr _))); done); rintro r wn ⟨rfl, bn⟩; have HKC := Lk.of bn; have XB := K3.out _ _ (by ((repeat (first | exact row_refl' _ | assumption | refine hup ?_ (row_box _ _) | refine hup ?_ (row_dr _))); done)) bn; have XC := XB.2; clear bn)
        | (go_at_call 12; (with_reducible refine (M3.out _ ?hb).mono ?_); (case hb => (repeat (first | exact row_refl' _ | assumption | refine hup ?_ (row_box _ _) | refine hup ?_ (row_dr _))); done); rintro r wn ⟨rfl, bn⟩; have HKC := Lk.of bn; have XB := K3.out _ _ (by ((repeat (first | exact row_refl' _ | assumption | refine hup ?_ (row_box _ _) | refine hup ?_ (row_dr _))); done)) bn; have XC := XB.2; clear bn))
    obtain ⟨W4, hW4⟩ : ∃ W, W = wn := ⟨_, rfl⟩
    rw [← hW4] at XB
    rw [← hW4]
    have Hb4 := Lib.hid (Hb3.out.trans (XB.2.out.mono Hb3.out.size))
    have HL := Lib.hid ((HL.out.below XB.2.out).mono XB.2.out.size)
    clear hW4 V1 M1 M2 M3 K3 K7 XB XC
    have E2 : Hid (∀ W, Hid (Below W4.heap.size W4 W) → Calls Tryd.prog 17 #[.slice al 2 cl, .int .i64 2] W fun e w' => ∃ a c, e = .returned (.slice a 1 c) ∧ Below W.heap.size W w') := Lib.hid fun W hb => row_end W4 W [lnA, lnY] [lnY] 2 1 al cl 2 (by rfl) rfl fitAY HL hb
    have E1 : Hid (∀ W, Hid (Below W4.heap.size W4 W) → Calls Tryd.prog 17 #[.slice al 2 cl, .int .i64 1] W fun e w' => ∃ a c, e = .returned (.slice a 0 c) ∧ Below W.heap.size W w') := Lib.hid fun W hb => row_end W4 W [lnA, lnY] [] 2 0 al cl 1 (by rfl) rfl fitAY HL hb
    have O1 : Hid (∀ W, Hid (Below W4.heap.size W4 W) → Calls Tryd.prog 19 #[.slice al 2 cl, .string ⟨#[121]⟩] W fun e w' => ∃ a c, e = .returned (.slice a 1 c) ∧ Below W.heap.size W w') := Lib.hid fun W hb => row_of W4 W [lnA, lnY] [lnY] 2 1 al cl ⟨#[121]⟩ (by rfl) rfl fitAY HL hb
    go_wp2_with fail
    (with_reducible refine (E2.out _ (row_refl' _)).mono ?_)
    rintro e w5 ⟨a5, c5, rfl, b5⟩
    have H5 := Lib.hid b5
    clear b5
    go_wp2_with fail
    (with_reducible refine (E1.out _ H5).mono ?_)
    rintro e w6 ⟨a6, c6, rfl, b6⟩
    have H6 := Lib.hid (H5.out.trans (b6.mono H5.out.size))
    clear b6 H5
    go_wp2_with fail
    (with_reducible refine (O1.out _ H6).mono ?_)
    rintro e w7 ⟨a7, c7, rfl, b7⟩
    have H7 := Lib.hid (Hb4.out.trans ((H6.out.trans (b7.mono H6.out.size)).mono Hb4.out.size))
    clear b7 H6
    go_wp2_with fail
    go_ret
    exact ⟨rfl, H7.out⟩
end Go.Proofs.YtaoalplglfdobaaDoor
