/- What all laws of this layer ask of the chapter's rows. -/
import Derived.Test.YtipiiaghjkhkbaaPathsLong
import Derived.Deep.RegionHeld3
namespace Go.Proofs.Ytipiiaghjkhkbaa
open Go.RowKit
set_option linter.unusedVariables false

def lit (l : List UInt8) : ByteArray := ⟨l.toArray⟩
theorem SIn.nil (B : Nat) (w : World) : SIn B w [] (.slice none 0 0) := ⟨0, 0, ⟨Nat.zero_le _, none, 0, rfl, Nat.le_refl _, .inl rfl⟩, fun j s h => by cases h⟩
theorem SIn.one {B : Nat} {w : World} {b : Nat} {s : ByteArray} (h : w.cell? ⟨b, 0, none⟩ = some (.string s)) (hb : b < B) (hs : s.size ≤ strMax) : SIn B w [s] (.slice (some ⟨b, 0, none⟩) 1 1) := by
  refine ⟨b, 0, ⟨by show 1 ≤ maxLen; decide, _, 1, rfl, Nat.le_refl _, .inr ⟨rfl, hb⟩⟩, fun j t hj => ?_⟩
  match j, hj with
  | 0, hj => cases hj; exact ⟨hs, h⟩
theorem SIn.three {B : Nat} {w : World} {b : Nat} {s t u : ByteArray} (h : w.cell? ⟨b, 0, none⟩ = some (.string s)) (h1 : w.cell? ⟨b, 1, none⟩ = some (.string t)) (h2 : w.cell? ⟨b, 2, none⟩ = some (.string u)) (hb : b < B) (hs : s.size ≤ strMax) (ht : t.size ≤ strMax) (hu : u.size ≤ strMax) :
    SIn B w [s, t, u] (.slice (some ⟨b, 0, none⟩) 3 3) := by
  refine ⟨b, 0, ⟨by show 3 ≤ maxLen; decide, _, 3, rfl, Nat.le_refl _, .inr ⟨rfl, hb⟩⟩, fun j t hj => ?_⟩
  match j, hj with
  | 0, hj => cases hj; exact ⟨hs, h⟩
  | 1, hj => cases hj; exact ⟨ht, h1⟩
  | 2, hj => cases hj; exact ⟨hu, h2⟩
def pX : PP := ⟨⟨#[120]⟩, []⟩
def pA : PP := ⟨⟨#[120]⟩, [⟨#[97]⟩]⟩
def pB : PP := ⟨⟨#[120]⟩, [⟨#[98]⟩]⟩
def pY : PP := ⟨⟨#[121]⟩, [⟨#[98]⟩]⟩
theorem few_rows : leastP [pA, pX, pY, pY, pB] = [pX, pY] := by rfl
theorem few_short : ∀ x, x ∈ [pA, pX, pY, pY, pB] → Short x := by
  intro x hx
  simp only [List.mem_cons, List.not_mem_nil, or_false] at hx
  rcases hx with rfl | rfl | rfl | rfl | rfl <;> exact ⟨by decide, by decide, by decide⟩
theorem small1 (a : UInt8) : (⟨#[a]⟩ : ByteArray).size ≤ strMax := by show 1 ≤ _; decide

theorem with_lit (nm : ByteArray) (xs st : List ByteArray) (n : Nat) (hn : n = xs.length + st.length) (hnm : nm.size ≤ strMax) (hl : n ≤ 1000000) (B : Nat) (v vs : Value) (w : World) (hB : B ≤ w.heap.size) (hx : SIn B w xs v) (hst : SIn B w st vs) :
    Calls Try.prog 27 #[.agg #[.string nm, v], vs] w fun e w' => ∃ ao cap, e = .returned (.agg #[.string nm, .slice ao n cap]) ∧ Hid (PP.In w'.heap.size w' ⟨nm, xs ++ st⟩ (.slice ao n cap)) ∧ Below w.heap.size w w' := by
  subst hn
  refine (with_calls ⟨nm, xs⟩ st hl B v vs w hB ⟨hnm, hx⟩ hst).mono ?_
  rintro e w' ⟨v', he, ho, hb⟩
  have hi := with_in (x := ⟨nm, xs⟩) (B := B) (w := w) ⟨hnm, hx⟩ hst hl ho
  obtain ⟨ao, cap, rfl⟩ := hi.shape
  refine ⟨ao, cap, ?_, Lib.hid ?_, hb⟩
  · rw [he]; simp
  · simpa using hi

/-! ### what the calls of the last row answer -/
section rows
variable (W0 : World) (W : World)
theorem row_begins (x y : PP) (vx vy : Value) (r : Bool) (hr : begP x y = r) (hx : Hid (x.In W0.heap.size W0 vx)) (hy : Hid (y.In W0.heap.size W0 vy)) (hb : Hid (Below W0.heap.size W0 W)) :
    Calls Try.prog 14 #[.agg #[.string x.name, vx], .agg #[.string y.name, vy]] W fun e w' => e = .returned (.bool r) ∧ Below W.heap.size W w' := by
  subst hr
  exact begins_calls W0.heap.size x y vx vy W hb.out.size (hx.out.below hb.out) (hy.out.below hb.out)
theorem row_meets (x y : PP) (vx vy : Value) (r : Bool) (hr : meetP x y = r) (hx : Hid (x.In W0.heap.size W0 vx)) (hy : Hid (y.In W0.heap.size W0 vy)) (hb : Hid (Below W0.heap.size W0 W)) :
    Calls Try.prog 16 #[.agg #[.string x.name, vx], .agg #[.string y.name, vy]] W fun e w' => e = .returned (.bool r) ∧ Below W.heap.size W w' := by
  subst hr
  exact meets_calls W0.heap.size x y vx vy W hb.out.size (hx.out.below hb.out) (hy.out.below hb.out)
theorem row_meets_new (x y : PP) (vx vy : Value) (r : Bool) (hr : meetP x y = r) (hx : Hid (x.In W.heap.size W vx)) (hy : Hid (y.In W0.heap.size W0 vy)) (hb : Hid (Below W0.heap.size W0 W)) :
    Calls Try.prog 16 #[.agg #[.string x.name, vx], .agg #[.string y.name, vy]] W fun e w' => e = .returned (.bool r) ∧ Below W.heap.size W w' := by
  subst hr
  exact meets_calls W.heap.size x y vx vy W (Nat.le_refl _) hx.out ((hy.out.below hb.out).mono hb.out.size)
theorem row_with (nm : ByteArray) (xs st : List ByteArray) (n : Nat) (v vs : Value) (hn : n = xs.length + st.length) (hnm : nm.size ≤ strMax) (hl : n ≤ 1000000) (hx : Hid (PP.In W0.heap.size W0 ⟨nm, xs⟩ v)) (hb : Hid (Below W0.heap.size W0 W)) (hst : SIn W.heap.size W st vs) :
    Calls Try.prog 27 #[.agg #[.string nm, v], vs] W fun e w' => ∃ ao cap, e = .returned (.agg #[.string nm, .slice ao n cap]) ∧ Hid (PP.In w'.heap.size w' ⟨nm, xs ++ st⟩ (.slice ao n cap)) ∧ Below W.heap.size W w' :=
  with_lit nm xs st n hn hnm hl W.heap.size v vs W (Nat.le_refl _) ((hx.out.below hb.out).mono hb.out.size).2 hst
theorem row_next (W' : World) (hb : Hid (Below W0.heap.size W0 W)) (b : Below W.heap.size W W') : (∀ b o, b < W0.heap.size → W'.cell? ⟨b, o, none⟩ = W0.cell? ⟨b, o, none⟩) ∧ Hid (Below W0.heap.size W0 W') :=
  ⟨old_cells (hb.out.trans (b.mono hb.out.size)), Lib.hid (hb.out.trans (b.mono hb.out.size))⟩
theorem row_alloc (o : Obj) (hb : Hid (Below W0.heap.size W0 W)) : (∀ b o', b < W0.heap.size → (W.alloc o).cell? ⟨b, o', none⟩ = W0.cell? ⟨b, o', none⟩) ∧ Hid (Below W0.heap.size W0 (W.alloc o)) :=
  row_next W0 W (W.alloc o) hb (box1 W o)
end rows
set_option maxRecDepth 100000 in
set_option maxHeartbeats 4000000 in
theorem awake_calls (w : World) : Calls Try.prog 18 #[] w fun e w' => e = .returned (.bool true) ∧ Below w.heap.size w w' := by
  go_enter Try.func18, Try.ntmps18
  go_wp2_with fail
  obtain ⟨W1, hW⟩ : ∃ W, W = (w.alloc (.cells #[.string ⟨#[120]⟩, .slice none 0 0] 24)).alloc (.cells #[.string ⟨#[97]⟩] 9) := ⟨_, rfl⟩
  have x0 : W1.cell? ⟨w.heap.size, 0, none⟩ = some (.string ⟨#[120]⟩) := by rw [hW]; go_simp
  have x1 : W1.cell? ⟨w.heap.size, 1, none⟩ = some (.slice none 0 0) := by rw [hW]; go_simp
  have s0 : W1.cell? ⟨w.heap.size + 1, 0, none⟩ = some (.string ⟨#[97]⟩) := by rw [hW]; go_simp
  have z1 : w.heap.size + 1 < W1.heap.size := by rw [hW]; simp
  have Hb1 : Hid (Below w.heap.size w W1) := Lib.hid (by rw [hW]; exact box2 _ _ _)
  rw [← hW]
  clear hW
  refine (with_lit ⟨#[120]⟩ [] [⟨#[97]⟩] 1 rfl (small1 _) (by decide) W1.heap.size _ _ W1 (Nat.le_refl _) (SIn.nil _ _) (SIn.one s0 z1 (small1 _))).mono ?_
  rintro e w1 ⟨aa, ca, rfl, HA, b1⟩
  have x0 := (b1.cell (p := ⟨w.heap.size, 0, none⟩) (by show w.heap.size < _; omega)).trans x0
  have x1 := (b1.cell (p := ⟨w.heap.size, 1, none⟩) (by show w.heap.size < _; omega)).trans x1
  have z1 : w.heap.size + 1 < w1.heap.size := by have := b1.size; omega
  have Hb1 := Lib.hid (Hb1.out.trans (b1.mono (by omega)))
  clear b1 s0
  have X0 : ∀ o : Obj, (w1.alloc o).cell? ⟨w.heap.size, 0, none⟩ = some (.string ⟨#[120]⟩) := fun o => ((box1 w1 o).cell (p := ⟨w.heap.size, 0, none⟩) (by show w.heap.size < _; omega)).trans x0
  have X1 : ∀ o : Obj, (w1.alloc o).cell? ⟨w.heap.size, 1, none⟩ = some (.slice none 0 0) := fun o => ((box1 w1 o).cell (p := ⟨w.heap.size, 1, none⟩) (by show w.heap.size < _; omega)).trans x1
  go_wp2_with fail
  obtain ⟨W2, hW⟩ : ∃ W, W = (w1.alloc (.cells #[.string ⟨#[120]⟩, .slice aa 1 ca] 24)).alloc (.cells #[.string ⟨#[98]⟩] 9) := ⟨_, rfl⟩
  have a0 : W2.cell? ⟨w1.heap.size, 0, none⟩ = some (.string ⟨#[120]⟩) := by rw [hW]; go_simp
  have a1 : W2.cell? ⟨w1.heap.size, 1, none⟩ = some (.slice aa 1 ca) := by rw [hW]; go_simp
  have s0 : W2.cell? ⟨w1.heap.size + 1, 0, none⟩ = some (.string ⟨#[98]⟩) := by rw [hW]; go_simp
  have z2 : w1.heap.size + 1 < W2.heap.size := by rw [hW]; simp
  have b2 : Below w1.heap.size w1 W2 := by rw [hW]; exact box2 _ _ _
  have x0 := (b2.cell (p := ⟨w.heap.size, 0, none⟩) (by show w.heap.size < _; omega)).trans x0
  have x1 := (b2.cell (p := ⟨w.heap.size, 1, none⟩) (by show w.heap.size < _; omega)).trans x1
  have HA := Lib.hid (HA.out.below b2)
  have Hb2 := Lib.hid (Hb1.out.trans (b2.mono (by omega)))
  rw [← hW]
  clear hW b2 Hb1 X0 X1
  refine (with_lit ⟨#[120]⟩ [] [⟨#[98]⟩] 1 rfl (small1 _) (by decide) W2.heap.size _ _ W2 (Nat.le_refl _) (SIn.nil _ _) (SIn.one s0 z2 (small1 _))).mono ?_
  rintro e w2 ⟨ab, cb, rfl, HB, b1⟩
  have x0 := (b1.cell (p := ⟨w.heap.size, 0, none⟩) (by show w.heap.size < _; omega)).trans x0
  have x1 := (b1.cell (p := ⟨w.heap.size, 1, none⟩) (by show w.heap.size < _; omega)).trans x1
  have a0 := (b1.cell (p := ⟨w1.heap.size, 0, none⟩) (by show w1.heap.size < _; omega)).trans a0
  have a1 := (b1.cell (p := ⟨w1.heap.size, 1, none⟩) (by show w1.heap.size < _; omega)).trans a1
  have z2 : w1.heap.size + 1 < w2.heap.size := by have := b1.size; omega
  have HA := Lib.hid (HA.out.below (b1.mono (by omega)))
  have Hb2 := Lib.hid (Hb2.out.trans (b1.mono (by omega)))
  clear b1 s0
  have X0 : ∀ o : Obj, (w2.alloc o).cell? ⟨w.heap.size, 0, none⟩ = some (.string ⟨#[120]⟩) := fun o => ((box1 w2 o).cell (p := ⟨w.heap.size, 0, none⟩) (by show w.heap.size < _; omega)).trans x0
  have X1 : ∀ o : Obj, (w2.alloc o).cell? ⟨w.heap.size, 1, none⟩ = some (.slice none 0 0) := fun o => ((box1 w2 o).cell (p := ⟨w.heap.size, 1, none⟩) (by show w.heap.size < _; omega)).trans x1
  have Y0 : ∀ o : Obj, (w2.alloc o).cell? ⟨w1.heap.size, 0, none⟩ = some (.string ⟨#[120]⟩) := fun o => ((box1 w2 o).cell (p := ⟨w1.heap.size, 0, none⟩) (by show w1.heap.size < _; omega)).trans a0
  have Y1 : ∀ o : Obj, (w2.alloc o).cell? ⟨w1.heap.size, 1, none⟩ = some (.slice aa 1 ca) := fun o => ((box1 w2 o).cell (p := ⟨w1.heap.size, 1, none⟩) (by show w1.heap.size < _; omega)).trans a1
  go_wp2_with fail
  obtain ⟨W3, hW⟩ : ∃ W, W = ((((w2.alloc (.cells #[.string ⟨#[120]⟩, .slice ab 1 cb] 24)).alloc (.cells #[.string ⟨#[98]⟩] 9)).alloc (.cells #[.string ⟨#[98]⟩] 9)).alloc
      (.cells #[.string ⟨#[120]⟩, .slice aa 1 ca, .string ⟨#[120]⟩, .slice none 0 0, .string ⟨#[121]⟩, .slice (some ⟨w2.heap.size + 1, 0, none⟩) 1 1, .string ⟨#[121]⟩, .slice (some ⟨w2.heap.size + 1 + 1, 0, none⟩) 1 1, .string ⟨#[120]⟩, .slice ab 1 cb] 24)) := ⟨_, rfl⟩
  have b3 : Below w2.heap.size w2 W3 := by rw [hW]; exact ((box2 _ _ _).alloc (by simp; omega) _).alloc (by simp; omega) _
  have z3 : w2.heap.size + 1 + 1 + 1 < W3.heap.size := by rw [hW]; simp
  have x0 := (b3.cell (p := ⟨w.heap.size, 0, none⟩) (by show w.heap.size < _; omega)).trans x0
  have x1 := (b3.cell (p := ⟨w.heap.size, 1, none⟩) (by show w.heap.size < _; omega)).trans x1
  have a0 := (b3.cell (p := ⟨w1.heap.size, 0, none⟩) (by show w1.heap.size < _; omega)).trans a0
  have a1 := (b3.cell (p := ⟨w1.heap.size, 1, none⟩) (by show w1.heap.size < _; omega)).trans a1
  have e0 : W3.cell? ⟨w2.heap.size, 0, none⟩ = some (.string ⟨#[120]⟩) := by rw [hW]; go_simp
  have e1 : W3.cell? ⟨w2.heap.size, 1, none⟩ = some (.slice ab 1 cb) := by rw [hW]; go_simp
  have s1 : W3.cell? ⟨w2.heap.size + 1, 0, none⟩ = some (.string ⟨#[98]⟩) := by rw [hW]; go_simp
  have s2 : W3.cell? ⟨w2.heap.size + 1 + 1, 0, none⟩ = some (.string ⟨#[98]⟩) := by rw [hW]; go_simp
  have HA := Lib.hid ((HA.out.below (b3.mono (by omega))).mono (show w1.heap.size ≤ W3.heap.size by omega))
  have HB := Lib.hid ((HB.out.below b3).mono (show w2.heap.size ≤ W3.heap.size by omega))
  have HL : Hid (LIn W3.heap.size W3 [pA, pX, pY, pY, pB] (.slice (some ⟨w2.heap.size + 1 + 1 + 1, 0, none⟩) 5 5)) := by
    refine Lib.hid ⟨w2.heap.size + 1 + 1 + 1, 0, ⟨by show 5 ≤ maxLen; decide, _, 5, rfl, Nat.le_refl _, .inr ⟨rfl, z3⟩⟩, fun j t hj => ?_⟩
    match j, hj with
    | 0, hj => cases hj; exact ⟨_, by rw [hW]; go_simp; rfl, by rw [hW]; go_simp, HA.out⟩
    | 1, hj => cases hj; exact ⟨.slice none 0 0, by rw [hW]; go_simp; rfl, by rw [hW]; go_simp, small1 _, SIn.nil _ _⟩
    | 2, hj => cases hj; exact ⟨.slice (some ⟨w2.heap.size + 1, 0, none⟩) 1 1, by rw [hW]; go_simp; rfl, by rw [hW]; go_simp, small1 _, SIn.one s1 (by omega) (small1 _)⟩
    | 3, hj => cases hj; exact ⟨.slice (some ⟨w2.heap.size + 1 + 1, 0, none⟩) 1 1, by rw [hW]; go_simp; rfl, by rw [hW]; go_simp, small1 _, SIn.one s2 (by omega) (small1 _)⟩
    | 4, hj => cases hj; exact ⟨_, by rw [hW]; go_simp; rfl, by rw [hW]; go_simp, HB.out⟩
  rw [← hW]
  have Hb3 := Lib.hid (Hb2.out.trans (b3.mono (by omega)))
  clear hW b3 s1 s2 X0 X1 Y0 Y1 Hb2
  refine (least_calls W3.heap.size _ _ (by decide) few_short W3 (Nat.le_refl _) HL.out).mono ?_
  rintro e w3 ⟨vl, Z, rfl, hZ, hown, hoz, b4⟩
  rw [few_rows] at hZ
  obtain ⟨gl, cl, rfl, hg, l2⟩ : ∃ gl cl, vl = .slice (some ⟨gl, 0, none⟩) 2 cl ∧ gl < w3.heap.size ∧ w3.cell? ⟨gl, 2, none⟩ = some (.string ⟨#[121]⟩) := by
    rcases Z with _ | ⟨p, _ | ⟨q, _ | ⟨r, Z⟩⟩⟩
    · simp at hZ
    · simp at hZ
    · simp only [List.map_cons, List.cons.injEq] at hZ
      have h1 : q.1 = pY := hZ.2.1
      have h2 := (own_cells hown (by show 2 ≤ maxLen; decide)).2 2 (.string q.1.name) rfl
      rcases hown.2 with h | ⟨g, cap, cur, hv, _, _⟩
      · exact absurd h.2 (by simp)
      · subst hv
        exact ⟨g, cap, rfl, (hown.lt g rfl).2, by rw [h1] at h2; exact h2.1⟩
    · simp at hZ
  have x0 := (b4.cell (p := ⟨w.heap.size, 0, none⟩) (by show w.heap.size < _; omega)).trans x0
  have x1 := (b4.cell (p := ⟨w.heap.size, 1, none⟩) (by show w.heap.size < _; omega)).trans x1
  have a0 := (b4.cell (p := ⟨w1.heap.size, 0, none⟩) (by show w1.heap.size < _; omega)).trans a0
  have a1 := (b4.cell (p := ⟨w1.heap.size, 1, none⟩) (by show w1.heap.size < _; omega)).trans a1
  have e0 := (b4.cell (p := ⟨w2.heap.size, 0, none⟩) (by show w2.heap.size < _; omega)).trans e0
  have e1 := (b4.cell (p := ⟨w2.heap.size, 1, none⟩) (by show w2.heap.size < _; omega)).trans e1
  have hz := b4.size
  have HA := Lib.hid ((HA.out.below b4).mono hz)
  have HB := Lib.hid ((HB.out.below b4).mono hz)
  have Hb := Lib.hid (Hb3.out.trans (b4.mono (by omega)))
  have y0 : w.heap.size < w3.heap.size := by omega
  have y1 : w1.heap.size < w3.heap.size := by omega
  have y2 : w2.heap.size < w3.heap.size := by omega
  clear hZ hown hoz b4 HL Hb3 z1 z2 z3 hz
  have HX : Hid (pX.In w3.heap.size w3 (.slice none 0 0)) := Lib.hid ⟨small1 _, SIn.nil _ _⟩
  have B1 : Hid (∀ W, Hid (Below w3.heap.size w3 W) → Calls Try.prog 14 #[.agg #[.string ⟨#[120]⟩, .slice none 0 0], .agg #[.string ⟨#[120]⟩, .slice aa 1 ca]] W fun e w' => e = .returned (.bool true) ∧ Below W.heap.size W w') := Lib.hid fun W hb => row_begins w3 W pX pA _ _ true rfl HX HA hb
  have B2 : Hid (∀ W, Hid (Below w3.heap.size w3 W) → Calls Try.prog 14 #[.agg #[.string ⟨#[120]⟩, .slice aa 1 ca], .agg #[.string ⟨#[120]⟩, .slice none 0 0]] W fun e w' => e = .returned (.bool false) ∧ Below W.heap.size W w') := Lib.hid fun W hb => row_begins w3 W pA pX _ _ false rfl HA HX hb
  have B3 : Hid (∀ W, Hid (Below w3.heap.size w3 W) → Calls Try.prog 14 #[.agg #[.string ⟨#[120]⟩, .slice aa 1 ca], .agg #[.string ⟨#[120]⟩, .slice ab 1 cb]] W fun e w' => e = .returned (.bool false) ∧ Below W.heap.size W w') := Lib.hid fun W hb => row_begins w3 W pA pB _ _ false rfl HA HB hb
  have M1 : Hid (∀ W ao cap, Hid (PP.In W.heap.size W ⟨⟨#[120]⟩, [⟨#[97]⟩] ++ [⟨#[42]⟩]⟩ (.slice ao 2 cap)) → Hid (Below w3.heap.size w3 W) → Calls Try.prog 16 #[.agg #[.string ⟨#[120]⟩, .slice ao 2 cap], .agg #[.string ⟨#[120]⟩, .slice none 0 0]] W fun e w' => e = .returned (.bool true) ∧ Below W.heap.size W w') :=
    Lib.hid fun W ao cap h hb => row_meets_new w3 W ⟨⟨#[120]⟩, [⟨#[97]⟩] ++ [⟨#[42]⟩]⟩ pX _ _ true rfl h HX hb
  have M2 : Hid (∀ W, Hid (Below w3.heap.size w3 W) → Calls Try.prog 16 #[.agg #[.string ⟨#[120]⟩, .slice aa 1 ca], .agg #[.string ⟨#[120]⟩, .slice ab 1 cb]] W fun e w' => e = .returned (.bool false) ∧ Below W.heap.size W w') := Lib.hid fun W hb => row_meets w3 W pA pB _ _ false rfl HA HB hb
  have V1 : Hid (∀ W b, W.cell? ⟨b, 0, none⟩ = some (.string ⟨#[42]⟩) → b < W.heap.size → Hid (Below w3.heap.size w3 W) → Calls Try.prog 27 #[.agg #[.string ⟨#[120]⟩, .slice aa 1 ca], .slice (some ⟨b, 0, none⟩) 1 1] W fun e w' => ∃ ao cap, e = .returned (.agg #[.string ⟨#[120]⟩, .slice ao 2 cap]) ∧ Hid (PP.In w'.heap.size w' ⟨⟨#[120]⟩, [⟨#[97]⟩] ++ [⟨#[42]⟩]⟩ (.slice ao 2 cap)) ∧ Below W.heap.size W w') :=
    Lib.hid fun W b h1 h2 hb => row_with w3 W ⟨#[120]⟩ [⟨#[97]⟩] [⟨#[42]⟩] 2 _ _ rfl (small1 _) (by decide) HA hb (SIn.one h1 h2 (small1 _))
  have V2 : Hid (∀ W b, W.cell? ⟨b, 0, none⟩ = some (.string ⟨#[42]⟩) → W.cell? ⟨b, 1, none⟩ = some (.string ⟨#[97]⟩) → W.cell? ⟨b, 2, none⟩ = some (.string ⟨#[42]⟩) → b < W.heap.size → Hid (Below w3.heap.size w3 W) → Calls Try.prog 27 #[.agg #[.string ⟨#[120]⟩, .slice none 0 0], .slice (some ⟨b, 0, none⟩) 3 3] W fun e w' => ∃ ao cap, e = .returned (.agg #[.string ⟨#[120]⟩, .slice ao 3 cap]) ∧ Hid (PP.In w'.heap.size w' ⟨⟨#[120]⟩, [] ++ [⟨#[42]⟩, ⟨#[97]⟩, ⟨#[42]⟩]⟩ (.slice ao 3 cap)) ∧ Below W.heap.size W w') :=
    Lib.hid fun W b h1 h2 h3 h4 hb => row_with w3 W ⟨#[120]⟩ [] [⟨#[42]⟩, ⟨#[97]⟩, ⟨#[42]⟩] 3 _ _ rfl (small1 _) (by decide) HX hb (SIn.three h1 h2 h3 h4 (small1 _) (small1 _) (small1 _))
  have T1 : Hid (∀ (W : World) ao cap, Hid (PP.In W.heap.size W ⟨⟨#[120]⟩, [⟨#[97]⟩] ++ [⟨#[42]⟩]⟩ (.slice ao 2 cap)) → Calls Try.prog 19 #[.agg #[.string ⟨#[120]⟩, .slice ao 2 cap]] W fun e w' => e = .returned (.string ⟨#[120, 46, 97, 46, 42]⟩) ∧ Below W.heap.size W w') :=
    Lib.hid fun W ao cap h => text_calls ⟨⟨#[120]⟩, [⟨#[97]⟩] ++ [⟨#[42]⟩]⟩ ⟨by decide, by decide, by decide⟩ W.heap.size _ W (Nat.le_refl _) h.out
  have N1 : Hid (∀ (W : World) ao cap, Hid (PP.In W.heap.size W ⟨⟨#[120]⟩, [] ++ [⟨#[42]⟩, ⟨#[97]⟩, ⟨#[42]⟩]⟩ (.slice ao 3 cap)) → Calls Try.prog 21 #[.agg #[.string ⟨#[120]⟩, .slice ao 3 cap]] W fun e w' => e = .returned (.int .i64 2) ∧ Below W.heap.size W w') :=
    Lib.hid fun W ao cap h => through_calls ⟨⟨#[120]⟩, [] ++ [⟨#[42]⟩, ⟨#[97]⟩, ⟨#[42]⟩]⟩ (by decide) W.heap.size _ W (Nat.le_refl _) h.out
  have K3 := Lib.hid fun W W' hb b => row_next w3 W W' hb b
  have K4 := Lib.hid fun W o hb => row_alloc w3 W o hb
  have K5 : Hid ((∀ b o, b < w3.heap.size → w3.drew.cell? ⟨b, o, none⟩ = w3.cell? ⟨b, o, none⟩) ∧ Hid (Below w3.heap.size w3 w3.drew)) := Lib.hid ⟨old_cells ((Below.refl _ w3).drew), Lib.hid ((Below.refl _ w3).drew)⟩
  clear HX HA HB
  go_wp2_with fail
  go_region_held3 (fun w' => (∀ b o, b < w3.heap.size → w'.cell? ⟨b, o, none⟩ = w3.cell? ⟨b, o, none⟩) ∧ Hid (Below w3.heap.size w3 w')) ((first | exact XB | exact K5.out | (refine K4.out _ _ ?_; (first | assumption | (go_split_ands; done) | (go_split_ands; assumption)))))
    (first
      | (go_at_call 14; (with_reducible (first | refine (B1.out _ ?hb).mono ?_ | refine (B2.out _ ?hb).mono ?_ | refine (B3.out _ ?hb).mono ?_)); (case hb => (first | assumption | (go_split_ands; done) | (go_split_ands; assumption))); rintro r wn ⟨rfl, bn⟩; have XB := K3.out _ _ (by (first | assumption | (go_split_ands; done) | (go_split_ands; assumption))) bn; clear bn)
      | (go_at_call 16; (with_reducible refine (M2.out _ ?hb).mono ?_); (case hb => (first | assumption | (go_split_ands; done) | (go_split_ands; assumption))); rintro r wn ⟨rfl, bn⟩; have XB := K3.out _ _ (by (first | assumption | (go_split_ands; done) | (go_split_ands; assumption))) bn; clear bn)
      | (go_at_call 16; (with_reducible refine (M1.out _ _ _ (by assumption) ?hb).mono ?_); (case hb => (first | assumption | (go_split_ands; done) | (go_split_ands; assumption))); rintro r wn ⟨rfl, bn⟩; have XB := K3.out _ _ (by (first | assumption | (go_split_ands; done) | (go_split_ands; assumption))) bn; clear bn)
      | (go_at_call 27; (with_reducible refine (V1.out _ _ ?h1 ?h2 ?hb).mono ?_); (case hb => (first | assumption | (go_split_ands; done) | (go_split_ands; assumption))); (case h1 => go_simp); (case h2 => simp); rintro r wn ⟨ao', cap', rfl, HQ, bn⟩; have XB := K3.out _ _ (by (first | assumption | (go_split_ands; done) | (go_split_ands; assumption))) bn; clear bn)
      | (go_at_call 27; (with_reducible refine (V2.out _ _ ?h1 ?h3 ?h4 ?h2 ?hb).mono ?_); (case hb => (first | assumption | (go_split_ands; done) | (go_split_ands; assumption))); (case h1 => go_simp); (case h3 => go_simp); (case h4 => go_simp); (case h2 => simp); rintro r wn ⟨ao', cap', rfl, HQ, bn⟩; have XB := K3.out _ _ (by (first | assumption | (go_split_ands; done) | (go_split_ands; assumption))) bn; clear bn)
      | (go_at_call 19; (with_reducible refine (T1.out _ _ _ (by assumption)).mono ?_); rintro r wn ⟨rfl, bn⟩; have XB := K3.out _ _ (by (first | assumption | (go_split_ands; done) | (go_split_ands; assumption))) bn; clear bn)
      | (go_at_call 21; (with_reducible refine (N1.out _ _ _ (by assumption)).mono ?_); rintro r wn ⟨rfl, bn⟩; have XB := K3.out _ _ (by (first | assumption | (go_split_ands; done) | (go_split_ands; assumption))) bn; clear bn))
  have HF : Hid (Below w.heap.size w _) := Lib.hid (Hb.out.trans ((show Hid (Below w3.heap.size w3 _) from by (first | assumption | (go_split_ands; done) | (go_split_ands; assumption))).out.mono (Nat.le_of_lt y0)))
  go_wp2_with fail
  go_ret
  exact ⟨rfl, HF.out⟩
end Go.Proofs.Ytipiiaghjkhkbaa
