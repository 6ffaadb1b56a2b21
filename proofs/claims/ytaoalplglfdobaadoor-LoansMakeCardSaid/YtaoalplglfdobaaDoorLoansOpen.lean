/- What came in as loans lies in memory as a row of loans, whose numbers are ints. -/
import Derived.Test.YtaoalplglfdobaaDoorPathsOpen
import Derived.Test.YtaoalplglfdobaaDoorLoansMem
namespace Go.Proofs.YtaoalplglfdobaaDoor
open Go.RowKit
set_option linter.unusedVariables false

section
variable {H : Type} {enc : TypeId × Value → H} {w : World} {spare : Nat → Bool} {held : Bool}
theorem truthOfN {fuel : Nat} {cs : List Value} {x : DataW H × List MemPlace} (h : DataW.trod enc Tryd.prog w 0 spare held fuel 4 cs = some x) : ∃ d : Bool, cs = [.bool d] := by
  obtain ⟨d, rfl, _⟩ := DataW.trod_bool Tryd.underlying4 h
  exact ⟨d, rfl⟩
theorem intOfN {fuel : Nat} {cs : List Value} {x : DataW H × List MemPlace} (h : DataW.trod enc Tryd.prog w 0 spare held fuel 3 cs = some x) : ∃ d : Int, cs = [.int .i64 d] ∧ (Lit.int .i64 d).wf = true := by
  obtain ⟨d, rfl, _, hw⟩ := DataW.trod_int Tryd.underlying3 h
  exact ⟨d, rfl, hw⟩
theorem loanOf {fuel : Nat} {cs : List Value} {x : DataW H × List MemPlace} (h : DataW.trod enc Tryd.prog w 0 spare held fuel 36 cs = some x) (hw : Within Tryd.prog 36 x.1) :
    ∃ (p : LN) (v : Value), cs = [.string p.place.name, v, .bool p.alone, .int .i64 p.till] ∧ p.place.In w.heap.size w v ∧ (Lit.int .i64 p.till).wf = true := by
  obtain ⟨xs, n, rfl, rfl, hlen, hxl, hf⟩ := DataW.trod_struct Tryd.underlying36 h
  rw [show Tryd.prog.cellsOf 36 = 4 from by kernel_rfl] at hlen
  obtain ⟨k0, k1, k2, k3, rfl⟩ : ∃ k0 k1 k2 k3, cs = [k0, k1, k2, k3] := by
    rcases cs with _ | ⟨k0, _ | ⟨k1, _ | ⟨k2, _ | ⟨k3, _ | ⟨k4, cs⟩⟩⟩⟩⟩ <;> simp at hlen
    exact ⟨k0, k1, k2, k3, rfl⟩
  clear hlen
  obtain ⟨y0, y1, y2, rfl⟩ : ∃ y0 y1 y2, xs = [y0, y1, y2] := by
    rcases xs with _ | ⟨y0, _ | ⟨y1, _ | ⟨y2, _ | ⟨y3, xs⟩⟩⟩⟩ <;> simp at hxl
    exact ⟨y0, y1, y2, rfl⟩
  have w0 : Within Tryd.prog 25 y0.1 := fun q hq => hw q (by
    simp only [DataW.weights, Tryd.underlying36]
    exact List.mem_append.2 (.inl hq))
  have fa := hf 0 _ rfl
  change DataW.trod enc Tryd.prog w 0 spare held n 25 ((List.drop 0 [k0, k1, k2, k3]).take (Tryd.prog.cellsOf 25)) = some y0 at fa
  rw [show Tryd.prog.cellsOf 25 = 2 from by kernel_rfl] at fa
  replace fa : DataW.trod enc Tryd.prog w 0 spare held n 25 [k0, k1] = some _ := fa
  have fb := hf 1 _ rfl
  change DataW.trod enc Tryd.prog w 0 spare held n 4 ((List.drop 2 [k0, k1, k2, k3]).take (Tryd.prog.cellsOf 4)) = some y1 at fb
  rw [show Tryd.prog.cellsOf 4 = 1 from by kernel_rfl] at fb
  replace fb : DataW.trod enc Tryd.prog w 0 spare held n 4 [k2] = some _ := fb
  have fc := hf 2 _ rfl
  change DataW.trod enc Tryd.prog w 0 spare held n 3 ((List.drop 3 [k0, k1, k2, k3]).take (Tryd.prog.cellsOf 3)) = some y2 at fc
  rw [show Tryd.prog.cellsOf 3 = 1 from by kernel_rfl] at fc
  replace fc : DataW.trod enc Tryd.prog w 0 spare held n 3 [k3] = some _ := fc
  obtain ⟨p, v, e0, hp⟩ := placeOf fa w0
  obtain ⟨d, e1⟩ := truthOfN fb
  obtain ⟨t, e2, ht⟩ := intOfN fc
  cases e0
  cases e1
  cases e2
  exact ⟨⟨p, d, t⟩, _, rfl, hp, ht⟩
theorem RowN.mk {B b : Nat} : ∀ {n o : Nat}, (∀ i, i < n → ∃ (x : LN) (v : Value), CellN w b (o + i * 4) x v ∧ x.place.In B w v ∧ (Lit.int .i64 x.till).wf = true) → ∃ l : List LN, l.length = n ∧ RowN B w b o l ∧ ∀ x ∈ l, (Lit.int .i64 x.till).wf = true
  | 0, _, _ => ⟨[], rfl, fun j s h => (by cases h), fun x hx => (by cases hx)⟩
  | n + 1, o, h => by
    obtain ⟨s, v, h1, h2, h3⟩ := h 0 (by omega)
    obtain ⟨l, hl, hr, hq⟩ := RowN.mk (B := B) (n := n) (o := o + 4) (fun i hi => by
      obtain ⟨s, v, h1, h2⟩ := h (i + 1) (by omega)
      exact ⟨s, v, by rwa [show o + 4 + i * 4 = o + (i + 1) * 4 from by omega], h2⟩)
    refine ⟨s :: l, by simp [hl], fun j t hj => ?_, fun x hx => ?_⟩
    · match j, hj with
      | 0, hj => cases hj; exact ⟨v, h1, h2⟩
      | j + 1, hj =>
        obtain ⟨u, g1, g2⟩ := hr j t (by simpa using hj)
        exact ⟨u, by rw [show o + (j + 1) * 4 = o + 4 + j * 4 from by omega]; exact g1, g2⟩
    · rcases List.mem_cons.1 hx with rfl | hx
      · exact h3
      · exact hq x hx
theorem loansOf {fuel : Nat} {cs : List Value} {x : DataW H × List MemPlace} (h : DataW.trod enc Tryd.prog w 0 spare held fuel 22 cs = some x) (hw : Within Tryd.prog 22 x.1) :
    ∃ (l : List LN) (v : Value), cs = [v] ∧ (NIn w.heap.size w l v ∧ ∀ x ∈ l, (Lit.int .i64 x.till).wf = true) := by
  obtain ⟨v, len, n, b, o, rfl, hs, hel⟩ := slice_openP Tryd.underlying22 (show Tryd.prog.cellsOf 36 = 4 from by kernel_rfl) (by omega) h hw
  obtain ⟨l, hl, hr, hq⟩ := RowN.mk (w := w) (B := w.heap.size) (b := b) (n := len) (o := o) (fun i hi => by
    obtain ⟨ci, y, h1, h2, h3⟩ := hel i hi
    obtain ⟨p, v, rfl, hp, hpw⟩ := loanOf h2 h3
    exact ⟨p, v, ⟨by have := h1 0 (.string p.place.name) rfl; simpa using this, by have := h1 1 v rfl; simpa using this, by have := h1 2 (.bool p.alone) rfl; simpa using this, by have := h1 3 (.int .i64 p.till) rfl; simpa using this⟩, hp, hpw⟩)
  exact ⟨l, v, rfl, ⟨b, o, by rw [hl]; exact hs, hr⟩, hq⟩
end
end Go.Proofs.YtaoalplglfdobaaDoor
