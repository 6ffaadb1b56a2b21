/- What came in as instructions, functions, structs, units lies in memory so (made by gen_codeopen.py). -/
import Derived.Test.YtlbdoomknjiilaaDoorPathsOpen
import Derived.Test.YtlbdoomknjiilaaDoorCodeHas
import Derived.OpenShut
namespace Go.Proofs.YtlbdoomknjiilaaDoor
open Go.RowKit
set_option linter.unusedVariables false

theorem RowG.mk {α : Type} {k : Nat} {P : World → Nat → Nat → α → Prop} {w : World} {b : Nat} : ∀ {n o : Nat}, (∀ i, i < n → ∃ x, P w b (o + i * k) x) → ∃ l : List α, l.length = n ∧ RowG k P w b o l
  | 0, _, _ => ⟨[], rfl, fun j s h => by cases h⟩
  | n + 1, o, h => by
    obtain ⟨s, h1⟩ := h 0 (by omega)
    obtain ⟨l, hl, hr⟩ := RowG.mk (k := k) (P := P) (n := n) (o := o + k) (fun i hi => by
      obtain ⟨s, h1⟩ := h (i + 1) (by omega)
      refine ⟨s, ?_⟩
      rw [show o + k + i * k = o + (i + 1) * k from by rw [Nat.add_mul, Nat.one_mul]; omega]
      exact h1)
    refine ⟨s :: l, by simp [hl], fun j t hj => ?_⟩
    match j, hj with
    | 0, hj => cases hj; exact h1
    | j + 1, hj =>
      have g1 := hr j t (by simpa using hj)
      rw [show o + (j + 1) * k = o + k + j * k from by rw [Nat.add_mul, Nat.one_mul]; omega]
      exact g1
section
variable {H : Type} {enc : TypeId × Value → H} {w : World} {spare : Nat → Bool} {held : Bool}
theorem byteOfC {fuel : Nat} {cs : List Value} {x : DataW H × List MemPlace} (h : DataW.trod enc Tryd.prog w 0 spare held fuel 5 cs = some x) : ∃ d : Int, cs = [.int .u8 d] ∧ 0 ≤ d ∧ d ≤ 255 := by
  obtain ⟨d, rfl, _, hw⟩ := DataW.trod_int Tryd.underlying5 h
  exact ⟨d, rfl, bounds_u8 hw⟩
theorem intOfC {fuel : Nat} {cs : List Value} {x : DataW H × List MemPlace} (h : DataW.trod enc Tryd.prog w 0 spare held fuel 3 cs = some x) : ∃ d : Int, cs = [.int .i64 d] := by
  obtain ⟨d, rfl, _, hw⟩ := DataW.trod_int Tryd.underlying3 h
  exact ⟨d, rfl⟩
theorem int64OfC {fuel : Nat} {cs : List Value} {x : DataW H × List MemPlace} (h : DataW.trod enc Tryd.prog w 0 spare held fuel 2 cs = some x) : ∃ d : Int, cs = [.int .i64 d] := by
  obtain ⟨d, rfl, _, hw⟩ := DataW.trod_int Tryd.underlying2 h
  exact ⟨d, rfl⟩
theorem strOfC {fuel : Nat} {cs : List Value} {x : DataW H × List MemPlace} (h : DataW.trod enc Tryd.prog w 0 spare held fuel 9 cs = some x) : ∃ s : ByteArray, cs = [.string s] := by
  obtain ⟨s, rfl, _, _⟩ := DataW.trod_string Tryd.underlying9 h
  exact ⟨s, rfl⟩
theorem sliceOfC {t e : TypeId} {fuel : Nat} {cs : List Value} {x : DataW H × List MemPlace} (ht : Tryd.prog.underlying t = some (.slice e)) (h : DataW.trod enc Tryd.prog w 0 spare held fuel t cs = some x) : ∃ a n c, cs = [.slice a n c] := by
  rcases DataW.trod_slice ht h with ⟨rfl, _⟩ | ⟨a, len, cap, elems, rest, n, rfl, rfl, rfl, _⟩
  · exact ⟨_, _, _, rfl⟩
  · exact ⟨_, _, _, rfl⟩
theorem intsOfC {fuel : Nat} {cs : List Value} {x : DataW H × List MemPlace} (h : DataW.trod enc Tryd.prog w 0 spare held fuel 31 cs = some x) (hw : Within Tryd.prog 31 x.1) :
    ∃ (l : List Int) (v : Value), cs = [v] ∧ ZIn w.heap.size w l v := by
  obtain ⟨v, len, n, b, o, rfl, hs, hel⟩ := slice_openP Tryd.underlying31 (show Tryd.prog.cellsOf 3 = 1 from by kernel_rfl) (by omega) h hw
  obtain ⟨l, hl, hr⟩ := RowG.mk (k := 1) (P := ZAt) (w := w) (b := b) (n := len) (o := o) (fun i hi => by
    obtain ⟨ci, y, h1, h2, h3⟩ := hel i hi
    obtain ⟨d, rfl⟩ := intOfC h2
    exact ⟨d, by have := h1 0 (.int .i64 d) rfl; rw [Nat.mul_one] at *; exact this⟩)
  exact ⟨l, v, rfl, b, o, by rw [hl]; exact hs, hr⟩
theorem lenOfC {t e : TypeId} {k fuel : Nat} {cs : List Value} {x : DataW H × List MemPlace} (ht : Tryd.prog.underlying t = some (.slice e)) (hk : Tryd.prog.cellsOf e = k) (hk0 : 0 < k) (h : DataW.trod enc Tryd.prog w 0 spare held fuel t cs = some x) (hw : Within Tryd.prog t x.1) :
    ∃ (m : Nat) (v : Value), cs = [v] ∧ ∃ b o, SlP w.heap.size v m b o := by
  obtain ⟨v, len, n, b, o, rfl, hs, _⟩ := slice_openP ht hk hk0 h hw
  exact ⟨len, v, rfl, b, o, hs⟩

theorem instrOfC {fuel : Nat} {cs : List Value} {x : DataW H × List MemPlace} (h : DataW.trod enc Tryd.prog w 0 spare held fuel 34 cs = some x) (hw : Within Tryd.prog 34 x.1) :
    ∃ (x : JJ) (v : VJ), cs = x.cells v ∧ x.In w.heap.size w v := by
  obtain ⟨xs, n, rfl, rfl, hlen, hxl, hf⟩ := DataW.trod_struct Tryd.underlying34 h
  rw [show Tryd.prog.cellsOf 34 = 9 from by kernel_rfl] at hlen
  obtain _ | ⟨k0, cs⟩ := cs
  · simp at hlen
  obtain _ | ⟨k1, cs⟩ := cs
  · simp at hlen
  obtain _ | ⟨k2, cs⟩ := cs
  · simp at hlen
  obtain _ | ⟨k3, cs⟩ := cs
  · simp at hlen
  obtain _ | ⟨k4, cs⟩ := cs
  · simp at hlen
  obtain _ | ⟨k5, cs⟩ := cs
  · simp at hlen
  obtain _ | ⟨k6, cs⟩ := cs
  · simp at hlen
  obtain _ | ⟨k7, cs⟩ := cs
  · simp at hlen
  obtain _ | ⟨k8, cs⟩ := cs
  · simp at hlen
  obtain rfl : cs = [] := by
    cases cs with
    | nil => rfl
    | cons c cs => simp at hlen
  clear hlen
  obtain _ | ⟨y0, xs⟩ := xs
  · simp at hxl
  obtain _ | ⟨y1, xs⟩ := xs
  · simp at hxl
  obtain _ | ⟨y2, xs⟩ := xs
  · simp at hxl
  obtain _ | ⟨y3, xs⟩ := xs
  · simp at hxl
  obtain _ | ⟨y4, xs⟩ := xs
  · simp at hxl
  obtain _ | ⟨y5, xs⟩ := xs
  · simp at hxl
  obtain _ | ⟨y6, xs⟩ := xs
  · simp at hxl
  obtain _ | ⟨y7, xs⟩ := xs
  · simp at hxl
  obtain _ | ⟨y8, xs⟩ := xs
  · simp at hxl
  obtain rfl : xs = [] := by
    cases xs with
    | nil => rfl
    | cons c cs => simp at hxl
  clear hxl
  have w4 : Within Tryd.prog 31 y4.1 := fun q hq => hw q (by
    simp only [DataW.weights, Tryd.underlying34]
    exact List.mem_append.2 (.inr (List.mem_append.2 (.inr (List.mem_append.2 (.inr (List.mem_append.2 (.inr (List.mem_append.2 (.inl hq))))))))))
  have w5 : Within Tryd.prog 32 y5.1 := fun q hq => hw q (by
    simp only [DataW.weights, Tryd.underlying34]
    exact List.mem_append.2 (.inr (List.mem_append.2 (.inr (List.mem_append.2 (.inr (List.mem_append.2 (.inr (List.mem_append.2 (.inr (List.mem_append.2 (.inl hq))))))))))))
  have w7 : Within Tryd.prog 9 y7.1 := fun q hq => hw q (by
    simp only [DataW.weights, Tryd.underlying34]
    exact List.mem_append.2 (.inr (List.mem_append.2 (.inr (List.mem_append.2 (.inr (List.mem_append.2 (.inr (List.mem_append.2 (.inr (List.mem_append.2 (.inr (List.mem_append.2 (.inr (List.mem_append.2 (.inl hq))))))))))))))))
  have w8 : Within Tryd.prog 32 y8.1 := fun q hq => hw q (by
    simp only [DataW.weights, Tryd.underlying34]
    exact List.mem_append.2 (.inr (List.mem_append.2 (.inr (List.mem_append.2 (.inr (List.mem_append.2 (.inr (List.mem_append.2 (.inr (List.mem_append.2 (.inr (List.mem_append.2 (.inr (List.mem_append.2 (.inr (List.mem_append.2 (.inl hq))))))))))))))))))
  have f0 := hf 0 _ rfl
  change DataW.trod enc Tryd.prog w 0 spare held n 5 ((List.drop 0 [k0, k1, k2, k3, k4, k5, k6, k7, k8]).take (Tryd.prog.cellsOf 5)) = some y0 at f0
  rw [show Tryd.prog.cellsOf 5 = 1 from by kernel_rfl] at f0
  replace f0 : DataW.trod enc Tryd.prog w 0 spare held n 5 [k0] = some _ := f0
  obtain ⟨d0, e0, b0⟩ := byteOfC f0
  have f1 := hf 1 _ rfl
  change DataW.trod enc Tryd.prog w 0 spare held n 3 ((List.drop 1 [k0, k1, k2, k3, k4, k5, k6, k7, k8]).take (Tryd.prog.cellsOf 3)) = some y1 at f1
  rw [show Tryd.prog.cellsOf 3 = 1 from by kernel_rfl] at f1
  replace f1 : DataW.trod enc Tryd.prog w 0 spare held n 3 [k1] = some _ := f1
  obtain ⟨d1, e1⟩ := intOfC f1
  have f2 := hf 2 _ rfl
  change DataW.trod enc Tryd.prog w 0 spare held n 3 ((List.drop 2 [k0, k1, k2, k3, k4, k5, k6, k7, k8]).take (Tryd.prog.cellsOf 3)) = some y2 at f2
  rw [show Tryd.prog.cellsOf 3 = 1 from by kernel_rfl] at f2
  replace f2 : DataW.trod enc Tryd.prog w 0 spare held n 3 [k2] = some _ := f2
  obtain ⟨d2, e2⟩ := intOfC f2
  have f3 := hf 3 _ rfl
  change DataW.trod enc Tryd.prog w 0 spare held n 3 ((List.drop 3 [k0, k1, k2, k3, k4, k5, k6, k7, k8]).take (Tryd.prog.cellsOf 3)) = some y3 at f3
  rw [show Tryd.prog.cellsOf 3 = 1 from by kernel_rfl] at f3
  replace f3 : DataW.trod enc Tryd.prog w 0 spare held n 3 [k3] = some _ := f3
  obtain ⟨d3, e3⟩ := intOfC f3
  have f4 := hf 4 _ rfl
  change DataW.trod enc Tryd.prog w 0 spare held n 31 ((List.drop 4 [k0, k1, k2, k3, k4, k5, k6, k7, k8]).take (Tryd.prog.cellsOf 31)) = some y4 at f4
  rw [show Tryd.prog.cellsOf 31 = 1 from by kernel_rfl] at f4
  replace f4 : DataW.trod enc Tryd.prog w 0 spare held n 31 [k4] = some _ := f4
  obtain ⟨d4, v4, e4, b4⟩ := intsOfC f4 w4
  have f5 := hf 5 _ rfl
  change DataW.trod enc Tryd.prog w 0 spare held n 32 ((List.drop 5 [k0, k1, k2, k3, k4, k5, k6, k7, k8]).take (Tryd.prog.cellsOf 32)) = some y5 at f5
  rw [show Tryd.prog.cellsOf 32 = 1 from by kernel_rfl] at f5
  replace f5 : DataW.trod enc Tryd.prog w 0 spare held n 32 [k5] = some _ := f5
  obtain ⟨d5, v5, e5, b5⟩ := stringsOf f5 w5
  have f6 := hf 6 _ rfl
  change DataW.trod enc Tryd.prog w 0 spare held n 2 ((List.drop 6 [k0, k1, k2, k3, k4, k5, k6, k7, k8]).take (Tryd.prog.cellsOf 2)) = some y6 at f6
  rw [show Tryd.prog.cellsOf 2 = 1 from by kernel_rfl] at f6
  replace f6 : DataW.trod enc Tryd.prog w 0 spare held n 2 [k6] = some _ := f6
  obtain ⟨d6, e6⟩ := int64OfC f6
  have f7 := hf 7 _ rfl
  change DataW.trod enc Tryd.prog w 0 spare held n 9 ((List.drop 7 [k0, k1, k2, k3, k4, k5, k6, k7, k8]).take (Tryd.prog.cellsOf 9)) = some y7 at f7
  rw [show Tryd.prog.cellsOf 9 = 1 from by kernel_rfl] at f7
  replace f7 : DataW.trod enc Tryd.prog w 0 spare held n 9 [k7] = some _ := f7
  obtain ⟨d7, e7, b7⟩ := textOf f7 w7
  have f8 := hf 8 _ rfl
  change DataW.trod enc Tryd.prog w 0 spare held n 32 ((List.drop 8 [k0, k1, k2, k3, k4, k5, k6, k7, k8]).take (Tryd.prog.cellsOf 32)) = some y8 at f8
  rw [show Tryd.prog.cellsOf 32 = 1 from by kernel_rfl] at f8
  replace f8 : DataW.trod enc Tryd.prog w 0 spare held n 32 [k8] = some _ := f8
  obtain ⟨d8, v8, e8, b8⟩ := lenOfC Tryd.underlying32 (show Tryd.prog.cellsOf 9 = 1 from by kernel_rfl) (by omega) f8 w8
  cases e0
  cases e1
  cases e2
  cases e3
  cases e4
  cases e5
  cases e6
  cases e7
  cases e8
  exact ⟨⟨d0, d1, d2, d3, d4, d5, d6, d7, d8⟩, ⟨_, _, _⟩, rfl, b0, b7, b4, b5, b8⟩

theorem instrsOfC {fuel : Nat} {cs : List Value} {x : DataW H × List MemPlace} (h : DataW.trod enc Tryd.prog w 0 spare held fuel 43 cs = some x) (hw : Within Tryd.prog 43 x.1) :
    ∃ (l : List JJ) (v : Value), cs = [v] ∧ JsIn w.heap.size w l v := by
  obtain ⟨v, len, n, b, o, rfl, hs, hel⟩ := slice_openP Tryd.underlying43 (show Tryd.prog.cellsOf 34 = 9 from by kernel_rfl) (by omega) h hw
  obtain ⟨l, hl, hr⟩ := RowG.mk (k := 9) (P := JAt w.heap.size) (w := w) (b := b) (n := len) (o := o) (fun i hi => by
    obtain ⟨ci, y, h1, h2, h3⟩ := hel i hi
    obtain ⟨x, v, rfl, hx⟩ := instrOfC h2 h3
    exact ⟨x, v, h1, hx⟩)
  exact ⟨l, v, rfl, b, o, by rw [hl]; exact hs, hr⟩

theorem funcOfC {fuel : Nat} {cs : List Value} {x : DataW H × List MemPlace} (h : DataW.trod enc Tryd.prog w 0 spare held fuel 45 cs = some x) (hw : Within Tryd.prog 45 x.1) :
    ∃ (x : FF) (v : Value), cs = x.cells v ∧ x.In w.heap.size w v := by
  obtain ⟨xs, n, rfl, rfl, hlen, hxl, hf⟩ := DataW.trod_struct Tryd.underlying45 h
  rw [show Tryd.prog.cellsOf 45 = 4 from by kernel_rfl] at hlen
  obtain _ | ⟨k0, cs⟩ := cs
  · simp at hlen
  obtain _ | ⟨k1, cs⟩ := cs
  · simp at hlen
  obtain _ | ⟨k2, cs⟩ := cs
  · simp at hlen
  obtain _ | ⟨k3, cs⟩ := cs
  · simp at hlen
  obtain rfl : cs = [] := by
    cases cs with
    | nil => rfl
    | cons c cs => simp at hlen
  clear hlen
  obtain _ | ⟨y0, xs⟩ := xs
  · simp at hxl
  obtain _ | ⟨y1, xs⟩ := xs
  · simp at hxl
  obtain _ | ⟨y2, xs⟩ := xs
  · simp at hxl
  obtain _ | ⟨y3, xs⟩ := xs
  · simp at hxl
  obtain rfl : xs = [] := by
    cases xs with
    | nil => rfl
    | cons c cs => simp at hxl
  clear hxl
  have w0 : Within Tryd.prog 9 y0.1 := fun q hq => hw q (by
    simp only [DataW.weights, Tryd.underlying45]
    exact List.mem_append.2 (.inl hq))
  have w3 : Within Tryd.prog 43 y3.1 := fun q hq => hw q (by
    simp only [DataW.weights, Tryd.underlying45]
    exact List.mem_append.2 (.inr (List.mem_append.2 (.inr (List.mem_append.2 (.inr (List.mem_append.2 (.inl hq))))))))
  have f0 := hf 0 _ rfl
  change DataW.trod enc Tryd.prog w 0 spare held n 9 ((List.drop 0 [k0, k1, k2, k3]).take (Tryd.prog.cellsOf 9)) = some y0 at f0
  rw [show Tryd.prog.cellsOf 9 = 1 from by kernel_rfl] at f0
  replace f0 : DataW.trod enc Tryd.prog w 0 spare held n 9 [k0] = some _ := f0
  obtain ⟨d0, e0, b0⟩ := textOf f0 w0
  have f1 := hf 1 _ rfl
  change DataW.trod enc Tryd.prog w 0 spare held n 3 ((List.drop 1 [k0, k1, k2, k3]).take (Tryd.prog.cellsOf 3)) = some y1 at f1
  rw [show Tryd.prog.cellsOf 3 = 1 from by kernel_rfl] at f1
  replace f1 : DataW.trod enc Tryd.prog w 0 spare held n 3 [k1] = some _ := f1
  obtain ⟨d1, e1⟩ := intOfC f1
  have f2 := hf 2 _ rfl
  change DataW.trod enc Tryd.prog w 0 spare held n 3 ((List.drop 2 [k0, k1, k2, k3]).take (Tryd.prog.cellsOf 3)) = some y2 at f2
  rw [show Tryd.prog.cellsOf 3 = 1 from by kernel_rfl] at f2
  replace f2 : DataW.trod enc Tryd.prog w 0 spare held n 3 [k2] = some _ := f2
  obtain ⟨d2, e2⟩ := intOfC f2
  have f3 := hf 3 _ rfl
  change DataW.trod enc Tryd.prog w 0 spare held n 43 ((List.drop 3 [k0, k1, k2, k3]).take (Tryd.prog.cellsOf 43)) = some y3 at f3
  rw [show Tryd.prog.cellsOf 43 = 1 from by kernel_rfl] at f3
  replace f3 : DataW.trod enc Tryd.prog w 0 spare held n 43 [k3] = some _ := f3
  obtain ⟨d3, v3, e3, b3⟩ := instrsOfC f3 w3
  cases e0
  cases e1
  cases e2
  cases e3
  exact ⟨⟨d0, d1, d2, d3⟩, _, rfl, b0, b3⟩

theorem funcsOfC {fuel : Nat} {cs : List Value} {x : DataW H × List MemPlace} (h : DataW.trod enc Tryd.prog w 0 spare held fuel 22 cs = some x) (hw : Within Tryd.prog 22 x.1) :
    ∃ (l : List FF) (v : Value), cs = [v] ∧ FsIn w.heap.size w l v := by
  obtain ⟨v, len, n, b, o, rfl, hs, hel⟩ := slice_openP Tryd.underlying22 (show Tryd.prog.cellsOf 45 = 4 from by kernel_rfl) (by omega) h hw
  obtain ⟨l, hl, hr⟩ := RowG.mk (k := 4) (P := FAt w.heap.size) (w := w) (b := b) (n := len) (o := o) (fun i hi => by
    obtain ⟨ci, y, h1, h2, h3⟩ := hel i hi
    obtain ⟨x, v, rfl, hx⟩ := funcOfC h2 h3
    exact ⟨x, v, h1, hx⟩)
  exact ⟨l, v, rfl, b, o, by rw [hl]; exact hs, hr⟩

theorem typeShapeC {fuel : Nat} {cs : List Value} {x : DataW H × List MemPlace} (h : DataW.trod enc Tryd.prog w 0 spare held fuel 52 cs = some x) :
    ∃ (k : Int) (s : ByteArray) (a : Option Addr) (m c : Nat), cs = [.int .u8 k, .string s, .slice a m c] := by
  obtain ⟨xs, n, rfl, rfl, hlen, hxl, hf⟩ := DataW.trod_struct Tryd.underlying52 h
  rw [show Tryd.prog.cellsOf 52 = 3 from by kernel_rfl] at hlen
  obtain _ | ⟨k0, cs⟩ := cs
  · simp at hlen
  obtain _ | ⟨k1, cs⟩ := cs
  · simp at hlen
  obtain _ | ⟨k2, cs⟩ := cs
  · simp at hlen
  obtain rfl : cs = [] := by
    cases cs with
    | nil => rfl
    | cons c cs => simp at hlen
  clear hlen
  obtain _ | ⟨y0, xs⟩ := xs
  · simp at hxl
  obtain _ | ⟨y1, xs⟩ := xs
  · simp at hxl
  obtain _ | ⟨y2, xs⟩ := xs
  · simp at hxl
  obtain rfl : xs = [] := by
    cases xs with
    | nil => rfl
    | cons c cs => simp at hxl
  clear hxl
  have f0 := hf 0 _ rfl
  change DataW.trod enc Tryd.prog w 0 spare held n 5 ((List.drop 0 [k0, k1, k2]).take (Tryd.prog.cellsOf 5)) = some y0 at f0
  rw [show Tryd.prog.cellsOf 5 = 1 from by kernel_rfl] at f0
  replace f0 : DataW.trod enc Tryd.prog w 0 spare held n 5 [k0] = some _ := f0
  obtain ⟨d0, e0, b0⟩ := byteOfC f0
  have f1 := hf 1 _ rfl
  change DataW.trod enc Tryd.prog w 0 spare held n 9 ((List.drop 1 [k0, k1, k2]).take (Tryd.prog.cellsOf 9)) = some y1 at f1
  rw [show Tryd.prog.cellsOf 9 = 1 from by kernel_rfl] at f1
  replace f1 : DataW.trod enc Tryd.prog w 0 spare held n 9 [k1] = some _ := f1
  obtain ⟨d1, e1⟩ := strOfC f1
  have f2 := hf 2 _ rfl
  change DataW.trod enc Tryd.prog w 0 spare held n 50 ((List.drop 2 [k0, k1, k2]).take (Tryd.prog.cellsOf 50)) = some y2 at f2
  rw [show Tryd.prog.cellsOf 50 = 1 from by kernel_rfl] at f2
  replace f2 : DataW.trod enc Tryd.prog w 0 spare held n 50 [k2] = some _ := f2
  obtain ⟨a2, n2, c2, e2⟩ := sliceOfC Tryd.underlying50 f2
  cases e0
  cases e1
  cases e2
  exact ⟨_, _, _, _, _, rfl⟩

theorem placeShapeC {fuel : Nat} {cs : List Value} {x : DataW H × List MemPlace} (h : DataW.trod enc Tryd.prog w 0 spare held fuel 55 cs = some x) :
    ∃ (s : ByteArray) (a : Option Addr) (m c : Nat), cs = [.string s, .slice a m c] := by
  obtain ⟨xs, n, rfl, rfl, hlen, hxl, hf⟩ := DataW.trod_struct Tryd.underlying55 h
  rw [show Tryd.prog.cellsOf 55 = 2 from by kernel_rfl] at hlen
  obtain _ | ⟨k0, cs⟩ := cs
  · simp at hlen
  obtain _ | ⟨k1, cs⟩ := cs
  · simp at hlen
  obtain rfl : cs = [] := by
    cases cs with
    | nil => rfl
    | cons c cs => simp at hlen
  clear hlen
  obtain _ | ⟨y0, xs⟩ := xs
  · simp at hxl
  obtain _ | ⟨y1, xs⟩ := xs
  · simp at hxl
  obtain rfl : xs = [] := by
    cases xs with
    | nil => rfl
    | cons c cs => simp at hxl
  clear hxl
  have f0 := hf 0 _ rfl
  change DataW.trod enc Tryd.prog w 0 spare held n 9 ((List.drop 0 [k0, k1]).take (Tryd.prog.cellsOf 9)) = some y0 at f0
  rw [show Tryd.prog.cellsOf 9 = 1 from by kernel_rfl] at f0
  replace f0 : DataW.trod enc Tryd.prog w 0 spare held n 9 [k0] = some _ := f0
  obtain ⟨d0, e0⟩ := strOfC f0
  have f1 := hf 1 _ rfl
  change DataW.trod enc Tryd.prog w 0 spare held n 32 ((List.drop 1 [k0, k1]).take (Tryd.prog.cellsOf 32)) = some y1 at f1
  rw [show Tryd.prog.cellsOf 32 = 1 from by kernel_rfl] at f1
  replace f1 : DataW.trod enc Tryd.prog w 0 spare held n 32 [k1] = some _ := f1
  obtain ⟨a1, n1, c1, e1⟩ := sliceOfC Tryd.underlying32 f1
  cases e0
  cases e1
  exact ⟨_, _, _, _, rfl⟩

theorem exprShapeC {fuel : Nat} {cs : List Value} {x : DataW H × List MemPlace} (h : DataW.trod enc Tryd.prog w 0 spare held fuel 58 cs = some x) :
    ∃ (k i : Int) (s s1 s2 : ByteArray) (a : Option Addr) (m c : Nat) (a1 : Option Addr) (m1 c1 : Nat) (p : Int), cs = [.int .u8 k, .int .i64 i, .string s, .string s1, .string s2, .slice a m c, .slice a1 m1 c1, .int .i64 p] := by
  obtain ⟨xs, n, rfl, rfl, hlen, hxl, hf⟩ := DataW.trod_struct Tryd.underlying58 h
  rw [show Tryd.prog.cellsOf 58 = 8 from by kernel_rfl] at hlen
  obtain _ | ⟨k0, cs⟩ := cs
  · simp at hlen
  obtain _ | ⟨k1, cs⟩ := cs
  · simp at hlen
  obtain _ | ⟨k2, cs⟩ := cs
  · simp at hlen
  obtain _ | ⟨k3, cs⟩ := cs
  · simp at hlen
  obtain _ | ⟨k4, cs⟩ := cs
  · simp at hlen
  obtain _ | ⟨k5, cs⟩ := cs
  · simp at hlen
  obtain _ | ⟨k6, cs⟩ := cs
  · simp at hlen
  obtain _ | ⟨k7, cs⟩ := cs
  · simp at hlen
  obtain rfl : cs = [] := by
    cases cs with
    | nil => rfl
    | cons c cs => simp at hlen
  clear hlen
  obtain _ | ⟨y0, xs⟩ := xs
  · simp at hxl
  obtain _ | ⟨y1, xs⟩ := xs
  · simp at hxl
  obtain _ | ⟨y2, xs⟩ := xs
  · simp at hxl
  obtain _ | ⟨y3, xs⟩ := xs
  · simp at hxl
  obtain _ | ⟨y4, xs⟩ := xs
  · simp at hxl
  obtain _ | ⟨y5, xs⟩ := xs
  · simp at hxl
  obtain _ | ⟨y6, xs⟩ := xs
  · simp at hxl
  obtain rfl : xs = [] := by
    cases xs with
    | nil => rfl
    | cons c cs => simp at hxl
  clear hxl
  have f0 := hf 0 _ rfl
  change DataW.trod enc Tryd.prog w 0 spare held n 5 ((List.drop 0 [k0, k1, k2, k3, k4, k5, k6, k7]).take (Tryd.prog.cellsOf 5)) = some y0 at f0
  rw [show Tryd.prog.cellsOf 5 = 1 from by kernel_rfl] at f0
  replace f0 : DataW.trod enc Tryd.prog w 0 spare held n 5 [k0] = some _ := f0
  obtain ⟨d0, e0, b0⟩ := byteOfC f0
  have f1 := hf 1 _ rfl
  change DataW.trod enc Tryd.prog w 0 spare held n 2 ((List.drop 1 [k0, k1, k2, k3, k4, k5, k6, k7]).take (Tryd.prog.cellsOf 2)) = some y1 at f1
  rw [show Tryd.prog.cellsOf 2 = 1 from by kernel_rfl] at f1
  replace f1 : DataW.trod enc Tryd.prog w 0 spare held n 2 [k1] = some _ := f1
  obtain ⟨d1, e1⟩ := int64OfC f1
  have f2 := hf 2 _ rfl
  change DataW.trod enc Tryd.prog w 0 spare held n 9 ((List.drop 2 [k0, k1, k2, k3, k4, k5, k6, k7]).take (Tryd.prog.cellsOf 9)) = some y2 at f2
  rw [show Tryd.prog.cellsOf 9 = 1 from by kernel_rfl] at f2
  replace f2 : DataW.trod enc Tryd.prog w 0 spare held n 9 [k2] = some _ := f2
  obtain ⟨d2, e2⟩ := strOfC f2
  have f3 := hf 3 _ rfl
  change DataW.trod enc Tryd.prog w 0 spare held n 9 ((List.drop 3 [k0, k1, k2, k3, k4, k5, k6, k7]).take (Tryd.prog.cellsOf 9)) = some y3 at f3
  rw [show Tryd.prog.cellsOf 9 = 1 from by kernel_rfl] at f3
  replace f3 : DataW.trod enc Tryd.prog w 0 spare held n 9 [k3] = some _ := f3
  obtain ⟨d3, e3⟩ := strOfC f3
  have f4 := hf 4 _ rfl
  change DataW.trod enc Tryd.prog w 0 spare held n 55 ((List.drop 4 [k0, k1, k2, k3, k4, k5, k6, k7]).take (Tryd.prog.cellsOf 55)) = some y4 at f4
  rw [show Tryd.prog.cellsOf 55 = 2 from by kernel_rfl] at f4
  replace f4 : DataW.trod enc Tryd.prog w 0 spare held n 55 [k4, k5] = some _ := f4
  obtain ⟨s4, a4, n4, c4, e4⟩ := placeShapeC f4
  have f5 := hf 5 _ rfl
  change DataW.trod enc Tryd.prog w 0 spare held n 56 ((List.drop 6 [k0, k1, k2, k3, k4, k5, k6, k7]).take (Tryd.prog.cellsOf 56)) = some y5 at f5
  rw [show Tryd.prog.cellsOf 56 = 1 from by kernel_rfl] at f5
  replace f5 : DataW.trod enc Tryd.prog w 0 spare held n 56 [k6] = some _ := f5
  obtain ⟨a5, n5, c5, e5⟩ := sliceOfC Tryd.underlying56 f5
  have f6 := hf 6 _ rfl
  change DataW.trod enc Tryd.prog w 0 spare held n 3 ((List.drop 7 [k0, k1, k2, k3, k4, k5, k6, k7]).take (Tryd.prog.cellsOf 3)) = some y6 at f6
  rw [show Tryd.prog.cellsOf 3 = 1 from by kernel_rfl] at f6
  replace f6 : DataW.trod enc Tryd.prog w 0 spare held n 3 [k7] = some _ := f6
  obtain ⟨d6, e6⟩ := intOfC f6
  cases e0
  cases e1
  cases e2
  cases e3
  cases e4
  cases e5
  cases e6
  exact ⟨_, _, _, _, _, _, _, _, _, _, _, _, rfl⟩

theorem fieldOfC {fuel : Nat} {cs : List Value} {x : DataW H × List MemPlace} (h : DataW.trod enc Tryd.prog w 0 spare held fuel 70 cs = some x) (hw : Within Tryd.prog 70 x.1) :
    ∃ (s : ByteArray) (v : VFd), cs = fieldCells s v ∧ s.size ≤ strMax := by
  obtain ⟨xs, n, rfl, rfl, hlen, hxl, hf⟩ := DataW.trod_struct Tryd.underlying70 h
  rw [show Tryd.prog.cellsOf 70 = 4 from by kernel_rfl] at hlen
  obtain _ | ⟨k0, cs⟩ := cs
  · simp at hlen
  obtain _ | ⟨k1, cs⟩ := cs
  · simp at hlen
  obtain _ | ⟨k2, cs⟩ := cs
  · simp at hlen
  obtain _ | ⟨k3, cs⟩ := cs
  · simp at hlen
  obtain rfl : cs = [] := by
    cases cs with
    | nil => rfl
    | cons c cs => simp at hlen
  clear hlen
  obtain _ | ⟨y0, xs⟩ := xs
  · simp at hxl
  obtain _ | ⟨y1, xs⟩ := xs
  · simp at hxl
  obtain rfl : xs = [] := by
    cases xs with
    | nil => rfl
    | cons c cs => simp at hxl
  clear hxl
  have w0 : Within Tryd.prog 9 y0.1 := fun q hq => hw q (by
    simp only [DataW.weights, Tryd.underlying70]
    exact List.mem_append.2 (.inl hq))
  have f0 := hf 0 _ rfl
  change DataW.trod enc Tryd.prog w 0 spare held n 9 ((List.drop 0 [k0, k1, k2, k3]).take (Tryd.prog.cellsOf 9)) = some y0 at f0
  rw [show Tryd.prog.cellsOf 9 = 1 from by kernel_rfl] at f0
  replace f0 : DataW.trod enc Tryd.prog w 0 spare held n 9 [k0] = some _ := f0
  obtain ⟨d0, e0, b0⟩ := textOf f0 w0
  have f1 := hf 1 _ rfl
  change DataW.trod enc Tryd.prog w 0 spare held n 52 ((List.drop 1 [k0, k1, k2, k3]).take (Tryd.prog.cellsOf 52)) = some y1 at f1
  rw [show Tryd.prog.cellsOf 52 = 3 from by kernel_rfl] at f1
  replace f1 : DataW.trod enc Tryd.prog w 0 spare held n 52 [k1, k2, k3] = some _ := f1
  obtain ⟨t1, s1, a1, n1, c1, e1⟩ := typeShapeC f1
  cases e0
  cases e1
  exact ⟨d0, ⟨_, _, _⟩, rfl, b0⟩

theorem fieldsOfC {fuel : Nat} {cs : List Value} {x : DataW H × List MemPlace} (h : DataW.trod enc Tryd.prog w 0 spare held fuel 49 cs = some x) (hw : Within Tryd.prog 49 x.1) :
    ∃ (l : List ByteArray) (v : Value), cs = [v] ∧ FdIn w.heap.size w l v := by
  obtain ⟨v, len, n, b, o, rfl, hs, hel⟩ := slice_openP Tryd.underlying49 (show Tryd.prog.cellsOf 70 = 4 from by kernel_rfl) (by omega) h hw
  obtain ⟨l, hl, hr⟩ := RowG.mk (k := 4) (P := FdAt) (w := w) (b := b) (n := len) (o := o) (fun i hi => by
    obtain ⟨ci, y, h1, h2, h3⟩ := hel i hi
    obtain ⟨x, v, rfl, hx⟩ := fieldOfC h2 h3
    exact ⟨x, hx, v, h1⟩)
  exact ⟨l, v, rfl, b, o, by rw [hl]; exact hs, hr⟩

theorem itemOfC {fuel : Nat} {cs : List Value} {x : DataW H × List MemPlace} (h : DataW.trod enc Tryd.prog w 0 spare held fuel 60 cs = some x) (hw : Within Tryd.prog 60 x.1) :
    ∃ (x : TT) (v : VT), cs = x.cells v ∧ x.In w.heap.size w v := by
  obtain ⟨xs, n, rfl, rfl, hlen, hxl, hf⟩ := DataW.trod_struct Tryd.underlying60 h
  rw [show Tryd.prog.cellsOf 60 = 16 from by kernel_rfl] at hlen
  obtain _ | ⟨k0, cs⟩ := cs
  · simp at hlen
  obtain _ | ⟨k1, cs⟩ := cs
  · simp at hlen
  obtain _ | ⟨k2, cs⟩ := cs
  · simp at hlen
  obtain _ | ⟨k3, cs⟩ := cs
  · simp at hlen
  obtain _ | ⟨k4, cs⟩ := cs
  · simp at hlen
  obtain _ | ⟨k5, cs⟩ := cs
  · simp at hlen
  obtain _ | ⟨k6, cs⟩ := cs
  · simp at hlen
  obtain _ | ⟨k7, cs⟩ := cs
  · simp at hlen
  obtain _ | ⟨k8, cs⟩ := cs
  · simp at hlen
  obtain _ | ⟨k9, cs⟩ := cs
  · simp at hlen
  obtain _ | ⟨k10, cs⟩ := cs
  · simp at hlen
  obtain _ | ⟨k11, cs⟩ := cs
  · simp at hlen
  obtain _ | ⟨k12, cs⟩ := cs
  · simp at hlen
  obtain _ | ⟨k13, cs⟩ := cs
  · simp at hlen
  obtain _ | ⟨k14, cs⟩ := cs
  · simp at hlen
  obtain _ | ⟨k15, cs⟩ := cs
  · simp at hlen
  obtain rfl : cs = [] := by
    cases cs with
    | nil => rfl
    | cons c cs => simp at hlen
  clear hlen
  obtain _ | ⟨y0, xs⟩ := xs
  · simp at hxl
  obtain _ | ⟨y1, xs⟩ := xs
  · simp at hxl
  obtain _ | ⟨y2, xs⟩ := xs
  · simp at hxl
  obtain _ | ⟨y3, xs⟩ := xs
  · simp at hxl
  obtain _ | ⟨y4, xs⟩ := xs
  · simp at hxl
  obtain _ | ⟨y5, xs⟩ := xs
  · simp at hxl
  obtain _ | ⟨y6, xs⟩ := xs
  · simp at hxl
  obtain rfl : xs = [] := by
    cases xs with
    | nil => rfl
    | cons c cs => simp at hxl
  clear hxl
  have w1 : Within Tryd.prog 9 y1.1 := fun q hq => hw q (by
    simp only [DataW.weights, Tryd.underlying60]
    exact List.mem_append.2 (.inr (List.mem_append.2 (.inl hq))))
  have w2 : Within Tryd.prog 49 y2.1 := fun q hq => hw q (by
    simp only [DataW.weights, Tryd.underlying60]
    exact List.mem_append.2 (.inr (List.mem_append.2 (.inr (List.mem_append.2 (.inl hq))))))
  have f0 := hf 0 _ rfl
  change DataW.trod enc Tryd.prog w 0 spare held n 5 ((List.drop 0 [k0, k1, k2, k3, k4, k5, k6, k7, k8, k9, k10, k11, k12, k13, k14, k15]).take (Tryd.prog.cellsOf 5)) = some y0 at f0
  rw [show Tryd.prog.cellsOf 5 = 1 from by kernel_rfl] at f0
  replace f0 : DataW.trod enc Tryd.prog w 0 spare held n 5 [k0] = some _ := f0
  obtain ⟨d0, e0, b0⟩ := byteOfC f0
  have f1 := hf 1 _ rfl
  change DataW.trod enc Tryd.prog w 0 spare held n 9 ((List.drop 1 [k0, k1, k2, k3, k4, k5, k6, k7, k8, k9, k10, k11, k12, k13, k14, k15]).take (Tryd.prog.cellsOf 9)) = some y1 at f1
  rw [show Tryd.prog.cellsOf 9 = 1 from by kernel_rfl] at f1
  replace f1 : DataW.trod enc Tryd.prog w 0 spare held n 9 [k1] = some _ := f1
  obtain ⟨d1, e1, b1⟩ := textOf f1 w1
  have f2 := hf 2 _ rfl
  change DataW.trod enc Tryd.prog w 0 spare held n 49 ((List.drop 2 [k0, k1, k2, k3, k4, k5, k6, k7, k8, k9, k10, k11, k12, k13, k14, k15]).take (Tryd.prog.cellsOf 49)) = some y2 at f2
  rw [show Tryd.prog.cellsOf 49 = 1 from by kernel_rfl] at f2
  replace f2 : DataW.trod enc Tryd.prog w 0 spare held n 49 [k2] = some _ := f2
  obtain ⟨d2, v2, e2, b2⟩ := fieldsOfC f2 w2
  have f3 := hf 3 _ rfl
  change DataW.trod enc Tryd.prog w 0 spare held n 52 ((List.drop 3 [k0, k1, k2, k3, k4, k5, k6, k7, k8, k9, k10, k11, k12, k13, k14, k15]).take (Tryd.prog.cellsOf 52)) = some y3 at f3
  rw [show Tryd.prog.cellsOf 52 = 3 from by kernel_rfl] at f3
  replace f3 : DataW.trod enc Tryd.prog w 0 spare held n 52 [k3, k4, k5] = some _ := f3
  obtain ⟨t3, s3, a3, n3, c3, e3⟩ := typeShapeC f3
  have f4 := hf 4 _ rfl
  change DataW.trod enc Tryd.prog w 0 spare held n 53 ((List.drop 6 [k0, k1, k2, k3, k4, k5, k6, k7, k8, k9, k10, k11, k12, k13, k14, k15]).take (Tryd.prog.cellsOf 53)) = some y4 at f4
  rw [show Tryd.prog.cellsOf 53 = 1 from by kernel_rfl] at f4
  replace f4 : DataW.trod enc Tryd.prog w 0 spare held n 53 [k6] = some _ := f4
  obtain ⟨a4, n4, c4, e4⟩ := sliceOfC Tryd.underlying53 f4
  have f5 := hf 5 _ rfl
  change DataW.trod enc Tryd.prog w 0 spare held n 58 ((List.drop 7 [k0, k1, k2, k3, k4, k5, k6, k7, k8, k9, k10, k11, k12, k13, k14, k15]).take (Tryd.prog.cellsOf 58)) = some y5 at f5
  rw [show Tryd.prog.cellsOf 58 = 8 from by kernel_rfl] at f5
  replace f5 : DataW.trod enc Tryd.prog w 0 spare held n 58 [k7, k8, k9, k10, k11, k12, k13, k14] = some _ := f5
  obtain ⟨p0, p1, p2, p3, p4, p5, p6, p7, p8, p9, q0, q1, e5⟩ := exprShapeC f5
  have f6 := hf 6 _ rfl
  change DataW.trod enc Tryd.prog w 0 spare held n 3 ((List.drop 15 [k0, k1, k2, k3, k4, k5, k6, k7, k8, k9, k10, k11, k12, k13, k14, k15]).take (Tryd.prog.cellsOf 3)) = some y6 at f6
  rw [show Tryd.prog.cellsOf 3 = 1 from by kernel_rfl] at f6
  replace f6 : DataW.trod enc Tryd.prog w 0 spare held n 3 [k15] = some _ := f6
  obtain ⟨d6, e6⟩ := intOfC f6
  cases e0
  cases e1
  cases e2
  cases e3
  cases e4
  cases e5
  cases e6
  exact ⟨⟨d0, d1, d2⟩, ⟨_, t3, s3, a3, n3, c3, a4, n4, c4, p0, p1, p2, p3, p4, p5, p6, p7, p8, p9, q0, q1, d6⟩, rfl, b0, b1, b2⟩

theorem itemsOfC {fuel : Nat} {cs : List Value} {x : DataW H × List MemPlace} (h : DataW.trod enc Tryd.prog w 0 spare held fuel 23 cs = some x) (hw : Within Tryd.prog 23 x.1) :
    ∃ (l : List TT) (v : Value), cs = [v] ∧ TsIn w.heap.size w l v := by
  obtain ⟨v, len, n, b, o, rfl, hs, hel⟩ := slice_openP Tryd.underlying23 (show Tryd.prog.cellsOf 60 = 16 from by kernel_rfl) (by omega) h hw
  obtain ⟨l, hl, hr⟩ := RowG.mk (k := 16) (P := TAt w.heap.size) (w := w) (b := b) (n := len) (o := o) (fun i hi => by
    obtain ⟨ci, y, h1, h2, h3⟩ := hel i hi
    obtain ⟨x, v, rfl, hx⟩ := itemOfC h2 h3
    exact ⟨x, v, h1, hx⟩)
  exact ⟨l, v, rfl, b, o, by rw [hl]; exact hs, hr⟩

theorem unitOfC {fuel : Nat} {cs : List Value} {x : DataW H × List MemPlace} (h : DataW.trod enc Tryd.prog w 0 spare held fuel 25 cs = some x) (hw : Within Tryd.prog 25 x.1) :
    ∃ (x : UU) (v : VU), cs = x.cells v ∧ x.In w.heap.size w v := by
  obtain ⟨xs, n, rfl, rfl, hlen, hxl, hf⟩ := DataW.trod_struct Tryd.underlying25 h
  rw [show Tryd.prog.cellsOf 25 = 3 from by kernel_rfl] at hlen
  obtain _ | ⟨k0, cs⟩ := cs
  · simp at hlen
  obtain _ | ⟨k1, cs⟩ := cs
  · simp at hlen
  obtain _ | ⟨k2, cs⟩ := cs
  · simp at hlen
  obtain rfl : cs = [] := by
    cases cs with
    | nil => rfl
    | cons c cs => simp at hlen
  clear hlen
  obtain _ | ⟨y0, xs⟩ := xs
  · simp at hxl
  obtain _ | ⟨y1, xs⟩ := xs
  · simp at hxl
  obtain _ | ⟨y2, xs⟩ := xs
  · simp at hxl
  obtain rfl : xs = [] := by
    cases xs with
    | nil => rfl
    | cons c cs => simp at hxl
  clear hxl
  have w0 : Within Tryd.prog 22 y0.1 := fun q hq => hw q (by
    simp only [DataW.weights, Tryd.underlying25]
    exact List.mem_append.2 (.inl hq))
  have w2 : Within Tryd.prog 23 y2.1 := fun q hq => hw q (by
    simp only [DataW.weights, Tryd.underlying25]
    exact List.mem_append.2 (.inr (List.mem_append.2 (.inr (List.mem_append.2 (.inl hq))))))
  have f0 := hf 0 _ rfl
  change DataW.trod enc Tryd.prog w 0 spare held n 22 ((List.drop 0 [k0, k1, k2]).take (Tryd.prog.cellsOf 22)) = some y0 at f0
  rw [show Tryd.prog.cellsOf 22 = 1 from by kernel_rfl] at f0
  replace f0 : DataW.trod enc Tryd.prog w 0 spare held n 22 [k0] = some _ := f0
  obtain ⟨d0, v0, e0, b0⟩ := funcsOfC f0 w0
  have f1 := hf 1 _ rfl
  change DataW.trod enc Tryd.prog w 0 spare held n 3 ((List.drop 1 [k0, k1, k2]).take (Tryd.prog.cellsOf 3)) = some y1 at f1
  rw [show Tryd.prog.cellsOf 3 = 1 from by kernel_rfl] at f1
  replace f1 : DataW.trod enc Tryd.prog w 0 spare held n 3 [k1] = some _ := f1
  obtain ⟨d1, e1⟩ := intOfC f1
  have f2 := hf 2 _ rfl
  change DataW.trod enc Tryd.prog w 0 spare held n 23 ((List.drop 2 [k0, k1, k2]).take (Tryd.prog.cellsOf 23)) = some y2 at f2
  rw [show Tryd.prog.cellsOf 23 = 1 from by kernel_rfl] at f2
  replace f2 : DataW.trod enc Tryd.prog w 0 spare held n 23 [k2] = some _ := f2
  obtain ⟨d2, v2, e2, b2⟩ := itemsOfC f2 w2
  cases e0
  cases e1
  cases e2
  exact ⟨⟨d0, d1, d2⟩, ⟨_, _⟩, rfl, b0, b2⟩

end
end Go.Proofs.YtlbdoomknjiilaaDoor
