/- What came in as data lies in memory as places, within the sizes that the reach allows. -/
import Derived.Test.YtlbdoomknjiilaaDoorPathsMem
import Derived.Test.YtlbdoomknjiilaaDoorChecked
import Derived.WalkKit
import Derived.ChangeArms
import Derived.ChangeSlices
import Derived.SizedLaws
import Derived.Deep.MidRow
namespace Go.Proofs.YtlbdoomknjiilaaDoor
open Go.RowKit
set_option linter.unusedVariables false

section
variable {H : Type} {enc : TypeId × Value → H} {w : World} {spare : Nat → Bool} {held : Bool}
theorem cells_atP {a : Addr} {n : Nat} {cs : List Value} (h : w.cells? 0 a n = some cs) (hn : 0 < n) : ∃ b o, a = ⟨b, o, none⟩ ∧ cs.length = n ∧ w.rangeAt b o cs ∧ b < w.heap.size := by
  obtain ⟨_, hl, hc⟩ := World.cells?_some h
  have h0 := hc 0 hn
  have e0 : a.add 0 = a := by simp [Addr.add]
  rw [e0, List.getElem?_eq_getElem (by omega)] at h0
  obtain ⟨b, o, s⟩ := a
  have hs : s = none := by
    cases s with
    | none => rfl
    | some k =>
      unfold World.cell? at h0
      simp at h0
      split at h0 <;> simp at h0
  subst hs
  refine ⟨b, o, rfl, hl, fun i v hi => ?_, World.block_lt_of_cell? _ _ h0⟩
  have hil : i < n := by rw [← hl]; exact (List.getElem?_eq_some_iff.1 hi).1
  have := hc i hil
  rw [hi] at this
  rw [← this]
  congr 1
  exact (Addr.add_mid b o i).symm
theorem weights_all {P : Program} {e : TypeId} : ∀ {l : List (DataW H)} {d : DataW H}, d ∈ l → ∀ n ∈ d.weights P e, n ∈ DataW.weightsAll P e l
  | d0 :: l, d, hd, n, hn => by
    rw [DataW.weightsAll]
    rcases List.mem_cons.1 hd with rfl | hd
    · exact List.mem_append.2 (.inl hn)
    · exact List.mem_append.2 (.inr (weights_all hd n hn))
def Within (P : Program) (t : TypeId) (d : DataW H) : Prop := ∀ n ∈ d.weights P t, n ≤ reachBytes
/-- a slice that came in: each element's cells, what they read as, and its size -/
theorem slice_openP {t e : TypeId} {k fuel : Nat} {cs : List Value} {x : DataW H × List MemPlace} (ht : Tryd.prog.underlying t = some (.slice e)) (hk : Tryd.prog.cellsOf e = k) (hk0 : 0 < k)
    (h : DataW.trod enc Tryd.prog w 0 spare held fuel t cs = some x) (hw : Within Tryd.prog t x.1) :
    ∃ v len n b o, cs = [v] ∧ SlP w.heap.size v len b o ∧ ∀ i, i < len → ∃ ci y, w.rangeAt b (o + i * k) ci ∧ DataW.trod enc Tryd.prog w 0 spare held n e ci = some y ∧ Within Tryd.prog e y.1 := by
  rcases DataW.trod_slice ht h with ⟨rfl, _⟩ | ⟨a, len, cap, elems, rest, n, rfl, rfl, rfl, _, hl, hm, hlen, hel, _, _⟩
  · exact ⟨.slice none 0 0, 0, 0, 0, 0, rfl, ⟨Nat.zero_le _, none, 0, rfl, Nat.le_refl _, .inl rfl⟩, fun i hi => by omega⟩
  · rw [hk] at hel
    by_cases h0 : len = 0
    · subst h0
      exact ⟨.slice (some a) 0 cap, 0, n, 0, 0, rfl, ⟨Nat.zero_le _, some a, cap, rfl, Nat.zero_le _, .inl rfl⟩, fun i hi => by omega⟩
    · have each : ∀ i, i < len → ∃ ci y, w.cells? 0 (a.add (i * k)) k = some ci ∧ DataW.trod enc Tryd.prog w 0 spare held n e ci = some y ∧ Within Tryd.prog e y.1 := by
        intro i hi
        have hi2 := hel i hi
        rw [List.getElem?_eq_getElem (by omega)] at hi2
        obtain ⟨ci, h1, h2⟩ := Option.bind_eq_some_iff.1 hi2
        refine ⟨ci, _, h1, h2, fun q hq => hw q ?_⟩
        simp only [DataW.weights, ht]
        refine List.mem_cons.2 (.inr (List.mem_append.2 (.inl (weights_all (d := (elems[i]'(by omega)).1) ?_ q hq))))
        exact List.mem_map.2 ⟨_, List.getElem_mem _, rfl⟩
      obtain ⟨c0, y0, hc0, _⟩ := each 0 (by omega)
      rw [show a.add (0 * k) = a from by simp [Addr.add]] at hc0
      obtain ⟨b, o, rfl, _, _, hb⟩ := cells_atP hc0 hk0
      refine ⟨_, len, n, b, o, rfl, ⟨by omega, _, cap, rfl, hl, .inr ⟨rfl, hb⟩⟩, fun i hi => ?_⟩
      obtain ⟨ci, y, h1, h2⟩ := each i hi
      rw [Addr.add_mid] at h1
      obtain ⟨b', o', e2, _, h3, _⟩ := cells_atP h1 hk0
      cases e2
      exact ⟨ci, y, h3, h2⟩
theorem textOf {fuel : Nat} {cs : List Value} {x : DataW H × List MemPlace} (h : DataW.trod enc Tryd.prog w 0 spare held fuel 9 cs = some x) (hw : Within Tryd.prog 9 x.1) :
    ∃ s : ByteArray, cs = [.string s] ∧ s.size ≤ strMax := by
  obtain ⟨s, rfl, rfl, _⟩ := DataW.trod_string Tryd.underlying9 h
  refine ⟨s, rfl, ?_⟩
  have := hw s.data.toList.length (by simp [DataW.weights])
  unfold reachBytes at this
  unfold strMax
  have e : s.data.toList.length = s.size := rfl
  omega
theorem RowS.mk {b : Nat} : ∀ {n o : Nat}, (∀ i, i < n → ∃ s : ByteArray, s.size ≤ strMax ∧ w.cell? ⟨b, o + i, none⟩ = some (.string s)) → ∃ l : List ByteArray, l.length = n ∧ RowS w b o l
  | 0, _, _ => ⟨[], rfl, fun j s h => by cases h⟩
  | n + 1, o, h => by
    obtain ⟨s, h1, h2⟩ := h 0 (by omega)
    obtain ⟨l, hl, hr⟩ := RowS.mk (n := n) (o := o + 1) (fun i hi => by
      obtain ⟨s, h1, h2⟩ := h (i + 1) (by omega)
      exact ⟨s, h1, by rwa [show o + 1 + i = o + (i + 1) from by omega]⟩)
    refine ⟨s :: l, by simp [hl], fun j t hj => ?_⟩
    match j, hj with
    | 0, hj => cases hj; exact ⟨h1, h2⟩
    | j + 1, hj =>
      have := hr j t (by simpa using hj)
      exact ⟨this.1, by rw [show o + (j + 1) = o + 1 + j from by omega]; exact this.2⟩
theorem stringsOf {fuel : Nat} {cs : List Value} {x : DataW H × List MemPlace} (h : DataW.trod enc Tryd.prog w 0 spare held fuel 32 cs = some x) (hw : Within Tryd.prog 32 x.1) :
    ∃ (l : List ByteArray) (v : Value), cs = [v] ∧ SIn w.heap.size w l v := by
  obtain ⟨v, len, n, b, o, rfl, hs, hel⟩ := slice_openP Tryd.underlying32 (show Tryd.prog.cellsOf 9 = 1 from by kernel_rfl) (by omega) h hw
  obtain ⟨l, hl, hr⟩ := RowS.mk (w := w) (b := b) (n := len) (o := o) (fun i hi => by
    obtain ⟨ci, y, h1, h2, h3⟩ := hel i hi
    obtain ⟨s, rfl, hs⟩ := textOf h2 h3
    exact ⟨s, hs, by have := h1 0 (.string s) rfl; simpa using this⟩)
  exact ⟨l, v, rfl, b, o, by rw [hl]; exact hs, hr⟩
theorem placeOf {fuel : Nat} {cs : List Value} {x : DataW H × List MemPlace} (h : DataW.trod enc Tryd.prog w 0 spare held fuel 55 cs = some x) (hw : Within Tryd.prog 55 x.1) :
    ∃ (p : PP) (v : Value), cs = [.string p.name, v] ∧ p.In w.heap.size w v := by
  obtain ⟨xs, n, rfl, rfl, hlen, hxl, hf⟩ := DataW.trod_struct Tryd.underlying55 h
  rw [show Tryd.prog.cellsOf 55 = 2 from by kernel_rfl] at hlen
  obtain _ | ⟨k0, cs⟩ := cs
  · simp at hlen
  obtain _ | ⟨k1, cs⟩ := cs
  · simp at hlen
  obtain rfl : cs = [] := by
    cases cs with
    | nil => rfl
    | cons c cs => simp at hlen
  clear hlen
  obtain ⟨y0, y1, rfl⟩ : ∃ y0 y1, xs = [y0, y1] := by
    rcases xs with _ | ⟨y0, _ | ⟨y1, _ | ⟨y2, xs⟩⟩⟩
    · simp at hxl
    · simp at hxl
    · exact ⟨y0, y1, rfl⟩
    · simp at hxl
  have w0 : Within Tryd.prog 9 y0.1 := fun q hq => hw q (by
    simp only [DataW.weights, Tryd.underlying55]
    exact List.mem_append.2 (.inl hq))
  have w1 : Within Tryd.prog 32 y1.1 := fun q hq => hw q (by
    simp only [DataW.weights, Tryd.underlying55]
    exact List.mem_append.2 (.inr (List.mem_append.2 (.inl hq))))
  have fa := hf 0 _ rfl
  change DataW.trod enc Tryd.prog w 0 spare held n 9 ((List.drop 0 [k0, k1]).take (Tryd.prog.cellsOf 9)) = some y0 at fa
  rw [show Tryd.prog.cellsOf 9 = 1 from by kernel_rfl] at fa
  replace fa : DataW.trod enc Tryd.prog w 0 spare held n 9 [k0] = some _ := fa
  have fb := hf 1 _ rfl
  change DataW.trod enc Tryd.prog w 0 spare held n 32 ((List.drop 1 [k0, k1]).take (Tryd.prog.cellsOf 32)) = some y1 at fb
  rw [show Tryd.prog.cellsOf 32 = 1 from by kernel_rfl] at fb
  replace fb : DataW.trod enc Tryd.prog w 0 spare held n 32 [k1] = some _ := fb
  obtain ⟨s, e0, hs⟩ := textOf fa w0
  obtain ⟨l, v, e1, hl⟩ := stringsOf fb w1
  cases e0
  cases e1
  exact ⟨⟨s, l⟩, _, rfl, hs, hl⟩
theorem RowL.mk {B b : Nat} : ∀ {n o : Nat}, (∀ i, i < n → ∃ (x : PP) (v : Value), w.cell? ⟨b, o + i * 2, none⟩ = some (.string x.name) ∧ w.cell? ⟨b, o + i * 2 + 1, none⟩ = some v ∧ x.In B w v) → ∃ l : List PP, l.length = n ∧ RowL B w b o l
  | 0, _, _ => ⟨[], rfl, fun j s h => by cases h⟩
  | n + 1, o, h => by
    obtain ⟨s, v, h1, h2, h3⟩ := h 0 (by omega)
    obtain ⟨l, hl, hr⟩ := RowL.mk (B := B) (n := n) (o := o + 2) (fun i hi => by
      obtain ⟨s, v, h1, h2, h3⟩ := h (i + 1) (by omega)
      exact ⟨s, v, by rwa [show o + 2 + i * 2 = o + (i + 1) * 2 from by omega], by rwa [show o + 2 + i * 2 + 1 = o + (i + 1) * 2 + 1 from by omega], h3⟩)
    refine ⟨s :: l, by simp [hl], fun j t hj => ?_⟩
    match j, hj with
    | 0, hj => cases hj; exact ⟨v, h1, h2, h3⟩
    | j + 1, hj =>
      obtain ⟨u, g1, g2, g3⟩ := hr j t (by simpa using hj)
      exact ⟨u, by rw [show o + (j + 1) * 2 = o + 2 + j * 2 from by omega]; exact g1, by rw [show o + (j + 1) * 2 + 1 = o + 2 + j * 2 + 1 from by omega]; exact g2, g3⟩
/-- the sizes, argument by argument -/
theorem within_of {P : Program} {ts : List TypeId} {ds : List (DataW H)} (h : (DataW.weightsEach P ts ds).all (· ≤ reachBytes) = true) {j : Nat} {t : TypeId} {d : DataW H} (ht : ts[j]? = some t) (hd : ds[j]? = some d) : Within P t d := fun n hn => by
  have := List.all_eq_true.1 h n (DataW.weights_mem_each ht hd n hn)
  simpa using this
end
end Go.Proofs.YtlbdoomknjiilaaDoor
