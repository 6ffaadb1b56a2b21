/- What came in as data lies in memory as a tree: types, places, expressions (made by gen_open.py). -/
import Derived.Test.YtojeijeimpffgaaGreatRJoinA
import Derived.Test.YtojeijeimpffgaaGreatChecked
import Derived.WalkKit
import Derived.ChangeArms
import Derived.ChangeSlices
namespace Go.Proofs.YtojeijeimpffgaaGreat
open Go.RowKit
set_option linter.unusedVariables false

section
variable {H : Type} {enc : TypeId × Value → H} {w : World} {spare : Nat → Bool} {held : Bool}
theorem cells_at {a : Addr} {n : Nat} {cs : List Value} (h : w.cells? 0 a n = some cs) (hn : 0 < n) : ∃ b o, a = ⟨b, o, none⟩ ∧ cs.length = n ∧ CellsAt w b o cs ∧ b < w.heap.size := by
  obtain ⟨_, hl, hc⟩ := World.cells?_some h
  have h0 := hc 0 hn
  have e0 : a.add 0 = a := by simp [Addr.add]
  rw [e0, List.getElem?_eq_getElem (by omega)] at h0
  obtain ⟨b, o, s⟩ := a
  have hs : s = none := by
    cases s with
    | none => rfl
    | some k =>
      unfold World.cell? at h0
      simp at h0
      split at h0 <;> simp at h0
  subst hs
  refine ⟨b, o, rfl, hl, fun i v hi => ?_, World.block_lt_of_cell? _ _ h0⟩
  have hil : i < n := by rw [← hl]; exact (List.getElem?_eq_some_iff.1 hi).1
  have := hc i hil
  rw [hi] at this
  rw [← this]
  congr 1
  unfold Addr.add
  split
  · rename_i h; subst h; rfl
  · rfl
/-- a slice that came in: each element's cells, and what they read as -/
theorem slice_open {t e : TypeId} {k fuel : Nat} {cs : List Value} {x : DataW H × List MemPlace} (ht : Tryz.prog.underlying t = some (.slice e)) (hk : Tryz.prog.cellsOf e = k) (hk0 : 0 < k)
    (h : DataW.trod enc Tryz.prog w 0 spare held fuel t cs = some x) :
    ∃ ao len cap n b o, cs = [.slice ao len cap] ∧ n < fuel ∧ SlV w.heap.size (.slice ao len cap) len b o ∧ ∀ i, i < len → ∃ ci y, CellsAt w b (o + i * k) ci ∧ DataW.trod enc Tryz.prog w 0 spare held n e ci = some y := by
  rcases DataW.trod_slice ht h with ⟨rfl, _⟩ | ⟨a, len, cap, elems, rest, n, rfl, rfl, _, _, hl, hm, hlen, hel, _, _⟩
  · refine ⟨none, 0, 0, 0, 0, 0, rfl, ?_, ⟨by unfold maxLen; omega, none, 0, rfl, .inl rfl⟩, fun i hi => by omega⟩
    cases fuel with
    | zero => simp [DataW.trod] at h
    | succ f => omega
  · rw [hk] at hel
    by_cases h0 : len = 0
    · subst h0
      exact ⟨some a, 0, cap, n, 0, 0, rfl, by omega, ⟨by unfold maxLen; omega, some a, cap, rfl, .inl rfl⟩, fun i hi => by omega⟩
    · have each : ∀ i, i < len → ∃ ci y, w.cells? 0 (a.add (i * k)) k = some ci ∧ DataW.trod enc Tryz.prog w 0 spare held n e ci = some y := by
        intro i hi
        have hi2 := hel i hi
        rw [List.getElem?_eq_getElem (by omega)] at hi2
        obtain ⟨ci, h1, h2⟩ := Option.bind_eq_some_iff.1 hi2
        exact ⟨ci, _, h1, h2⟩
      obtain ⟨c0, y0, hc0, _⟩ := each 0 (by omega)
      rw [show a.add (0 * k) = a from by simp [Addr.add]] at hc0
      obtain ⟨b, o, rfl, _, _, hb⟩ := cells_at hc0 hk0
      refine ⟨some ⟨b, o, none⟩, len, cap, n, b, o, rfl, by omega, ⟨by omega, _, _, rfl, .inr ⟨rfl, hb⟩⟩, fun i hi => ?_⟩
      obtain ⟨ci, y, h1, h2⟩ := each i hi
      have e1 : (⟨b, o, none⟩ : Addr).add (i * k) = ⟨b, o + i * k, none⟩ := by
        unfold Addr.add
        split
        · rename_i h; rw [h]; rfl
        · rfl
      rw [e1] at h1
      obtain ⟨b', o', e2, _, h3, _⟩ := cells_at h1 hk0
      cases e2
      exact ⟨ci, y, h3, h2⟩
theorem NRow.mk {b : Nat} : ∀ {n o : Nat}, (∀ i, i < n → ∃ s : ByteArray, s.size ≤ maxLen ∧ CellsAt w b (o + i * 1) [.string s]) → ∃ l : List ByteArray, l.length = n ∧ NRow w b o l
  | 0, _, _ => ⟨[], rfl, trivial⟩
  | n + 1, o, h => by
    obtain ⟨s, h1, h2⟩ := h 0 (by omega)
    obtain ⟨l, hl, hr⟩ := NRow.mk (n := n) (o := o + 1) (fun i hi => by
      obtain ⟨s, h1, h2⟩ := h (i + 1) (by omega)
      exact ⟨s, h1, by rwa [show o + 1 + i * 1 = o + (i + 1) * 1 from by omega]⟩)
    exact ⟨s :: l, by simp [hl], ⟨h1, by simpa using h2⟩, hr⟩
theorem PT.Row.mk {B b : Nat} : ∀ {n o : Nat}, (∀ i, i < n → ∃ (t : PT) (v : _), CellsAt w b (o + i * 3) (t.cells v) ∧ t.In B w v) → ∃ l : List PT, l.length = n ∧ PT.Row B w b o l
  | 0, _, _ => ⟨[], rfl, by unfold PT.Row; trivial⟩
  | n + 1, o, h => by
    obtain ⟨s, v, h1, h2⟩ := h 0 (by omega)
    obtain ⟨l, hl, hr⟩ := PT.Row.mk (n := n) (o := o + 3) (fun i hi => by
      obtain ⟨s, v, h1, h2⟩ := h (i + 1) (by omega)
      exact ⟨s, v, by rwa [show o + 3 + i * 3 = o + (i + 1) * 3 from by omega], h2⟩)
    exact ⟨s :: l, by simp [hl], by unfold PT.Row; exact ⟨⟨v, by simpa using h1, h2⟩, hr⟩⟩
theorem PE.Row.mk {B b : Nat} : ∀ {n o : Nat}, (∀ i, i < n → ∃ (t : PE) (v : _), CellsAt w b (o + i * 8) (t.cells v) ∧ t.In B w v) → ∃ l : List PE, l.length = n ∧ PE.Row B w b o l
  | 0, _, _ => ⟨[], rfl, by unfold PE.Row; trivial⟩
  | n + 1, o, h => by
    obtain ⟨s, v, h1, h2⟩ := h 0 (by omega)
    obtain ⟨l, hl, hr⟩ := PE.Row.mk (n := n) (o := o + 8) (fun i hi => by
      obtain ⟨s, v, h1, h2⟩ := h (i + 1) (by omega)
      exact ⟨s, v, by rwa [show o + 8 + i * 8 = o + (i + 1) * 8 from by omega], h2⟩)
    exact ⟨s :: l, by simp [hl], by unfold PE.Row; exact ⟨⟨v, by simpa using h1, h2⟩, hr⟩⟩
theorem PS.Row.mk {B b : Nat} : ∀ {n o : Nat}, (∀ i, i < n → ∃ (t : PS) (v : _), CellsAt w b (o + i * 15) (t.cells v) ∧ t.In B w v) → ∃ l : List PS, l.length = n ∧ PS.Row B w b o l
  | 0, _, _ => ⟨[], rfl, by unfold PS.Row; trivial⟩
  | n + 1, o, h => by
    obtain ⟨s, v, h1, h2⟩ := h 0 (by omega)
    obtain ⟨l, hl, hr⟩ := PS.Row.mk (n := n) (o := o + 15) (fun i hi => by
      obtain ⟨s, v, h1, h2⟩ := h (i + 1) (by omega)
      exact ⟨s, v, by rwa [show o + 15 + i * 15 = o + (i + 1) * 15 from by omega], h2⟩)
    exact ⟨s :: l, by simp [hl], by unfold PS.Row; exact ⟨⟨v, by simpa using h1, h2⟩, hr⟩⟩
theorem PA.Row.mk {B b : Nat} : ∀ {n o : Nat}, (∀ i, i < n → ∃ (t : PA) (v : _), CellsAt w b (o + i * 3) (t.cells v) ∧ t.In B w v) → ∃ l : List PA, l.length = n ∧ PA.Row B w b o l
  | 0, _, _ => ⟨[], rfl, by unfold PA.Row; trivial⟩
  | n + 1, o, h => by
    obtain ⟨s, v, h1, h2⟩ := h 0 (by omega)
    obtain ⟨l, hl, hr⟩ := PA.Row.mk (n := n) (o := o + 3) (fun i hi => by
      obtain ⟨s, v, h1, h2⟩ := h (i + 1) (by omega)
      exact ⟨s, v, by rwa [show o + 3 + i * 3 = o + (i + 1) * 3 from by omega], h2⟩)
    exact ⟨s :: l, by simp [hl], by unfold PA.Row; exact ⟨⟨v, by simpa using h1, h2⟩, hr⟩⟩
theorem PF.Row.mk {B b : Nat} : ∀ {n o : Nat}, (∀ i, i < n → ∃ (t : PF) (v : _), CellsAt w b (o + i * 4) (t.cells v) ∧ t.In B w v) → ∃ l : List PF, l.length = n ∧ PF.Row B w b o l
  | 0, _, _ => ⟨[], rfl, by unfold PF.Row; trivial⟩
  | n + 1, o, h => by
    obtain ⟨s, v, h1, h2⟩ := h 0 (by omega)
    obtain ⟨l, hl, hr⟩ := PF.Row.mk (n := n) (o := o + 4) (fun i hi => by
      obtain ⟨s, v, h1, h2⟩ := h (i + 1) (by omega)
      exact ⟨s, v, by rwa [show o + 4 + i * 4 = o + (i + 1) * 4 from by omega], h2⟩)
    exact ⟨s :: l, by simp [hl], by unfold PF.Row; exact ⟨⟨v, by simpa using h1, h2⟩, hr⟩⟩
theorem PI.Row.mk {B b : Nat} : ∀ {n o : Nat}, (∀ i, i < n → ∃ (t : PI) (v : _), CellsAt w b (o + i * 16) (t.cells v) ∧ t.In B w v) → ∃ l : List PI, l.length = n ∧ PI.Row B w b o l
  | 0, _, _ => ⟨[], rfl, by unfold PI.Row; trivial⟩
  | n + 1, o, h => by
    obtain ⟨s, v, h1, h2⟩ := h 0 (by omega)
    obtain ⟨l, hl, hr⟩ := PI.Row.mk (n := n) (o := o + 16) (fun i hi => by
      obtain ⟨s, v, h1, h2⟩ := h (i + 1) (by omega)
      exact ⟨s, v, by rwa [show o + 16 + i * 16 = o + (i + 1) * 16 from by omega], h2⟩)
    exact ⟨s :: l, by simp [hl], by unfold PI.Row; exact ⟨⟨v, by simpa using h1, h2⟩, hr⟩⟩
theorem typeOf : ∀ (fuel : Nat) (cs : List Value) (x : DataW H × List MemPlace), DataW.trod enc Tryz.prog w 0 spare held fuel 38 cs = some x → ∃ (t : PT) (v : Value), cs = t.cells v ∧ t.In w.heap.size w v := by
  intro fuel
  induction fuel using Nat.strongRecOn with
  | _ fuel ih =>
  intro cs x h
  obtain ⟨xs, n, rfl, rfl, hlen, hxl, hf⟩ := DataW.trod_struct Tryz.underlying38 h
  rw [show Tryz.prog.cellsOf 38 = 3 from by kernel_rfl] at hlen
  obtain _ | ⟨k0, cs⟩ := cs
  · simp at hlen
  obtain _ | ⟨k1, cs⟩ := cs
  · simp at hlen
  obtain _ | ⟨k2, cs⟩ := cs
  · simp at hlen
  obtain rfl : cs = [] := by
    cases cs with
    | nil => rfl
    | cons c cs => simp at hlen
  clear hlen
  have fa := hf 0 _ rfl
  change DataW.trod enc Tryz.prog w 0 spare held n 5 ((List.drop 0 [k0, k1, k2]).take (Tryz.prog.cellsOf 5)) = xs[0]? at fa
  rw [show Tryz.prog.cellsOf 5 = 1 from by kernel_rfl, List.getElem?_eq_getElem (show 0 < xs.length by rw [hxl]; decide)] at fa
  replace fa : DataW.trod enc Tryz.prog w 0 spare held n 5 [k0] = some _ := fa
  have fb := hf 1 _ rfl
  change DataW.trod enc Tryz.prog w 0 spare held n 9 ((List.drop 1 [k0, k1, k2]).take (Tryz.prog.cellsOf 9)) = xs[1]? at fb
  rw [show Tryz.prog.cellsOf 9 = 1 from by kernel_rfl, List.getElem?_eq_getElem (show 1 < xs.length by rw [hxl]; decide)] at fb
  replace fb : DataW.trod enc Tryz.prog w 0 spare held n 9 [k1] = some _ := fb
  have fc := hf 2 _ rfl
  change DataW.trod enc Tryz.prog w 0 spare held n 36 ((List.drop 2 [k0, k1, k2]).take (Tryz.prog.cellsOf 36)) = xs[2]? at fc
  rw [show Tryz.prog.cellsOf 36 = 1 from by kernel_rfl, List.getElem?_eq_getElem (show 2 < xs.length by rw [hxl]; decide)] at fc
  replace fc : DataW.trod enc Tryz.prog w 0 spare held n 36 [k2] = some _ := fc
  obtain ⟨kd, e, _, wa⟩ := DataW.trod_int Tryz.underlying5 fa
  obtain rfl : k0 = .int .u8 kd := by simpa using e
  clear e
  obtain ⟨nm, e, _, wb⟩ := DataW.trod_string Tryz.underlying9 fb
  obtain rfl : k1 = .string nm := by simpa using e
  clear e
  obtain ⟨ax, lx, cx, nx, bx, ox, e, hnx, sx, elx⟩ := slice_open Tryz.underlying36 (show Tryz.prog.cellsOf 38 = 3 from by kernel_rfl) (by omega) fc
  obtain rfl : k2 = .slice ax lx cx := by simpa using e
  clear e
  obtain ⟨Lx, hLx, rLx⟩ := PT.Row.mk (B := w.heap.size) (w := w) (b := bx) (n := lx) (o := ox) (fun i hi => by
    obtain ⟨ci, y, h1, h2⟩ := elx i hi
    obtain ⟨t, v, rfl, hin⟩ := ih nx (by omega) ci y h2
    exact ⟨t, v, h1, hin⟩)
  subst hLx
  exact ⟨.mk kd nm Lx, _, rfl, ⟨wa, wb⟩, bx, ox, sx, rLx⟩
theorem placeOf (fuel : Nat) (cs : List Value) (x : DataW H × List MemPlace) (h : DataW.trod enc Tryz.prog w 0 spare held fuel 42 cs = some x) : ∃ (t : PP) (v : Value), cs = [.string t.name, v] ∧ t.In w.heap.size w v := by
  obtain ⟨xs, n, rfl, rfl, hlen, hxl, hf⟩ := DataW.trod_struct Tryz.underlying42 h
  rw [show Tryz.prog.cellsOf 42 = 2 from by kernel_rfl] at hlen
  obtain _ | ⟨k0, cs⟩ := cs
  · simp at hlen
  obtain _ | ⟨k1, cs⟩ := cs
  · simp at hlen
  obtain rfl : cs = [] := by
    cases cs with
    | nil => rfl
    | cons c cs => simp at hlen
  clear hlen
  have fa := hf 0 _ rfl
  change DataW.trod enc Tryz.prog w 0 spare held n 9 ((List.drop 0 [k0, k1]).take (Tryz.prog.cellsOf 9)) = xs[0]? at fa
  rw [show Tryz.prog.cellsOf 9 = 1 from by kernel_rfl, List.getElem?_eq_getElem (show 0 < xs.length by rw [hxl]; decide)] at fa
  replace fa : DataW.trod enc Tryz.prog w 0 spare held n 9 [k0] = some _ := fa
  have fb := hf 1 _ rfl
  change DataW.trod enc Tryz.prog w 0 spare held n 40 ((List.drop 1 [k0, k1]).take (Tryz.prog.cellsOf 40)) = xs[1]? at fb
  rw [show Tryz.prog.cellsOf 40 = 1 from by kernel_rfl, List.getElem?_eq_getElem (show 1 < xs.length by rw [hxl]; decide)] at fb
  replace fb : DataW.trod enc Tryz.prog w 0 spare held n 40 [k1] = some _ := fb
  obtain ⟨nm, e, _, wa⟩ := DataW.trod_string Tryz.underlying9 fa
  obtain rfl : k0 = .string nm := by simpa using e
  clear e
  obtain ⟨ax, lx, cx, nx, bx, ox, e, hnx, sx, elx⟩ := slice_open Tryz.underlying40 (show Tryz.prog.cellsOf 9 = 1 from by kernel_rfl) (by omega) fb
  obtain rfl : k1 = .slice ax lx cx := by simpa using e
  clear e
  obtain ⟨Lx, hLx, rLx⟩ := NRow.mk (w := w) (b := bx) (n := lx) (o := ox) (fun i hi => by
    obtain ⟨ci, y, h1, h2⟩ := elx i hi
    obtain ⟨st, rfl, _, hst⟩ := DataW.trod_string Tryz.underlying9 h2
    exact ⟨st, hst, h1⟩)
  subst hLx
  exact ⟨⟨nm, Lx⟩, _, rfl, wa, bx, ox, sx, rLx⟩
theorem exprOf : ∀ (fuel : Nat) (cs : List Value) (x : DataW H × List MemPlace), DataW.trod enc Tryz.prog w 0 spare held fuel 45 cs = some x → ∃ (t : PE) (v : VE), cs = t.cells v ∧ t.In w.heap.size w v := by
  intro fuel
  induction fuel using Nat.strongRecOn with
  | _ fuel ih =>
  intro cs x h
  obtain ⟨xs, n, rfl, rfl, hlen, hxl, hf⟩ := DataW.trod_struct Tryz.underlying45 h
  rw [show Tryz.prog.cellsOf 45 = 8 from by kernel_rfl] at hlen
  obtain _ | ⟨k0, cs⟩ := cs
  · simp at hlen
  obtain _ | ⟨k1, cs⟩ := cs
  · simp at hlen
  obtain _ | ⟨k2, cs⟩ := cs
  · simp at hlen
  obtain _ | ⟨k3, cs⟩ := cs
  · simp at hlen
  obtain _ | ⟨k4, cs⟩ := cs
  · simp at hlen
  obtain _ | ⟨k5, cs⟩ := cs
  · simp at hlen
  obtain _ | ⟨k6, cs⟩ := cs
  · simp at hlen
  obtain _ | ⟨k7, cs⟩ := cs
  · simp at hlen
  obtain rfl : cs = [] := by
    cases cs with
    | nil => rfl
    | cons c cs => simp at hlen
  clear hlen
  have fa := hf 0 _ rfl
  change DataW.trod enc Tryz.prog w 0 spare held n 5 ((List.drop 0 [k0, k1, k2, k3, k4, k5, k6, k7]).take (Tryz.prog.cellsOf 5)) = xs[0]? at fa
  rw [show Tryz.prog.cellsOf 5 = 1 from by kernel_rfl, List.getElem?_eq_getElem (show 0 < xs.length by rw [hxl]; decide)] at fa
  replace fa : DataW.trod enc Tryz.prog w 0 spare held n 5 [k0] = some _ := fa
  have fb := hf 1 _ rfl
  change DataW.trod enc Tryz.prog w 0 spare held n 2 ((List.drop 1 [k0, k1, k2, k3, k4, k5, k6, k7]).take (Tryz.prog.cellsOf 2)) = xs[1]? at fb
  rw [show Tryz.prog.cellsOf 2 = 1 from by kernel_rfl, List.getElem?_eq_getElem (show 1 < xs.length by rw [hxl]; decide)] at fb
  replace fb : DataW.trod enc Tryz.prog w 0 spare held n 2 [k1] = some _ := fb
  have fc := hf 2 _ rfl
  change DataW.trod enc Tryz.prog w 0 spare held n 9 ((List.drop 2 [k0, k1, k2, k3, k4, k5, k6, k7]).take (Tryz.prog.cellsOf 9)) = xs[2]? at fc
  rw [show Tryz.prog.cellsOf 9 = 1 from by kernel_rfl, List.getElem?_eq_getElem (show 2 < xs.length by rw [hxl]; decide)] at fc
  replace fc : DataW.trod enc Tryz.prog w 0 spare held n 9 [k2] = some _ := fc
  have fd := hf 3 _ rfl
  change DataW.trod enc Tryz.prog w 0 spare held n 9 ((List.drop 3 [k0, k1, k2, k3, k4, k5, k6, k7]).take (Tryz.prog.cellsOf 9)) = xs[3]? at fd
  rw [show Tryz.prog.cellsOf 9 = 1 from by kernel_rfl, List.getElem?_eq_getElem (show 3 < xs.length by rw [hxl]; decide)] at fd
  replace fd : DataW.trod enc Tryz.prog w 0 spare held n 9 [k3] = some _ := fd
  have fe := hf 4 _ rfl
  change DataW.trod enc Tryz.prog w 0 spare held n 42 ((List.drop 4 [k0, k1, k2, k3, k4, k5, k6, k7]).take (Tryz.prog.cellsOf 42)) = xs[4]? at fe
  rw [show Tryz.prog.cellsOf 42 = 2 from by kernel_rfl, List.getElem?_eq_getElem (show 4 < xs.length by rw [hxl]; decide)] at fe
  replace fe : DataW.trod enc Tryz.prog w 0 spare held n 42 [k4, k5] = some _ := fe
  have ff := hf 5 _ rfl
  change DataW.trod enc Tryz.prog w 0 spare held n 43 ((List.drop 6 [k0, k1, k2, k3, k4, k5, k6, k7]).take (Tryz.prog.cellsOf 43)) = xs[5]? at ff
  rw [show Tryz.prog.cellsOf 43 = 1 from by kernel_rfl, List.getElem?_eq_getElem (show 5 < xs.length by rw [hxl]; decide)] at ff
  replace ff : DataW.trod enc Tryz.prog w 0 spare held n 43 [k6] = some _ := ff
  have fg := hf 6 _ rfl
  change DataW.trod enc Tryz.prog w 0 spare held n 3 ((List.drop 7 [k0, k1, k2, k3, k4, k5, k6, k7]).take (Tryz.prog.cellsOf 3)) = xs[6]? at fg
  rw [show Tryz.prog.cellsOf 3 = 1 from by kernel_rfl, List.getElem?_eq_getElem (show 6 < xs.length by rw [hxl]; decide)] at fg
  replace fg : DataW.trod enc Tryz.prog w 0 spare held n 3 [k7] = some _ := fg
  obtain ⟨op, e, _, wa⟩ := DataW.trod_int Tryz.underlying5 fa
  obtain rfl : k0 = .int .u8 op := by simpa using e
  clear e
  obtain ⟨iv, e, _, wb⟩ := DataW.trod_int Tryz.underlying2 fb
  obtain rfl : k1 = .int .i64 iv := by simpa using e
  clear e
  obtain ⟨nm, e, _, wc⟩ := DataW.trod_string Tryz.underlying9 fc
  obtain rfl : k2 = .string nm := by simpa using e
  clear e
  obtain ⟨sc, e, _, wd⟩ := DataW.trod_string Tryz.underlying9 fd
  obtain rfl : k3 = .string sc := by simpa using e
  clear e
  obtain ⟨pl, vp, e, hpl⟩ := placeOf _ _ _ fe
  obtain ⟨rfl, rfl⟩ : k4 = .string pl.name ∧ k5 = vp := by simpa using e
  clear e
  obtain ⟨ax, lx, cx, nx, bx, ox, e, hnx, sx, elx⟩ := slice_open Tryz.underlying43 (show Tryz.prog.cellsOf 45 = 8 from by kernel_rfl) (by omega) ff
  obtain rfl : k6 = .slice ax lx cx := by simpa using e
  clear e
  obtain ⟨pos, e, _, wg⟩ := DataW.trod_int Tryz.underlying3 fg
  obtain rfl : k7 = .int .i64 pos := by simpa using e
  clear e
  obtain ⟨Lx, hLx, rLx⟩ := PE.Row.mk (B := w.heap.size) (w := w) (b := bx) (n := lx) (o := ox) (fun i hi => by
    obtain ⟨ci, y, h1, h2⟩ := elx i hi
    obtain ⟨t, v, rfl, hin⟩ := ih nx (by omega) ci y h2
    exact ⟨t, v, h1, hin⟩)
  subst hLx
  exact ⟨.mk op iv nm sc pl Lx pos, ⟨_, _⟩, rfl, ⟨wa, wb, wg, wc, wd⟩, hpl, bx, ox, sx, rLx⟩
end
end Go.Proofs.YtojeijeimpffgaaGreat
/- What came in as data lies in memory as a tree: statements, items, programs (made by gen_open.py). -/
namespace Go.Proofs.YtojeijeimpffgaaGreat
open Go.RowKit
set_option linter.unusedVariables false

section
variable {H : Type} {enc : TypeId × Value → H} {w : World} {spare : Nat → Bool} {held : Bool}
theorem stmtOf (fuel : Nat) : (∀ (cs : List Value) (x : DataW H × List MemPlace), DataW.trod enc Tryz.prog w 0 spare held fuel 92 cs = some x → ∃ (t : PS) (v : VS), cs = t.cells v ∧ t.In w.heap.size w v) ∧ (∀ (cs : List Value) (x : DataW H × List MemPlace), DataW.trod enc Tryz.prog w 0 spare held fuel 96 cs = some x → ∃ (t : PA) (v : Value), cs = t.cells v ∧ t.In w.heap.size w v) := by
  induction fuel using Nat.strongRecOn with
  | _ fuel ih =>
  refine ⟨fun cs x h => ?_, fun cs x h => ?_⟩
  · skip
    obtain ⟨xs, n, rfl, rfl, hlen, hxl, hf⟩ := DataW.trod_struct Tryz.underlying92 h
    rw [show Tryz.prog.cellsOf 92 = 15 from by kernel_rfl] at hlen
    obtain _ | ⟨k0, cs⟩ := cs
    · simp at hlen
    obtain _ | ⟨k1, cs⟩ := cs
    · simp at hlen
    obtain _ | ⟨k2, cs⟩ := cs
    · simp at hlen
    obtain _ | ⟨k3, cs⟩ := cs
    · simp at hlen
    obtain _ | ⟨k4, cs⟩ := cs
    · simp at hlen
    obtain _ | ⟨k5, cs⟩ := cs
    · simp at hlen
    obtain _ | ⟨k6, cs⟩ := cs
    · simp at hlen
    obtain _ | ⟨k7, cs⟩ := cs
    · simp at hlen
    obtain _ | ⟨k8, cs⟩ := cs
    · simp at hlen
    obtain _ | ⟨k9, cs⟩ := cs
    · simp at hlen
    obtain _ | ⟨k10, cs⟩ := cs
    · simp at hlen
    obtain _ | ⟨k11, cs⟩ := cs
    · simp at hlen
    obtain _ | ⟨k12, cs⟩ := cs
    · simp at hlen
    obtain _ | ⟨k13, cs⟩ := cs
    · simp at hlen
    obtain _ | ⟨k14, cs⟩ := cs
    · simp at hlen
    obtain rfl : cs = [] := by
      cases cs with
      | nil => rfl
      | cons c cs => simp at hlen
    clear hlen
    have fa := hf 0 _ rfl
    change DataW.trod enc Tryz.prog w 0 spare held n 5 ((List.drop 0 [k0, k1, k2, k3, k4, k5, k6, k7, k8, k9, k10, k11, k12, k13, k14]).take (Tryz.prog.cellsOf 5)) = xs[0]? at fa
    rw [show Tryz.prog.cellsOf 5 = 1 from by kernel_rfl, List.getElem?_eq_getElem (show 0 < xs.length by rw [hxl]; decide)] at fa
    replace fa : DataW.trod enc Tryz.prog w 0 spare held n 5 [k0] = some _ := fa
    have fb := hf 1 _ rfl
    change DataW.trod enc Tryz.prog w 0 spare held n 9 ((List.drop 1 [k0, k1, k2, k3, k4, k5, k6, k7, k8, k9, k10, k11, k12, k13, k14]).take (Tryz.prog.cellsOf 9)) = xs[1]? at fb
    rw [show Tryz.prog.cellsOf 9 = 1 from by kernel_rfl, List.getElem?_eq_getElem (show 1 < xs.length by rw [hxl]; decide)] at fb
    replace fb : DataW.trod enc Tryz.prog w 0 spare held n 9 [k1] = some _ := fb
    have fc := hf 2 _ rfl
    change DataW.trod enc Tryz.prog w 0 spare held n 9 ((List.drop 2 [k0, k1, k2, k3, k4, k5, k6, k7, k8, k9, k10, k11, k12, k13, k14]).take (Tryz.prog.cellsOf 9)) = xs[2]? at fc
    rw [show Tryz.prog.cellsOf 9 = 1 from by kernel_rfl, List.getElem?_eq_getElem (show 2 < xs.length by rw [hxl]; decide)] at fc
    replace fc : DataW.trod enc Tryz.prog w 0 spare held n 9 [k2] = some _ := fc
    have fd := hf 3 _ rfl
    change DataW.trod enc Tryz.prog w 0 spare held n 40 ((List.drop 3 [k0, k1, k2, k3, k4, k5, k6, k7, k8, k9, k10, k11, k12, k13, k14]).take (Tryz.prog.cellsOf 40)) = xs[3]? at fd
    rw [show Tryz.prog.cellsOf 40 = 1 from by kernel_rfl, List.getElem?_eq_getElem (show 3 < xs.length by rw [hxl]; decide)] at fd
    replace fd : DataW.trod enc Tryz.prog w 0 spare held n 40 [k3] = some _ := fd
    have fe := hf 4 _ rfl
    change DataW.trod enc Tryz.prog w 0 spare held n 38 ((List.drop 4 [k0, k1, k2, k3, k4, k5, k6, k7, k8, k9, k10, k11, k12, k13, k14]).take (Tryz.prog.cellsOf 38)) = xs[4]? at fe
    rw [show Tryz.prog.cellsOf 38 = 3 from by kernel_rfl, List.getElem?_eq_getElem (show 4 < xs.length by rw [hxl]; decide)] at fe
    replace fe : DataW.trod enc Tryz.prog w 0 spare held n 38 [k4, k5, k6] = some _ := fe
    have ff := hf 5 _ rfl
    change DataW.trod enc Tryz.prog w 0 spare held n 2 ((List.drop 7 [k0, k1, k2, k3, k4, k5, k6, k7, k8, k9, k10, k11, k12, k13, k14]).take (Tryz.prog.cellsOf 2)) = xs[5]? at ff
    rw [show Tryz.prog.cellsOf 2 = 1 from by kernel_rfl, List.getElem?_eq_getElem (show 5 < xs.length by rw [hxl]; decide)] at ff
    replace ff : DataW.trod enc Tryz.prog w 0 spare held n 2 [k7] = some _ := ff
    have fg := hf 6 _ rfl
    change DataW.trod enc Tryz.prog w 0 spare held n 42 ((List.drop 8 [k0, k1, k2, k3, k4, k5, k6, k7, k8, k9, k10, k11, k12, k13, k14]).take (Tryz.prog.cellsOf 42)) = xs[6]? at fg
    rw [show Tryz.prog.cellsOf 42 = 2 from by kernel_rfl, List.getElem?_eq_getElem (show 6 < xs.length by rw [hxl]; decide)] at fg
    replace fg : DataW.trod enc Tryz.prog w 0 spare held n 42 [k8, k9] = some _ := fg
    have fh := hf 7 _ rfl
    change DataW.trod enc Tryz.prog w 0 spare held n 43 ((List.drop 10 [k0, k1, k2, k3, k4, k5, k6, k7, k8, k9, k10, k11, k12, k13, k14]).take (Tryz.prog.cellsOf 43)) = xs[7]? at fh
    rw [show Tryz.prog.cellsOf 43 = 1 from by kernel_rfl, List.getElem?_eq_getElem (show 7 < xs.length by rw [hxl]; decide)] at fh
    replace fh : DataW.trod enc Tryz.prog w 0 spare held n 43 [k10] = some _ := fh
    have fi := hf 8 _ rfl
    change DataW.trod enc Tryz.prog w 0 spare held n 39 ((List.drop 11 [k0, k1, k2, k3, k4, k5, k6, k7, k8, k9, k10, k11, k12, k13, k14]).take (Tryz.prog.cellsOf 39)) = xs[8]? at fi
    rw [show Tryz.prog.cellsOf 39 = 1 from by kernel_rfl, List.getElem?_eq_getElem (show 8 < xs.length by rw [hxl]; decide)] at fi
    replace fi : DataW.trod enc Tryz.prog w 0 spare held n 39 [k11] = some _ := fi
    have fj := hf 9 _ rfl
    change DataW.trod enc Tryz.prog w 0 spare held n 39 ((List.drop 12 [k0, k1, k2, k3, k4, k5, k6, k7, k8, k9, k10, k11, k12, k13, k14]).take (Tryz.prog.cellsOf 39)) = xs[9]? at fj
    rw [show Tryz.prog.cellsOf 39 = 1 from by kernel_rfl, List.getElem?_eq_getElem (show 9 < xs.length by rw [hxl]; decide)] at fj
    replace fj : DataW.trod enc Tryz.prog w 0 spare held n 39 [k12] = some _ := fj
    have fk := hf 10 _ rfl
    change DataW.trod enc Tryz.prog w 0 spare held n 90 ((List.drop 13 [k0, k1, k2, k3, k4, k5, k6, k7, k8, k9, k10, k11, k12, k13, k14]).take (Tryz.prog.cellsOf 90)) = xs[10]? at fk
    rw [show Tryz.prog.cellsOf 90 = 1 from by kernel_rfl, List.getElem?_eq_getElem (show 10 < xs.length by rw [hxl]; decide)] at fk
    replace fk : DataW.trod enc Tryz.prog w 0 spare held n 90 [k13] = some _ := fk
    have fl := hf 11 _ rfl
    change DataW.trod enc Tryz.prog w 0 spare held n 3 ((List.drop 14 [k0, k1, k2, k3, k4, k5, k6, k7, k8, k9, k10, k11, k12, k13, k14]).take (Tryz.prog.cellsOf 3)) = xs[11]? at fl
    rw [show Tryz.prog.cellsOf 3 = 1 from by kernel_rfl, List.getElem?_eq_getElem (show 11 < xs.length by rw [hxl]; decide)] at fl
    replace fl : DataW.trod enc Tryz.prog w 0 spare held n 3 [k14] = some _ := fl
    obtain ⟨op, e, _, wa⟩ := DataW.trod_int Tryz.underlying5 fa
    obtain rfl : k0 = .int .u8 op := by simpa using e
    clear e
    obtain ⟨nm, e, _, wb⟩ := DataW.trod_string Tryz.underlying9 fb
    obtain rfl : k1 = .string nm := by simpa using e
    clear e
    obtain ⟨sc, e, _, wc⟩ := DataW.trod_string Tryz.underlying9 fc
    obtain rfl : k2 = .string sc := by simpa using e
    clear e
    obtain ⟨au, lu, cu, nu, bu, ou, e, hnu, su, elu⟩ := slice_open Tryz.underlying40 (show Tryz.prog.cellsOf 9 = 1 from by kernel_rfl) (by omega) fd
    obtain rfl : k3 = .slice au lu cu := by simpa using e
    clear e
    obtain ⟨Lu, hLu, rLu⟩ := NRow.mk (w := w) (b := bu) (n := lu) (o := ou) (fun i hi => by
      obtain ⟨ci, y, h1, h2⟩ := elu i hi
      obtain ⟨st, rfl, _, hst⟩ := DataW.trod_string Tryz.underlying9 h2
      exact ⟨st, hst, h1⟩)
    subst hLu
    obtain ⟨ty, vt, e, hty⟩ := typeOf _ _ _ fe
    obtain ⟨rfl, rfl, rfl⟩ : k4 = .int .u8 ty.kind ∧ k5 = .string ty.name ∧ k6 = vt := by simpa [PT.cells] using e
    clear e
    obtain ⟨iv, e, _, wf⟩ := DataW.trod_int Tryz.underlying2 ff
    obtain rfl : k7 = .int .i64 iv := by simpa using e
    clear e
    obtain ⟨pl, vp, e, hpl⟩ := placeOf _ _ _ fg
    obtain ⟨rfl, rfl⟩ : k8 = .string pl.name ∧ k9 = vp := by simpa using e
    clear e
    obtain ⟨av, lv, cv, nv, bv, ov, e, hnv, sv, elv⟩ := slice_open Tryz.underlying43 (show Tryz.prog.cellsOf 45 = 8 from by kernel_rfl) (by omega) fh
    obtain rfl : k10 = .slice av lv cv := by simpa using e
    clear e
    obtain ⟨Lv, hLv, rLv⟩ := PE.Row.mk (B := w.heap.size) (w := w) (b := bv) (n := lv) (o := ov) (fun i hi => by
      obtain ⟨ci, y, h1, h2⟩ := elv i hi
      obtain ⟨t, v, rfl, hin⟩ := exprOf _ ci y h2
      exact ⟨t, v, h1, hin⟩)
    subst hLv
    obtain ⟨ax, lx, cx, nx, bx, ox, e, hnx, sx, elx⟩ := slice_open Tryz.underlying39 (show Tryz.prog.cellsOf 92 = 15 from by kernel_rfl) (by omega) fi
    obtain rfl : k11 = .slice ax lx cx := by simpa using e
    clear e
    obtain ⟨Lx, hLx, rLx⟩ := PS.Row.mk (B := w.heap.size) (w := w) (b := bx) (n := lx) (o := ox) (fun i hi => by
      obtain ⟨ci, y, h1, h2⟩ := elx i hi
      obtain ⟨t, v, rfl, hin⟩ := (ih nx (by omega)).1 ci y h2
      exact ⟨t, v, h1, hin⟩)
    subst hLx
    obtain ⟨ay, ly, cy, ny, bY, oy, e, hny, sy, ely⟩ := slice_open Tryz.underlying39 (show Tryz.prog.cellsOf 92 = 15 from by kernel_rfl) (by omega) fj
    obtain rfl : k12 = .slice ay ly cy := by simpa using e
    clear e
    obtain ⟨Ly, hLy, rLy⟩ := PS.Row.mk (B := w.heap.size) (w := w) (b := bY) (n := ly) (o := oy) (fun i hi => by
      obtain ⟨ci, y, h1, h2⟩ := ely i hi
      obtain ⟨t, v, rfl, hin⟩ := (ih ny (by omega)).1 ci y h2
      exact ⟨t, v, h1, hin⟩)
    subst hLy
    obtain ⟨az, lz, cz, nz, bz, oz, e, hnz, sz, elz⟩ := slice_open Tryz.underlying90 (show Tryz.prog.cellsOf 96 = 3 from by kernel_rfl) (by omega) fk
    obtain rfl : k13 = .slice az lz cz := by simpa using e
    clear e
    obtain ⟨Lz, hLz, rLz⟩ := PA.Row.mk (B := w.heap.size) (w := w) (b := bz) (n := lz) (o := oz) (fun i hi => by
      obtain ⟨ci, y, h1, h2⟩ := elz i hi
      obtain ⟨t, v, rfl, hin⟩ := (ih nz (by omega)).2 ci y h2
      exact ⟨t, v, h1, hin⟩)
    subst hLz
    obtain ⟨pos, e, _, wl⟩ := DataW.trod_int Tryz.underlying3 fl
    obtain rfl : k14 = .int .i64 pos := by simpa using e
    clear e
    exact ⟨.mk op nm sc Lu ty iv pl Lv Lx Ly Lz pos, ⟨_, _, _, _, _, _, _⟩, rfl, ⟨wa, wf, wl, wb, wc⟩, ⟨bu, ou, su, rLu⟩, hty, hpl, ⟨bv, ov, sv, rLv⟩, ⟨bx, ox, sx, rLx⟩, ⟨bY, oy, sy, rLy⟩, bz, oz, sz, rLz⟩
  · skip
    obtain ⟨xs, n, rfl, rfl, hlen, hxl, hf⟩ := DataW.trod_struct Tryz.underlying96 h
    rw [show Tryz.prog.cellsOf 96 = 3 from by kernel_rfl] at hlen
    obtain _ | ⟨k0, cs⟩ := cs
    · simp at hlen
    obtain _ | ⟨k1, cs⟩ := cs
    · simp at hlen
    obtain _ | ⟨k2, cs⟩ := cs
    · simp at hlen
    obtain rfl : cs = [] := by
      cases cs with
      | nil => rfl
      | cons c cs => simp at hlen
    clear hlen
    have fa := hf 0 _ rfl
    change DataW.trod enc Tryz.prog w 0 spare held n 9 ((List.drop 0 [k0, k1, k2]).take (Tryz.prog.cellsOf 9)) = xs[0]? at fa
    rw [show Tryz.prog.cellsOf 9 = 1 from by kernel_rfl, List.getElem?_eq_getElem (show 0 < xs.length by rw [hxl]; decide)] at fa
    replace fa : DataW.trod enc Tryz.prog w 0 spare held n 9 [k0] = some _ := fa
    have fb := hf 1 _ rfl
    change DataW.trod enc Tryz.prog w 0 spare held n 9 ((List.drop 1 [k0, k1, k2]).take (Tryz.prog.cellsOf 9)) = xs[1]? at fb
    rw [show Tryz.prog.cellsOf 9 = 1 from by kernel_rfl, List.getElem?_eq_getElem (show 1 < xs.length by rw [hxl]; decide)] at fb
    replace fb : DataW.trod enc Tryz.prog w 0 spare held n 9 [k1] = some _ := fb
    have fc := hf 2 _ rfl
    change DataW.trod enc Tryz.prog w 0 spare held n 39 ((List.drop 2 [k0, k1, k2]).take (Tryz.prog.cellsOf 39)) = xs[2]? at fc
    rw [show Tryz.prog.cellsOf 39 = 1 from by kernel_rfl, List.getElem?_eq_getElem (show 2 < xs.length by rw [hxl]; decide)] at fc
    replace fc : DataW.trod enc Tryz.prog w 0 spare held n 39 [k2] = some _ := fc
    obtain ⟨va, e, _, wa⟩ := DataW.trod_string Tryz.underlying9 fa
    obtain rfl : k0 = .string va := by simpa using e
    clear e
    obtain ⟨nm, e, _, wb⟩ := DataW.trod_string Tryz.underlying9 fb
    obtain rfl : k1 = .string nm := by simpa using e
    clear e
    obtain ⟨ax, lx, cx, nx, bx, ox, e, hnx, sx, elx⟩ := slice_open Tryz.underlying39 (show Tryz.prog.cellsOf 92 = 15 from by kernel_rfl) (by omega) fc
    obtain rfl : k2 = .slice ax lx cx := by simpa using e
    clear e
    obtain ⟨Lx, hLx, rLx⟩ := PS.Row.mk (B := w.heap.size) (w := w) (b := bx) (n := lx) (o := ox) (fun i hi => by
      obtain ⟨ci, y, h1, h2⟩ := elx i hi
      obtain ⟨t, v, rfl, hin⟩ := (ih nx (by omega)).1 ci y h2
      exact ⟨t, v, h1, hin⟩)
    subst hLx
    exact ⟨.mk va nm Lx, _, rfl, ⟨wa, wb⟩, bx, ox, sx, rLx⟩
theorem fieldOf (fuel : Nat) (cs : List Value) (x : DataW H × List MemPlace) (h : DataW.trod enc Tryz.prog w 0 spare held fuel 68 cs = some x) : ∃ (t : PF) (v : Value), cs = t.cells v ∧ t.In w.heap.size w v := by
  obtain ⟨xs, n, rfl, rfl, hlen, hxl, hf⟩ := DataW.trod_struct Tryz.underlying68 h
  rw [show Tryz.prog.cellsOf 68 = 4 from by kernel_rfl] at hlen
  obtain _ | ⟨k0, cs⟩ := cs
  · simp at hlen
  obtain _ | ⟨k1, cs⟩ := cs
  · simp at hlen
  obtain _ | ⟨k2, cs⟩ := cs
  · simp at hlen
  obtain _ | ⟨k3, cs⟩ := cs
  · simp at hlen
  obtain rfl : cs = [] := by
    cases cs with
    | nil => rfl
    | cons c cs => simp at hlen
  clear hlen
  have fa := hf 0 _ rfl
  change DataW.trod enc Tryz.prog w 0 spare held n 9 ((List.drop 0 [k0, k1, k2, k3]).take (Tryz.prog.cellsOf 9)) = xs[0]? at fa
  rw [show Tryz.prog.cellsOf 9 = 1 from by kernel_rfl, List.getElem?_eq_getElem (show 0 < xs.length by rw [hxl]; decide)] at fa
  replace fa : DataW.trod enc Tryz.prog w 0 spare held n 9 [k0] = some _ := fa
  have fb := hf 1 _ rfl
  change DataW.trod enc Tryz.prog w 0 spare held n 38 ((List.drop 1 [k0, k1, k2, k3]).take (Tryz.prog.cellsOf 38)) = xs[1]? at fb
  rw [show Tryz.prog.cellsOf 38 = 3 from by kernel_rfl, List.getElem?_eq_getElem (show 1 < xs.length by rw [hxl]; decide)] at fb
  replace fb : DataW.trod enc Tryz.prog w 0 spare held n 38 [k1, k2, k3] = some _ := fb
  obtain ⟨nm, e, _, wa⟩ := DataW.trod_string Tryz.underlying9 fa
  obtain rfl : k0 = .string nm := by simpa using e
  clear e
  obtain ⟨ty, vt, e, hty⟩ := typeOf _ _ _ fb
  obtain ⟨rfl, rfl, rfl⟩ : k1 = .int .u8 ty.kind ∧ k2 = .string ty.name ∧ k3 = vt := by simpa [PT.cells] using e
  exact ⟨⟨nm, ty⟩, _, rfl, wa, hty⟩
theorem itemOf (fuel : Nat) (cs : List Value) (x : DataW H × List MemPlace) (h : DataW.trod enc Tryz.prog w 0 spare held fuel 47 cs = some x) : ∃ (t : PI) (v : VI), cs = t.cells v ∧ t.In w.heap.size w v := by
  obtain ⟨xs, n, rfl, rfl, hlen, hxl, hf⟩ := DataW.trod_struct Tryz.underlying47 h
  rw [show Tryz.prog.cellsOf 47 = 16 from by kernel_rfl] at hlen
  obtain _ | ⟨k0, cs⟩ := cs
  · simp at hlen
  obtain _ | ⟨k1, cs⟩ := cs
  · simp at hlen
  obtain _ | ⟨k2, cs⟩ := cs
  · simp at hlen
  obtain _ | ⟨k3, cs⟩ := cs
  · simp at hlen
  obtain _ | ⟨k4, cs⟩ := cs
  · simp at hlen
  obtain _ | ⟨k5, cs⟩ := cs
  · simp at hlen
  obtain _ | ⟨k6, cs⟩ := cs
  · simp at hlen
  obtain _ | ⟨k7, cs⟩ := cs
  · simp at hlen
  obtain _ | ⟨k8, cs⟩ := cs
  · simp at hlen
  obtain _ | ⟨k9, cs⟩ := cs
  · simp at hlen
  obtain _ | ⟨k10, cs⟩ := cs
  · simp at hlen
  obtain _ | ⟨k11, cs⟩ := cs
  · simp at hlen
  obtain _ | ⟨k12, cs⟩ := cs
  · simp at hlen
  obtain _ | ⟨k13, cs⟩ := cs
  · simp at hlen
  obtain _ | ⟨k14, cs⟩ := cs
  · simp at hlen
  obtain _ | ⟨k15, cs⟩ := cs
  · simp at hlen
  obtain rfl : cs = [] := by
    cases cs with
    | nil => rfl
    | cons c cs => simp at hlen
  clear hlen
  have fa := hf 0 _ rfl
  change DataW.trod enc Tryz.prog w 0 spare held n 5 ((List.drop 0 [k0, k1, k2, k3, k4, k5, k6, k7, k8, k9, k10, k11, k12, k13, k14, k15]).take (Tryz.prog.cellsOf 5)) = xs[0]? at fa
  rw [show Tryz.prog.cellsOf 5 = 1 from by kernel_rfl, List.getElem?_eq_getElem (show 0 < xs.length by rw [hxl]; decide)] at fa
  replace fa : DataW.trod enc Tryz.prog w 0 spare held n 5 [k0] = some _ := fa
  have fb := hf 1 _ rfl
  change DataW.trod enc Tryz.prog w 0 spare held n 9 ((List.drop 1 [k0, k1, k2, k3, k4, k5, k6, k7, k8, k9, k10, k11, k12, k13, k14, k15]).take (Tryz.prog.cellsOf 9)) = xs[1]? at fb
  rw [show Tryz.prog.cellsOf 9 = 1 from by kernel_rfl, List.getElem?_eq_getElem (show 1 < xs.length by rw [hxl]; decide)] at fb
  replace fb : DataW.trod enc Tryz.prog w 0 spare held n 9 [k1] = some _ := fb
  have fc := hf 2 _ rfl
  change DataW.trod enc Tryz.prog w 0 spare held n 35 ((List.drop 2 [k0, k1, k2, k3, k4, k5, k6, k7, k8, k9, k10, k11, k12, k13, k14, k15]).take (Tryz.prog.cellsOf 35)) = xs[2]? at fc
  rw [show Tryz.prog.cellsOf 35 = 1 from by kernel_rfl, List.getElem?_eq_getElem (show 2 < xs.length by rw [hxl]; decide)] at fc
  replace fc : DataW.trod enc Tryz.prog w 0 spare held n 35 [k2] = some _ := fc
  have fd := hf 3 _ rfl
  change DataW.trod enc Tryz.prog w 0 spare held n 38 ((List.drop 3 [k0, k1, k2, k3, k4, k5, k6, k7, k8, k9, k10, k11, k12, k13, k14, k15]).take (Tryz.prog.cellsOf 38)) = xs[3]? at fd
  rw [show Tryz.prog.cellsOf 38 = 3 from by kernel_rfl, List.getElem?_eq_getElem (show 3 < xs.length by rw [hxl]; decide)] at fd
  replace fd : DataW.trod enc Tryz.prog w 0 spare held n 38 [k3, k4, k5] = some _ := fd
  have fe := hf 4 _ rfl
  change DataW.trod enc Tryz.prog w 0 spare held n 39 ((List.drop 6 [k0, k1, k2, k3, k4, k5, k6, k7, k8, k9, k10, k11, k12, k13, k14, k15]).take (Tryz.prog.cellsOf 39)) = xs[4]? at fe
  rw [show Tryz.prog.cellsOf 39 = 1 from by kernel_rfl, List.getElem?_eq_getElem (show 4 < xs.length by rw [hxl]; decide)] at fe
  replace fe : DataW.trod enc Tryz.prog w 0 spare held n 39 [k6] = some _ := fe
  have ff := hf 5 _ rfl
  change DataW.trod enc Tryz.prog w 0 spare held n 45 ((List.drop 7 [k0, k1, k2, k3, k4, k5, k6, k7, k8, k9, k10, k11, k12, k13, k14, k15]).take (Tryz.prog.cellsOf 45)) = xs[5]? at ff
  rw [show Tryz.prog.cellsOf 45 = 8 from by kernel_rfl, List.getElem?_eq_getElem (show 5 < xs.length by rw [hxl]; decide)] at ff
  replace ff : DataW.trod enc Tryz.prog w 0 spare held n 45 [k7, k8, k9, k10, k11, k12, k13, k14] = some _ := ff
  have fg := hf 6 _ rfl
  change DataW.trod enc Tryz.prog w 0 spare held n 3 ((List.drop 15 [k0, k1, k2, k3, k4, k5, k6, k7, k8, k9, k10, k11, k12, k13, k14, k15]).take (Tryz.prog.cellsOf 3)) = xs[6]? at fg
  rw [show Tryz.prog.cellsOf 3 = 1 from by kernel_rfl, List.getElem?_eq_getElem (show 6 < xs.length by rw [hxl]; decide)] at fg
  replace fg : DataW.trod enc Tryz.prog w 0 spare held n 3 [k15] = some _ := fg
  obtain ⟨kd, e, _, wa⟩ := DataW.trod_int Tryz.underlying5 fa
  obtain rfl : k0 = .int .u8 kd := by simpa using e
  clear e
  obtain ⟨nm, e, _, wb⟩ := DataW.trod_string Tryz.underlying9 fb
  obtain rfl : k1 = .string nm := by simpa using e
  clear e
  obtain ⟨au, lu, cu, nu, bu, ou, e, hnu, su, elu⟩ := slice_open Tryz.underlying35 (show Tryz.prog.cellsOf 68 = 4 from by kernel_rfl) (by omega) fc
  obtain rfl : k2 = .slice au lu cu := by simpa using e
  clear e
  obtain ⟨Lu, hLu, rLu⟩ := PF.Row.mk (B := w.heap.size) (w := w) (b := bu) (n := lu) (o := ou) (fun i hi => by
    obtain ⟨ci, y, h1, h2⟩ := elu i hi
    obtain ⟨t, v, rfl, hin⟩ := fieldOf _ ci y h2
    exact ⟨t, v, h1, hin⟩)
  subst hLu
  obtain ⟨ty, vt, e, hty⟩ := typeOf _ _ _ fd
  obtain ⟨rfl, rfl, rfl⟩ : k3 = .int .u8 ty.kind ∧ k4 = .string ty.name ∧ k5 = vt := by simpa [PT.cells] using e
  clear e
  obtain ⟨ax, lx, cx, nx, bx, ox, e, hnx, sx, elx⟩ := slice_open Tryz.underlying39 (show Tryz.prog.cellsOf 92 = 15 from by kernel_rfl) (by omega) fe
  obtain rfl : k6 = .slice ax lx cx := by simpa using e
  clear e
  obtain ⟨Lx, hLx, rLx⟩ := PS.Row.mk (B := w.heap.size) (w := w) (b := bx) (n := lx) (o := ox) (fun i hi => by
    obtain ⟨ci, y, h1, h2⟩ := elx i hi
    obtain ⟨t, v, rfl, hin⟩ := (stmtOf _).1 ci y h2
    exact ⟨t, v, h1, hin⟩)
  subst hLx
  obtain ⟨rx, vx, e, hrx⟩ := exprOf _ _ _ ff
  obtain ⟨rfl, rfl, rfl, rfl, rfl, e5, e6, rfl⟩ : k7 = .int .u8 rx.op ∧ k8 = .int .i64 rx.int ∧ k9 = .string rx.name ∧ k10 = .string rx.second ∧ k11 = .string rx.place.name ∧ k12 = vx.path ∧ k13 = vx.args ∧ k14 = .int .i64 rx.pos := by simpa [PE.cells] using e
  subst e5 e6
  clear e
  obtain ⟨pos, e, _, wg⟩ := DataW.trod_int Tryz.underlying3 fg
  obtain rfl : k15 = .int .i64 pos := by simpa using e
  clear e
  exact ⟨⟨kd, nm, Lu, ty, Lx, rx, pos⟩, ⟨_, _, _, vx⟩, rfl, ⟨wa, wg, wb⟩, ⟨bu, ou, su, rLu⟩, hty, ⟨bx, ox, sx, rLx⟩, hrx⟩
theorem progOf (fuel : Nat) (cs : List Value) (x : DataW H × List MemPlace) (h : DataW.trod enc Tryz.prog w 0 spare held fuel 24 cs = some x) : ∃ (p : List PI) (ao : Option Addr) (n c : Nat), cs = [.slice ao n c] ∧ ProgIn w.heap.size w p (.slice ao n c) := by
  obtain ⟨xs, n, rfl, rfl, hlen, hxl, hf⟩ := DataW.trod_struct Tryz.underlying24 h
  rw [show Tryz.prog.cellsOf 24 = 1 from by kernel_rfl] at hlen
  obtain _ | ⟨k0, cs⟩ := cs
  · simp at hlen
  obtain rfl : cs = [] := by
    cases cs with
    | nil => rfl
    | cons c cs => simp at hlen
  clear hlen
  have fa := hf 0 _ rfl
  change DataW.trod enc Tryz.prog w 0 spare held n 22 ((List.drop 0 [k0]).take (Tryz.prog.cellsOf 22)) = xs[0]? at fa
  rw [show Tryz.prog.cellsOf 22 = 1 from by kernel_rfl, List.getElem?_eq_getElem (show 0 < xs.length by rw [hxl]; decide)] at fa
  replace fa : DataW.trod enc Tryz.prog w 0 spare held n 22 [k0] = some _ := fa
  obtain ⟨ax, lx, cx, nx, bx, ox, e, hnx, sx, elx⟩ := slice_open Tryz.underlying22 (show Tryz.prog.cellsOf 47 = 16 from by kernel_rfl) (by omega) fa
  obtain rfl : k0 = .slice ax lx cx := by simpa using e
  clear e
  obtain ⟨Lx, hLx, rLx⟩ := PI.Row.mk (B := w.heap.size) (w := w) (b := bx) (n := lx) (o := ox) (fun i hi => by
    obtain ⟨ci, y, h1, h2⟩ := elx i hi
    obtain ⟨t, v, rfl, hin⟩ := itemOf _ ci y h2
    exact ⟨t, v, h1, hin⟩)
  subst hLx
  exact ⟨Lx, _, _, _, rfl, bx, ox, sx, rLx⟩
end
end Go.Proofs.YtojeijeimpffgaaGreat
