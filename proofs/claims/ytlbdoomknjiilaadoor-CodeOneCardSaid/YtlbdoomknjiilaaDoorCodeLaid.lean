/- What the listed variable code.rows holds: the array of rows. -/
import Derived.Test.YtlbdoomknjiilaaDoorRows
import Derived.Test.YtlbdoomknjiilaaDoorCodeOpen
import Derived.Test.YtlbdoomknjiilaaDoorCodeFunc
import Derived.Lib.LaidTab
import Derived.LaidMore
import Derived.Stop.Joined
import Derived.SevenTiedAt
import Derived.FnData
namespace Go.Proofs.YtlbdoomknjiilaaDoor
open Go.ChangeShapes Go.WideShapes Go.RowKit
set_option linter.unusedVariables false

theorem mapM_atC {α β : Type} {f : α → Option β} : ∀ {l : List α} {ys : List β}, l.mapM f = some ys → ∀ (i : Nat) x, l[i]? = some x → ∃ b, ys[i]? = some b ∧ f x = some b
  | [], ys, h, i, x, hx => by simp at hx
  | a :: l, ys, h, i, x, hx => by
    rw [List.mapM_cons] at h
    obtain ⟨b, hb, h⟩ := Option.bind_eq_some_iff.1 h
    obtain ⟨bs, hbs, h⟩ := Option.bind_eq_some_iff.1 h
    obtain rfl : b :: bs = ys := by simpa using h
    cases i with
    | zero => obtain rfl : a = x := by simpa using hx
              exact ⟨b, rfl, hb⟩
    | succ i =>
      obtain ⟨c, h1, h2⟩ := mapM_atC hbs i x (by simpa using hx)
      exact ⟨c, by simpa using h1, h2⟩
def RR.datum {H : Type} (r : RR) : DataW H := .agg [.lit (.string r.op), .lit (.int .u8 r.a), .lit (.int .u8 r.b), .lit (.int .u8 r.i), .lit (.bool r.p), .lit (.bool r.s), .lit (.bool r.n)]
section
variable {H : Type} {enc : TypeId × Value → H} {w : World} {base : Nat} {spare : Nat → Bool} {held : Bool}
theorem rowCellsOf {fuel : Nat} {cs : List Value} {x : DataW H × List MemPlace} {r : RR} (h : DataW.trod enc Tryd.prog w base spare held fuel 79 cs = some x) (hd : x.1 = r.datum) : cs = r.cells := by
  obtain ⟨xs, n, rfl, hx, hlen, hxl, hf⟩ := DataW.trod_struct Tryd.underlying79 h
  rw [show Tryd.prog.cellsOf 79 = 7 from by kernel_rfl] at hlen
  obtain _ | ⟨k0, cs⟩ := cs
  · simp at hlen
  obtain _ | ⟨k1, cs⟩ := cs
  · simp at hlen
  obtain _ | ⟨k2, cs⟩ := cs
  · simp at hlen
  obtain _ | ⟨k3, cs⟩ := cs
  · simp at hlen
  obtain _ | ⟨k4, cs⟩ := cs
  · simp at hlen
  obtain _ | ⟨k5, cs⟩ := cs
  · simp at hlen
  obtain _ | ⟨k6, cs⟩ := cs
  · simp at hlen
  obtain rfl : cs = [] := by
    cases cs with
    | nil => rfl
    | cons c cs => simp at hlen
  clear hlen
  obtain _ | ⟨y0, xs⟩ := xs
  · simp at hxl
  obtain _ | ⟨y1, xs⟩ := xs
  · simp at hxl
  obtain _ | ⟨y2, xs⟩ := xs
  · simp at hxl
  obtain _ | ⟨y3, xs⟩ := xs
  · simp at hxl
  obtain _ | ⟨y4, xs⟩ := xs
  · simp at hxl
  obtain _ | ⟨y5, xs⟩ := xs
  · simp at hxl
  obtain _ | ⟨y6, xs⟩ := xs
  · simp at hxl
  obtain rfl : xs = [] := by
    cases xs with
    | nil => rfl
    | cons c cs => simp at hxl
  clear hxl
  rw [hx] at hd
  unfold RR.datum at hd
  simp only [List.map_cons, List.map_nil, DataW.agg.injEq, List.cons.injEq, and_true] at hd
  obtain ⟨d0, d1, d2, d3, d4, d5, d6⟩ := hd
  have f0 := hf 0 _ rfl
  change DataW.trod enc Tryd.prog w base spare held n 9 ((List.drop 0 [k0, k1, k2, k3, k4, k5, k6]).take (Tryd.prog.cellsOf 9)) = some y0 at f0
  rw [show Tryd.prog.cellsOf 9 = 1 from by kernel_rfl] at f0
  replace f0 : DataW.trod enc Tryd.prog w base spare held n 9 [k0] = some _ := f0
  obtain ⟨s0, a0, b0, c0⟩ := DataW.trod_string Tryd.underlying9 f0
  have h0 : _ ∧ y0.1 = _ ∧ _ := ⟨a0, by rw [b0], c0⟩
  have f1 := hf 1 _ rfl
  change DataW.trod enc Tryd.prog w base spare held n 77 ((List.drop 1 [k0, k1, k2, k3, k4, k5, k6]).take (Tryd.prog.cellsOf 77)) = some y1 at f1
  rw [show Tryd.prog.cellsOf 77 = 1 from by kernel_rfl] at f1
  replace f1 : DataW.trod enc Tryd.prog w base spare held n 77 [k1] = some _ := f1
  obtain ⟨s1, a1, b1, c1⟩ := DataW.trod_int Tryd.underlying77 f1
  have h1 : _ ∧ y1.1 = _ ∧ _ := ⟨a1, by rw [b1], c1⟩
  have f2 := hf 2 _ rfl
  change DataW.trod enc Tryd.prog w base spare held n 77 ((List.drop 2 [k0, k1, k2, k3, k4, k5, k6]).take (Tryd.prog.cellsOf 77)) = some y2 at f2
  rw [show Tryd.prog.cellsOf 77 = 1 from by kernel_rfl] at f2
  replace f2 : DataW.trod enc Tryd.prog w base spare held n 77 [k2] = some _ := f2
  obtain ⟨s2, a2, b2, c2⟩ := DataW.trod_int Tryd.underlying77 f2
  have h2 : _ ∧ y2.1 = _ ∧ _ := ⟨a2, by rw [b2], c2⟩
  have f3 := hf 3 _ rfl
  change DataW.trod enc Tryd.prog w base spare held n 77 ((List.drop 3 [k0, k1, k2, k3, k4, k5, k6]).take (Tryd.prog.cellsOf 77)) = some y3 at f3
  rw [show Tryd.prog.cellsOf 77 = 1 from by kernel_rfl] at f3
  replace f3 : DataW.trod enc Tryd.prog w base spare held n 77 [k3] = some _ := f3
  obtain ⟨s3, a3, b3, c3⟩ := DataW.trod_int Tryd.underlying77 f3
  have h3 : _ ∧ y3.1 = _ ∧ _ := ⟨a3, by rw [b3], c3⟩
  have f4 := hf 4 _ rfl
  change DataW.trod enc Tryd.prog w base spare held n 4 ((List.drop 4 [k0, k1, k2, k3, k4, k5, k6]).take (Tryd.prog.cellsOf 4)) = some y4 at f4
  rw [show Tryd.prog.cellsOf 4 = 1 from by kernel_rfl] at f4
  replace f4 : DataW.trod enc Tryd.prog w base spare held n 4 [k4] = some _ := f4
  obtain ⟨s4, a4, b4⟩ := DataW.trod_bool Tryd.underlying4 f4
  have h4 : _ ∧ y4.1 = _ := ⟨a4, by rw [b4]⟩
  have f5 := hf 5 _ rfl
  change DataW.trod enc Tryd.prog w base spare held n 4 ((List.drop 5 [k0, k1, k2, k3, k4, k5, k6]).take (Tryd.prog.cellsOf 4)) = some y5 at f5
  rw [show Tryd.prog.cellsOf 4 = 1 from by kernel_rfl] at f5
  replace f5 : DataW.trod enc Tryd.prog w base spare held n 4 [k5] = some _ := f5
  obtain ⟨s5, a5, b5⟩ := DataW.trod_bool Tryd.underlying4 f5
  have h5 : _ ∧ y5.1 = _ := ⟨a5, by rw [b5]⟩
  have f6 := hf 6 _ rfl
  change DataW.trod enc Tryd.prog w base spare held n 4 ((List.drop 6 [k0, k1, k2, k3, k4, k5, k6]).take (Tryd.prog.cellsOf 4)) = some y6 at f6
  rw [show Tryd.prog.cellsOf 4 = 1 from by kernel_rfl] at f6
  replace f6 : DataW.trod enc Tryd.prog w base spare held n 4 [k6] = some _ := f6
  obtain ⟨s6, a6, b6⟩ := DataW.trod_bool Tryd.underlying4 f6
  have h6 : _ ∧ y6.1 = _ := ⟨a6, by rw [b6]⟩
  rw [h0.2.1] at d0
  rw [h1.2.1] at d1
  rw [h2.2.1] at d2
  rw [h3.2.1] at d3
  rw [h4.2] at d4
  rw [h5.2] at d5
  rw [h6.2] at d6
  simp only [DataW.lit.injEq, Lit.string.injEq, Lit.int.injEq, Lit.bool.injEq, true_and] at d0 d1 d2 d3 d4 d5 d6
  unfold RR.cells
  rw [← d0, ← d1, ← d2, ← d3, ← d4, ← d5, ← d6]
  cases h0.1; cases h1.1; cases h2.1; cases h3.1; cases h4.1; cases h5.1; cases h6.1
  rfl
theorem cells_of_rows {fuel : Nat} {cs : List Value} {zs : List RR} {p : List MemPlace} (h : DataW.trod enc Tryd.prog w base spare held fuel 100 cs = some (.agg (zs.map RR.datum), p)) :
    ∀ (i : Nat) (z : RR), i < 35 → zs[i]? = some z → ∀ (j : Nat) v, z.cells[j]? = some v → cs[i * 7 + j]? = some v := by
  intro i z hi hz j v hv
  cases fuel with
  | zero => simp [DataW.trod] at h
  | succ fuel =>
    simp only [DataW.trod, Tryd.underlying100, show Tryd.prog.cellsOf 79 = 7 from by kernel_rfl] at h
    split at h
    · rename_i hl
      obtain ⟨xs, hm, hx⟩ := Option.map_eq_some_iff.1 h
      have hxs : xs.map (·.1) = zs.map RR.datum := by
        have := congrArg Prod.fst hx
        simpa using this
      obtain ⟨b, hb, hf⟩ := mapM_atC hm i i (by simp [hi])
      have h2 : (xs.map (·.1))[i]? = some b.1 := by simp [hb]
      rw [hxs, List.getElem?_map, hz, Option.map_some, Option.some.injEq] at h2
      have hc := rowCellsOf hf h2.symm
      have : ((cs.drop (i * 7)).take 7)[j]? = some v := by rw [hc]; exact hv
      rw [List.getElem?_take] at this
      split at this
      · rw [List.getElem?_drop] at this; exact this
      · cases this
    · cases h
end
set_option maxRecDepth 100000 in
theorem rtab_of_laid {W : World} (h : laidMetH Tryd.prog Rows.codeMayRow.laid W) : RTab W.heap.size W := by
  rw [MakeChecks.laidMetH_plain _ _ _ (by kernel_rfl)] at h
  obtain ⟨ps, ⟨g0, t0, cs0, f0, p0, q0, hg0, ht0, hv0, hd0, ⟨g1, t1, cs1, f1, p1, q1, hg1, ht1, hv1, hd1, ⟨g2, t2, cs2, f2, p2, q2, hg2, ht2, hv2, hd2, ⟨g3, t3, cs3, f3, p3, q3, hg3, ht3, hv3, hd3, _, _⟩, _⟩, _⟩, _⟩, _, _⟩ := h
  have ng3 : Tryd.prog.globalNamed "weftway/code.rows" = some 0 := by kernel_rfl
  obtain rfl := Option.some.inj (ng3.symm.trans hg3)
  obtain rfl := Option.some.inj ((show (Tryd.prog.globals[0]?).map (·.type) = some 100 by kernel_rfl).symm.trans ht3)
  have he := cells_of_rows (zs := codeRows) (by rw [← show Rows.laid_weftway_code_rows = (DataW.agg (codeRows.map RR.datum) : DataW Unit) by kernel_rfl]; exact hd3)
  have ce : ∀ k : Nat, k < 35 → At W 0 (k * 7) ((codeRows[k]?).getD noRow).cells := fun k hk i v hi => by
    rw [World.var?_cell ng3 hv3 (k * 7 + i)]
    obtain ⟨z, hz, _⟩ := get_at (l := codeRows) (k := k) hk
    rw [hz, Option.getD_some] at hi
    simpa using he k z hk hz i v hi
  exact ⟨World.block_lt_of_cell? W ⟨_, _, none⟩ (ce 0 (by omega) 0 _ rfl), ce⟩
end Go.Proofs.YtlbdoomknjiilaaDoor
