/- loans.beside: whether a loan is none of those, and none that it was asked of earlier. -/
import Derived.Test.YtaoalplglfdobaaDoorLoansMark
namespace Go.Proofs.YtaoalplglfdobaaDoor
open Go.RowKit
set_option linter.unusedVariables false

/-- what the closure leans on: its variable in block C, the map in block M -/
def Bes (C M n : Nat) (l : List LN) (w : World) : Prop := w.cell? ⟨C, 0, none⟩ = some (.map (some M)) ∧ MarkMap w M n l ∧ C ≠ M
theorem Bes.grown {w w' : World} {C M n : Nat} {l : List LN} {row : Option Nat} (h : Bes C M n l w) (hg : w.grownBy w' row) (h1 : some M ≠ row) (h2 : some C ≠ row) : Bes C M n l w' :=
  ⟨hg.cell h.1 h2, h.2.1.kept hg h1, h.2.2⟩
theorem Bes.same {w w' : World} {C M n : Nat} {l : List LN} (h : Bes C M n l w) (hM : w'.heap[M]? = w.heap[M]?) (hC : w'.heap[C]? = w.heap[C]?) : Bes C M n l w' :=
  ⟨(World.cell?_of_block (w := w) hC).trans h.1, h.2.1.same hM, h.2.2⟩
theorem Bes.up {w w' : World} {C M n : Nat} {l : List LN} (h : Bes C M n l w) (k : Below w.heap.size w w') : Bes C M n l w' := h.grown (grown_of' k) (by simp) (by simp)
theorem Bes.lt {w : World} {C M n : Nat} {l : List LN} (h : Bes C M n l w) : C < w.heap.size ∧ M < w.heap.size := ⟨World.block_lt_of_cell? w _ h.1, h.2.1.lt⟩

theorem _root_.Go.World.grownBy.weak {w w' : World} (h : w.grownBy w' none) (r : Option Nat) : w.grownBy w' r := ⟨h.os, h.tape, h.output, h.size, fun k hk _ => h.block k hk (by simp)⟩
theorem _root_.Go.World.grownBy.tr {w w1 w2 : World} {r : Option Nat} (h : w.grownBy w1 r) (k : w1.grownBy w2 r) : w.grownBy w2 r :=
  ⟨k.os.trans h.os, k.tape.trans h.tape, k.output.trans h.output, Nat.le_trans h.size k.size, fun j hj hr => (k.block j (Nat.lt_of_lt_of_le hj h.size) hr).trans (h.block j hj hr)⟩
set_option maxRecDepth 100000 in
set_option maxHeartbeats 1000000 in
theorem beside1_calls (B C M n : Nat) (l : List LN) (x : LN) (v : Value) (w : World) (hn : n ≤ 1000000) (hB : B ≤ w.heap.size) (hx : x.place.In B w v) (hT : Tb B w) (hF : x.Fair) (h : Bes C M n l w) :
    Calls Tryd.prog 45 #[.agg #[.string x.place.name, v, .bool x.alone, .int .i64 x.till], .pointer (some ⟨C, 0, none⟩)] w
      fun e w' => e = .returned (.bool (!hasB l x)) ∧ Bes C M (n + 1) (l ++ [x]) w' ∧ w.grownBy w' (some M) := by
  obtain ⟨kl, hkl⟩ := hF.key
  have HK := Lib.hid hkl
  have HF := Lib.hid hF
  have HC := Lib.hid fun (W : World) (hb : Below w.heap.size w W) => markOf_calls B x v W (Nat.le_trans hB hb.size) (hx.below (hb.mono hB)) (hT.below (hb.mono hB)) hF
  have H := Lib.hid h
  obtain ⟨ao, cap, rfl⟩ := hx.shape
  have hR : ∃ R : ByteArray, x.mark = .agg #[.string R, .bool x.alone, .int .i64 x.till] := ⟨_, rfl⟩
  obtain ⟨R, hR⟩ := hR
  have hkr := hkl
  rw [hR] at hkr
  have HR := Lib.hid hR
  generalize x.place.path.length = m at *
  obtain ⟨sx, hsx⟩ : ∃ s, s = x.place.name := ⟨_, rfl⟩
  obtain ⟨xa, hxa⟩ : ∃ s, s = x.alone := ⟨_, rfl⟩
  obtain ⟨xt, hxt⟩ : ∃ s, s = x.till := ⟨_, rfl⟩
  rw [← hsx, ← hxa, ← hxt] at HC
  rw [← hxa, ← hxt] at HR hkr
  have HK2 := Lib.hid hkr
  rw [← hsx, ← hxa, ← hxt]
  clear hkr hx hF hT h hkl hR hsx hxa hxt
  go_enter Tryd.func45, Tryd.ntmps45
  go_wp2_with fail
  have b0 := box1 w (.cells #[.string sx, .slice ao m cap, .bool xa, .int .i64 xt] 36)
  refine (HC.out _ b0).mono ?_
  rintro e w1 ⟨rfl, b1⟩
  have b2 := b0.trans (b1.mono b0.size)
  have H1 := H.out.up b2
  have HG1 := Lib.hid (grown_of' b2)
  rw [HR.out] at *
  obtain ⟨D, hown, hD⟩ := H1.2.1
  have hc := H1.1
  have hlt := H1.lt.1
  have H1' := Lib.hid H1
  have HD := Lib.hid hD
  have HO := Lib.hid hown
  clear b0 b1 b2 H1 HC H hD hown
  go_wp2_with (first
    | (at_lookup; refine wpList_lookup_own_unit _ rfl _ _ 63 rfl 66 64 lawMark Tryd.underlying63 (zeroUnit _) M n D rfl (HO.out.alloc _) _ _ rfl HK2.out ?_)
    | (at_mapUpdate; refine wpList_mapUpdate_own _ rfl _ _ _ 63 rfl 66 64 lawMark Tryd.underlying63 _ M n D rfl ((HO.out.alloc _).alloc _) (by unfold maxLen; omega) _ _ _ rfl rfl HK2.out _ [] unitElem_mk ?_)
    | fail)
  intro w2 ho hg
  have hM := HO.out.isMap
  have HE : Hid (Bes C M (n + 1) (l ++ [x]) w2 ∧ w.grownBy w2 (some M)) := Lib.hid (by
    have e1 := HG1.out
    have e2 : w1.grownBy ((w1.alloc (.cells #[.string R, .bool xa, .int .i64 xt] 66)).alloc (.cells #[] 64)) none := grown_of' (box2 _ _ _)
    have e3 := (e1.weak (some M)).tr ((e2.weak (some M)).tr hg)
    refine ⟨⟨((e2.weak (some M)).tr hg).cell hc (by simpa using H1'.out.2.2), marks_put HF.out hM HK.out HD.out _ ho, H1'.out.2.2⟩, e3⟩)
  have HH : Hid (Maps.has D kl = hasB l x) := Lib.hid (HD.out x HF.out kl HK.out)
  clear ho hg hM hc
  generalize Maps.has D kl = r at *
  go_wp2_with fail
  go_ret
  exact ⟨ret_bool (by rw [HH.out]), HE.out.1, HE.out.2⟩
theorem beside1_enters : ∀ args w, (callFunc 45 args).run Tryd.prog w = .ok (.enter 45 args) w := enters_of Tryd.func45 (by kernel_rfl) rfl

set_option maxRecDepth 100000 in
set_option maxHeartbeats 1000000 in
theorem beside_calls (B : Nat) (l : List LN) (v : Value) (hl : l.length ≤ 1000) (w : World) (hB : B ≤ w.heap.size) (h : NIn B w l v) (hT : Tb B w) (hF : ∀ x ∈ l, x.Fair) :
    Calls Tryd.prog 35 #[v] w fun e w' => e = .returned (.func (.func 45) #[] #[.pointer (some ⟨w.heap.size + 1, 0, none⟩)]) ∧ Bes (w.heap.size + 1) w.heap.size l.length l w' ∧ Below w.heap.size w w' := by
  have hmm := @run_makeMap Tryd.prog
  obtain ⟨ao, cap, rfl⟩ := h.shape
  obtain ⟨n, hn⟩ : ∃ n, n = l.length := ⟨_, rfl⟩
  rw [← hn] at h hl ⊢
  obtain ⟨hm, b, o, h1, r1⟩ := h.at
  unfold maxLen at hm
  have HC := Lib.hid fun (W : World) (x : LN) (v : Value) (hb : Below w.heap.size w W) (hx : x.place.In B w v) (hf : x.Fair) => markOf_calls B x v W (Nat.le_trans hB hb.size) (hx.below (hb.mono hB)) (hT.below (hb.mono hB)) hf
  have HA : Hid (l.take n = l) := Lib.hid (by rw [hn]; exact List.take_length)
  have Hn := Lib.hid hn
  have Hr := Lib.hid r1
  have H1 := Lib.hid h1
  have HF := Lib.hid hF
  clear hn h1 r1 h hF hT
  go_enter Tryd.func35, Tryd.ntmps35
  go_wp2_with fail
  obtain ⟨W0, hW⟩ : ∃ W, W = (w.alloc (.map #[] 0)).alloc (.cells #[.map (some w.heap.size)] 63) := ⟨_, rfl⟩
  have bel0 := Lib.hid (show Below w.heap.size w W0 from by rw [hW]; exact box2 _ _ _)
  have hb0 : Bes (w.heap.size + 1) w.heap.size 0 (l.take 0) W0 := by
    refine ⟨by rw [hW]; go_simp, ?_, by omega⟩
    rw [hW]
    exact (MarkMap.new w).kept (grown_of' (box1 _ _)) (by simp)
  have HB0 := Lib.hid hb0
  rw [← hW]
  clear hW hb0
  go_loopw [9] (fun i wr => ∃ k : Nat, k ≤ n ∧ i = .int .i64 k ∧ Hid (Below w.heap.size w wr) ∧ Hid (Bes (w.heap.size + 1) w.heap.size k (l.take k) wr))
    (fun i _ => n - (intOf i).toNat)
  case atStart => exact ⟨0, by omega, rfl, bel0, HB0⟩
  case round =>
    obtain ⟨k, hk, rfl, hbel, HK⟩ := hrel
    have hk0 : 0 ≤ (k : Int) := by omega
    by_cases hlt : k < n
    · obtain ⟨y, hy, hym⟩ := get_at (l := l) (k := k) (by rw [← Hn.out]; exact hlt)
      obtain ⟨rfl, hbb⟩ := H1.out (by omega)
      have hk1 : (k : Int) < (n : Int) := by omega
      obtain ⟨vy, cc, yi⟩ := Hr.out k y hy
      obtain ⟨y0, y1, y2, y3⟩ := cc.below hbb (hbel.out.mono hB)
      have hFy := HF.out y hym
      obtain ⟨kl, hkl⟩ := hFy.key
      have HFy := Lib.hid hFy
      have HKL := Lib.hid hkl
      have HL : Hid (l.take (k + 1) = l.take k ++ [y]) := Lib.hid (by rw [List.take_add_one, hy]; rfl)
      have A1 := Lib.hid fun m : Over (wr.alloc (.cells #[.string y.place.name, vy, .bool y.alone, .int .i64 y.till] 36)) => over_calls (HC.out m.w y vy (hbel.out.trans (((box1 wr _).trans (m.h.mono (by simp))).mono hbel.out.size)) yi hFy)
      obtain ⟨R, hR⟩ : ∃ R : ByteArray, y.mark = .agg #[.string R, .bool y.alone, .int .i64 y.till] := ⟨_, rfl⟩
      rw [hR] at A1 hkl
      have HKR := Lib.hid hkl
      have f0 : ∀ m : Over (wr.alloc (.cells #[.string y.place.name, vy, .bool y.alone, .int .i64 y.till] 36)), m.w.cell? ⟨wr.heap.size, 0, none⟩ = some (.string y.place.name) := fun m => (m.cells _ _ (by simp)).trans (by go_simp)
      have f1 : ∀ m : Over (wr.alloc (.cells #[.string y.place.name, vy, .bool y.alone, .int .i64 y.till] 36)), m.w.cell? ⟨wr.heap.size, 1, none⟩ = some vy := fun m => (m.cells _ _ (by simp)).trans (by go_simp)
      have f2 : ∀ m : Over (wr.alloc (.cells #[.string y.place.name, vy, .bool y.alone, .int .i64 y.till] 36)), m.w.cell? ⟨wr.heap.size, 2, none⟩ = some (.bool y.alone) := fun m => (m.cells _ _ (by simp)).trans (by go_simp)
      have f3 : ∀ m : Over (wr.alloc (.cells #[.string y.place.name, vy, .bool y.alone, .int .i64 y.till] 36)), m.w.cell? ⟨wr.heap.size, 3, none⟩ = some (.int .i64 y.till) := fun m => (m.cells _ _ (by simp)).trans (by go_simp)
      have f4 : ∀ m : Over (wr.alloc (.cells #[.string y.place.name, vy, .bool y.alone, .int .i64 y.till] 36)), m.w.cell? ⟨w.heap.size + 1, 0, none⟩ = some (.map (some w.heap.size)) := fun m => (HK.out.up ((box1 wr _).trans (m.h.mono (by simp)))).1
      obtain ⟨ay, cy, rfl⟩ := yi.shape
      generalize y.place.path.length = ny at *
      generalize y.place.name = sy at *
      generalize y.alone = ya at *
      generalize y.till = yt at *
      clear hR hy hym cc yi hFy hkl
      go_wp2_with fail
      clear y0 y1 y2 y3
      refine wp_region_overn 4 (by kernel_rfl) (by kernel_rfl) ?_
      simp only [List.take_succ_cons, List.take_zero, List.drop_succ_cons, List.drop_zero]
      repeat (go_big_quiet_step ((go_at_call 44; exact A1.out _)))
      refine wpQuiet_nil ?_
      rintro _ ⟨m, rfl⟩
      have hb2 := (box1 wr (.cells #[.string sy, .slice ay ny cy, .bool ya, .int .i64 yt] 36)).trans (m.h.mono (by simp))
      have hK2 := HK.out.up hb2
      have HB2 := Lib.hid (hbel.out.trans (hb2.mono hbel.out.size))
      generalize m.w = W1 at *
      clear f0 f1 f2 f3 f4 A1 hb2
      obtain ⟨D, hown, hD⟩ := hK2.2.1
      have HO := Lib.hid hown
      have HD := Lib.hid hD
      have HK2 := Lib.hid hK2
      clear hown hD hK2
      go_wp2_with (first
        | (at_mapUpdate; refine wpList_mapUpdate_own _ rfl _ _ _ 63 rfl 66 64 lawMark Tryd.underlying63 _ w.heap.size k D rfl HO.out (by unfold maxLen; omega) _ _ _ rfl rfl HKR.out _ [] unitElem_mk ?_)
        | fail)
      intro w2 ho hg
      have HE : Hid (Bes (w.heap.size + 1) w.heap.size (k + 1) (l.take (k + 1)) w2) := Lib.hid (by
        rw [HL.out]
        exact ⟨hg.cell HK2.out.1 (by simp), marks_put HFy.out HO.out.isMap HKL.out HD.out _ ho, by omega⟩)
      have HB := Lib.hid (HB2.out.grown hg HB2.out.size (fun k hk => by cases hk; exact Nat.le_refl _))
      clear ho hg HO HD HK2
      go_wp2_with fail
      go_roundw
      case rel => exact ⟨k + 1, by omega, by go_num, HB, HE⟩
      case measure => simp [intOf]; omega
    · obtain rfl : n = k := by omega
      rw [HA.out] at HK
      go_wp2_with fail
      go_ret
      exact ⟨rfl, HK.out, hbel.out⟩
end Go.Proofs.YtaoalplglfdobaaDoor
