/- The document's own Is, Has, End, Add, Union, Same, May. -/
import Derived.Test.YtaoalplglfdobaaDoorLoansMem
import Derived.Test.YtaoalplglfdobaaDoorPathsRef
import Derived.Test.YtaoalplglfdobaaDoorOver
import Derived.OwnWalk
import Derived.Deep.AppendLies
namespace Go.Proofs.YtaoalplglfdobaaDoor
open Go.RowKit
set_option linter.unusedVariables false

theorem infoLoan : (Tryd.prog.info? 37).map (fun i => (i.zero, i.size, i.bytes)) = some (some (.agg #[.string ⟨#[]⟩, .slice none 0 0, .bool false, .int .i64 0]), 4, 56) := by kernel_rfl

set_option maxHeartbeats 1000000 in
theorem refIs_calls (B : Nat) (x y : LN) (va vb : Value) (w : World) (hB : B ≤ w.heap.size) (h1 : x.place.In B w va) (h2 : y.place.In B w vb) :
    Calls Tryd.prog 46 #[.agg #[.string x.place.name, va, .bool x.alone, .int .i64 x.till], .agg #[.string y.place.name, vb, .bool y.alone, .int .i64 y.till]] w fun e w' => e = .returned (.bool (isB x y)) ∧ Below w.heap.size w w' := by
  have hcon := Lib.hid fun (w' : World) (h : Below w.heap.size w w') => refSame_calls B x.place y.place va vb w' (Nat.le_trans hB h.size) (h1.below (h.mono hB)) (h2.below (h.mono hB))
  obtain ⟨ao1, cap1, rfl⟩ := h1.shape
  obtain ⟨ao2, cap2, rfl⟩ := h2.shape
  unfold isB
  generalize sameP x.place y.place = r at *
  generalize x.place.path.length = n at *
  generalize y.place.path.length = m at *
  generalize x.place.name = sa at *
  generalize y.place.name = sb at *
  generalize x.alone = xa at *
  generalize y.alone = ya at *
  generalize x.till = xt at *
  generalize y.till = yt at *
  clear h1 h2
  go_enter Tryd.func46, Tryd.ntmps46
  go_wp2_with fail
  obtain ⟨W0, hW⟩ : ∃ W, W = (w.alloc (.cells #[.string sa, .slice ao1 n cap1, .bool xa, .int .i64 xt] 37)).alloc (.cells #[.string sb, .slice ao2 m cap2, .bool ya, .int .i64 yt] 37) := ⟨_, rfl⟩
  have f2 : W0.cell? ⟨w.heap.size, 2, none⟩ = some (.bool xa) := by rw [hW]; go_simp
  have f3 : W0.cell? ⟨w.heap.size, 3, none⟩ = some (.int .i64 xt) := by rw [hW]; go_simp
  have g2 : W0.cell? ⟨w.heap.size + 1, 2, none⟩ = some (.bool ya) := by rw [hW]; go_simp
  have g3 : W0.cell? ⟨w.heap.size + 1, 3, none⟩ = some (.int .i64 yt) := by rw [hW]; go_simp
  have z2 : w.heap.size + 1 < W0.heap.size := by rw [hW]; simp
  have bel0 : Below w.heap.size w W0 := by rw [hW]; exact box2 _ _ _
  rw [← hW]
  clear hW
  refine (hcon.out _ bel0).mono ?_
  rintro e w1 ⟨rfl, b1⟩
  have f2 := (b1.cell (p := ⟨w.heap.size, 2, none⟩) (by show w.heap.size < _; omega)).trans f2
  have f3 := (b1.cell (p := ⟨w.heap.size, 3, none⟩) (by show w.heap.size < _; omega)).trans f3
  have g2 := (b1.cell (p := ⟨w.heap.size + 1, 2, none⟩) z2).trans g2
  have g3 := (b1.cell (p := ⟨w.heap.size + 1, 3, none⟩) z2).trans g3
  have Hb := Lib.hid (bel0.trans (b1.mono bel0.size))
  clear b1 hcon bel0
  cases r
  · go_wp2_with fail
    go_ret
    exact ⟨rfl, Hb.out⟩
  · by_cases ha : xa = ya
    · subst ha
      by_cases ht : xt = yt
      · subst ht
        have e1 : (xa == xa) = true := by simp
        go_wp2_with fail
        go_ret
        exact ⟨by simp, Hb.out⟩
      · have e1 : (xa == xa) = true := by simp
        have e2 : (xt == yt) = false := by simpa using ht
        go_wp2_with fail
        go_ret
        exact ⟨by simp [ht], Hb.out⟩
    · have e1 : (xa == ya) = false := by simpa using ha
      cases xa <;> cases ya <;> first
        | exact absurd rfl ha
        | (clear ha e1
           go_wp2_with fail
           go_ret
           exact ⟨rfl, Hb.out⟩)

/-- a box of a loan -/
theorem box_cells (w : World) (s : ByteArray) (v : Value) (a : Bool) (t : Int) (e : TypeId) : ∀ j u, (#[Value.string s, v, .bool a, .int .i64 t] : Array Value)[j]? = some u → (w.alloc (.cells #[.string s, v, .bool a, .int .i64 t] e)).cell? ⟨w.heap.size, j, none⟩ = some u := by
  intro j u hj
  rw [cell_of_row _ w.heap.size j _ e _ (heap_alloc_new w _)]
  exact hj

set_option maxRecDepth 100000 in
set_option maxHeartbeats 2000000 in
theorem refHas_calls (B : Nat) (l : List LN) (x : LN) (v va : Value) (w : World) (hB : B ≤ w.heap.size) (h : NIn B w l v) (hx : x.place.In B w va) :
    Calls Tryd.prog 38 #[v, .agg #[.string x.place.name, va, .bool x.alone, .int .i64 x.till]] w fun e w' => e = .returned (.bool (hasB l x)) ∧ Below w.heap.size w w' := by
  obtain ⟨ao, cap, rfl⟩ := h.shape
  obtain ⟨n, hn⟩ : ∃ n, n = l.length := ⟨_, rfl⟩
  have HA : Hid (l.take n = l) := Lib.hid (by rw [hn]; exact List.take_length)
  have HI := Lib.hid fun (W : World) (y : LN) (vy : Value) (hb : Below w.heap.size w W) (hy : y.place.In B W vy) => refIs_calls B y x vy va W (Nat.le_trans hB hb.size) hy (hx.below (hb.mono hB))
  rw [← hn] at h ⊢
  obtain ⟨hm, b, o, h1, r1⟩ := h.at
  unfold maxLen at hm
  have Hn := Lib.hid hn
  have Hr := Lib.hid r1
  have H1 := Lib.hid h1
  obtain ⟨ax, cx, rfl⟩ := hx.shape
  have HB0 : Hid (hasB [] x = false) := Lib.hid rfl
  generalize x.place.path.length = nx at *
  have HT := Lib.hid fun k y (hy : l[k]? = some y) => hasB_take (x := x) hy
  have HF := Lib.hid fun k y (hy : l[k]? = some y) (he : isB y x = true) => hasB_iff.2 (isB_iff.1 he ▸ List.mem_of_getElem? hy : x ∈ l)
  obtain ⟨sx, hsx⟩ : ∃ s, s = x.place.name := ⟨_, rfl⟩
  rw [← hsx] at HI ⊢
  clear hn r1 h1 h hx hsx
  go_enter Tryd.func38, Tryd.ntmps38
  go_wp2_with fail
  obtain ⟨W0, hW⟩ : ∃ W, W = w.alloc (.cells #[.string sx, .slice ax nx cx, .bool x.alone, .int .i64 x.till] 37) := ⟨_, rfl⟩
  have f0 : W0.cell? ⟨w.heap.size, 0, none⟩ = some (.string sx) := by rw [hW]; go_simp
  have f1 : W0.cell? ⟨w.heap.size, 1, none⟩ = some (.slice ax nx cx) := by rw [hW]; go_simp
  have f2 : W0.cell? ⟨w.heap.size, 2, none⟩ = some (.bool x.alone) := by rw [hW]; go_simp
  have f3 : W0.cell? ⟨w.heap.size, 3, none⟩ = some (.int .i64 x.till) := by rw [hW]; go_simp
  have z1 : w.heap.size < W0.heap.size := by rw [hW]; simp
  have bel0 := Lib.hid (show Below w.heap.size w W0 from by rw [hW]; exact box1 _ _)
  rw [← hW]
  clear hW
  go_loopw [5] (fun i wr => ∃ k : Nat, k ≤ n ∧ i = .int .i64 k ∧ Hid (Below W0.heap.size W0 wr) ∧ Hid (hasB (l.take k) x = false))
    (fun i _ => n - (intOf i).toNat)
  case atStart => exact ⟨0, by omega, rfl, Lib.hid (Below.refl _ _), HB0⟩
  case round =>
    obtain ⟨k, hk, rfl, hbel, HK⟩ := hrel
    have hk0 : 0 ≤ (k : Int) := by omega
    by_cases hlt : k < n
    · obtain ⟨y, hy, _⟩ := get_at (l := l) (k := k) (by rw [← Hn.out]; exact hlt)
      obtain ⟨rfl, hbb⟩ := H1.out (by omega)
      have hk1 : (k : Int) < (n : Int) := by omega
      obtain ⟨vy, ⟨y0, y1, y2, y3⟩, yi⟩ := Hr.out k y hy
      have K : ∀ m : Over wr, Below W0.heap.size W0 m.w := fun m => hbel.out.trans (m.h.mono hbel.out.size)
      have K2 : ∀ m : Over wr, Below w.heap.size w m.w := fun m => bel0.out.trans ((K m).mono bel0.out.size)
      have G0 : ∀ m : Over wr, m.w.cell? ⟨w.heap.size, 0, none⟩ = some (.string sx) := fun m => ((K m).cell (p := ⟨w.heap.size, 0, none⟩) z1).trans f0
      have G1 : ∀ m : Over wr, m.w.cell? ⟨w.heap.size, 1, none⟩ = some (.slice ax nx cx) := fun m => ((K m).cell (p := ⟨w.heap.size, 1, none⟩) z1).trans f1
      have G2 : ∀ m : Over wr, m.w.cell? ⟨w.heap.size, 2, none⟩ = some (.bool x.alone) := fun m => ((K m).cell (p := ⟨w.heap.size, 2, none⟩) z1).trans f2
      have G3 : ∀ m : Over wr, m.w.cell? ⟨w.heap.size, 3, none⟩ = some (.int .i64 x.till) := fun m => ((K m).cell (p := ⟨w.heap.size, 3, none⟩) z1).trans f3
      have Y0 : ∀ m : Over wr, m.w.cell? ⟨b, o + k * 4, none⟩ = some (.string y.place.name) := fun m => ((K2 m).cell (p := ⟨b, o + k * 4, none⟩) (by show b < _; omega)).trans y0
      have Y1 : ∀ m : Over wr, m.w.cell? ⟨b, o + k * 4 + 1, none⟩ = some vy := fun m => ((K2 m).cell (p := ⟨b, o + k * 4 + 1, none⟩) (by show b < _; omega)).trans y1
      have Y2 : ∀ m : Over wr, m.w.cell? ⟨b, o + k * 4 + 2, none⟩ = some (.bool y.alone) := fun m => ((K2 m).cell (p := ⟨b, o + k * 4 + 2, none⟩) (by show b < _; omega)).trans y2
      have Y3 : ∀ m : Over wr, m.w.cell? ⟨b, o + k * 4 + 3, none⟩ = some (.int .i64 y.till) := fun m => ((K2 m).cell (p := ⟨b, o + k * 4 + 3, none⟩) (by show b < _; omega)).trans y3
      have A1 := Lib.hid fun m : Over wr => over_calls (HI.out m.w y vy (K2 m) (yi.below ((K2 m).mono hB)))
      have HK' := Lib.hid K
      have HT' := Lib.hid (HT.out k y hy)
      have HF' := Lib.hid (HF.out k y hy)
      clear K K2 y0 y1 y2 y3 yi hy
      generalize isB y x = r at *
      generalize y.place.name = sy at *
      generalize y.alone = ya at *
      generalize y.till = yt at *
      go_wp2_with fail
      refine wp_region_over (by kernel_rfl) (by kernel_rfl) ?_
      repeat (go_big_quiet_step ((go_at_call 46; exact A1.out _)))
      refine wpQuiet_nil ?_
      rintro _ ⟨m, rfl⟩
      have HB := Lib.hid (HK'.out m)
      clear G0 G1 G2 G3 Y0 Y1 Y2 Y3 A1 HK'
      generalize m.w = w6 at *
      cases r
      · have HK2 : Hid (hasB (l.take (k + 1)) x = false) := Lib.hid (by rw [HT'.out, HK.out]; rfl)
        go_wp2_with fail
        go_roundw
        case rel => exact ⟨k + 1, by omega, by go_num, HB, HK2⟩
        case measure => simp [intOf]; omega
      · have HR := Lib.hid (HF'.out rfl)
        go_wp2_with fail
        go_ret
        exact ⟨ret_bool HR.out.symm, bel0.out.trans (HB.out.mono bel0.out.size)⟩
    · obtain rfl : n = k := by omega
      have HR : Hid (hasB l x = false) := Lib.hid (by rw [← HA.out]; exact HK.out)
      go_wp2_with fail
      go_ret
      exact ⟨ret_bool HR.out.symm, bel0.out.trans (hbel.out.mono bel0.out.size)⟩
end Go.Proofs.YtaoalplglfdobaaDoor
