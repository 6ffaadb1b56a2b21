/- paths.compared, and the comparison that paths.inOrder sorts by. -/
import Derived.Test.YtipiiaghjkhkbaaPathsCmp
import Derived.Test.YtipiiaghjkhkbaaPathsCode1
import Derived.Test.YtipiiaghjkhkbaaPathsRows
import Derived.Deep.MidRow
namespace Go.Proofs.Ytipiiaghjkhkbaa
open Go.RowKit
set_option linter.unusedVariables false

theorem isNaNi_calls (x : Int) (w : World) : Calls Try.prog 50 #[.int .i64 x] w fun e w' => e = .returned (.bool false) ∧ w' = w := by
  have e1 : (x != x) = false := by simp
  go_enter Try.func50, Try.ntmps50
  go_wp2_with fail
  go_ret
  exact ⟨rfl, rfl⟩
def cmpN (i j : Int) : Int := if i < j then -1 else if j < i then 1 else 0
set_option maxHeartbeats 1000000 in
theorem cmpInt_calls (x y : Int) (w : World) : Calls Try.prog 44 #[.int .i64 x, .int .i64 y] w fun e w' => e = .returned (.int .i64 (cmpN x y)) ∧ w' = w := by
  have hn := fun s W => isNaNi_calls s W
  unfold cmpN
  by_cases h1 : x < y
  · rw [if_pos h1]
    go_enter Try.func44, Try.ntmps44
    go_wp2_with (go_at_call 50; refine (hn _ _).mono ?_; rintro e w' ⟨rfl, rfl⟩)
    go_ret
    exact ⟨rfl, rfl⟩
  · rw [if_neg h1]
    by_cases h2 : y < x
    · rw [if_pos h2]
      have h3 : x > y := h2
      go_enter Try.func44, Try.ntmps44
      go_wp2_with (go_at_call 50; refine (hn _ _).mono ?_; rintro e w' ⟨rfl, rfl⟩)
      go_ret
      exact ⟨rfl, rfl⟩
    · rw [if_neg h2]
      have h3 : ¬ x > y := h2
      go_enter Try.func44, Try.ntmps44
      go_wp2_with (go_at_call 50; refine (hn _ _).mono ?_; rintro e w' ⟨rfl, rfl⟩)
      go_ret
      exact ⟨rfl, rfl⟩

theorem cmp_key (a b : PP) : cmpK a.key b.key = if cmpS (keyS a.name) (keyS b.name) = 0 then cmpR a.path b.path else cmpS (keyS a.name) (keyS b.name) := rfl
set_option maxHeartbeats 1000000 in
theorem compared_calls (B : Nat) (a b : PP) (va vb : Value) (w : World) (hB : B ≤ w.heap.size) (h1 : a.In B w va) (h2 : b.In B w vb) :
    Calls Try.prog 43 #[.agg #[.string a.name, va], .agg #[.string b.name, vb]] w fun e w' => e = .returned (.int .i64 (cmpK a.key b.key)) ∧ Gr w w' := by
  have hcon := Lib.hid fun (w' : World) (h : Below w.heap.size w w') => cmpRow_calls B a.path b.path va vb w' (h1.2.below (h.mono hB)) (h2.2.below (h.mono hB))
  have hstr := Lib.hid fun (w' : World) => cmpStr_calls a.name b.name w'
  obtain ⟨ao1, cap1, rfl⟩ := h1.shape
  obtain ⟨ao2, cap2, rfl⟩ := h2.shape
  rw [cmp_key]
  generalize cmpR a.path b.path = y at *
  generalize cmpS (keyS a.name) (keyS b.name) = x at *
  generalize a.path.length = n at *
  generalize b.path.length = m at *
  generalize a.name = sa at *
  generalize b.name = sb at *
  clear h1 h2
  have hor := Lib.hid (or_calls x y)
  generalize (if x = 0 then y else x) = r at *
  go_enter Try.func43, Try.ntmps43
  go_wp2_with fail
  obtain ⟨W0, hW⟩ : ∃ W, W = (w.alloc (.cells #[.string sa, .slice ao1 n cap1] 24)).alloc (.cells #[.string sb, .slice ao2 m cap2] 24) := ⟨_, rfl⟩
  have f0 : W0.cell? ⟨w.heap.size, 0, none⟩ = some (.string sa) := by rw [hW]; go_simp
  have f1 : W0.cell? ⟨w.heap.size, 1, none⟩ = some (.slice ao1 n cap1) := by rw [hW]; go_simp
  have g0 : W0.cell? ⟨w.heap.size + 1, 0, none⟩ = some (.string sb) := by rw [hW]; go_simp
  have g1 : W0.cell? ⟨w.heap.size + 1, 1, none⟩ = some (.slice ao2 m cap2) := by rw [hW]; go_simp
  have z1 : w.heap.size < W0.heap.size := by rw [hW]; simp; omega
  have z2 : w.heap.size + 1 < W0.heap.size := by rw [hW]; simp
  have gr0 : Gr w W0 := by rw [hW]; exact ((Gr.refl w).alloc _).alloc _
  rw [← hW]
  clear hW
  have hF := GrW.cells (W0 := W0)
  have A3 := Lib.hid (fun (n : GrW W0) => grw_still (hcon.out _ (gr0.below.trans (n.h.below.mono (by omega)))))
  have A4 := Lib.hid (fun (n : GrW W0) => grw_still (hstr.out n.w))
  have Hgr := Lib.hid gr0
  clear hcon hstr gr0
  refine wp_region_grown 10 (by kernel_rfl) (by kernel_rfl) ?_
  simp only [List.take_succ_cons, List.take_zero, List.drop_succ_cons, List.drop_zero]
  repeat (go_big_quiet_step ((first | (go_at_call 49; exact A3.out _) | (go_at_call 48; exact A4.out _))))
  refine wpQuiet_nil ?_
  rintro _ ⟨q, rfl⟩
  have HG := Lib.hid (Hgr.out.trans q.h)
  generalize q.w = W1 at *
  clear A3 A4 hF f0 f1 g0 g1
  go_wp2_with (go_at_call 42; refine (hor.out _ _ _ _ (by go_simp) (by go_simp)).mono ?_; rintro e w' ⟨rfl, rfl⟩)
  go_ret
  exact ⟨rfl, HG.out.alloc _⟩

/-! ### a place out of a row of places -/
theorem place_load {B : Nat} {w W : World} {b o j : Nat} {x : PP} {v : Value} (c0 : w.cell? ⟨b, o + j * 2, none⟩ = some (.string x.name)) (c1 : w.cell? ⟨b, o + j * 2 + 1, none⟩ = some v) (hb : b < B) (hk : Below B w W) :
    (Instr.loadAt 24 (.pointer (some ⟨b, o + j * 2, none⟩))).run Try.prog W = .ok (.agg #[.string x.name, v]) W := by
  refine run_loadAt_mid W b _ 24 [.string x.name, v] _ ?_ rfl rfl rfl
  intro i u hi
  match i, hi with
  | 0, hi => cases hi; exact (hk.cell (p := ⟨b, o + j * 2, none⟩) hb).trans c0
  | 1, hi => cases hi; exact (hk.cell (p := ⟨b, o + j * 2 + 1, none⟩) hb).trans c1
theorem cmpI_code (L : List PP) (i j : Nat) : cmpI (keyAt L) i j = if cmpK (keyAt L i) (keyAt L j) = 0 then cmpN i j else cmpK (keyAt L i) (keyAt L j) := rfl
set_option maxHeartbeats 1000000 in
theorem order1_calls (B : Nat) (L : List PP) (lv : Value) (bx i j : Nat) (hi : i < L.length) (hj : j < L.length) (w : World) (hB : B ≤ w.heap.size) (hl : LIn B w L lv) (hbx : bx < w.heap.size) (hc : w.cell? ⟨bx, 0, none⟩ = some lv) :
    Calls Try.prog 41 #[.int .i64 (i : Int), .int .i64 (j : Int), .pointer (some ⟨bx, 0, none⟩)] w fun e w' => e = .returned (.int .i64 (cmpI (keyAt L) i j)) ∧ Gr w w' := by
  obtain ⟨x, hx, _⟩ := get_at hi
  obtain ⟨y, hy, _⟩ := get_at hj
  obtain ⟨b, o, ⟨m1, ao, cap, rfl, c1, h1⟩, r1⟩ := hl
  obtain ⟨rfl, hbB⟩ := h1.resolve_left (by omega)
  unfold maxLen at m1
  obtain ⟨vx, x0, x1, xi⟩ := r1 i x hx
  obtain ⟨vy, y0, y1, yi⟩ := r1 j y hy
  rw [cmpI_code, keyAt_eq hx, keyAt_eq hy]
  have FA : ∀ q : GrW w, q.w.cell? ⟨b, o + i * 2, none⟩ = some (.string x.name) := fun q => (q.cells b _ (by omega)).trans x0
  have FA1 : ∀ q : GrW w, q.w.cell? ⟨b, o + i * 2 + 1, none⟩ = some vx := fun q => (q.cells b _ (by omega)).trans x1
  have FB : ∀ q : GrW w, q.w.cell? ⟨b, o + j * 2, none⟩ = some (.string y.name) := fun q => (q.cells b _ (by omega)).trans y0
  have FB1 : ∀ q : GrW w, q.w.cell? ⟨b, o + j * 2 + 1, none⟩ = some vy := fun q => (q.cells b _ (by omega)).trans y1
  have FC : ∀ q : GrW w, q.w.cell? ⟨bx, 0, none⟩ = some (.slice (some ⟨b, o, none⟩) L.length cap) := fun q => (q.cells bx 0 hbx).trans hc
  have A3 := Lib.hid (fun (q : GrW w) => grw_calls (compared_calls B x y vx vy q.w (Nat.le_trans hB q.h.below.size) (xi.below (q.h.below.mono hB)) (yi.below (q.h.below.mono hB))))
  have A4 := Lib.hid (fun (q : GrW w) => grw_still (cmpInt_calls i j q.w))
  have hor := Lib.hid (or_calls (cmpK x.key y.key) (cmpN i j))
  generalize (if cmpK x.key y.key = 0 then cmpN i j else cmpK x.key y.key) = r at *
  generalize cmpK x.key y.key = u1 at *
  generalize cmpN i j = u2 at *
  generalize x.name = sx at *
  generalize y.name = sy at *
  generalize L.length = n at *
  have i0 : 0 ≤ (i : Int) := by omega
  have j0 : 0 ≤ (j : Int) := by omega
  have i1 : (i : Int) < (n : Int) := by omega
  have j1 : (j : Int) < (n : Int) := by omega
  clear x0 x1 xi y0 y1 yi r1 hx hy hc h1
  go_enter Try.func41, Try.ntmps41
  go_wp2_with fail
  refine wp_region_grown 12 (by kernel_rfl) (by kernel_rfl) ?_
  simp only [List.take_succ_cons, List.take_zero, List.drop_succ_cons, List.drop_zero]
  repeat (go_big_quiet_step ((first | (go_at_call 43; exact A3.out _) | (go_at_call 44; exact A4.out _))))
  refine wpQuiet_nil ?_
  rintro _ ⟨q, rfl⟩
  have HG := Lib.hid q.h
  generalize q.w = W1 at *
  clear A3 A4 FA FB FA1 FB1 FC
  go_wp2_with (go_at_call 42; refine (hor.out _ _ _ _ (by go_simp) (by go_simp)).mono ?_; rintro e w' ⟨rfl, rfl⟩)
  go_ret
  exact ⟨rfl, HG.out.alloc _⟩
end Go.Proofs.Ytipiiaghjkhkbaa
