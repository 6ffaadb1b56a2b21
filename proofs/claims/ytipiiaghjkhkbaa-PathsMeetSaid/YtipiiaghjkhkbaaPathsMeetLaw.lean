/- PathsMeet: whether two places are the same, one begins the other, they meet, is as the document says. -/
import Derived.Test.YtipiiaghjkhkbaaPathsKit
namespace Go.Proofs.Ytipiiaghjkhkbaa
open Go.RowKit
set_option linter.unusedVariables false

set_option maxRecDepth 100000 in
set_option maxHeartbeats 2000000 in
theorem pathsMeet_walk (w : World) (x : PP) (va : Value) (h1 : x.In w.heap.size w va) (y : PP) (vb : Value) (h2 : y.In w.heap.size w vb) :
    Calls Try.prog 3 #[.agg #[.string x.name, va], .agg #[.string y.name, vb]] w fun e w' => e = .returned (.bool true) ∧ Below w.heap.size w w' := by
  have L1 := Lib.hid fun W (h : Below w.heap.size w W) => long_calls x w.heap.size va W h.size (h1.below h)
  have L2 := Lib.hid fun W (h : Below w.heap.size w W) => long_calls y w.heap.size vb W h.size (h2.below h)
  have C1 := Lib.hid fun W (h : Below w.heap.size w W) => same_calls w.heap.size x y va vb W h.size (h1.below h) (h2.below h)
  have C2 := Lib.hid fun W (h : Below w.heap.size w W) => refSame_calls w.heap.size x y va vb W h.size (h1.below h) (h2.below h)
  have C3 := Lib.hid fun W (h : Below w.heap.size w W) => begins_calls w.heap.size x y va vb W h.size (h1.below h) (h2.below h)
  have C4 := Lib.hid fun W (h : Below w.heap.size w W) => refBegins_calls w.heap.size x y va vb W h.size (h1.below h) (h2.below h)
  have C5 := Lib.hid fun W (h : Below w.heap.size w W) => meets_calls w.heap.size x y va vb W h.size (h1.below h) (h2.below h)
  have C6 := Lib.hid fun W (h : Below w.heap.size w W) => refMeets_calls w.heap.size x y va vb W h.size (h1.below h) (h2.below h)
  obtain ⟨ao1, cap1, rfl⟩ := h1.shape
  obtain ⟨ao2, cap2, rfl⟩ := h2.shape
  generalize longP x = l1 at *
  generalize longP y = l2 at *
  generalize sameP x y = r1 at *
  generalize begP x y = r2 at *
  generalize meetP x y = r3 at *
  generalize x.path.length = n at *
  generalize y.path.length = m at *
  generalize x.name = sa at *
  generalize y.name = sb at *
  clear h1 h2
  go_enter Try.func3, Try.ntmps3
  go_wp2_with fail
  obtain ⟨W0, hW⟩ : ∃ W, W = (w.alloc (.cells #[.string sa, .slice ao1 n cap1] 24)).alloc (.cells #[.string sb, .slice ao2 m cap2] 24) := ⟨_, rfl⟩
  have f0 : W0.cell? ⟨w.heap.size, 0, none⟩ = some (.string sa) := by rw [hW]; go_simp
  have f1 : W0.cell? ⟨w.heap.size, 1, none⟩ = some (.slice ao1 n cap1) := by rw [hW]; go_simp
  have g0 : W0.cell? ⟨w.heap.size + 1, 0, none⟩ = some (.string sb) := by rw [hW]; go_simp
  have g1 : W0.cell? ⟨w.heap.size + 1, 1, none⟩ = some (.slice ao2 m cap2) := by rw [hW]; go_simp
  have z1 : w.heap.size < W0.heap.size := by rw [hW]; simp; omega
  have z2 : w.heap.size + 1 < W0.heap.size := by rw [hW]; simp
  have bel0 : Below w.heap.size w W0 := by rw [hW]; exact box2 _ _ _
  rw [← hW]
  clear hW
  refine (L1.out W0 bel0).mono ?_
  rintro e w1 ⟨rfl, b1⟩
  obtain ⟨f0, f1, z1⟩ := pl_up z1 b1 f0 f1
  obtain ⟨g0, g1, z2⟩ := pl_up z2 b1 g0 g1
  have Hb1 := Lib.hid (bel0.trans (b1.mono bel0.size))
  clear b1 bel0 L1
  cases l1
  rotate_left
  · go_wp2_with fail
    go_ret
    exact ⟨rfl, Hb1.out⟩
  go_wp2_with fail
  refine (L2.out w1 Hb1.out).mono ?_
  rintro e w2 ⟨rfl, b1⟩
  obtain ⟨f0, f1, z1⟩ := pl_up z1 b1 f0 f1
  obtain ⟨g0, g1, z2⟩ := pl_up z2 b1 g0 g1
  have Hb2 := Lib.hid (Hb1.out.trans (b1.mono Hb1.out.size))
  clear b1 Hb1 L2
  cases l2
  rotate_left
  · go_wp2_with fail
    go_ret
    exact ⟨rfl, Hb2.out⟩
  have K : ∀ m : Over w2, Below w.heap.size w m.w := fun m => Hb2.out.trans (m.h.mono Hb2.out.size)
  have hF := Over.cells (W0 := w2)
  have A1 := Lib.hid fun m : Over w2 => over_calls (C1.out m.w (K m))
  have A2 := Lib.hid fun m : Over w2 => over_calls (C2.out m.w (K m))
  have A3 := Lib.hid fun m : Over w2 => over_calls (C3.out m.w (K m))
  have A4 := Lib.hid fun m : Over w2 => over_calls (C4.out m.w (K m))
  have A5 := Lib.hid fun m : Over w2 => over_calls (C5.out m.w (K m))
  have A6 := Lib.hid fun m : Over w2 => over_calls (C6.out m.w (K m))
  have A7 := Lib.hid fun m : Over w2 => over_calls (awake_calls m.w)
  have HK := Lib.hid K
  clear K C1 C2 C3 C4 C5 C6
  go_wp2_with fail
  refine wp_region_over (by kernel_rfl) (by kernel_rfl) ?_
  repeat (go_big_quiet_step ((first | (go_at_call 12; exact A1.out _) | (go_at_call 13; exact A2.out _) | (go_at_call 14; exact A3.out _) | (go_at_call 15; exact A4.out _) | (go_at_call 16; exact A5.out _) | (go_at_call 17; exact A6.out _) | (go_at_call 18; exact A7.out _))))
  refine wpQuiet_nil ?_
  rintro _ ⟨q, rfl⟩
  have HF := Lib.hid (HK.out q)
  clear A1 A2 A3 A4 A5 A6 A7 HK hF
  go_wp2_with fail
  go_ret
  exact ⟨rfl, HF.out⟩
end Go.Proofs.Ytipiiaghjkhkbaa
