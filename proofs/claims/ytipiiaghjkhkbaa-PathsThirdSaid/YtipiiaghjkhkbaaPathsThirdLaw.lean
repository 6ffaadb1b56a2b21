/- PathsThird: what begins a place that begins a third one begins that, too; two that begin one place meet. -/
import Derived.Test.YtipiiaghjkhkbaaPathsKit
namespace Go.Proofs.Ytipiiaghjkhkbaa
open Go.RowKit
set_option linter.unusedVariables false

theorem beg_trans {a b c : PP} (h1 : begP a b = true) (h2 : begP b c = true) : begP a c = true := by
  unfold begP at *
  rw [begK_iff] at *
  exact h1.trans h2
theorem beg_two {a b c : PP} (h1 : begP a c = true) (h2 : begP b c = true) : meetP a b = true := by
  unfold meetP begP at *
  rw [begK_iff] at h1 h2
  rw [Bool.or_eq_true, begK_iff, begK_iff]
  exact List.prefix_or_prefix_of_prefix h1 h2

set_option maxRecDepth 100000 in
set_option maxHeartbeats 4000000 in
theorem pathsThird_walk (w : World) (x : PP) (va : Value) (h1 : x.In w.heap.size w va) (y : PP) (vb : Value) (h2 : y.In w.heap.size w vb) (z : PP) (vc : Value) (h3 : z.In w.heap.size w vc) :
    Calls Try.prog 8 #[.agg #[.string x.name, va], .agg #[.string y.name, vb], .agg #[.string z.name, vc]] w fun e w' => e = .returned (.bool true) ∧ Below w.heap.size w w' := by
  have L1 := Lib.hid fun W (h : Below w.heap.size w W) => long_calls x w.heap.size va W h.size (h1.below h)
  have L2 := Lib.hid fun W (h : Below w.heap.size w W) => long_calls y w.heap.size vb W h.size (h2.below h)
  have L3 := Lib.hid fun W (h : Below w.heap.size w W) => long_calls z w.heap.size vc W h.size (h3.below h)
  have C1 := Lib.hid fun W (h : Below w.heap.size w W) => begins_calls w.heap.size x y va vb W h.size (h1.below h) (h2.below h)
  have C2 := Lib.hid fun W (h : Below w.heap.size w W) => begins_calls w.heap.size y z vb vc W h.size (h2.below h) (h3.below h)
  have C3 := Lib.hid fun W (h : Below w.heap.size w W) => begins_calls w.heap.size x z va vc W h.size (h1.below h) (h3.below h)
  have C4 := Lib.hid fun W (h : Below w.heap.size w W) => meets_calls w.heap.size x y va vb W h.size (h1.below h) (h2.below h)
  have T1 := Lib.hid (@beg_trans x y z)
  have T2 := Lib.hid (@beg_two x y z)
  obtain ⟨ao1, cap1, rfl⟩ := h1.shape
  obtain ⟨ao2, cap2, rfl⟩ := h2.shape
  obtain ⟨ao3, cap3, rfl⟩ := h3.shape
  generalize longP x = l1 at *
  generalize longP y = l2 at *
  generalize longP z = l3 at *
  generalize begP x y = r1 at *
  generalize begP y z = r2 at *
  generalize begP x z = r3 at *
  generalize meetP x y = r4 at *
  generalize x.path.length = n1 at *
  generalize y.path.length = n2 at *
  generalize z.path.length = n3 at *
  generalize x.name = s1 at *
  generalize y.name = s2 at *
  generalize z.name = s3 at *
  clear h1 h2 h3
  go_enter Try.func8, Try.ntmps8
  go_wp2_with fail
  obtain ⟨W0, hW⟩ : ∃ W, W = ((w.alloc (.cells #[.string s1, .slice ao1 n1 cap1] 24)).alloc (.cells #[.string s2, .slice ao2 n2 cap2] 24)).alloc (.cells #[.string s3, .slice ao3 n3 cap3] 24) := ⟨_, rfl⟩
  have f0 : W0.cell? ⟨w.heap.size, 0, none⟩ = some (.string s1) := by rw [hW]; go_simp
  have f1 : W0.cell? ⟨w.heap.size, 1, none⟩ = some (.slice ao1 n1 cap1) := by rw [hW]; go_simp
  have g0 : W0.cell? ⟨w.heap.size + 1, 0, none⟩ = some (.string s2) := by rw [hW]; go_simp
  have g1 : W0.cell? ⟨w.heap.size + 1, 1, none⟩ = some (.slice ao2 n2 cap2) := by rw [hW]; go_simp
  have k0 : W0.cell? ⟨w.heap.size + 1 + 1, 0, none⟩ = some (.string s3) := by rw [hW]; go_simp
  have k1 : W0.cell? ⟨w.heap.size + 1 + 1, 1, none⟩ = some (.slice ao3 n3 cap3) := by rw [hW]; go_simp
  have z3 : w.heap.size + 1 + 1 < W0.heap.size := by rw [hW]; simp
  have z2 : w.heap.size + 1 < W0.heap.size := by omega
  have z1 : w.heap.size < W0.heap.size := by omega
  have bel0 : Below w.heap.size w W0 := by rw [hW]; exact (box2 _ _ _).alloc (by simp; omega) _
  rw [← hW]
  clear hW
  have HW := Lib.hid fun W (h : Hid (Below W0.heap.size W0 W)) => (show Below w.heap.size w W from bel0.trans (h.out.mono (by omega)))
  have K3 := Lib.hid fun W W' hb b => row_next W0 W W' hb b
  have HB0 := Lib.hid (Below.refl W0.heap.size W0)
  have D1 := Lib.hid fun W h => C1.out W (HW.out W h)
  have D2 := Lib.hid fun W h => C2.out W (HW.out W h)
  have D3 := Lib.hid fun W h => C3.out W (HW.out W h)
  have D4 := Lib.hid fun W h => C4.out W (HW.out W h)
  have E1 := Lib.hid fun W h => L1.out W (HW.out W h)
  have E2 := Lib.hid fun W h => L2.out W (HW.out W h)
  have E3 := Lib.hid fun W h => L3.out W (HW.out W h)
  clear C1 C2 C3 C4 L1 L2 L3 bel0
  refine (E1.out W0 HB0).mono ?_
  rintro e w1 ⟨rfl, b1⟩
  obtain ⟨hF, HB⟩ := K3.out _ _ HB0 b1
  clear b1 HB0 E1
  have Fin := Lib.hid fun W h => HW.out W h
  clear HW
  cases l1
  rotate_left
  · go_wp2_with (first | (go_at_call 11; with_reducible (first | refine (E2.out _ (by assumption)).mono ?_ | refine (E3.out _ (by assumption)).mono ?_); rintro e wn ⟨rfl, bn⟩; obtain ⟨hF, HB⟩ := K3.out _ _ (by assumption) bn; clear bn) | (go_at_call 14; with_reducible (first | refine (D1.out _ (by assumption)).mono ?_ | refine (D2.out _ (by assumption)).mono ?_ | refine (D3.out _ (by assumption)).mono ?_); rintro e wn ⟨rfl, bn⟩; obtain ⟨hF, HB⟩ := K3.out _ _ (by assumption) bn; clear bn) | (go_at_call 16; refine (D4.out _ (by assumption)).mono ?_; rintro e wn ⟨rfl, bn⟩; obtain ⟨hF, HB⟩ := K3.out _ _ (by assumption) bn; clear bn) | (go_at_call 18; refine (awake_calls _).mono ?_; rintro e wn ⟨rfl, bn⟩; obtain ⟨hF, HB⟩ := K3.out _ _ (by assumption) bn; clear bn))
    go_ret
    exact ⟨rfl, Fin.out _ (by assumption)⟩
  cases l2
  rotate_left
  · go_wp2_with (first | (go_at_call 11; with_reducible (first | refine (E2.out _ (by assumption)).mono ?_ | refine (E3.out _ (by assumption)).mono ?_); rintro e wn ⟨rfl, bn⟩; obtain ⟨hF, HB⟩ := K3.out _ _ (by assumption) bn; clear bn) | (go_at_call 14; with_reducible (first | refine (D1.out _ (by assumption)).mono ?_ | refine (D2.out _ (by assumption)).mono ?_ | refine (D3.out _ (by assumption)).mono ?_); rintro e wn ⟨rfl, bn⟩; obtain ⟨hF, HB⟩ := K3.out _ _ (by assumption) bn; clear bn) | (go_at_call 16; refine (D4.out _ (by assumption)).mono ?_; rintro e wn ⟨rfl, bn⟩; obtain ⟨hF, HB⟩ := K3.out _ _ (by assumption) bn; clear bn) | (go_at_call 18; refine (awake_calls _).mono ?_; rintro e wn ⟨rfl, bn⟩; obtain ⟨hF, HB⟩ := K3.out _ _ (by assumption) bn; clear bn))
    go_ret
    exact ⟨rfl, Fin.out _ (by assumption)⟩
  cases l3
  rotate_left
  · go_wp2_with (first | (go_at_call 11; with_reducible (first | refine (E2.out _ (by assumption)).mono ?_ | refine (E3.out _ (by assumption)).mono ?_); rintro e wn ⟨rfl, bn⟩; obtain ⟨hF, HB⟩ := K3.out _ _ (by assumption) bn; clear bn) | (go_at_call 14; with_reducible (first | refine (D1.out _ (by assumption)).mono ?_ | refine (D2.out _ (by assumption)).mono ?_ | refine (D3.out _ (by assumption)).mono ?_); rintro e wn ⟨rfl, bn⟩; obtain ⟨hF, HB⟩ := K3.out _ _ (by assumption) bn; clear bn) | (go_at_call 16; refine (D4.out _ (by assumption)).mono ?_; rintro e wn ⟨rfl, bn⟩; obtain ⟨hF, HB⟩ := K3.out _ _ (by assumption) bn; clear bn) | (go_at_call 18; refine (awake_calls _).mono ?_; rintro e wn ⟨rfl, bn⟩; obtain ⟨hF, HB⟩ := K3.out _ _ (by assumption) bn; clear bn))
    go_ret
    exact ⟨rfl, Fin.out _ (by assumption)⟩
  cases r3
  · cases r1
    · go_wp2_with (first | (go_at_call 11; with_reducible (first | refine (E2.out _ (by assumption)).mono ?_ | refine (E3.out _ (by assumption)).mono ?_); rintro e wn ⟨rfl, bn⟩; obtain ⟨hF, HB⟩ := K3.out _ _ (by assumption) bn; clear bn) | (go_at_call 14; with_reducible (first | refine (D1.out _ (by assumption)).mono ?_ | refine (D2.out _ (by assumption)).mono ?_ | refine (D3.out _ (by assumption)).mono ?_); rintro e wn ⟨rfl, bn⟩; obtain ⟨hF, HB⟩ := K3.out _ _ (by assumption) bn; clear bn) | (go_at_call 16; refine (D4.out _ (by assumption)).mono ?_; rintro e wn ⟨rfl, bn⟩; obtain ⟨hF, HB⟩ := K3.out _ _ (by assumption) bn; clear bn) | (go_at_call 18; refine (awake_calls _).mono ?_; rintro e wn ⟨rfl, bn⟩; obtain ⟨hF, HB⟩ := K3.out _ _ (by assumption) bn; clear bn))
      go_ret
      exact ⟨rfl, Fin.out _ (by assumption)⟩
    · cases r2
      · go_wp2_with (first | (go_at_call 11; with_reducible (first | refine (E2.out _ (by assumption)).mono ?_ | refine (E3.out _ (by assumption)).mono ?_); rintro e wn ⟨rfl, bn⟩; obtain ⟨hF, HB⟩ := K3.out _ _ (by assumption) bn; clear bn) | (go_at_call 14; with_reducible (first | refine (D1.out _ (by assumption)).mono ?_ | refine (D2.out _ (by assumption)).mono ?_ | refine (D3.out _ (by assumption)).mono ?_); rintro e wn ⟨rfl, bn⟩; obtain ⟨hF, HB⟩ := K3.out _ _ (by assumption) bn; clear bn) | (go_at_call 16; refine (D4.out _ (by assumption)).mono ?_; rintro e wn ⟨rfl, bn⟩; obtain ⟨hF, HB⟩ := K3.out _ _ (by assumption) bn; clear bn) | (go_at_call 18; refine (awake_calls _).mono ?_; rintro e wn ⟨rfl, bn⟩; obtain ⟨hF, HB⟩ := K3.out _ _ (by assumption) bn; clear bn))
        go_ret
        exact ⟨rfl, Fin.out _ (by assumption)⟩
      · exact absurd (T1.out rfl rfl) (by simp)
  · cases r2
    · cases r1
      · go_wp2_with (first | (go_at_call 11; with_reducible (first | refine (E2.out _ (by assumption)).mono ?_ | refine (E3.out _ (by assumption)).mono ?_); rintro e wn ⟨rfl, bn⟩; obtain ⟨hF, HB⟩ := K3.out _ _ (by assumption) bn; clear bn) | (go_at_call 14; with_reducible (first | refine (D1.out _ (by assumption)).mono ?_ | refine (D2.out _ (by assumption)).mono ?_ | refine (D3.out _ (by assumption)).mono ?_); rintro e wn ⟨rfl, bn⟩; obtain ⟨hF, HB⟩ := K3.out _ _ (by assumption) bn; clear bn) | (go_at_call 16; refine (D4.out _ (by assumption)).mono ?_; rintro e wn ⟨rfl, bn⟩; obtain ⟨hF, HB⟩ := K3.out _ _ (by assumption) bn; clear bn) | (go_at_call 18; refine (awake_calls _).mono ?_; rintro e wn ⟨rfl, bn⟩; obtain ⟨hF, HB⟩ := K3.out _ _ (by assumption) bn; clear bn))
        go_ret
        exact ⟨rfl, Fin.out _ (by assumption)⟩
      · go_wp2_with (first | (go_at_call 11; with_reducible (first | refine (E2.out _ (by assumption)).mono ?_ | refine (E3.out _ (by assumption)).mono ?_); rintro e wn ⟨rfl, bn⟩; obtain ⟨hF, HB⟩ := K3.out _ _ (by assumption) bn; clear bn) | (go_at_call 14; with_reducible (first | refine (D1.out _ (by assumption)).mono ?_ | refine (D2.out _ (by assumption)).mono ?_ | refine (D3.out _ (by assumption)).mono ?_); rintro e wn ⟨rfl, bn⟩; obtain ⟨hF, HB⟩ := K3.out _ _ (by assumption) bn; clear bn) | (go_at_call 16; refine (D4.out _ (by assumption)).mono ?_; rintro e wn ⟨rfl, bn⟩; obtain ⟨hF, HB⟩ := K3.out _ _ (by assumption) bn; clear bn) | (go_at_call 18; refine (awake_calls _).mono ?_; rintro e wn ⟨rfl, bn⟩; obtain ⟨hF, HB⟩ := K3.out _ _ (by assumption) bn; clear bn))
        go_ret
        exact ⟨rfl, Fin.out _ (by assumption)⟩
    · obtain rfl : r4 = true := T2.out rfl rfl
      cases r1
      · go_wp2_with (first | (go_at_call 11; with_reducible (first | refine (E2.out _ (by assumption)).mono ?_ | refine (E3.out _ (by assumption)).mono ?_); rintro e wn ⟨rfl, bn⟩; obtain ⟨hF, HB⟩ := K3.out _ _ (by assumption) bn; clear bn) | (go_at_call 14; with_reducible (first | refine (D1.out _ (by assumption)).mono ?_ | refine (D2.out _ (by assumption)).mono ?_ | refine (D3.out _ (by assumption)).mono ?_); rintro e wn ⟨rfl, bn⟩; obtain ⟨hF, HB⟩ := K3.out _ _ (by assumption) bn; clear bn) | (go_at_call 16; refine (D4.out _ (by assumption)).mono ?_; rintro e wn ⟨rfl, bn⟩; obtain ⟨hF, HB⟩ := K3.out _ _ (by assumption) bn; clear bn) | (go_at_call 18; refine (awake_calls _).mono ?_; rintro e wn ⟨rfl, bn⟩; obtain ⟨hF, HB⟩ := K3.out _ _ (by assumption) bn; clear bn))
        go_ret
        exact ⟨rfl, Fin.out _ (by assumption)⟩
      · go_wp2_with (first | (go_at_call 11; with_reducible (first | refine (E2.out _ (by assumption)).mono ?_ | refine (E3.out _ (by assumption)).mono ?_); rintro e wn ⟨rfl, bn⟩; obtain ⟨hF, HB⟩ := K3.out _ _ (by assumption) bn; clear bn) | (go_at_call 14; with_reducible (first | refine (D1.out _ (by assumption)).mono ?_ | refine (D2.out _ (by assumption)).mono ?_ | refine (D3.out _ (by assumption)).mono ?_); rintro e wn ⟨rfl, bn⟩; obtain ⟨hF, HB⟩ := K3.out _ _ (by assumption) bn; clear bn) | (go_at_call 16; refine (D4.out _ (by assumption)).mono ?_; rintro e wn ⟨rfl, bn⟩; obtain ⟨hF, HB⟩ := K3.out _ _ (by assumption) bn; clear bn) | (go_at_call 18; refine (awake_calls _).mono ?_; rintro e wn ⟨rfl, bn⟩; obtain ⟨hF, HB⟩ := K3.out _ _ (by assumption) bn; clear bn))
        go_ret
        exact ⟨rfl, Fin.out _ (by assumption)⟩
end Go.Proofs.Ytipiiaghjkhkbaa
