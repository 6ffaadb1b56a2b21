/- The document's own answers on two places: Begins, Same, Meets. -/
import Derived.Test.YtaoalplglfdobaaDoorPathsMem
import Derived.Test.YtaoalplglfdobaaDoorRows
import Derived.WalkKit
import Derived.BigQuiet
import Derived.Deep.QuietTactic
import Derived.StillTailTactics
namespace Go.Proofs.YtaoalplglfdobaaDoor
open Go.RowKit
set_option linter.unusedVariables false

set_option maxHeartbeats 1000000 in
theorem refBegins_calls (B : Nat) (a b : PP) (va vb : Value) (w : World) (hB : B ≤ w.heap.size) (h1 : a.In B w va) (h2 : b.In B w vb) :
    Calls Tryd.prog 43 #[.agg #[.string a.name, va], .agg #[.string b.name, vb]] w fun e w' => e = .returned (.bool (begP a b)) ∧ Below w.heap.size w w' := by
  obtain ⟨z1, b1, o1, ⟨m1, ao1, cap1, rfl, c1, h1⟩, r1⟩ := h1
  obtain ⟨z2, b2, o2, ⟨m2, ao2, cap2, rfl, c2, h2⟩, r2⟩ := h2
  unfold maxLen at m1 m2
  obtain ⟨n, hx⟩ : ∃ n, n = a.path.length := ⟨_, rfl⟩
  obtain ⟨m, hy⟩ : ∃ m, m = b.path.length := ⟨_, rfl⟩
  rw [← hx] at m1 h1 c1 ⊢
  rw [← hy] at m2 h2 c2 ⊢
  obtain ⟨sa, hsa⟩ : ∃ s, s = a.name := ⟨_, rfl⟩
  obtain ⟨sb, hsb⟩ : ∃ s, s = b.name := ⟨_, rfl⟩
  rw [← hsa, ← hsb]
  by_cases hn : keyS sa = keyS sb
  rotate_left
  · have e1 := str_neq hn
    have hres := Lib.hid (beg_no_name (a := a) (b := b) (by rw [← hsa, ← hsb]; exact hn))
    clear hsa hsb hx hy r1 r2 h1 h2 hn
    go_enter Tryd.func43, Tryd.ntmps43
    go_wp2_with fail
    go_ret
    exact ⟨ret_bool hres.out.symm, box2 _ _ _⟩
  have e1 := str_neq' hn
  by_cases hl : n ≤ m
  rotate_left
  · have e2 : ((n : Int) > (m : Int)) := by omega
    have hres := Lib.hid (beg_no_len (a := a) (b := b) (by omega))
    clear hsa hsb hx hy r1 r2 h1 h2 hn
    go_enter Tryd.func43, Tryd.ntmps43
    go_wp2_with fail
    go_ret
    exact ⟨ret_bool hres.out.symm, box2 _ _ _⟩
  have e2 : ¬ ((n : Int) > (m : Int)) := by omega
  have hyes := Lib.hid fun h => beg_yes (a := a) (b := b) (by rw [← hsa, ← hsb]; exact hn) (by rw [← hx, ← hy]; exact hl) h
  have hno := Lib.hid fun j x y h h' => beg_no_at (a := a) (b := b) (j := j) (x := x) (y := y) h h'
  have Hx := Lib.hid hx
  have Hy := Lib.hid hy
  have Hr := Lib.hid r1
  have Hs := Lib.hid r2
  have H1 := Lib.hid h1
  have H2 := Lib.hid h2
  clear hsa hsb hx hy r1 r2 h1 h2 hn
  go_enter Tryd.func43, Tryd.ntmps43
  go_wp2_with fail
  go_loopw [5] (fun i wr => ∃ k : Nat, k ≤ n ∧ i = .int .i64 k ∧ w.heap.size + 1 < wr.heap.size ∧ wr.cell? ⟨w.heap.size, 1, none⟩ = some (.slice ao1 n cap1) ∧ wr.cell? ⟨w.heap.size + 1, 1, none⟩ = some (.slice ao2 m cap2) ∧ Hid (Below w.heap.size w wr) ∧
      Hid (∀ (j : Nat) x y, j < k → a.path[j]? = some x → b.path[j]? = some y → keyS x = keyS y))
    (fun i _ => n - (intOf i).toNat)
  case atStart => exact ⟨0, by omega, rfl, by simp, by go_simp, by go_simp, Lib.hid (box2 _ _ _), Lib.hid fun j x y hj => by omega⟩
  case round =>
    obtain ⟨k, hk, rfl, hz, f1, f2, hbel, HK⟩ := hrel
    have hbB := hbel.out.mono hB
    by_cases hlt : k < n
    · obtain ⟨x, ha, _⟩ := get_at (l := a.path) (k := k) (by rw [← Hx.out]; exact hlt)
      obtain ⟨y, hb, _⟩ := get_at (l := b.path) (k := k) (by rw [← Hy.out]; omega)
      obtain ⟨rfl, hb1⟩ := H1.out.resolve_left (by omega)
      obtain ⟨rfl, hb2⟩ := H2.out.resolve_left (by omega)
      have k0 := (Hr.out.below (fun _ => hb1) hbB k x ha).2
      have k1 := (Hs.out.below (fun _ => hb2) hbB k y hb).2
      have Ha := Lib.hid ha
      have Hb := Lib.hid hb
      have hk1 : (k : Int) < (n : Int) := by omega
      have hk2 : (k : Int) < (m : Int) := by omega
      have hk0 : 0 ≤ (k : Int) := by omega
      clear ha hb
      by_cases hs : keyS x = keyS y
      · have HK2 : Hid (∀ (j : Nat) x y, j < k + 1 → a.path[j]? = some x → b.path[j]? = some y → keyS x = keyS y) := Lib.hid fun j x' y' hj hx' hy' => by
          by_cases e : j = k
          · subst e
            have ex := Option.some.inj (Ha.out.symm.trans hx')
            have ey := Option.some.inj (Hb.out.symm.trans hy')
            rw [← ex, ← ey]; exact hs
          · exact HK.out j x' y' (by omega) hx' hy'
        have e3 := str_neq' hs
        clear hs
        go_wp2_with fail
        go_quiet (fail)
        go_wp2
        go_roundw
        case rel => exact ⟨k + 1, by omega, by go_num, by simpa using hz, by simpa using f1, by simpa using f2, Lib.hid (hbel.out.trans (below_drewN _ _ |>.mono hbel.out.size)), HK2⟩
        case measure => simp [intOf]; omega
      · have hres := Lib.hid (hno.out k x y Ha.out Hb.out hs)
        have e3 := str_neq hs
        clear hs
        go_wp2_with fail
        go_quiet (fail)
        go_wp2
        go_ret
        exact ⟨ret_bool hres.out.symm, hbel.out.trans (below_drewN _ _ |>.mono hbel.out.size)⟩
    · obtain rfl : k = n := by omega
      have hres := Lib.hid (hyes.out fun j x y hx hy => HK.out j x y (by rw [Hx.out]; exact some_lt hx) hx hy)
      go_wp2_with fail
      go_ret
      exact ⟨ret_bool hres.out.symm, hbel.out⟩
set_option maxHeartbeats 1000000 in
theorem refSame_calls (B : Nat) (a b : PP) (va vb : Value) (w : World) (hB : B ≤ w.heap.size) (h1 : a.In B w va) (h2 : b.In B w vb) :
    Calls Tryd.prog 37 #[.agg #[.string a.name, va], .agg #[.string b.name, vb]] w fun e w' => e = .returned (.bool (sameP a b)) ∧ Below w.heap.size w w' := by
  have hcon := Lib.hid fun (w' : World) (h : Below w.heap.size w w') => refBegins_calls B a b va vb w' (Nat.le_trans hB h.size) (h1.below (h.mono hB)) (h2.below (h.mono hB))
  obtain ⟨ao1, cap1, rfl⟩ := h1.shape
  obtain ⟨ao2, cap2, rfl⟩ := h2.shape
  rw [same_of_beg]
  generalize begP a b = r at *
  generalize a.path.length = n at *
  generalize b.path.length = m at *
  generalize a.name = sa at *
  generalize b.name = sb at *
  clear h1 h2
  by_cases hl : n = m
  · subst hl
    rw [decide_eq_true rfl, Bool.true_and]
    go_enter Tryd.func37, Tryd.ntmps37
    go_wp2_with fail
    have bel0 := box2 w (.cells #[.string sa, .slice ao1 n cap1] 25) (.cells #[.string sb, .slice ao2 n cap2] 25)
    generalize (w.alloc (.cells #[.string sa, .slice ao1 n cap1] 25)).alloc (.cells #[.string sb, .slice ao2 n cap2] 25) = W0 at *
    refine (hcon.out W0 bel0).mono ?_
    rintro e w' ⟨rfl, b3⟩
    go_wp2
    go_ret
    exact ⟨rfl, up_tr bel0 b3⟩
  · have e2 : ((n : Int) == (m : Int)) = false := by rw [beq_eq_false_iff_ne]; omega
    rw [decide_eq_false hl, Bool.false_and]
    go_enter Tryd.func37, Tryd.ntmps37
    go_wp2_with fail
    go_ret
    exact ⟨rfl, box2 _ _ _⟩

set_option maxHeartbeats 1000000 in
theorem refMeets_calls (B : Nat) (a b : PP) (va vb : Value) (w : World) (hB : B ≤ w.heap.size) (h1 : a.In B w va) (h2 : b.In B w vb) :
    Calls Tryd.prog 31 #[.agg #[.string a.name, va], .agg #[.string b.name, vb]] w fun e w' => e = .returned (.bool (meetP a b)) ∧ Below w.heap.size w w' := by
  have hcon := Lib.hid fun (w' : World) (h : Below w.heap.size w w') => refBegins_calls B a b va vb w' (Nat.le_trans hB h.size) (h1.below (h.mono hB)) (h2.below (h.mono hB))
  have hcon2 := Lib.hid fun (w' : World) (h : Below w.heap.size w w') => refBegins_calls B b a vb va w' (Nat.le_trans hB h.size) (h2.below (h.mono hB)) (h1.below (h.mono hB))
  obtain ⟨ao1, cap1, rfl⟩ := h1.shape
  obtain ⟨ao2, cap2, rfl⟩ := h2.shape
  unfold meetP
  generalize begP a b = r1 at *
  generalize begP b a = r2 at *
  generalize a.path.length = n at *
  generalize b.path.length = m at *
  generalize a.name = sa at *
  generalize b.name = sb at *
  clear h1 h2
  go_enter Tryd.func31, Tryd.ntmps31
  go_wp2_with fail
  obtain ⟨W0, hW⟩ : ∃ W, W = (w.alloc (.cells #[.string sa, .slice ao1 n cap1] 25)).alloc (.cells #[.string sb, .slice ao2 m cap2] 25) := ⟨_, rfl⟩
  have f0 : W0.cell? ⟨w.heap.size, 0, none⟩ = some (.string sa) := by rw [hW]; go_simp
  have f1 : W0.cell? ⟨w.heap.size, 1, none⟩ = some (.slice ao1 n cap1) := by rw [hW]; go_simp
  have g0 : W0.cell? ⟨w.heap.size + 1, 0, none⟩ = some (.string sb) := by rw [hW]; go_simp
  have g1 : W0.cell? ⟨w.heap.size + 1, 1, none⟩ = some (.slice ao2 m cap2) := by rw [hW]; go_simp
  have z1 : w.heap.size < W0.heap.size := by rw [hW]; simp; omega
  have z2 : w.heap.size + 1 < W0.heap.size := by rw [hW]; simp
  have bel0 : Below w.heap.size w W0 := by rw [hW]; exact box2 _ _ _
  rw [← hW]
  clear hW
  refine (hcon.out _ bel0).mono ?_; rintro e w1 ⟨rfl, b1⟩
  have o1 := old_cells b1
  have f0 := (o1 _ _ z1).trans f0
  have f1 := (o1 _ _ z1).trans f1
  have g0 := (o1 _ _ z2).trans g0
  have g1 := (o1 _ _ z2).trans g1
  have bel1 := Lib.hid (bel0.trans (b1.mono bel0.size))
  clear o1 b1 hcon
  cases r1
  · go_wp2_with fail
    refine (hcon2.out _ bel1.out).mono ?_; rintro e w2 ⟨rfl, b2⟩
    go_wp2
    go_ret
    exact ⟨rfl, bel1.out.trans (b2.mono bel1.out.size)⟩
  · go_wp2_with fail
    go_ret
    exact ⟨rfl, bel1.out⟩
end Go.Proofs.YtaoalplglfdobaaDoor
