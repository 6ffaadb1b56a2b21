/- The code's answers on two places: slices.Equal, upTo, Same, Begins, Meets. -/
import Derived.Test.YtaoalplglfdobaaDoorPathsOwnRow
import Derived.Test.YtaoalplglfdobaaDoorOver
import Derived.WalkKit
import Derived.BigQuiet
import Derived.Deep.QuietTactic
import Derived.StillTailTactics
namespace Go.Proofs.YtaoalplglfdobaaDoor
open Go.RowKit
set_option linter.unusedVariables false

def eqSs (xs ys : List ByteArray) : Bool := decide (xs.map keyS = ys.map keyS)
theorem eqSs_len {xs ys : List ByteArray} (h : ¬ xs.length = ys.length) : eqSs xs ys = false := by
  unfold eqSs
  rw [decide_eq_false_iff_not]
  intro e
  have := congrArg List.length e
  simp at this
  exact h this
theorem eqSs_no {xs ys : List ByteArray} {j : Nat} {x y : ByteArray} (hx : xs[j]? = some x) (hy : ys[j]? = some y) (h : ¬ keyS x = keyS y) : eqSs xs ys = false := by
  unfold eqSs
  rw [decide_eq_false_iff_not]
  intro e
  have := congrArg (fun l : List (List UInt8) => l[j]?) e
  simp [hx, hy] at this
  exact h this
theorem eqSs_yes {xs ys : List ByteArray} (hl : xs.length = ys.length) (h : ∀ (j : Nat) x y, xs[j]? = some x → ys[j]? = some y → keyS x = keyS y) : eqSs xs ys = true := by
  unfold eqSs
  rw [decide_eq_true_iff]
  apply List.ext_getElem?
  intro j
  by_cases hj : j < xs.length
  · have h1 : xs[j]? = some xs[j] := List.getElem?_eq_getElem hj
    have h2 : ys[j]? = some ys[j] := List.getElem?_eq_getElem (by omega)
    rw [List.getElem?_map, List.getElem?_map, h1, h2]
    exact congrArg some (h j _ _ h1 h2)
  · rw [List.getElem?_eq_none (by simp; omega), List.getElem?_eq_none (by simp; omega)]

set_option maxHeartbeats 1000000 in
theorem equal_calls (B : Nat) (xs ys : List ByteArray) (v1 v2 : Value) (w : World) (hB : B ≤ w.heap.size) (h1 : SIn B w xs v1) (h2 : SIn B w ys v2) :
    Calls Tryd.prog 50 #[v1, v2] w fun e w' => e = .returned (.bool (eqSs xs ys)) ∧ Below w.heap.size w w' := by
  obtain ⟨b1, o1, ⟨m1, ao1, cap1, rfl, c1, h1⟩, r1⟩ := h1
  obtain ⟨b2, o2, ⟨m2, ao2, cap2, rfl, c2, h2⟩, r2⟩ := h2
  unfold maxLen at m1 m2
  by_cases hl : xs.length = ys.length
  rotate_left
  · rw [eqSs_len hl]
    generalize xs.length = n at *
    generalize ys.length = m at *
    have e1 : ((n : Int) != (m : Int)) = true := by rw [bne_iff_ne]; omega
    clear h1 h2 r1 r2 hl
    go_enter Tryd.func50, Tryd.ntmps50
    go_wp2
    go_ret
    exact ⟨rfl, Below.refl _ _⟩
  have hyes := Lib.hid fun h => eqSs_yes hl h
  have hno := Lib.hid fun j x y h h' => eqSs_no (xs := xs) (ys := ys) (j := j) (x := x) (y := y) h h'
  obtain ⟨n, hx⟩ : ∃ n, n = xs.length := ⟨_, rfl⟩
  have hy : n = ys.length := hx.trans hl
  rw [← hx] at m1 h1 c1 ⊢
  rw [← hy] at m2 h2 c2 ⊢
  have Hx := Lib.hid hx
  have Hy := Lib.hid hy
  have Hr := Lib.hid r1
  have Hs := Lib.hid r2
  have H1 := Lib.hid h1
  have H2 := Lib.hid h2
  clear hl hx hy r1 r2 h1 h2
  go_enter Tryd.func50, Tryd.ntmps50
  go_wp2_with fail
  go_loopw [13] (fun i wr => ∃ k : Nat, k ≤ n ∧ i = .int .i64 k ∧ Below w.heap.size w wr ∧ Hid (∀ (j : Nat) x y, j < k → xs[j]? = some x → ys[j]? = some y → keyS x = keyS y))
    (fun i _ => n - (intOf i).toNat)
  case atStart => exact ⟨0, by omega, rfl, Below.refl _ _, Lib.hid fun j x y hj => by omega⟩
  case round =>
    obtain ⟨k, hk, rfl, hbel, HK⟩ := hrel
    have hbB := hbel.mono hB
    by_cases hlt : k < n
    · obtain ⟨x, ha, _⟩ := get_at (l := xs) (k := k) (by rw [← Hx.out]; exact hlt)
      obtain ⟨y, hb, _⟩ := get_at (l := ys) (k := k) (by rw [← Hy.out]; exact hlt)
      obtain ⟨rfl, hb1⟩ := H1.out.resolve_left (by omega)
      obtain ⟨rfl, hb2⟩ := H2.out.resolve_left (by omega)
      have k0 := (Hr.out.below (fun _ => hb1) hbB k x ha).2
      have k1 := (Hs.out.below (fun _ => hb2) hbB k y hb).2
      have Ha := Lib.hid ha
      have Hb := Lib.hid hb
      have hk1 : (k : Int) < (n : Int) := by omega
      have hk0 : 0 ≤ (k : Int) := by omega
      clear ha hb
      by_cases hs : keyS x = keyS y
      · have HK2 : Hid (∀ (j : Nat) x y, j < k + 1 → xs[j]? = some x → ys[j]? = some y → keyS x = keyS y) := Lib.hid fun j x' y' hj hx' hy' => by
          by_cases e : j = k
          · subst e
            have ex := Option.some.inj (Ha.out.symm.trans hx')
            have ey := Option.some.inj (Hb.out.symm.trans hy')
            rw [← ex, ← ey]; exact hs
          · exact HK.out j x' y' (by omega) hx' hy'
        have e3 := str_neq' hs
        clear hs
        go_wp2_with fail
        go_quiet (fail)
        go_wp2
        go_roundw
        case rel => exact ⟨k + 1, by omega, by go_num, hbel.trans (below_drewN _ _ |>.mono hbel.size), HK2⟩
        case measure => simp [intOf]; omega
      · have hres := Lib.hid (hno.out k x y Ha.out Hb.out hs)
        have e3 := str_neq hs
        clear hs
        go_wp2_with fail
        go_quiet (fail)
        go_wp2
        go_ret
        exact ⟨ret_bool hres.out.symm, hbel.trans (below_drewN _ _ |>.mono hbel.size)⟩
    · obtain rfl : k = n := by omega
      have hres := Lib.hid (hyes.out fun j x y hx hy => HK.out j x y (by rw [Hx.out]; exact some_lt hx) hx hy)
      go_wp2_with fail
      go_ret
      exact ⟨ret_bool hres.out.symm, hbel⟩

theorem same_code (a b : PP) : sameP a b = (decide (keyS a.name = keyS b.name) && eqSs a.path b.path) := by
  unfold sameP eqSs PP.key
  rw [Bool.eq_iff_iff, Bool.and_eq_true, decide_eq_true_eq, decide_eq_true_eq, decide_eq_true_eq, List.cons.injEq]
theorem results_cell1 {fn : Func} {p : Tmp} {ty : TypeId} (h : fn.results = #[.cell p ty]) (tmps : Array Value) (P : Program) (w : World) :
    (results fn tmps).run P w = ((asAddr (tmps.getD p undef)).run P w).andThen fun a w₁ => (loadVar ty a).run P w₁ := by
  simp [results, h, Sem.run_bind, Result.andThen]

set_option maxHeartbeats 1000000 in
theorem same_calls (B : Nat) (a b : PP) (va vb : Value) (w : World) (hB : B ≤ w.heap.size) (h1 : a.In B w va) (h2 : b.In B w vb) :
    Calls Tryd.prog 48 #[.agg #[.string a.name, va], .agg #[.string b.name, vb]] w fun e w' => e = .returned (.bool (sameP a b)) ∧ Below w.heap.size w w' := by
  have hcon := Lib.hid fun (w' : World) (h : Below w.heap.size w w') => equal_calls B a.path b.path va vb w' (Nat.le_trans hB h.size) (h1.2.below (h.mono hB)) (h2.2.below (h.mono hB))
  obtain ⟨ao1, cap1, rfl⟩ := h1.shape
  obtain ⟨ao2, cap2, rfl⟩ := h2.shape
  rw [same_code]
  generalize eqSs a.path b.path = r at *
  generalize a.path.length = n at *
  generalize b.path.length = m at *
  generalize a.name = sa at *
  generalize b.name = sb at *
  clear h1 h2
  by_cases hl : keyS sa = keyS sb
  · have e2 := str_eq hl
    rw [decide_eq_true hl, Bool.true_and]
    clear hl
    go_enter Tryd.func48, Tryd.ntmps48
    go_wp2_with fail
    have bel0 := box2 w (.cells #[.string sa, .slice ao1 n cap1] 25) (.cells #[.string sb, .slice ao2 m cap2] 25)
    generalize (w.alloc (.cells #[.string sa, .slice ao1 n cap1] 25)).alloc (.cells #[.string sb, .slice ao2 m cap2] 25) = W0 at *
    refine (hcon.out W0 bel0).mono ?_
    rintro e w' ⟨rfl, b3⟩
    go_wp2
    go_ret
    exact ⟨rfl, up_tr bel0 b3⟩
  · have e2 := str_ne hl
    rw [decide_eq_false hl, Bool.false_and]
    clear hl
    go_enter Tryd.func48, Tryd.ntmps48
    go_wp2_with fail
    go_ret
    exact ⟨rfl, box2 _ _ _⟩

theorem cut_at (ao : Option Addr) (k : Nat) : sliced ao 0 (k : Int).toNat (k : Int).toNat 1 = .slice ao k k := by
  unfold sliced
  rw [Int.toNat_natCast, Nat.sub_zero]
  by_cases h : k = 0
  · rw [if_pos h]
  · rw [if_neg h]
    cases ao <;> simp [Addr.add]
set_option maxRecDepth 100000 in
set_option maxHeartbeats 1000000 in
theorem upTo_calls (s : ByteArray) (ao : Option Addr) (n cap k : Nat) (hk : k ≤ cap) (w : World) :
    Calls Tryd.prog 40 #[.agg #[.string s, .slice ao n cap], .int .i64 (k : Int)] w fun e w' => e = .returned (.agg #[.string s, .slice ao k k]) ∧ Below w.heap.size w w' := by
  have hcut : ∀ W : World, (Instr.slice 23 (.slice ao n cap) none (some (.int .i64 (k : Int))) (some (.int .i64 (k : Int)))).run Tryd.prog W = .ok (.slice ao k k) W := fun W => by
    rw [run_slice_hm _ _ _ _ _ Tryd.underlying23 _ _ _ _ (by omega) (by omega) (by omega)]
    show ((sizeOf 9).run Tryd.prog W).andThen _ = _
    rw [Tryd.sizeOf9]
    show Result.ok (sliced ao 0 (k : Int).toNat (k : Int).toNat 1) W = _
    rw [cut_at]
  go_enter Tryd.func40, Tryd.ntmps40
  go_wp2_with fail
  go_region
  all_goals
    go_wp2_with fail
    (try simp only [Exit.inBlock, Exit.then])
    refine bodyPost_ret (v := .agg #[.string s, .slice ao k k]) (by rw [results_cell1 rfl]; go_simp) rfl ⟨rfl, ?_⟩
    exact (box2 _ _ _).drew
theorem begin_code (a b : PP) (h : a.path.length ≤ b.path.length) : sameP a ⟨b.name, b.path.take a.path.length⟩ = begP a b := by
  rw [same_of_beg, Bool.eq_iff_iff]
  simp only [Bool.and_eq_true, decide_eq_true_eq, List.length_take, begP, begK_iff]
  rw [Nat.min_eq_left h]
  constructor
  · rintro ⟨_, h2⟩
    refine h2.trans (List.cons_prefix_cons.2 ⟨rfl, ?_⟩)
    show List.map keyS (List.take _ _) <+: _
    rw [List.map_take]
    exact List.take_prefix _ _
  · intro h2
    refine ⟨rfl, ?_⟩
    obtain ⟨h3, h4⟩ := List.cons_prefix_cons.1 h2
    refine List.cons_prefix_cons.2 ⟨h3, ?_⟩
    show _ <+: List.map keyS (List.take _ _)
    rw [List.map_take, List.prefix_take_iff]
    exact ⟨h4, by simp⟩
theorem PP.In.upTo {B : Nat} {w : World} {x : PP} {ao : Option Addr} {n cap : Nat} (h : x.In B w (.slice ao n cap)) {k : Nat} (hk : k ≤ x.path.length) : PP.In B w ⟨x.name, x.path.take k⟩ (.slice ao k k) := by
  obtain ⟨h0, b, o, ⟨h1, ao', cap', h2, h3, h4⟩, h5⟩ := h
  cases h2
  have hl : (x.path.take k).length = k := by rw [List.length_take]; omega
  refine ⟨h0, b, o, ⟨by rw [hl]; omega, ao, k, by rw [hl], by rw [hl]; exact Nat.le_refl _, ?_⟩, fun j s hj => h5 j s ?_⟩
  · rw [hl]
    by_cases hk0 : k = 0
    · exact .inl hk0
    · exact .inr (h4.resolve_left (by omega))
  · have := some_lt hj
    change j < (x.path.take k).length at this
    rw [hl] at this
    rw [List.getElem?_take_of_lt this] at hj
    exact hj

set_option maxHeartbeats 1000000 in
theorem begins_calls (B : Nat) (a b : PP) (va vb : Value) (w : World) (hB : B ≤ w.heap.size) (h1 : a.In B w va) (h2 : b.In B w vb) :
    Calls Tryd.prog 41 #[.agg #[.string a.name, va], .agg #[.string b.name, vb]] w fun e w' => e = .returned (.bool (begP a b)) ∧ Below w.heap.size w w' := by
  obtain ⟨ao1, cap1, rfl⟩ := h1.shape
  obtain ⟨ao2, cap2, rfl⟩ := h2.shape
  have hcap : b.path.length ≤ cap2 := by
    obtain ⟨_, _, _, ⟨_, _, _, h, h3, _⟩, _⟩ := h2
    cases h; exact h3
  by_cases hl : a.path.length ≤ b.path.length
  · have hcon := Lib.hid fun (w' : World) (h : Below w.heap.size w w') => same_calls B a ⟨b.name, b.path.take a.path.length⟩ _ (.slice ao2 a.path.length a.path.length) w' (Nat.le_trans hB h.size) (h1.below (h.mono hB)) ((h2.upTo hl).below (h.mono hB))
    rw [begin_code a b hl] at hcon
    have hup := Lib.hid fun (w' : World) => upTo_calls b.name ao2 b.path.length cap2 a.path.length (by omega) w'
    generalize begP a b = r at *
    generalize a.path.length = n at *
    generalize b.path.length = m at *
    generalize a.name = sa at *
    have hsb : (⟨b.name, b.path.take n⟩ : PP).name = b.name := rfl
    rw [hsb] at hcon
    generalize b.name = sb at *
    clear h1 h2 hsb
    have e1 : (n : Int) ≤ (m : Int) := by omega
    go_enter Tryd.func41, Tryd.ntmps41
    go_wp2_with fail
    obtain ⟨W0, hW⟩ : ∃ W, W = (w.alloc (.cells #[.string sa, .slice ao1 n cap1] 25)).alloc (.cells #[.string sb, .slice ao2 m cap2] 25) := ⟨_, rfl⟩
    have f0 : W0.cell? ⟨w.heap.size, 0, none⟩ = some (.string sa) := by rw [hW]; go_simp
    have f1 : W0.cell? ⟨w.heap.size, 1, none⟩ = some (.slice ao1 n cap1) := by rw [hW]; go_simp
    have g0 : W0.cell? ⟨w.heap.size + 1, 0, none⟩ = some (.string sb) := by rw [hW]; go_simp
    have g1 : W0.cell? ⟨w.heap.size + 1, 1, none⟩ = some (.slice ao2 m cap2) := by rw [hW]; go_simp
    have z1 : w.heap.size < W0.heap.size := by rw [hW]; simp; omega
    have z2 : w.heap.size + 1 < W0.heap.size := by rw [hW]; simp
    have bel0 : Below w.heap.size w W0 := by rw [hW]; exact box2 _ _ _
    rw [← hW]
    clear hW
    have hF := Over.cells (W0 := W0)
    have K4 := Lib.hid (fun (n : Over W0) => (show Below w.heap.size w n.w from bel0.trans (n.h.mono (by omega))))
    have A3 := Lib.hid (fun (n : Over W0) => over_calls (hcon.out _ (K4.out n)))
    have A4 := Lib.hid (fun (n : Over W0) => over_calls (hup.out n.w))
    clear hcon hup bel0
    refine wp_region_over (by kernel_rfl) (by kernel_rfl) ?_
    repeat (go_big_quiet_step ((first | (go_at_call 48; exact A3.out _) | (go_at_call 40; exact A4.out _))))
    refine wpQuiet_nil ?_
    rintro _ ⟨m, rfl⟩
    have HF := Lib.hid (K4.out m)
    go_wp2
    go_ret
    exact ⟨rfl, HF.out⟩
  · rw [beg_no_len (by omega)]
    generalize a.path.length = n at *
    generalize b.path.length = m at *
    generalize a.name = sa at *
    generalize b.name = sb at *
    clear h1 h2
    have e1 : ¬ (n : Int) ≤ (m : Int) := by omega
    go_enter Tryd.func41, Tryd.ntmps41
    go_wp2_with fail
    obtain ⟨W0, hW⟩ : ∃ W, W = (w.alloc (.cells #[.string sa, .slice ao1 n cap1] 25)).alloc (.cells #[.string sb, .slice ao2 m cap2] 25) := ⟨_, rfl⟩
    have g1 : W0.cell? ⟨w.heap.size + 1, 1, none⟩ = some (.slice ao2 m cap2) := by rw [hW]; go_simp
    have z1 : w.heap.size < W0.heap.size := by rw [hW]; simp; omega
    have z2 : w.heap.size + 1 < W0.heap.size := by rw [hW]; simp
    have bel0 : Below w.heap.size w W0 := by rw [hW]; exact box2 _ _ _
    rw [← hW]
    clear hW
    have hF := Over.cells (W0 := W0)
    refine wp_region_over (by kernel_rfl) (by kernel_rfl) ?_
    repeat (go_big_quiet_step (fail))
    refine wpQuiet_nil ?_
    rintro _ ⟨m, rfl⟩
    have HF := Lib.hid (bel0.trans (m.h.mono (by omega)))
    go_wp2
    go_ret
    exact ⟨rfl, HF.out⟩

set_option maxHeartbeats 1000000 in
theorem meets_calls (B : Nat) (a b : PP) (va vb : Value) (w : World) (hB : B ≤ w.heap.size) (h1 : a.In B w va) (h2 : b.In B w vb) :
    Calls Tryd.prog 28 #[.agg #[.string a.name, va], .agg #[.string b.name, vb]] w fun e w' => e = .returned (.bool (meetP a b)) ∧ Below w.heap.size w w' := by
  have hcon := Lib.hid fun (w' : World) (h : Below w.heap.size w w') => begins_calls B a b va vb w' (Nat.le_trans hB h.size) (h1.below (h.mono hB)) (h2.below (h.mono hB))
  have hcon2 := Lib.hid fun (w' : World) (h : Below w.heap.size w w') => begins_calls B b a vb va w' (Nat.le_trans hB h.size) (h2.below (h.mono hB)) (h1.below (h.mono hB))
  obtain ⟨ao1, cap1, rfl⟩ := h1.shape
  obtain ⟨ao2, cap2, rfl⟩ := h2.shape
  unfold meetP
  generalize begP a b = r1 at *
  generalize begP b a = r2 at *
  generalize a.path.length = n at *
  generalize b.path.length = m at *
  generalize a.name = sa at *
  generalize b.name = sb at *
  clear h1 h2
  go_enter Tryd.func28, Tryd.ntmps28
  go_wp2_with fail
  obtain ⟨W0, hW⟩ : ∃ W, W = (w.alloc (.cells #[.string sa, .slice ao1 n cap1] 25)).alloc (.cells #[.string sb, .slice ao2 m cap2] 25) := ⟨_, rfl⟩
  have f0 : W0.cell? ⟨w.heap.size, 0, none⟩ = some (.string sa) := by rw [hW]; go_simp
  have f1 : W0.cell? ⟨w.heap.size, 1, none⟩ = some (.slice ao1 n cap1) := by rw [hW]; go_simp
  have g0 : W0.cell? ⟨w.heap.size + 1, 0, none⟩ = some (.string sb) := by rw [hW]; go_simp
  have g1 : W0.cell? ⟨w.heap.size + 1, 1, none⟩ = some (.slice ao2 m cap2) := by rw [hW]; go_simp
  have z1 : w.heap.size < W0.heap.size := by rw [hW]; simp; omega
  have z2 : w.heap.size + 1 < W0.heap.size := by rw [hW]; simp
  have bel0 : Below w.heap.size w W0 := by rw [hW]; exact box2 _ _ _
  rw [← hW]
  clear hW
  refine (hcon.out _ bel0).mono ?_; rintro e w1 ⟨rfl, b1⟩
  have o1 := old_cells b1
  have f0 := (o1 _ _ z1).trans f0
  have f1 := (o1 _ _ z1).trans f1
  have g0 := (o1 _ _ z2).trans g0
  have g1 := (o1 _ _ z2).trans g1
  have bel1 := Lib.hid (bel0.trans (b1.mono bel0.size))
  clear o1 b1 hcon
  cases r1
  · go_wp2_with fail
    refine (hcon2.out _ bel1.out).mono ?_; rintro e w2 ⟨rfl, b2⟩
    go_wp2
    go_ret
    exact ⟨rfl, bel1.out.trans (b2.mono bel1.out.size)⟩
  · go_wp2_with fail
    go_ret
    exact ⟨rfl, bel1.out⟩
end Go.Proofs.YtaoalplglfdobaaDoor
