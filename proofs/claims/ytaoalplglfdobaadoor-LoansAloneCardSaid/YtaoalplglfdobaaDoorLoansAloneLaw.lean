/- LoansAlone: who may lend alone may do all. -/
import Derived.Test.YtaoalplglfdobaaDoorLoansKit
import Derived.IntWalk
namespace Go.Proofs.YtaoalplglfdobaaDoor
open Go.RowKit
set_option linter.unusedVariables false

/-- what lies behind a place meets nothing that the place doesn't meet -/
theorem meet_of_longer {x p : PP} {st : List ByteArray} (h : meetP x ⟨p.name, p.path ++ st⟩ = true) : meetP x p = true := by
  have e : (PP.mk p.name (p.path ++ st)).key = p.key ++ st.map keyS := by unfold PP.key; simp
  unfold meetP begP at *
  rw [e, Bool.or_eq_true, begK_iff, begK_iff] at h
  rw [Bool.or_eq_true, begK_iff, begK_iff]
  rcases h with h | h
  · exact List.prefix_or_prefix_of_prefix h (List.prefix_append _ _)
  · exact .inr ((List.prefix_append _ _).trans h)
theorem mayB_alone {l : List LN} {p : PP} (h : mayB l p 3 = 0) (u : Int) (h1 : 1 ≤ u) (h2 : u ≤ 6) : mayB l p u = 0 := by
  unfold mayB at *
  rw [if_neg (by omega)] at h ⊢
  have h3 : l.any (badB p 3) = false := by
    cases h4 : l.any (badB p 3)
    · rfl
    · rw [h4] at h; cases h
  have h5 : l.any (badB p u) = false := by
    rw [List.any_eq_false] at h3 ⊢
    intro x hx
    have := h3 x hx
    unfold badB at *
    simp at this ⊢
    intro hm
    exact absurd hm (by simpa using this)
  rw [h5]; rfl
theorem mayB_longer {l : List LN} {p : PP} {st : List ByteArray} (h : mayB l p 3 = 0) (u : Int) (h1 : 1 ≤ u) (h2 : u ≤ 6) : mayB l ⟨p.name, p.path ++ st⟩ u = 0 := by
  unfold mayB at *
  rw [if_neg (by omega)] at h ⊢
  have h3 : l.any (badB p 3) = false := by
    cases h4 : l.any (badB p 3)
    · rfl
    · rw [h4] at h; cases h
  have h5 : l.any (badB ⟨p.name, p.path ++ st⟩ u) = false := by
    rw [List.any_eq_false] at h3 ⊢
    intro x hx
    have := h3 x hx
    unfold badB at *
    simp at this ⊢
    intro hm
    exact absurd (meet_of_longer hm) (by simpa using this)
  rw [h5]; rfl
theorem mayB_strict (l : List LN) (p : PP) (u : Int) (h1 : 3 ≤ u) (h2 : u ≤ 6) : mayB l p u = mayB l p 3 := by
  unfold mayB
  rw [if_neg (show ¬ (u < 1 ∨ 6 < u) by omega), if_neg (show ¬ ((3 : Int) < 1 ∨ (6 : Int) < 3) by omega)]
  have : badB p u = badB p 3 := by
    funext x
    unfold badB
    have e1 : decide (u ≠ 1) = true := decide_eq_true (by omega)
    have e2 : decide (u ≠ 2) = true := decide_eq_true (by omega)
    rw [e1, e2]
    simp
  rw [this]
theorem mayB_shared (l : List LN) (p : PP) : mayB l p 2 = mayB l p 1 := by
  unfold mayB
  have : badB p 2 = badB p 1 := by
    funext x
    unfold badB
    simp
  rw [this]
  rfl
theorem mayB_two (l : List LN) (p : PP) (u : Int) (h1 : 1 ≤ u) (h2 : u ≤ 6) : mayB l p u = 0 ∨ mayB l p u = 141 := by
  unfold mayB
  rw [if_neg (by omega)]
  split
  · exact .inr rfl
  · exact .inl rfl

set_option maxRecDepth 100000 in
set_option maxHeartbeats 4000000 in
theorem loansAlone_walk (w : World) (a : List LN) (va : Value) (ha : NIn w.heap.size w a va ∧ ∀ x ∈ a, (Lit.int .i64 x.till).wf = true) (q : PP) (vq : Value) (hq : q.In w.heap.size w vq) (st : List ByteArray) (vs : Value) (hs : SIn w.heap.size w st vs) (u : Int) (hu : 0 ≤ u ∧ u ≤ 255) (hT : Tb w.heap.size w) :
    Calls Tryd.prog 7 #[va, .agg #[.string q.name, vq], vs, .int .u8 u] w fun e w' => e = .returned (.bool true) ∧ Below w.heap.size w w' := by
  obtain ⟨hu0, hu1⟩ := hu
  have HT := Lib.hid hT
  have AW : Hid (∀ W, Hid (Below w.heap.size w W) → _) := Lib.hid fun W (h : Hid (Below w.heap.size w W)) => awake_up HT h
  have M1 : Hid (∀ W, Hid (Below w.heap.size w W) → _) := Lib.hid fun W (h : Hid (Below w.heap.size w W)) => manyB_calls w.heap.size a va W h.out.size (ha.1.below h.out)
  have L1 : Hid (∀ W, Hid (Below w.heap.size w W) → _) := Lib.hid fun W (h : Hid (Below w.heap.size w W)) => long_calls q w.heap.size vq W h.out.size (hq.below h.out)
  have hm1 := fun h => fit_of (l := a) h ha.2
  have hm2 := fun h => tight_of (x := q) h
  generalize manyB a = m1 at *
  generalize longP q = m2 at *
  obtain ⟨aa, ca, rfl⟩ := ha.1.shape
  obtain ⟨aq, cq, rfl⟩ := hq.shape
  obtain ⟨asp, cs, rfl⟩ := hs.shape
  have mB : ∀ (W : World), Hid (Below w.heap.size w (w.alloc (.cells #[.string q.name, .slice aq q.path.length cq] 25))) := fun _ => Lib.hid (box1 _ _)
  cases m1 with
  | true =>
    clear L1 hm1 hm2 ha hq hT hs
    go_enter Tryd.func7, Tryd.ntmps7
    go_wp2_with fail
    (with_reducible refine (M1.out _ (mB w)).mono ?_)
    rintro e w1 ⟨rfl, b1⟩
    have H1 := hid_up (mB w) b1
    clear b1
    go_wp2_with fail
    (with_reducible refine (AW.out _ H1).mono ?_)
    rintro e w9 ⟨rfl, b9⟩
    have H9 := hid_up H1 b9
    clear b9
    go_wp2_with fail
    go_ret
    exact ⟨rfl, H9.out⟩
  | false =>
    obtain ⟨sq, hsq⟩ : ∃ s, s = q.name := ⟨_, rfl⟩
    have Hsq := Lib.hid hsq
    rw [← hsq] at mB L1 ⊢
    cases m2 with
    | true =>
      generalize q.path.length = nq at *
      clear hm1 hm2 ha hq hT hs hsq
      go_enter Tryd.func7, Tryd.ntmps7
      go_wp2_with fail
      (with_reducible refine (M1.out _ (mB w)).mono ?_)
      rintro e w1 ⟨rfl, b1⟩
      have f0 := (b1.cell (p := ⟨w.heap.size, 0, none⟩) (by simp)).trans (show _ = some (Value.string sq) by go_simp)
      have f1 := (b1.cell (p := ⟨w.heap.size, 1, none⟩) (by simp)).trans (show _ = some (Value.slice aq nq cq) by go_simp)
      have H1 := hid_up (mB w) b1
      clear b1
      go_wp2_with fail
      (with_reducible refine (L1.out _ H1).mono ?_)
      rintro e w2 ⟨rfl, b2⟩
      have H2 := hid_up H1 b2
      clear b2
      go_wp2_with fail
      (with_reducible refine (AW.out _ H2).mono ?_)
      rintro e w9 ⟨rfl, b9⟩
      have H9 := hid_up H2 b9
      clear b9
      go_wp2_with fail
      go_ret
      exact ⟨rfl, H9.out⟩
    | false =>
      have ta := hm2 rfl
      by_cases hst : 20 < st.length
      · have hst1 : decide ((st.length : Int) > 20) = true := by simp; omega
        have hsti : (20 : Int) < (st.length : Int) := by omega
        generalize q.path.length = nq at *
        generalize st.length = ns at *
        clear hm1 hm2 ha hq hT hs ta hsq
        go_enter Tryd.func7, Tryd.ntmps7
        go_wp2_with fail
        (with_reducible refine (M1.out _ (mB w)).mono ?_)
        rintro e w1 ⟨rfl, b1⟩
        have f0 := (b1.cell (p := ⟨w.heap.size, 0, none⟩) (by simp)).trans (show _ = some (Value.string sq) by go_simp)
        have f1 := (b1.cell (p := ⟨w.heap.size, 1, none⟩) (by simp)).trans (show _ = some (Value.slice aq nq cq) by go_simp)
        have H1 := hid_up (mB w) b1
        clear b1
        go_wp2_with fail
        (with_reducible refine (L1.out _ H1).mono ?_)
        rintro e w2 ⟨rfl, b2⟩
        have H2 := hid_up H1 b2
        clear b2
        go_wp2_with fail
        (with_reducible refine (AW.out _ H2).mono ?_)
        rintro e w9 ⟨rfl, b9⟩
        have H9 := hid_up H2 b9
        clear b9
        go_wp2_with fail
        go_ret
        exact ⟨rfl, H9.out⟩
      · have hsti : (st.length : Int) ≤ 20 := by omega
        have fa := hm1 rfl
        have la := fa.len
        have hpl := ta.path
        have Y : Hid (∀ (v : Int), 1 ≤ v → v ≤ 6 → ∀ W, Hid (Below w.heap.size w W) → Calls Tryd.prog 12 #[.slice aa a.length ca, .agg #[.string sq, .slice aq q.path.length cq], .int .u8 v] W fun e w' => e = .returned (.int .i64 (mayB a q v)) ∧ Below W.heap.size W w') :=
          Lib.hid fun v h1 h2 W (h : Hid (Below w.heap.size w W)) => by rw [hsq]; exact may_calls w.heap.size a q v (by omega) (by omega) _ _ (by omega) W h.out.size (ha.1.below h.out) (hq.below h.out)
        have V : Hid (∀ W, Hid (Below w.heap.size w W) → Calls Tryd.prog 27 #[.agg #[.string sq, .slice aq q.path.length cq], .slice asp st.length cs] W fun e w' => ∃ v', e = .returned (.agg #[.string sq, v']) ∧ Hid (PP.In w'.heap.size w' ⟨sq, q.path ++ st⟩ v') ∧ Below W.heap.size W w') :=
          Lib.hid fun W (h : Hid (Below w.heap.size w W)) => by
            rw [hsq]
            refine (with_calls q st (by omega) w.heap.size _ _ W h.out.size (hq.below h.out) (hs.below h.out)).mono ?_
            rintro e w' ⟨v', he, ho, hb⟩
            exact ⟨v', he, Lib.hid (with_in (hq.below h.out) (hs.below h.out) (by omega) ho), hb⟩
        have Z : Hid (∀ (v : Int), 1 ≤ v → v ≤ 6 → ∀ W qv, Hid (PP.In W.heap.size W ⟨sq, q.path ++ st⟩ qv) → Hid (Below w.heap.size w W) → Calls Tryd.prog 12 #[.slice aa a.length ca, .agg #[.string sq, qv], .int .u8 v] W fun e w' => e = .returned (.int .i64 (mayB a ⟨sq, q.path ++ st⟩ v)) ∧ Below W.heap.size W w') :=
          Lib.hid fun v h1 h2 W qv h3 (h : Hid (Below w.heap.size w W)) => may_calls W.heap.size a ⟨sq, q.path ++ st⟩ v (by omega) (by omega) _ _ (by omega) W (Nat.le_refl _) ((ha.1.below h.out).mono h.out.size) h3.out
        obtain ⟨v, hv⟩ : ∃ v : Int, v = 1 + u % 6 := ⟨_, rfl⟩
        have hv1 : 1 ≤ v := by omega
        have hv2 : v ≤ 6 := by omega
        have HA := Lib.hid (fun h => mayB_alone (l := a) (p := q) h v hv1 hv2)
        have HL : Hid (mayB a q 3 = 0 → mayB a ⟨sq, q.path ++ st⟩ v = 0) := Lib.hid (fun h => by rw [hsq]; exact mayB_longer (l := a) (p := q) (st := st) h v hv1 hv2)
        have Y1 := Y.out 1 (by omega) (by omega)
        have Y2 := Y.out 2 (by omega) (by omega)
        have Y3 := Y.out 3 (by omega) (by omega)
        have Y4 := Y.out 4 (by omega) (by omega)
        have Y5 := Y.out 5 (by omega) (by omega)
        have Y6 := Y.out 6 (by omega) (by omega)
        have Yv := Y.out v hv1 hv2
        have Zv := Z.out v hv1 hv2
        rw [mayB_shared] at Y2
        rw [mayB_strict _ _ 4 (by omega) (by omega)] at Y4
        rw [mayB_strict _ _ 5 (by omega) (by omega)] at Y5
        rw [mayB_strict _ _ 6 (by omega) (by omega)] at Y6
        have hr3 := mayB_two a q 3 (by omega) (by omega)
        generalize mayB a q 1 = r1 at *
        generalize mayB a q 3 = r3 at *
        generalize mayB a q v = rv at *
        generalize mayB a ⟨sq, q.path ++ st⟩ v = rz at *
        have Hv := Lib.hid hv
        have Y1 := Lib.hid Y1
        have Y2 := Lib.hid Y2
        have Y3 := Lib.hid Y3
        have Y4 := Lib.hid Y4
        have Y5 := Lib.hid Y5
        have Y6 := Lib.hid Y6
        have Yv := Lib.hid Yv
        have Zv := Lib.hid Zv
        generalize q.path.length = nq at *
        generalize st.length = ns at *
        generalize a.length = na at *
        clear hm1 hm2 ha hq hT hs ta hsq fa la Y Z
        go_enter Tryd.func7, Tryd.ntmps7
        go_wp2_with fail
        (with_reducible refine (M1.out _ (mB w)).mono ?_)
        rintro e w1 ⟨rfl, b1⟩
        have f0 := (b1.cell (p := ⟨w.heap.size, 0, none⟩) (by simp)).trans (show _ = some (Value.string sq) by go_simp)
        have f1 := (b1.cell (p := ⟨w.heap.size, 1, none⟩) (by simp)).trans (show _ = some (Value.slice aq nq cq) by go_simp)
        have z1 : w.heap.size < w1.heap.size := Nat.lt_of_lt_of_le (by simp) b1.size
        have H1 := hid_up (mB w) b1
        clear b1 mB
        go_wp2_with fail
        (with_reducible refine (L1.out _ H1).mono ?_)
        rintro e w2 ⟨rfl, b2⟩
        have f0 := (b2.cell (p := ⟨w.heap.size, 0, none⟩) z1).trans f0
        have f1 := (b2.cell (p := ⟨w.heap.size, 1, none⟩) z1).trans f1
        have z2 : w.heap.size < w2.heap.size := Nat.lt_of_lt_of_le z1 b2.size
        have H2 := hid_up H1 b2
        clear b2 H1 M1 L1 z1
        go_wp2_with fail
        (with_reducible refine (Y3.out _ H2).mono ?_)
        rintro e w3 ⟨rfl, b3⟩
        have f0 := (b3.cell (p := ⟨w.heap.size, 0, none⟩) z2).trans f0
        have f1 := (b3.cell (p := ⟨w.heap.size, 1, none⟩) z2).trans f1
        have z3 : w.heap.size < w3.heap.size := Nat.lt_of_lt_of_le z2 b3.size
        have H3 := hid_up H2 b3
        clear b3 H2 z2 Y3
        rcases hr3 with rfl | rfl
        · have hrv : rv = 0 := HA.out rfl
          have hrz : rz = 0 := HL.out rfl
          subst hrv hrz
          go_wp2_with fail
          rw [← Hv.out]
          (with_reducible refine (Yv.out _ H3).mono ?_)
          rintro e w4 ⟨rfl, b4⟩
          have f0 := (b4.cell (p := ⟨w.heap.size, 0, none⟩) z3).trans f0
          have f1 := (b4.cell (p := ⟨w.heap.size, 1, none⟩) z3).trans f1
          have z4 : w.heap.size < w4.heap.size := Nat.lt_of_lt_of_le z3 b4.size
          have H4 := hid_up H3 b4
          clear b4 H3 z3 Yv
          go_wp2_with fail
          (with_reducible refine (V.out _ H4).mono ?_)
          rintro e w5 ⟨v5, rfl, N5, b5⟩
          have f0 := (b5.cell (p := ⟨w.heap.size, 0, none⟩) z4).trans f0
          have f1 := (b5.cell (p := ⟨w.heap.size, 1, none⟩) z4).trans f1
          have z5 : w.heap.size < w5.heap.size := Nat.lt_of_lt_of_le z4 b5.size
          have H5 := hid_up H4 b5
          clear b5 H4 z4 V
          go_wp2_with fail
          try rw [← Hv.out]
          (with_reducible refine (Zv.out _ _ N5 H5).mono ?_)
          rintro e w6 ⟨rfl, b6⟩
          have f0 := (b6.cell (p := ⟨w.heap.size, 0, none⟩) z5).trans f0
          have f1 := (b6.cell (p := ⟨w.heap.size, 1, none⟩) z5).trans f1
          have z6 : w.heap.size < w6.heap.size := Nat.lt_of_lt_of_le z5 b6.size
          have H6 := hid_up H5 b6
          clear b6 H5 z5 Zv N5 HA HL
          go_wp2_with fail
          have HU := Lib.hid fun m : Over w6 => (show Hid (Below w.heap.size w m.w) from Lib.hid (H6.out.trans (m.h.mono H6.out.size)))
          have A2 := Lib.hid fun m : Over w6 => over_calls (Y2.out m.w (HU.out m))
          have A1 := Lib.hid fun m : Over w6 => over_calls (Y1.out m.w (HU.out m))
          have A4 := Lib.hid fun m : Over w6 => over_calls (Y4.out m.w (HU.out m))
          have A5 := Lib.hid fun m : Over w6 => over_calls (Y5.out m.w (HU.out m))
          have A6 := Lib.hid fun m : Over w6 => over_calls (Y6.out m.w (HU.out m))
          have G0 : ∀ m : Over w6, m.w.cell? ⟨w.heap.size, 0, none⟩ = some (.string sq) := fun m => (m.cells _ _ z6).trans f0
          have G1 : ∀ m : Over w6, m.w.cell? ⟨w.heap.size, 1, none⟩ = some (.slice aq nq cq) := fun m => (m.cells _ _ z6).trans f1
          have e12 : (r1 != r1) = false := by simp
          refine wp_region_over (by kernel_rfl) (by kernel_rfl) ?_
          repeat (go_big_quiet_step ((go_at_call 12; first | (with_reducible exact A2.out _) | (with_reducible exact A1.out _) | (with_reducible exact A4.out _) | (with_reducible exact A5.out _) | (with_reducible exact A6.out _))))
          refine wpQuiet_nil ?_
          rintro _ ⟨m, rfl⟩
          have HB := HU.out m
          generalize m.w = w8 at *
          clear HU A1 A2 A4 A5 A6 G0 G1 Y1 Y2 Y4 Y5 Y6
          go_wp2_with fail
          (with_reducible refine (AW.out _ HB).mono ?_)
          rintro e w9 ⟨rfl, b9⟩
          have H9 := hid_up HB b9
          clear b9
          go_wp2_with fail
          go_ret
          exact ⟨rfl, H9.out⟩
        · clear HA HL Yv Zv V
          go_wp2_with fail
          have HU := Lib.hid fun m : Over w3 => (show Hid (Below w.heap.size w m.w) from Lib.hid (H3.out.trans (m.h.mono H3.out.size)))
          have A2 := Lib.hid fun m : Over w3 => over_calls (Y2.out m.w (HU.out m))
          have A1 := Lib.hid fun m : Over w3 => over_calls (Y1.out m.w (HU.out m))
          have A4 := Lib.hid fun m : Over w3 => over_calls (Y4.out m.w (HU.out m))
          have A5 := Lib.hid fun m : Over w3 => over_calls (Y5.out m.w (HU.out m))
          have A6 := Lib.hid fun m : Over w3 => over_calls (Y6.out m.w (HU.out m))
          have G0 : ∀ m : Over w3, m.w.cell? ⟨w.heap.size, 0, none⟩ = some (.string sq) := fun m => (m.cells _ _ z3).trans f0
          have G1 : ∀ m : Over w3, m.w.cell? ⟨w.heap.size, 1, none⟩ = some (.slice aq nq cq) := fun m => (m.cells _ _ z3).trans f1
          have e12 : (r1 != r1) = false := by simp
          refine wp_region_over (by kernel_rfl) (by kernel_rfl) ?_
          repeat (go_big_quiet_step ((go_at_call 12; first | (with_reducible exact A2.out _) | (with_reducible exact A1.out _) | (with_reducible exact A4.out _) | (with_reducible exact A5.out _) | (with_reducible exact A6.out _))))
          refine wpQuiet_nil ?_
          rintro _ ⟨m, rfl⟩
          have HB := HU.out m
          generalize m.w = w8 at *
          clear HU A1 A2 A4 A5 A6 G0 G1 Y1 Y2 Y4 Y5 Y6
          go_wp2_with fail
          (with_reducible refine (AW.out _ HB).mono ?_)
          rintro e w9 ⟨rfl, b9⟩
          have H9 := hid_up HB b9
          clear b9
          go_wp2_with fail
          go_ret
          exact ⟨rfl, H9.out⟩
end Go.Proofs.YtaoalplglfdobaaDoor
