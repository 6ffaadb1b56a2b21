/- What fits, fourth part: the place of an expression, an expression by its shape. -/
import Derived.Test.YtgpgambbmapicaaTreeFits2
import Derived.Test.YtgpgambbmapicaaOver
namespace Go.Proofs.Ytgpgambbmapicaa
open Go.RowKit
set_option linter.unusedVariables false

theorem size_zero {l : List ByteArray} : (decide ((l.length : Int) = 0)) = decide (l.length = 0) := by rw [decide_eq_decide]; omega
theorem noB_toList (s : ByteArray) : noB s = s.toList.isEmpty := by
  have h : noB s = decide (s.toList = []) := by unfold noB; rw [decide_eq_decide, nul_size]
  rw [h]; cases s.toList <;> simp
set_option maxHeartbeats 4000000 in
theorem fitsPlace_calls (B : Nat) (h : ESh) (op iv : Int) (nm sc : ByteArray) (pl : PP) (es : List PE) (ps : Int) (p0 : Option Addr) (n0 q0 : Nat) (p1 : Option Addr) (n1 q1 : Nat) (w : World) (hB : B ≤ w.heap.size) (hm : MaxOk w)
    (he : PE.In B w (.mk op iv nm sc pl es ps) ⟨.slice p0 n0 q0, .slice p1 n1 q1⟩) :
    Calls Try.prog 132 #[.agg h.cells, .agg #[.int .u8 op, .int .i64 iv, .string nm, .string sc, .string pl.name, .slice p0 n0 q0, .slice p1 n1 q1, .int .i64 ps]] w fun e w' => e = .returned (.bool (fitPl h (.mk op iv nm sc pl es ps))) ∧ Below w.heap.size w w' := by
  obtain ⟨kn, gr, sn, ss, hp, hf, fw, mo⟩ := h
  obtain ⟨_, hpl, b, o, s1, r1⟩ := he
  have hlen : n1 = es.length := by
    obtain ⟨_, ao, cap, h, _⟩ := s1
    injection h
  have hplen : n0 = pl.path.length := by
    obtain ⟨_, b', o', ⟨_, ao, cap, h, _⟩, _⟩ := hpl
    injection h
  have C : Hid (∀ w', Below w.heap.size w w' → Calls Try.prog 29 #[.agg #[.string pl.name, .slice p0 n0 q0]] w' fun e w'' => e = .returned (.bool (plB pl)) ∧ Below w'.heap.size w' w'') :=
    Lib.hid fun w' hw => isPlace_calls B pl _ w' (by have := hw.size; omega) (hm.below hw) (hpl.below (hw.mono hB))
  have Z : Hid (∀ w', Below w.heap.size w w' → Calls Try.prog 135 #[.agg #[.string pl.name, .slice p0 n0 q0]] w' fun e w'' => e = .returned (.bool (samePl pl zeroP)) ∧ Below w'.heap.size w' w'') :=
    Lib.hid fun w' hw => isZeroPlace_calls B pl _ w' (by have := hw.size; omega) (hpl.below (hw.mono hB))
  have A : Hid (∀ w', Below w.heap.size w w' → Calls Try.prog 134 #[.int .u8 1, .slice p0 n0 q0] w' fun e w'' => e = .returned (.bool (decide (pl.path.length ≤ 6) && pl.path.all nmB)) ∧ Below w'.heap.size w' w'') := by
    obtain ⟨hs, b', o', s', r'⟩ := hpl
    exact Lib.hid fun w' hw => fitAll_calls B pl.path b' o' _ w' (by have := hw.size; omega) (hm.below hw) s' (by
      cases hc : pl.path with
      | nil => trivial
      | cons a l => rw [hc] at r' s'; exact NRow.below (s'.lt (by simp)) (hw.mono hB) r')
  have hfp : fitPl ⟨kn, gr, sn, ss, hp, hf, fw, mo⟩ (.mk op iv nm sc pl es ps) = (if hp then plB pl else if hf then pl.name.toList.isEmpty && (decide (n0 = n1) && (decide (n0 ≤ 6) && pl.path.all nmB)) else samePl pl zeroP) := by
    rw [hlen, hplen, ← noB_toList]; rfl
  rw [hfp]
  clear hfp
  rw [← hplen] at A
  have bx := Lib.hid (box2 w (.cells #[.bool kn, .int .i64 gr, .int .u8 sn, .int .u8 ss, .bool hp, .bool hf, .int .i64 fw, .int .i64 mo] 160) (.cells #[.int .u8 op, .int .i64 iv, .string nm, .string sc, .string pl.name, .slice p0 n0 q0, .slice p1 n1 q1, .int .i64 ps] 30))
  generalize plB pl = xa at *
  generalize samePl pl zeroP = xb at *
  generalize (decide (n0 ≤ 6) && pl.path.all nmB) = xc at *
  clear hpl s1 r1 hm hlen hplen
  simp only [ESh.cells]
  cases hp
  · cases hf
    · go_enter Try.func132, Try.ntmps132
      go_wp2_with fail
      refine (Z.out _ bx.out).mono ?_; rintro e w1 ⟨rfl, b1⟩
      go_wp2
      go_ret
      exact ⟨rfl, up_tr bx.out b1⟩
    · by_cases hl : n0 = n1
      · subst hl
        go_enter Try.func132, Try.ntmps132
        go_wp2_with fail
        · refine (A.out _ bx.out).mono ?_; rintro e w1 ⟨rfl, b1⟩
          go_wp2
          go_ret
          exact ⟨ret_bool (by simp [*]), up_tr bx.out b1⟩
        all_goals (go_ret; exact ⟨ret_bool (by simp [*]), bx.out⟩)
      · have e1 : ((n0 : Int) == (n1 : Int)) = false := by rw [beq_eq_false_iff_ne]; omega
        have Hl := Lib.hid hl
        clear hl
        go_enter Try.func132, Try.ntmps132
        go_wp2_with fail
        all_goals (go_ret; exact ⟨ret_bool (by simp [Hl.out]), bx.out⟩)
  · go_enter Try.func132, Try.ntmps132
    go_wp2_with fail
    refine (C.out _ bx.out).mono ?_; rintro e w1 ⟨rfl, b1⟩
    go_wp2
    go_ret
    exact ⟨rfl, up_tr bx.out b1⟩

set_option maxHeartbeats 8000000 in
theorem shapeFits_calls (B : Nat) (h : ESh) (hn : h.name ≤ 3) (hn2 : h.second ≤ 3) (op iv : Int) (nm sc : ByteArray) (pl : PP) (es : List PE) (ps : Int) (p0 : Option Addr) (n0 q0 : Nat) (p1 : Option Addr) (n1 q1 : Nat) (w : World) (hB : B ≤ w.heap.size) (hm : MaxOk w)
    (he : PE.In B w (.mk op iv nm sc pl es ps) ⟨.slice p0 n0 q0, .slice p1 n1 q1⟩) :
    Calls Try.prog 127 #[.agg h.cells, .agg #[.int .u8 op, .int .i64 iv, .string nm, .string sc, .string pl.name, .slice p0 n0 q0, .slice p1 n1 q1, .int .i64 ps]] w fun e w' => e = .returned (.bool (fitSh h (.mk op iv nm sc pl es ps))) ∧ Below w.heap.size w w' := by
  have P : Hid (∀ w', Below w.heap.size w w' → Calls Try.prog 132 #[.agg h.cells, .agg #[.int .u8 op, .int .i64 iv, .string nm, .string sc, .string pl.name, .slice p0 n0 q0, .slice p1 n1 q1, .int .i64 ps]] w' fun e w'' => e = .returned (.bool (fitPl h (.mk op iv nm sc pl es ps))) ∧ Below w'.heap.size w' w'') :=
    Lib.hid fun w' hw => fitsPlace_calls B h op iv nm sc pl es ps p0 n0 q0 p1 n1 q1 w' (by have := hw.size; omega) (hm.below hw) (PE.In.below (hw.mono hB) he)
  obtain ⟨⟨_, _, _, hz1, hz2⟩, _, b, o, s1, r1⟩ := he
  have T1 : Hid (∀ w', Below w.heap.size w w' → Calls Try.prog 46 #[.int .u8 h.name, .string nm] w' fun e w'' => e = .returned (.bool (txB h.name nm)) ∧ Below w'.heap.size w' w'') := Lib.hid fun w' hw => textFits_calls _ hn nm hz1 w' (hm.below hw)
  have T2 : Hid (∀ w', Below w.heap.size w w' → Calls Try.prog 46 #[.int .u8 h.second, .string sc] w' fun e w'' => e = .returned (.bool (txB h.second sc)) ∧ Below w'.heap.size w' w'') := Lib.hid fun w' hw => textFits_calls _ hn2 sc hz2 w' (hm.below hw)
  have hlen : n1 = es.length := by
    obtain ⟨_, ao, cap, h, _⟩ := s1
    injection h
  have hfs : fitSh h (.mk op iv nm sc pl es ps) = (h.known && (decide (0 ≤ iv) && (decide (iv ≤ h.greatest) && (txB h.name nm && (txB h.second sc && (fitPl h (.mk op iv nm sc pl es ps) && (decide ((h.fewest : Int) ≤ (n1 : Int)) && decide ((n1 : Int) ≤ (h.most : Int))))))))) := by
    have a1 : decide ((h.fewest : Int) ≤ (n1 : Int)) = decide (h.fewest ≤ es.length) := by rw [decide_eq_decide]; omega
    have a2 : decide ((n1 : Int) ≤ (h.most : Int)) = decide (es.length ≤ h.most) := by rw [decide_eq_decide]; omega
    rw [a1, a2]; rfl
  rw [hfs]
  clear hfs hlen hm s1 r1 hn hn2 hz1 hz2
  generalize txB h.name nm = x1 at *
  generalize txB h.second sc = x2 at *
  generalize fitPl h (.mk op iv nm sc pl es ps) = x3 at *
  obtain ⟨kn, gr, sn, ss, hp, hf, fw, mo⟩ := h
  simp only [ESh.cells] at *
  cases kn
  · go_enter Try.func127, Try.ntmps127
    go_wp2_with fail
    go_ret
    exact ⟨ret_bool (by simp), box2 _ _ _⟩
  · skip
    go_enter Try.func127, Try.ntmps127
    go_wp2_with fail
    · refine (T1.out _ (box2 _ _ _)).mono ?_; rintro e w1 ⟨rfl, b1⟩
      have bel1 := Lib.hid (up_tr (box2 _ _ _) b1)
      have hc1 := old_cells b1
      go_wp2_with fail
      · refine (T2.out _ bel1.out).mono ?_; rintro e w2 ⟨rfl, b2⟩
        have bel2 := Lib.hid (up_tr bel1.out b2)
        have b2' := up_tr b1 b2
        have hc2 := old_cells b2'
        clear hc1 b1 b2
        go_wp2_with fail
        · refine (P.out _ bel2.out).mono ?_; rintro e w3 ⟨rfl, b3⟩
          have bel3 := Lib.hid (up_tr bel2.out b3)
          have b3' := up_tr b2' b3
          have hc3 := old_cells b3'
          clear hc2 b2' b3
          go_wp2_with fail
          all_goals (go_ret; exact ⟨ret_bool (by first | (simp [*]; done) | (simp [*]; intros; omega)), bel3.out⟩)
        all_goals (go_ret; exact ⟨ret_bool (by first | (simp [*]; done) | (simp [*]; intros; omega)), bel2.out⟩)
      all_goals (go_ret; exact ⟨ret_bool (by first | (simp [*]; done) | (simp [*]; intros; omega)), bel1.out⟩)
    all_goals (go_ret; exact ⟨ret_bool (by first | (simp [*]; done) | (simp [*]; intros; omega)), box2 _ _ _⟩)
end Go.Proofs.Ytgpgambbmapicaa
