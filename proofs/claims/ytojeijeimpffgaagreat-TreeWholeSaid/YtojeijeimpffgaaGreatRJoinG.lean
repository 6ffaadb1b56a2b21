/- What fits, fourth part: the place of an expression, an expression by its shape. -/
import Derived.Test.YtojeijeimpffgaaGreatRJoinD
import Derived.Test.YtojeijeimpffgaaGreatRJoinF
import Derived.RangeFuncNested
import Derived.Shelf.RegionOpen
namespace Go.Proofs.YtojeijeimpffgaaGreat
open Go.RowKit
set_option linter.unusedVariables false

theorem noB_toList (s : ByteArray) : noB s = s.toList.isEmpty := by
  have h : noB s = decide (s.toList = []) := by unfold noB; rw [decide_eq_decide, nul_size]
  rw [h]; cases s.toList <;> simp
set_option maxHeartbeats 4000000 in
theorem fitsPlace_calls (B : Nat) (h : ESh) (op iv : Int) (nm sc : ByteArray) (pl : PP) (es : List PE) (ps : Int) (p0 : Option Addr) (n0 q0 : Nat) (p1 : Option Addr) (n1 q1 : Nat) (w : World) (hB : B ≤ w.heap.size) (hm : MaxOk w)
    (he : PE.In B w (.mk op iv nm sc pl es ps) ⟨.slice p0 n0 q0, .slice p1 n1 q1⟩) :
    Calls Tryz.prog 167 #[.agg h.cells, .agg #[.int .u8 op, .int .i64 iv, .string nm, .string sc, .string pl.name, .slice p0 n0 q0, .slice p1 n1 q1, .int .i64 ps]] w fun e w' => e = .returned (.bool (fitPl h (.mk op iv nm sc pl es ps))) ∧ Below w.heap.size w w' := by
  obtain ⟨kn, gr, sn, ss, hp, hf, fw, mo⟩ := h
  obtain ⟨_, hpl, b, o, s1, r1⟩ := he
  have hlen : n1 = es.length := by
    obtain ⟨_, ao, cap, h, _⟩ := s1
    injection h
  have hplen : n0 = pl.path.length := by
    obtain ⟨_, b', o', ⟨_, ao, cap, h, _⟩, _⟩ := hpl
    injection h
  have C : Hid (∀ w', Below w.heap.size w w' → Calls Tryz.prog 64 #[.agg #[.string pl.name, .slice p0 n0 q0]] w' fun e w'' => e = .returned (.bool (plB pl)) ∧ Below w'.heap.size w' w'') :=
    Lib.hid fun w' hw => isPlace_calls B pl _ w' (by have := hw.size; omega) (hm.below hw) (hpl.below (hw.mono hB))
  have Z : Hid (∀ w', Below w.heap.size w w' → Calls Tryz.prog 169 #[.agg #[.string pl.name, .slice p0 n0 q0]] w' fun e w'' => e = .returned (.bool (samePl pl zeroP)) ∧ Below w'.heap.size w' w'') :=
    Lib.hid fun w' hw => isZeroPlace_calls B pl _ w' (by have := hw.size; omega) (hpl.below (hw.mono hB))
  have A : Hid (∀ w', Below w.heap.size w w' → Calls Tryz.prog 168 #[.int .u8 1, .slice p0 n0 q0] w' fun e w'' => e = .returned (.bool (decide (pl.path.length ≤ 6) && pl.path.all nmB)) ∧ Below w'.heap.size w' w'') := by
    obtain ⟨hs, b', o', s', r'⟩ := hpl
    exact Lib.hid fun w' hw => fitAll_calls B pl.path b' o' _ w' (by have := hw.size; omega) (hm.below hw) s' (by
      cases hc : pl.path with
      | nil => trivial
      | cons a l => rw [hc] at r' s'; exact NRow.below (s'.lt (by simp)) (hw.mono hB) r')
  have hfp : fitPl ⟨kn, gr, sn, ss, hp, hf, fw, mo⟩ (.mk op iv nm sc pl es ps) = (if hp then plB pl else if hf then pl.name.toList.isEmpty && (decide (n0 = n1) && (decide (n0 ≤ 6) && pl.path.all nmB)) else samePl pl zeroP) := by
    rw [hlen, hplen, ← noB_toList]; rfl
  rw [hfp]
  clear hfp
  rw [← hplen] at A
  have bx := Lib.hid (box2 w (.cells #[.bool kn, .int .i64 gr, .int .u8 sn, .int .u8 ss, .bool hp, .bool hf, .int .i64 fw, .int .i64 mo] 186) (.cells #[.int .u8 op, .int .i64 iv, .string nm, .string sc, .string pl.name, .slice p0 n0 q0, .slice p1 n1 q1, .int .i64 ps] 45))
  generalize plB pl = xa at *
  generalize samePl pl zeroP = xb at *
  generalize (decide (n0 ≤ 6) && pl.path.all nmB) = xc at *
  clear hpl s1 r1 hm hlen hplen
  simp only [ESh.cells]
  cases hp
  · cases hf
    · go_enter Tryz.func167, Tryz.ntmps167
      go_wp2_with fail
      refine (Z.out _ bx.out).mono ?_; rintro e w1 ⟨rfl, b1⟩
      go_wp2
      go_ret
      exact ⟨rfl, up_tr bx.out b1⟩
    · by_cases hl : n0 = n1
      · subst hl
        go_enter Tryz.func167, Tryz.ntmps167
        go_wp2_with fail
        · refine (A.out _ bx.out).mono ?_; rintro e w1 ⟨rfl, b1⟩
          go_wp2
          go_ret
          exact ⟨ret_bool (by simp [*]), up_tr bx.out b1⟩
        all_goals (go_ret; exact ⟨ret_bool (by simp [*]), bx.out⟩)
      · have e1 : ((n0 : Int) == (n1 : Int)) = false := by rw [beq_eq_false_iff_ne]; omega
        have Hl := Lib.hid hl
        clear hl
        go_enter Tryz.func167, Tryz.ntmps167
        go_wp2_with fail
        all_goals (go_ret; exact ⟨ret_bool (by simp [Hl.out]), bx.out⟩)
  · go_enter Tryz.func167, Tryz.ntmps167
    go_wp2_with fail
    refine (C.out _ bx.out).mono ?_; rintro e w1 ⟨rfl, b1⟩
    go_wp2
    go_ret
    exact ⟨rfl, up_tr bx.out b1⟩

set_option maxHeartbeats 8000000 in
theorem shapeFits_calls (B : Nat) (h : ESh) (hn : h.name ≤ 3) (hn2 : h.second ≤ 3) (op iv : Int) (nm sc : ByteArray) (pl : PP) (es : List PE) (ps : Int) (p0 : Option Addr) (n0 q0 : Nat) (p1 : Option Addr) (n1 q1 : Nat) (w : World) (hB : B ≤ w.heap.size) (hm : MaxOk w)
    (he : PE.In B w (.mk op iv nm sc pl es ps) ⟨.slice p0 n0 q0, .slice p1 n1 q1⟩) :
    Calls Tryz.prog 164 #[.agg h.cells, .agg #[.int .u8 op, .int .i64 iv, .string nm, .string sc, .string pl.name, .slice p0 n0 q0, .slice p1 n1 q1, .int .i64 ps]] w fun e w' => e = .returned (.bool (fitSh h (.mk op iv nm sc pl es ps))) ∧ Below w.heap.size w w' := by
  have P : Hid (∀ w', Below w.heap.size w w' → Calls Tryz.prog 167 #[.agg h.cells, .agg #[.int .u8 op, .int .i64 iv, .string nm, .string sc, .string pl.name, .slice p0 n0 q0, .slice p1 n1 q1, .int .i64 ps]] w' fun e w'' => e = .returned (.bool (fitPl h (.mk op iv nm sc pl es ps))) ∧ Below w'.heap.size w' w'') :=
    Lib.hid fun w' hw => fitsPlace_calls B h op iv nm sc pl es ps p0 n0 q0 p1 n1 q1 w' (by have := hw.size; omega) (hm.below hw) (PE.In.below (hw.mono hB) he)
  obtain ⟨⟨_, _, _, hz1, hz2⟩, _, b, o, s1, r1⟩ := he
  have T1 : Hid (∀ w', Below w.heap.size w w' → Calls Tryz.prog 94 #[.int .u8 h.name, .string nm] w' fun e w'' => e = .returned (.bool (txB h.name nm)) ∧ Below w'.heap.size w' w'') := Lib.hid fun w' hw => textFits_calls _ hn nm hz1 w' (hm.below hw)
  have T2 : Hid (∀ w', Below w.heap.size w w' → Calls Tryz.prog 94 #[.int .u8 h.second, .string sc] w' fun e w'' => e = .returned (.bool (txB h.second sc)) ∧ Below w'.heap.size w' w'') := Lib.hid fun w' hw => textFits_calls _ hn2 sc hz2 w' (hm.below hw)
  have hlen : n1 = es.length := by
    obtain ⟨_, ao, cap, h, _⟩ := s1
    injection h
  have hfs : fitSh h (.mk op iv nm sc pl es ps) = (h.known && (decide (0 ≤ iv) && (decide (iv ≤ h.greatest) && (txB h.name nm && (txB h.second sc && (fitPl h (.mk op iv nm sc pl es ps) && (decide ((h.fewest : Int) ≤ (n1 : Int)) && decide ((n1 : Int) ≤ (h.most : Int))))))))) := by
    have a1 : decide ((h.fewest : Int) ≤ (n1 : Int)) = decide (h.fewest ≤ es.length) := by rw [decide_eq_decide]; omega
    have a2 : decide ((n1 : Int) ≤ (h.most : Int)) = decide (es.length ≤ h.most) := by rw [decide_eq_decide]; omega
    rw [a1, a2]; rfl
  rw [hfs]
  clear hfs hlen hm s1 r1 hn hn2 hz1 hz2
  generalize txB h.name nm = x1 at *
  generalize txB h.second sc = x2 at *
  generalize fitPl h (.mk op iv nm sc pl es ps) = x3 at *
  obtain ⟨kn, gr, sn, ss, hp, hf, fw, mo⟩ := h
  simp only [ESh.cells] at *
  cases kn
  · go_enter Tryz.func164, Tryz.ntmps164
    go_wp2_with fail
    go_ret
    exact ⟨ret_bool (by simp), box2 _ _ _⟩
  · skip
    go_enter Tryz.func164, Tryz.ntmps164
    go_wp2_with fail
    · refine (T1.out _ (box2 _ _ _)).mono ?_; rintro e w1 ⟨rfl, b1⟩
      have bel1 := Lib.hid (up_tr (box2 _ _ _) b1)
      have hc1 := old_cells b1
      go_wp2_with fail
      · refine (T2.out _ bel1.out).mono ?_; rintro e w2 ⟨rfl, b2⟩
        have bel2 := Lib.hid (up_tr bel1.out b2)
        have b2' := up_tr b1 b2
        have hc2 := old_cells b2'
        clear hc1 b1 b2
        go_wp2_with fail
        · refine (P.out _ bel2.out).mono ?_; rintro e w3 ⟨rfl, b3⟩
          have bel3 := Lib.hid (up_tr bel2.out b3)
          have b3' := up_tr b2' b3
          have hc3 := old_cells b3'
          clear hc2 b2' b3
          go_wp2_with fail
          all_goals (go_ret; exact ⟨ret_bool (by first | (simp [*]; done) | (simp [*]; intros; omega)), bel3.out⟩)
        all_goals (go_ret; exact ⟨ret_bool (by first | (simp [*]; done) | (simp [*]; intros; omega)), bel2.out⟩)
      all_goals (go_ret; exact ⟨ret_bool (by first | (simp [*]; done) | (simp [*]; intros; omega)), bel1.out⟩)
    all_goals (go_ret; exact ⟨ret_bool (by first | (simp [*]; done) | (simp [*]; intros; omega)), box2 _ _ _⟩)
end Go.Proofs.YtojeijeimpffgaaGreat
/- What fits, fifth part: expressions. -/
namespace Go.Proofs.YtojeijeimpffgaaGreat
open Go.RowKit
set_option linter.unusedVariables false

theorem eSh_names (k : Int) : (eSh k).name ≤ 3 ∧ (eSh k).second ≤ 3 := by
  unfold eSh
  repeat' (first | (constructor <;> simp <;> done) | split)
set_option maxHeartbeats 8000000 in
theorem exprFits_calls (B : Nat) (op iv : Int) (nm sc : ByteArray) (pl : PP) (es : List PE) (ps : Int) (p0 : Option Addr) (n0 q0 : Nat) (p1 : Option Addr) (n1 q1 : Nat) (st b o : Nat) (w : World) (hst : st ≤ 3) (hB : B ≤ w.heap.size) (hm : MaxOk w) (hb : b < w.heap.size)
    (hc : CellsAt w b o (PE.cells (.mk op iv nm sc pl es ps) ⟨.slice p0 n0 q0, .slice p1 n1 q1⟩)) (he : PE.In B w (.mk op iv nm sc pl es ps) ⟨.slice p0 n0 q0, .slice p1 n1 q1⟩) :
    Calls Tryz.prog 160 #[.agg #[.pointer (some ⟨b, o, none⟩), .int .u8 st]] w fun e w' => e = .returned (.bool (fitE (.mk op iv nm sc pl es ps) st)) ∧ Below w.heap.size w w' := by
  have c0 : w.cell? ⟨b, o, none⟩ = some (.int .u8 op) := hc 0 _ rfl
  have c1 : w.cell? ⟨b, o + 1, none⟩ = some (.int .i64 iv) := hc 1 _ rfl
  have c2 : w.cell? ⟨b, o + 2, none⟩ = some (.string nm) := hc 2 _ rfl
  have c3 : w.cell? ⟨b, o + 3, none⟩ = some (.string sc) := hc 3 _ rfl
  have c4 : w.cell? ⟨b, o + 4, none⟩ = some (.string pl.name) := hc 4 _ rfl
  have c5 : w.cell? ⟨b, o + 5, none⟩ = some (.slice p0 n0 q0) := hc 5 _ rfl
  have c6 : w.cell? ⟨b, o + 6, none⟩ = some (.slice p1 n1 q1) := hc 6 _ rfl
  have c7 : w.cell? ⟨b, o + 7, none⟩ = some (.int .i64 ps) := hc 7 _ rfl
  have C : Hid (∀ w', Below w.heap.size w w' → Calls Tryz.prog 86 #[.agg #[.int .u8 op, .int .i64 iv, .string nm, .string sc, .string pl.name, .slice p0 n0 q0, .slice p1 n1 q1, .int .i64 ps], .agg #[.int .u8 0, .int .i64 0, .string ByteArray.empty, .string ByteArray.empty, .string ByteArray.empty, .slice none 0 0, .slice none 0 0, .int .i64 0]] w' fun e w'' => e = .returned (.bool (sameE false (.mk op iv nm sc pl es ps) zeroE)) ∧ Below w'.heap.size w' w'') :=
    Lib.hid fun w' hw => sameE_calls B (.mk op iv nm sc pl es ps) zeroE ⟨.slice p0 n0 q0, .slice p1 n1 q1⟩ ⟨.slice none 0 0, .slice none 0 0⟩ w' (by have := hw.size; omega) (PE.In.below (hw.mono hB) he) (zeroE_in B w')
  have hu : U8 op := he.1.1
  have hk := u8_lt hu
  have hn := eSh_names op
  have D : Hid (∀ w', Calls Tryz.prog 163 #[.int .u8 op] w' fun e w'' => e = .returned (.agg (eSh op).cells) ∧ Below w'.heap.size w' w'') := Lib.hid fun w' => exprShape_calls op hk w'
  have S : Hid (∀ w', Below w.heap.size w w' → Calls Tryz.prog 164 #[.agg (eSh op).cells, .agg #[.int .u8 op, .int .i64 iv, .string nm, .string sc, .string pl.name, .slice p0 n0 q0, .slice p1 n1 q1, .int .i64 ps]] w' fun e w'' => e = .returned (.bool (fitSh (eSh op) (.mk op iv nm sc pl es ps))) ∧ Below w'.heap.size w' w'') :=
    Lib.hid fun w' hw => shapeFits_calls B (eSh op) hn.1 hn.2 op iv nm sc pl es ps p0 n0 q0 p1 n1 q1 w' (by have := hw.size; omega) (hm.below hw) (PE.In.below (hw.mono hB) he)
  unfold fitE
  clear hc he hm hu hk hn
  by_cases h3 : st = 3
  · rw [if_pos h3]
    subst h3
    clear D S
    generalize sameE false (.mk op iv nm sc pl es ps) zeroE = q at *
    show Calls Tryz.prog 160 #[.agg #[.pointer (some ⟨b, o, none⟩), .int .u8 3]] w _
    go_enter Tryz.func160, Tryz.ntmps160
    go_wp2_with fail
    refine (C.out _ (box1 _ _)).mono ?_; rintro e w1 ⟨rfl, b1⟩
    go_wp2
    go_ret
    exact ⟨rfl, up_tr (box1 _ _) b1⟩
  · rw [if_neg h3]
    have n3 : ((st : Int) == 3) = false := beq_eq_false_iff_ne.2 (by omega)
    have hl : lentB (.mk op iv nm sc pl es ps) = (decide (op = 5) || decide (op = 6)) := rfl
    rw [hl, show PE.op (.mk op iv nm sc pl es ps) = op from rfl]
    clear C hl
    generalize fitSh (eSh op) (.mk op iv nm sc pl es ps) = q at *
    generalize (eSh op).cells = cs at *
    obtain ⟨W0, hW0⟩ : ∃ W0, W0 = w.alloc (.cells #[.pointer (some ⟨b, o, none⟩), .int .u8 st] 114) := ⟨_, rfl⟩
    have HW := Lib.hid hW0
    have z1 : w.heap.size < W0.heap.size := by rw [hW0]; simp
    have z2 : b < W0.heap.size := by omega
    have f0 : W0.cell? ⟨w.heap.size, 0, none⟩ = some (.pointer (some ⟨b, o, none⟩)) := by rw [hW0]; go_simp
    have f1 : W0.cell? ⟨w.heap.size, 1, none⟩ = some (.int .u8 st) := by rw [hW0]; go_simp
    have d0 : W0.cell? ⟨b, o, none⟩ = some (.int .u8 op) := by rw [hW0]; go_simp
    have d1 : W0.cell? ⟨b, o + 1, none⟩ = some (.int .i64 iv) := by rw [hW0]; go_simp
    have d2 : W0.cell? ⟨b, o + 2, none⟩ = some (.string nm) := by rw [hW0]; go_simp
    have d3 : W0.cell? ⟨b, o + 3, none⟩ = some (.string sc) := by rw [hW0]; go_simp
    have d4 : W0.cell? ⟨b, o + 4, none⟩ = some (.string pl.name) := by rw [hW0]; go_simp
    have d5 : W0.cell? ⟨b, o + 5, none⟩ = some (.slice p0 n0 q0) := by rw [hW0]; go_simp
    have d6 : W0.cell? ⟨b, o + 6, none⟩ = some (.slice p1 n1 q1) := by rw [hW0]; go_simp
    have d7 : W0.cell? ⟨b, o + 7, none⟩ = some (.int .i64 ps) := by rw [hW0]; go_simp
    have B0 : Below w.heap.size w W0 := by rw [hW0]; exact box1 _ _
    have hF := Over.cells (W0 := W0)
    have K4 := Lib.hid (fun (n : Over W0) => (show Below w.heap.size w n.w from B0.trans (n.h.mono (by omega))))
    have A1 : Hid (∀ n' : Over W0, Calls Tryz.prog 163 #[.int .u8 op] n'.w fun e w'' => e = .returned (.agg cs) ∧ ∃ m : Over W0, w'' = m.w) := Lib.hid fun n' => over_calls (D.out _)
    have A2 : Hid (∀ n' : Over W0, Calls Tryz.prog 164 #[.agg cs, .agg #[.int .u8 op, .int .i64 iv, .string nm, .string sc, .string pl.name, .slice p0 n0 q0, .slice p1 n1 q1, .int .i64 ps]] n'.w fun e w'' => e = .returned (.bool q) ∧ ∃ m : Over W0, w'' = m.w) := Lib.hid fun n' => over_calls (S.out _ (K4.out n'))
    clear D S B0 hW0
    by_cases h5 : op = 5 ∨ op = 6
    · have hb5 : (decide (op = 5) || decide (op = 6)) = true := by rcases h5 with rfl | rfl <;> rfl
      rw [hb5]
      clear hb5
      by_cases h1 : st = 1
      · subst h1
        show Calls Tryz.prog 160 #[.agg #[.pointer (some ⟨b, o, none⟩), .int .u8 1]] w _
        rcases h5 with rfl | rfl
        all_goals
          (go_enter Tryz.func160, Tryz.ntmps160
           go_wp2_with fail
           clear c0 c1 c2 c3 c4 c5 c6 c7
           rw [show w.alloc (.cells #[.pointer (some ⟨b, o, none⟩), .int .u8 1] 114) = W0 from HW.out.symm]
           refine wp_region_over (by kernel_rfl) (by kernel_rfl) ?_
           repeat (go_big_quiet_step ((first | (go_at_call 163; exact A1.out _) | (go_at_call 164; exact A2.out _))))
           refine wpQuiet_nil ?_
           rintro _ ⟨m, rfl⟩
           have HF := Lib.hid (K4.out m)
           go_wp2
           go_ret
           exact ⟨ret_bool (by simp), HF.out⟩)
      · have n1' : ((st : Int) == 1) = false := beq_eq_false_iff_ne.2 (by omega)
        rcases h5 with rfl | rfl
        all_goals
          (go_enter Tryz.func160, Tryz.ntmps160
           go_wp2_with fail
           clear c0 c1 c2 c3 c4 c5 c6 c7
           rw [show w.alloc (.cells #[.pointer (some ⟨b, o, none⟩), .int .u8 st] 114) = W0 from HW.out.symm]
           refine wp_region_over (by kernel_rfl) (by kernel_rfl) ?_
           repeat (go_big_quiet_step ((first | (go_at_call 163; exact A1.out _) | (go_at_call 164; exact A2.out _))))
           refine wpQuiet_nil ?_
           rintro _ ⟨m, rfl⟩
           have HF := Lib.hid (K4.out m)
           go_wp2
           go_ret
           exact ⟨ret_bool (by simp [h1]), HF.out⟩)
    · have hb5 : (decide (op = 5) || decide (op = 6)) = false := by simp; omega
      rw [hb5]
      have e5 : (op == 5) = false := beq_eq_false_iff_ne.2 (by omega)
      have e6 : (op == 6) = false := beq_eq_false_iff_ne.2 (by omega)
      clear h5 hb5
      go_enter Tryz.func160, Tryz.ntmps160
      go_wp2_with fail
      clear c0 c1 c2 c3 c4 c5 c6 c7
      rw [show w.alloc (.cells #[.pointer (some ⟨b, o, none⟩), .int .u8 st] 114) = W0 from HW.out.symm]
      refine wp_region_over (by kernel_rfl) (by kernel_rfl) ?_
      repeat (go_big_quiet_step ((first | (go_at_call 163; exact A1.out _) | (go_at_call 164; exact A2.out _))))
      refine wpQuiet_nil ?_
      rintro _ ⟨m, rfl⟩
      have HF := Lib.hid (K4.out m)
      go_wp2
      go_ret
      exact ⟨ret_bool (by simp), HF.out⟩
end Go.Proofs.YtojeijeimpffgaaGreat
/- A part of a tree, whatever its sort: what fits, weight and has answer of it; whole walked once for all sorts. -/
namespace Go.Proofs.YtojeijeimpffgaaGreat
open Go.RowKit Go.Shelf
set_option linter.unusedVariables false
attribute [local go_sem] Oper.semAt_some

inductive RT where
  | mk (fits : Bool) (weight : Nat) (kids : List RT)
def wholeR : Nat → RT → Bool
  | 0, _ => false
  | n + 1, .mk f _ ks => f && ks.all (fun u => wholeR n u)
mutual
def depthR : RT → Nat
  | .mk _ _ ks => depthRs ks + 1
def depthRs : List RT → Nat
  | [] => 0
  | t :: ts => max (depthR t) (depthRs ts)
end
mutual
def sizeR : RT → Nat
  | .mk _ w ks => w + sizeRs ks
def sizeRs : List RT → Nat
  | [] => 0
  | t :: ts => sizeR t + sizeRs ts
end
/-- a value is a part: what its methods answer, in every world over W0 -/
inductive Part (W0 : World) : Value → RT → Prop
  | mk (T : TypeId) (r : Value) (ff fh fw : Nat) (q : Bool) (wt : Nat) (kv : List Value) (kt : List RT)
    (hf : ∀ w, (method 311 T r "weftway/tree.fits").run Tryz.prog w = .ok (ff, r) w)
    (hh : ∀ args w, (callMethod (.iface T r) "weftway/tree.has" args).run Tryz.prog w = .ok (.enter fh (#[r] ++ args)) w)
    (hw : ∀ w, (method 311 T r "weftway/tree.weight").run Tryz.prog w = .ok (fw, r) w)
    (ef : ∀ w, (callFunc ff #[r]).run Tryz.prog w = .ok (.enter ff #[r]) w)
    (ew : ∀ w, (callFunc fw #[r]).run Tryz.prog w = .ok (.enter fw #[r]) w)
    (cf : ∀ W, Below W0.heap.size W0 W → Calls Tryz.prog ff #[r] W fun e w' => e = .returned (.bool q) ∧ Below W.heap.size W w')
    (cw : ∀ W, Below W0.heap.size W0 W → Calls Tryz.prog fw #[r] W fun e w' => e = .returned (.int .i64 wt) ∧ Below W.heap.size W w')
    (ch : ∀ lo W, W0.heap.size ≤ lo → lo ≤ W.heap.size → Below W0.heap.size W0 W → Hands Tryz.prog lo fh r kv W)
    (hl : kv.length = kt.length)
    (hk : ∀ (k : Nat) v t, kv[k]? = some v → kt[k]? = some t → Part W0 v t) :
    Part W0 (.iface T r) (.mk q wt kt)
theorem allR_yes {α : Type} {p : α → Bool} {l : List α} (h : ∀ (j : Nat) x, l[j]? = some x → p x = true) : l.all p = true := by
  rw [List.all_eq_true]
  intro x hx
  obtain ⟨j, hj⟩ := List.mem_iff_getElem?.1 hx
  exact h j x hj
theorem allR_no {α : Type} {p : α → Bool} {l : List α} {k : Nat} {x : α} (h : l[k]? = some x) (hp : p x = false) : l.all p = false := by
  rw [Bool.eq_false_iff]
  intro hc
  have := List.all_eq_true.1 hc x (List.mem_of_getElem? h)
  rw [hp] at this; simp at this

/-- the contract of whole at a part -/
def WholeRAt (W0 : World) (L : Nat) : Prop := ∀ (v : Value) (t : RT) (w : World), Part W0 v t → Below W0.heap.size W0 w →
  Calls Tryz.prog 27 #[v, .int .i64 L] w fun e w' => e = .returned (.bool (wholeR L t)) ∧ Below w.heap.size w w'

set_option maxRecDepth 100000 in
set_option maxHeartbeats 4000000 in
theorem wholeR_zero (W0 : World) : WholeRAt W0 0 := by
  intro v t w ht hB
  obtain ⟨T, r, ff, fh, fw, q, wt, kv, kt, hf, hh, hw, ef, ew, cf, cw, ch, hl, hk⟩ := ht
  rw [wholeR]
  show Calls Tryz.prog 27 #[.iface T r, .int .i64 0] w _
  have hfits := hf
  clear hf hh hw ef ew cf cw ch hl hk
  refine (callsIn_wide (n := 5)).1 ?_
  refine callsIn_of_wp_marks Tryz.func27 rfl trivial ?_ rfl
  simp only [Tryz.ntmps27, List.size_toArray, List.length_cons, List.length_nil, Nat.reduceAdd, Nat.reduceSub, Array.replicate_succ, Array.replicate_zero, List.push_toArray, List.append_toArray, List.nil_append, List.cons_append]
  gi_wp2
  all_goals refine ⟨fun _ _ => trivial, ?_⟩
  all_goals gi_wp2
  all_goals exact ⟨.bool false, by rw [results_cell1 rfl]; go_simp, rfl, box2 _ _ _⟩

set_option maxRecDepth 100000 in
set_option maxHeartbeats 400000 in
theorem wholeR_succ (W0 : World) (L : Nat) (hL : L ≤ 1000) (ih : WholeRAt W0 L) : WholeRAt W0 (L + 1) := by
  intro v t w ht hB
  obtain ⟨T, r, ff, fh, fw, q, wt, kv, kt, hf, hh, hw, ef, ew, cf, cw, ch, hl, hk⟩ := ht
  have F : Hid (∀ w', Below w.heap.size w w' → Calls Tryz.prog ff #[r] w' fun e w'' => e = .returned (.bool q) ∧ Below w'.heap.size w' w'') :=
    Lib.hid fun w' h => cf w' (hB.trans (h.mono hB.size))
  have CH := Lib.hid ch
  have HK := Lib.hid hk
  have HL := Lib.hid hl
  have HH := Lib.hid hh
  have HB0 := Lib.hid hB
  have hB0 := hB.size
  clear hw ew cf cw ch hl hk hh hB
  rw [wholeR]
  have ec : ((L + 1 : Nat) : Int) = (L : Int) + 1 := by omega
  rw [ec]
  clear ec
  have e0 : (((L : Int) + 1) == 0) = false := beq_eq_false_iff_ne.2 (by omega)
  have e1 : ((L : Int) + 1) - 1 = (L : Int) := by omega
  have bx := Lib.hid (box2 w (.cells #[.int .i64 ((L : Int) + 1)] 3) (.cells #[.bool false] 4))
  refine (callsIn_wide (n := 5)).1 ?_
  refine callsIn_of_wp_marks Tryz.func27 rfl trivial ?_ rfl
  simp only [Tryz.ntmps27, List.size_toArray, List.length_cons, List.length_nil, Nat.reduceAdd, Nat.reduceSub, Array.replicate_succ, Array.replicate_zero, List.push_toArray, List.append_toArray, List.nil_append, List.cons_append]
  have hfits := hf
  clear hf
  cases q
  · gi_wp2
    refine ⟨trivial, (callsIn_wide.2 (F.out _ bx.out)).mono ?_⟩
    rintro e w1 ⟨rfl, b1⟩
    have hc1 := old_cells b1
    have hfz : w1.frozen? ⟨w.heap.size + 1, 0, none⟩ = false := (b1.frozen (p := ⟨w.heap.size + 1, 0, none⟩) (by simp)).trans (by go_simp)
    have bel1 := Lib.hid (up_tr bx.out b1)
    gi_wp2
    exact ⟨.bool false, by rw [results_cell1 rfl]; go_simp, rfl, bel1.out.setCell (p := ⟨w.heap.size + 1, 0, none⟩) (by simp) _⟩
  · gi_wp2
    refine ⟨trivial, (callsIn_wide.2 (F.out _ bx.out)).mono ?_⟩
    rintro e w1 ⟨rfl, b1⟩
    have hc0 : w1.cell? ⟨w.heap.size, 0, none⟩ = some (.int .i64 ((L : Int) + 1)) := (b1.cell (p := ⟨w.heap.size, 0, none⟩) (by simp; omega)).trans (by go_simp)
    have hcr : w1.cell? ⟨w.heap.size + 1, 0, none⟩ = some (.bool false) := (b1.cell (p := ⟨w.heap.size + 1, 0, none⟩) (by simp)).trans (by go_simp)
    have hfz : w1.frozen? ⟨w.heap.size + 1, 0, none⟩ = false := (b1.frozen (p := ⟨w.heap.size + 1, 0, none⟩) (by simp)).trans (by go_simp)
    have hs1 : w.heap.size + 1 < w1.heap.size := by have := b1.size; simp at this; omega
    have bel1 := up_tr bx.out b1
    clear b1 F bx hfits ef
    gi_wp2
    refine wpIn_rangeMeth "weftway/tree.has" (.iface T r) r fh rfl HH.out
      kv w.heap.size (by omega) rfl
      (fun W hW => CH.out w.heap.size W hB0 (by have := hW.size; omega) (HB0.out.trans ((bel1.trans (hW.mono (by omega))).mono hB0)))
      (fun k W => W.cell? ⟨w.heap.size, 0, none⟩ = some (.int .i64 ((L : Int) + 1)) ∧ W.cell? ⟨w.heap.size + 1, 0, none⟩ = some (.bool false) ∧ W.frozen? ⟨w.heap.size + 1, 0, none⟩ = false ∧ Hid (Below w.heap.size w W ∧ ∀ (j : Nat) x, j < k → kt[j]? = some x → wholeR L x = true))
      (fun k W => W.cell? ⟨w.heap.size + 1, 0, none⟩ = some (.bool false) ∧ Hid (Below w.heap.size w W ∧ kt.all (fun u => wholeR L u) = false))
      (fun k A A' h hb => ⟨(hb.cell (p := ⟨w.heap.size, 0, none⟩) (by simp; omega)).trans h.1, (hb.cell (p := ⟨w.heap.size + 1, 0, none⟩) (by simp; omega)).trans h.2.1, (hb.frozen (p := ⟨w.heap.size + 1, 0, none⟩) (by simp; omega)).trans h.2.2.1, h.2.2.2.out.1.trans (hb.mono (by omega)), h.2.2.2.out.2⟩)
      (fun k A A' h hb => ⟨(hb.cell (p := ⟨w.heap.size + 1, 0, none⟩) (by simp; omega)).trans h.1, h.2.out.1.trans (hb.mono (by omega)), h.2.out.2⟩)
      ⟨hc0, hcr, hfz, bel1, fun j x hj => absurd hj (by omega)⟩
      (fun x => { tmps := #[.iface T r, .int .i64 ((L : Int) + 1), undef, .pointer (some ⟨w.heap.size, 0, none⟩), .pointer (some ⟨w.heap.size + 1, 0, none⟩), x, .int .i64 ((L : Int) + 1), .bool false, .bool false,
        .iface T r, .bool true, .bool false, .bool false, .iface T r, .iface T r,
        .func (.method "weftway/tree.has") #[.iface T r] #[], x, undef, undef, undef, undef, undef], defers := [] }) ?assign ?body ?done ?stop
    case assign =>
      intro l x W K hK
      gi_wp2
      exact hK
    case body =>
      rintro l k v W hv ⟨h0, hr, hf, hH⟩ hW
      have hkk : k < kt.length := by
        have := (List.getElem?_eq_some_iff.1 hv).1
        rwa [HL.out] at this
      obtain ⟨x, hx⟩ : ∃ x, kt[k]? = some x := ⟨_, List.getElem?_eq_getElem hkk⟩
      have hsz := hH.out.1.size
      have C : Hid (Calls Tryz.prog 27 #[v, .int .i64 L] W fun e w' => e = .returned (.bool (wholeR L x)) ∧ Below W.heap.size W w') := Lib.hid (ih v x W (HK.out k v x hv hx) (HB0.out.trans (hH.out.1.mono hB0)))
      have Hx := Lib.hid hx
      have HW := Lib.hid hW
      generalize hq : wholeR L x = q at *
      have Hq := Lib.hid hq
      clear hx hv hq hW hkk
      gi_wp2
      refine ⟨trivial, (CallsIn.inRound l (callsIn_wide.2 C.out)).mono ?_⟩
      rintro e W' ⟨rfl, b2⟩
      have g0 := (b2.cell (p := ⟨w.heap.size, 0, none⟩) (by have := HW.out; simp; omega)).trans h0
      have gr := (b2.cell (p := ⟨w.heap.size + 1, 0, none⟩) (by have := HW.out; simp; omega)).trans hr
      have gf := (b2.frozen (p := ⟨w.heap.size + 1, 0, none⟩) (by have := HW.out; simp; omega)).trans hf
      have HB := Lib.hid b2
      clear b2 C h0 hr hf
      cases q
      · gi_wp2
        exact ⟨(Keeps.of_below HB.out).setCell (p := ⟨w.heap.size + 1, 0, none⟩) (by simp) (by simp; omega) _, World.cell?_setCell_same' _ _ _ (by rw [gr]; rfl),
          Lib.hid ⟨(hH.out.1.trans (HB.out.mono (by omega))).setCell (p := ⟨w.heap.size + 1, 0, none⟩) (by simp) _, allR_no Hx.out Hq.out⟩⟩
      · gi_wp2
        refine ⟨Keeps.of_below HB.out, g0, gr, gf, Lib.hid ⟨hH.out.1.trans (HB.out.mono (by omega)), fun j y hj hy => ?_⟩⟩
        by_cases e : j = k
        · subst e
          rw [Hx.out] at hy
          cases hy
          exact Hq.out
        · exact hH.out.2 j y (by omega) hy
    case done =>
      rintro D W hD ⟨h0, hr, hf, hH⟩ hK
      have hall := Lib.hid (allR_yes (p := fun u => wholeR L u) (l := kt) fun j x hx => hH.out.2 j x (by rw [HL.out]; exact (List.getElem?_eq_some_iff.1 hx).1) hx)
      gi_wp2
      have hK2 : (W.setCell ⟨w.heap.size + 1, 0, none⟩ (.bool true)).heap[D]? = some (.deferred (some [])) := (Below.heap_setCell W ⟨w.heap.size + 1, 0, none⟩ _ D (by simp; omega)).trans hK
      have hcell : ((W.setCell ⟨w.heap.size + 1, 0, none⟩ (.bool true)).putObj D (.deferred none)).cell? ⟨w.heap.size + 1, 0, none⟩ = some (.bool true) :=
        (World.cell?_of_block (World.putObj_heap_other (k := w.heap.size + 1) (by omega))).trans (World.cell?_setCell_same' _ _ _ (by rw [hr]; rfl))
      refine ⟨by simp, .inl ⟨_, _, rfl, run_takeDeferred hK2, ?_⟩⟩
      exact ⟨.bool true, by rw [results_cell1 rfl]; go_simp, ret_bool (by rw [hall.out]; rfl), below_putObj (hH.out.1.setCell (p := ⟨w.heap.size + 1, 0, none⟩) (by simp) _) (by omega) _⟩
    case stop =>
      rintro D k W hD hk ⟨hr, hH⟩ hK
      gi_wp2
      have hcell : (W.putObj D (.deferred none)).cell? ⟨w.heap.size + 1, 0, none⟩ = some (.bool false) :=
        (World.cell?_of_block (World.putObj_heap_other (k := w.heap.size + 1) (by omega))).trans hr
      refine ⟨by simp, .inl ⟨_, _, rfl, run_takeDeferred hK, ?_⟩⟩
      exact ⟨.bool false, by rw [results_cell1 rfl]; go_simp, ret_bool (by rw [hH.out.2]; rfl), below_putObj hH.out.1 (by omega) _⟩
theorem wholeR_calls (W0 : World) : ∀ L, L ≤ 1000 → WholeRAt W0 L
  | 0, _ => wholeR_zero W0
  | L + 1, h => wholeR_succ W0 L (by omega) (wholeR_calls W0 L (by omega))
/-! ### depth -/
theorem mixedP : Tryz.prog.follows .mixedOrders = true := by kernel_rfl
theorem depthRs_take {kt : List RT} {k : Nat} {x : RT} (h : kt[k]? = some x) : depthRs (kt.take (k + 1)) = max (depthRs (kt.take k)) (depthR x) := by
  induction kt generalizing k with
  | nil => simp at h
  | cons a l ih =>
    cases k with
    | zero =>
      obtain rfl : a = x := by simpa using h
      simp [depthRs]
    | succ k =>
      have h' : l[k]? = some x := by simpa using h
      simp only [List.take_succ_cons, depthRs, ih h']
      omega
theorem sizeRs_take {kt : List RT} {k : Nat} {x : RT} (h : kt[k]? = some x) : sizeRs (kt.take (k + 1)) = sizeRs (kt.take k) + sizeR x := by
  induction kt generalizing k with
  | nil => simp at h
  | cons a l ih =>
    cases k with
    | zero =>
      obtain rfl : a = x := by simpa using h
      simp [sizeRs]
    | succ k =>
      have h' : l[k]? = some x := by simpa using h
      simp only [List.take_succ_cons, sizeRs, ih h']
      omega
theorem depthRs_le : ∀ {kt : List RT} {k : Nat}, depthRs (kt.take k) ≤ depthRs kt
  | [], k => by simp
  | a :: l, 0 => by simp [depthRs]
  | a :: l, k + 1 => by simp only [List.take_succ_cons, depthRs]; have := depthRs_le (kt := l) (k := k); omega
theorem sizeRs_le : ∀ {kt : List RT} {k : Nat}, sizeRs (kt.take k) ≤ sizeRs kt
  | [], k => by simp
  | a :: l, 0 => by simp [sizeRs]
  | a :: l, k + 1 => by simp only [List.take_succ_cons, sizeRs]; have := sizeRs_le (kt := l) (k := k); omega
theorem depthR_get : ∀ {kt : List RT} {k : Nat} {x : RT}, kt[k]? = some x → depthR x ≤ depthRs kt
  | a :: l, 0, x, h => by obtain rfl : a = x := by simpa using h
                          simp only [depthRs]; omega
  | a :: l, k + 1, x, h => by have := depthR_get (kt := l) (k := k) (x := x) (by simpa using h); simp only [depthRs]; omega
theorem sizeR_get : ∀ {kt : List RT} {k : Nat} {x : RT}, kt[k]? = some x → sizeR x ≤ sizeRs kt
  | a :: l, 0, x, h => by obtain rfl : a = x := by simpa using h
                          simp only [sizeRs]; omega
  | a :: l, k + 1, x, h => by have := sizeR_get (kt := l) (k := k) (x := x) (by simpa using h); simp only [sizeRs]; omega
def DepthRAt (W0 : World) (v : Value) (t : RT) : Prop := ∀ (w : World), Below W0.heap.size W0 w → depthR t ≤ 1000000 →
  Calls Tryz.prog 29 #[v] w fun e w' => e = .returned (.int .i64 (depthR t : Nat)) ∧ Below w.heap.size w w'

set_option maxRecDepth 100000 in
set_option maxHeartbeats 400000 in
theorem depthR_step (W0 : World) (T : TypeId) (r : Value) (fh : Nat) (q : Bool) (wt : Nat) (kv : List Value) (kt : List RT)
    (HH : Hid (∀ args w, (callMethod (.iface T r) "weftway/tree.has" args).run Tryz.prog w = .ok (.enter fh (#[r] ++ args)) w))
    (CH : Hid (∀ lo W, W0.heap.size ≤ lo → lo ≤ W.heap.size → Below W0.heap.size W0 W → Hands Tryz.prog lo fh r kv W))
    (HL : Hid (kv.length = kt.length)) (ih : ∀ (k : Nat) v t, kv[k]? = some v → kt[k]? = some t → DepthRAt W0 v t) :
    DepthRAt W0 (.iface T r) (.mk q wt kt) := by
  intro w hB hD
  rw [depthR] at hD ⊢
  have IH := Lib.hid ih
  have HB0 := Lib.hid hB
  have hB0 := hB.size
  clear hB ih
  obtain ⟨dd, hdd⟩ : ∃ dd, dd = depthRs kt := ⟨_, rfl⟩
  have ec : ((depthRs kt + 1 : Nat) : Int) = 1 + (dd : Int) := by omega
  rw [ec]
  clear ec
  have HDD := Lib.hid hdd
  have hdd2 : dd ≤ 1000000 := by omega
  clear hdd
  have bx := Lib.hid ((Below.refl _ w).alloc (Nat.le_refl _) (.cells #[.int .i64 0] 3))
  refine (callsIn_wide (n := 5)).1 ?_
  refine callsIn_of_wp_marks Tryz.func29 rfl trivial ?_ rfl
  simp only [Tryz.ntmps29, List.size_toArray, List.length_cons, List.length_nil, Nat.reduceAdd, Nat.reduceSub, Array.replicate_succ, Array.replicate_zero, List.push_toArray, List.append_toArray, List.nil_append, List.cons_append]
  gi_wp2
  refine wpIn_rangeMeth "weftway/tree.has" (.iface T r) r fh rfl HH.out
    kv w.heap.size (by simp) rfl
    (fun W hW => CH.out w.heap.size W hB0 (by have := hW.size; simp at this; omega) (HB0.out.trans ((bx.out.trans (hW.mono (by simp))).mono hB0)))
    (fun k W => W.cell? ⟨w.heap.size, 0, none⟩ = some (.int .i64 (depthRs (kt.take k) : Nat)) ∧ W.frozen? ⟨w.heap.size, 0, none⟩ = false ∧ Hid (Below w.heap.size w W))
    (fun k W => False)
    (fun k A A' h hb => ⟨(hb.cell (p := ⟨w.heap.size, 0, none⟩) (by simp)).trans h.1, (hb.frozen (p := ⟨w.heap.size, 0, none⟩) (by simp)).trans h.2.1, h.2.2.out.trans (hb.mono (by simp))⟩)
    (fun k A A' h hb => h)
    ⟨by go_simp; simp [depthRs], by go_simp, bx.out⟩
    (fun x => { tmps := #[.iface T r, undef, .int .i64 0, .pointer (some ⟨w.heap.size, 0, none⟩), x, .iface T r, .iface T r, .func (.method "weftway/tree.has") #[.iface T r] #[], x, undef, undef, undef, undef, undef, undef], defers := [] }) ?assign ?body ?done ?stop
  case assign =>
    intro l x W K hK
    gi_wp2
    exact hK
  case body =>
    rintro l k v W hv ⟨h0, hf, hH⟩ hW
    have hkk : k < kt.length := by
      have := (List.getElem?_eq_some_iff.1 hv).1
      rwa [HL.out] at this
    obtain ⟨x, hx⟩ : ∃ x, kt[k]? = some x := ⟨_, List.getElem?_eq_getElem hkk⟩
    have hsz := hH.out.size
    have Hx := Lib.hid (depthRs_take hx)
    have d1 := depthR_get hx
    have d2 := depthRs_le (kt := kt) (k := k)
    have C : Hid (∀ W', Below W.heap.size W W' → Calls Tryz.prog 29 #[v] W' fun e w' => e = .returned (.int .i64 (depthR x : Nat)) ∧ Below W'.heap.size W' w') :=
      Lib.hid fun W' h => IH.out k v x hv hx W' (HB0.out.trans ((hH.out.trans (h.mono (by omega))).mono hB0)) (by have := HDD.out; omega)
    have HW := Lib.hid hW
    have d3 : depthR x ≤ 1000000 := by have := HDD.out; omega
    have d4 : depthRs (kt.take k) ≤ 1000000 := by have := HDD.out; omega
    clear hx hv hkk d1 d2
    generalize depthR x = dx at *
    generalize depthRs (kt.take k) = dk at *
    gi_wp2
    have hmix := mixedP
    gi_region_with_o (first
      | ((try refine ⟨trivial, ?_⟩)
         gi_at_call 29
         refine (CallsIn.inRound l (callsIn_wide.2 (C.out _ (Below.refl _ W).drew))).mono ?_
         rintro e w1 ⟨rfl, b1⟩
         have g0 : w1.cell? ⟨w.heap.size, 0, none⟩ = some (.int .i64 (dk : Nat)) := (b1.cell (p := ⟨w.heap.size, 0, none⟩) (by have := HW.out; simp at this ⊢; omega)).trans h0
         have gf : w1.frozen? ⟨w.heap.size, 0, none⟩ = false := (b1.frozen (p := ⟨w.heap.size, 0, none⟩) (by have := HW.out; simp at this ⊢; omega)).trans hf
         have HB : Hid (Below W.heap.size W w1) := Lib.hid ((Below.refl _ W).drew.trans b1)
         clear b1))
    all_goals gi_wp2
    all_goals exact ⟨(Keeps.of_below HB.out).setCell (p := ⟨w.heap.size, 0, none⟩) (by simp) (by simp) _, by rw [World.cell?_setCell_same' _ _ _ (by rw [g0]; rfl), Hx.out]; congr 2; omega,
      by rw [World.frozen?_setCell]; exact gf, Lib.hid ((hH.out.trans (HB.out.mono (by omega))).setCell (p := ⟨w.heap.size, 0, none⟩) (by simp) _)⟩
  case done =>
    rintro D W hD2 ⟨h0, hf, hH⟩ hK
    rw [show kt.take kv.length = kt by rw [HL.out, List.take_length], ← HDD.out] at h0
    gi_wp2
    refine ⟨by simp, .inl ⟨_, _, rfl, run_takeDeferred hK, ?_⟩⟩
    exact ⟨.int .i64 (1 + (dd : Int)), by simp [results, Tryz.results29], rfl, below_putObj hH.out (by simp at hD2; omega) _⟩
  case stop =>
    rintro D k W hD hk hf hK
    exact hf.elim
theorem depthR_calls {W0 : World} {v : Value} {t : RT} (h : Part W0 v t) : DepthRAt W0 v t := by
  induction h with
  | mk T r ff fh fw q wt kv kt hf hh hw ef ew cf cw ch hl hk ih => exact depthR_step W0 T r fh q wt kv kt (Lib.hid hh) (Lib.hid ch) (Lib.hid hl) ih
def SizeRAt (W0 : World) (v : Value) (t : RT) : Prop := ∀ (w : World), Below W0.heap.size W0 w → sizeR t ≤ 1000000 →
  Calls Tryz.prog 34 #[v] w fun e w' => e = .returned (.int .i64 (sizeR t : Nat)) ∧ Below w.heap.size w w'

set_option maxRecDepth 100000 in
set_option maxHeartbeats 400000 in
theorem sizeR_step (W0 : World) (T : TypeId) (r : Value) (fh fw : Nat) (q : Bool) (wt : Nat) (kv : List Value) (kt : List RT)
    (HH : Hid (∀ args w, (callMethod (.iface T r) "weftway/tree.has" args).run Tryz.prog w = .ok (.enter fh (#[r] ++ args)) w))
    (CH : Hid (∀ lo W, W0.heap.size ≤ lo → lo ≤ W.heap.size → Below W0.heap.size W0 W → Hands Tryz.prog lo fh r kv W))
    (hw : ∀ w, (method 311 T r "weftway/tree.weight").run Tryz.prog w = .ok (fw, r) w) (ew : ∀ w, (callFunc fw #[r]).run Tryz.prog w = .ok (.enter fw #[r]) w)
    (CW : Hid (∀ W, Below W0.heap.size W0 W → Calls Tryz.prog fw #[r] W fun e w' => e = .returned (.int .i64 wt) ∧ Below W.heap.size W w'))
    (HL : Hid (kv.length = kt.length)) (ih : ∀ (k : Nat) v t, kv[k]? = some v → kt[k]? = some t → SizeRAt W0 v t) :
    SizeRAt W0 (.iface T r) (.mk q wt kt) := by
  intro w hB hD
  rw [sizeR] at hD ⊢
  have IH := Lib.hid ih
  have HB0 := Lib.hid hB
  have hB0 := hB.size
  clear hB ih
  obtain ⟨dd, hdd⟩ : ∃ dd, dd = wt + sizeRs kt := ⟨_, rfl⟩
  rw [← hdd]
  have HDD := Lib.hid hdd
  have hdd2 : dd ≤ 1000000 := by omega
  clear hdd
  refine (callsIn_wide (n := 5)).1 ?_
  refine callsIn_of_wp_marks Tryz.func34 rfl trivial ?_ rfl
  simp only [Tryz.ntmps34, List.size_toArray, List.length_cons, List.length_nil, Nat.reduceAdd, Nat.reduceSub, Array.replicate_succ, Array.replicate_zero, List.push_toArray, List.append_toArray, List.nil_append, List.cons_append]
  gi_wp2
  refine ⟨trivial, (callsIn_wide.2 (CW.out _ HB0.out)).mono ?_⟩
  rintro e w1 ⟨rfl, bw⟩
  have hz1 := bw.size
  have HB1 := Lib.hid (HB0.out.trans (bw.mono hB0))
  have hB1 : W0.heap.size ≤ w1.heap.size := HB1.out.size
  have BW := Lib.hid bw
  have bx := Lib.hid ((Below.refl _ w1).alloc (Nat.le_refl _) (.cells #[.int .i64 (wt : Nat)] 3))
  clear bw CW hw ew
  gi_wp2
  refine wpIn_rangeMeth "weftway/tree.has" (.iface T r) r fh rfl HH.out
    kv w1.heap.size (by simp) rfl
    (fun W hW => CH.out w1.heap.size W (by omega) (by have := hW.size; simp at this; omega) (HB1.out.trans ((bx.out.trans (hW.mono (by simp))).mono hB1)))
    (fun k W => W.cell? ⟨w1.heap.size, 0, none⟩ = some (.int .i64 (wt + sizeRs (kt.take k) : Nat)) ∧ W.frozen? ⟨w1.heap.size, 0, none⟩ = false ∧ Hid (Below w1.heap.size w1 W))
    (fun k W => False)
    (fun k A A' h hb => ⟨(hb.cell (p := ⟨w1.heap.size, 0, none⟩) (by simp)).trans h.1, (hb.frozen (p := ⟨w1.heap.size, 0, none⟩) (by simp)).trans h.2.1, h.2.2.out.trans (hb.mono (by simp))⟩)
    (fun k A A' h hb => h)
    ⟨by go_simp; simp [sizeRs], by go_simp, bx.out⟩
    (fun x => { tmps := #[.iface T r, undef, .int .i64 0, .pointer (some ⟨w1.heap.size, 0, none⟩), x, .iface T r, .int .i64 (wt : Nat), .iface T r, .iface T r, .func (.method "weftway/tree.has") #[.iface T r] #[], x, undef, undef, undef, undef, undef], defers := [] }) ?assign ?body ?done ?stop
  case assign =>
    intro l x W K hK
    gi_wp2
    exact hK
  case body =>
    rintro l k v W hv ⟨h0, hf, hH⟩ hW
    have hkk : k < kt.length := by
      have := (List.getElem?_eq_some_iff.1 hv).1
      rwa [HL.out] at this
    obtain ⟨x, hx⟩ : ∃ x, kt[k]? = some x := ⟨_, List.getElem?_eq_getElem hkk⟩
    have hsz := hH.out.size
    have Hx := Lib.hid (sizeRs_take hx)
    have d1 := sizeR_get hx
    have d2 := sizeRs_le (kt := kt) (k := k)
    have C : Hid (∀ W', Below W.heap.size W W' → Calls Tryz.prog 34 #[v] W' fun e w' => e = .returned (.int .i64 (sizeR x : Nat)) ∧ Below W'.heap.size W' w') :=
      Lib.hid fun W' h => IH.out k v x hv hx W' (HB1.out.trans ((hH.out.trans (h.mono (by omega))).mono hB1)) (by have := HDD.out; omega)
    have HW := Lib.hid hW
    have d3 : sizeR x ≤ 1000000 := by have := HDD.out; omega
    have d4 : wt + sizeRs (kt.take k) ≤ 1000000 := by have := HDD.out; omega
    clear hx hv hkk d1 d2
    generalize sizeR x = dx at *
    generalize sizeRs (kt.take k) = dk at *
    gi_wp2
    have hmix := mixedP
    gi_region_with_o (first
      | ((try refine ⟨trivial, ?_⟩)
         gi_at_call 34
         refine (CallsIn.inRound l (callsIn_wide.2 (C.out _ (Below.refl _ W).drew))).mono ?_
         rintro e w2 ⟨rfl, b1⟩
         have g0 : w2.cell? ⟨w1.heap.size, 0, none⟩ = some (.int .i64 (wt + dk : Nat)) := (b1.cell (p := ⟨w1.heap.size, 0, none⟩) (by have := HW.out; simp at this ⊢; omega)).trans h0
         have gf : w2.frozen? ⟨w1.heap.size, 0, none⟩ = false := (b1.frozen (p := ⟨w1.heap.size, 0, none⟩) (by have := HW.out; simp at this ⊢; omega)).trans hf
         have HB : Hid (Below W.heap.size W w2) := Lib.hid ((Below.refl _ W).drew.trans b1)
         clear b1))
    all_goals gi_wp2
    all_goals exact ⟨(Keeps.of_below HB.out).setCell (p := ⟨w1.heap.size, 0, none⟩) (by simp) (by simp) _, by rw [World.cell?_setCell_same' _ _ _ (by rw [g0]; rfl), Hx.out]; congr 2; rw [show IntKind.i64.wrap ((wt : Int) + dk + dx) = (wt : Int) + dk + dx from IntWalk.i64_in _ (by omega)]; omega,
      by rw [World.frozen?_setCell]; exact gf, Lib.hid ((hH.out.trans (HB.out.mono (by omega))).setCell (p := ⟨w1.heap.size, 0, none⟩) (by simp) _)⟩
  case done =>
    rintro D W hD2 ⟨h0, hf, hH⟩ hK
    rw [show kt.take kv.length = kt by rw [HL.out, List.take_length], ← HDD.out] at h0
    gi_wp2
    refine ⟨by simp, .inl ⟨_, _, rfl, run_takeDeferred hK, ?_⟩⟩
    exact ⟨.int .i64 (dd : Nat), by simp [results, Tryz.results34], rfl, below_putObj (BW.out.trans (hH.out.mono BW.out.size)) (by have := BW.out.size; simp at hD2; omega) _⟩
  case stop =>
    rintro D k W hD hk hf hK
    exact hf.elim
theorem sizeR_calls {W0 : World} {v : Value} {t : RT} (h : Part W0 v t) : SizeRAt W0 v t := by
  induction h with
  | mk T r ff fh fw q wt kv kt hf hh hw ef ew cf cw ch hl hk ih => exact sizeR_step W0 T r fh fw q wt kv kt (Lib.hid hh) (Lib.hid ch) hw ew (Lib.hid cw) (Lib.hid hl) ih
end Go.Proofs.YtojeijeimpffgaaGreat
/- Types and expressions as parts. -/
namespace Go.Proofs.YtojeijeimpffgaaGreat
open Go.RowKit Go.Shelf
set_option linter.unusedVariables false
attribute [local go_sem] Oper.semAt_some

mutual
def rtT : PT → Nat → RT
  | .mk k n xs, st => .mk (fitT (.mk k n xs) st) 0 (rtTs xs)
def rtTs : List PT → List RT
  | [] => []
  | t :: l => rtT t 0 :: rtTs l
end
theorem rtTs_map : ∀ l, rtTs l = l.map (fun t => rtT t 0)
  | [] => by rw [rtTs]; rfl
  | t :: l => by rw [rtTs, rtTs_map l]; rfl
mutual
def rtE : PE → Nat → RT
  | .mk op i n s p xs pos, st => .mk (fitE (.mk op i n s p xs pos) st) (if st = 3 then 0 else 1) (rtEs xs (inArgs (.mk op i n s p [] pos) st))
def rtEs : List PE → Nat → List RT
  | [], _ => []
  | e :: l, st => rtE e st :: rtEs l st
end
theorem rtEs_map (st : Nat) : ∀ l, rtEs l st = l.map (fun t => rtE t st)
  | [] => by rw [rtEs]; rfl
  | t :: l => by rw [rtEs, rtEs_map st l]; rfl
theorem wholeR_T : ∀ n t st, wholeR n (rtT t st) = wholeT n t st
  | 0, _, _ => rfl
  | n + 1, .mk k nm xs, st => by
    rw [rtT, wholeR, wholeT, rtTs_map, List.all_map]
    congr 1
    exact all_congr fun a _ => wholeR_T n a 0
theorem wholeR_E : ∀ n t st, wholeR n (rtE t st) = wholeE n t st
  | 0, _, _ => rfl
  | n + 1, .mk op i nm s p xs pos, st => by
    rw [rtE, wholeR, wholeE, rtEs_map, List.all_map]
    congr 1
    exact all_congr fun a _ => wholeR_E n a _

theorem alloc_below (w : World) (o : Obj) : Below w.heap.size w (w.alloc o) := (Below.refl _ w).alloc (Nat.le_refl _) _
set_option maxHeartbeats 1000000 in
theorem typedWeight_calls (a : Value) (st : Int) (w : World) : Calls Tryz.prog 158 #[.agg #[a, .int .u8 st]] w fun e w' => e = .returned (.int .i64 (0 : Nat)) ∧ Below w.heap.size w w' := by
  go_enter Tryz.func158, Tryz.ntmps158
  go_wp2
  go_ret
  exact ⟨rfl, alloc_below _ _⟩
set_option maxHeartbeats 1000000 in
theorem exprWeight_calls (a : Value) (st : Nat) (w : World) : Calls Tryz.prog 162 #[.agg #[a, .int .u8 st]] w fun e w' => e = .returned (.int .i64 (if st = 3 then 0 else 1 : Nat)) ∧ Below w.heap.size w w' := by
  by_cases h : st = 3
  · subst h
    show Calls Tryz.prog 162 #[.agg #[a, .int .u8 3]] w _
    go_enter Tryz.func162, Tryz.ntmps162
    go_wp2
    go_ret
    exact ⟨rfl, alloc_below _ _⟩
  · rw [if_neg h]
    have n3 : ((st : Int) == 3) = false := beq_eq_false_iff_ne.2 (by omega)
    go_enter Tryz.func162, Tryz.ntmps162
    go_wp2
    go_ret
    exact ⟨rfl, alloc_below _ _⟩

theorem partT_fits (v : Value) (w : World) : (method 311 111 v "weftway/tree.fits").run Tryz.prog w = .ok (156, v) w := by kernel_rfl
theorem partT_weight (v : Value) (w : World) : (method 311 111 v "weftway/tree.weight").run Tryz.prog w = .ok (158, v) w := by kernel_rfl
theorem partT_has (v : Value) (args : Array Value) (w : World) : (callMethod (.iface 111 v) "weftway/tree.has" args).run Tryz.prog w = .ok (.enter 157 (#[v] ++ args)) w := by kernel_rfl
theorem partT_ef (v : Value) (w : World) : (callFunc 156 #[v]).run Tryz.prog w = .ok (.enter 156 #[v]) w := by kernel_rfl
theorem partT_ew (v : Value) (w : World) : (callFunc 158 #[v]).run Tryz.prog w = .ok (.enter 158 #[v]) w := by kernel_rfl
theorem partE_fits (v : Value) (w : World) : (method 311 114 v "weftway/tree.fits").run Tryz.prog w = .ok (160, v) w := by kernel_rfl
theorem partE_weight (v : Value) (w : World) : (method 311 114 v "weftway/tree.weight").run Tryz.prog w = .ok (162, v) w := by kernel_rfl
theorem partE_has (v : Value) (args : Array Value) (w : World) : (callMethod (.iface 114 v) "weftway/tree.has" args).run Tryz.prog w = .ok (.enter 161 (#[v] ++ args)) w := by kernel_rfl
theorem partE_ef (v : Value) (w : World) : (callFunc 160 #[v]).run Tryz.prog w = .ok (.enter 160 #[v]) w := by kernel_rfl
theorem partE_ew (v : Value) (w : World) : (callFunc 162 #[v]).run Tryz.prog w = .ok (.enter 162 #[v]) w := by kernel_rfl

theorem inArgs_le3 (e : PE) {st : Nat} (h : st ≤ 3) : inArgs e st ≤ 3 := by
  unfold inArgs
  split
  · omega
  · split <;> omega
/-- a type in memory is a part -/
theorem partT {B : Nat} {W0 : World} (hB : B ≤ W0.heap.size) (hm : MaxOk W0) : ∀ (t : PT) (st b o : Nat) (v : Value), st ≤ 3 → b < W0.heap.size → CellsAt W0 b o (t.cells v) → t.In B W0 v →
    Part W0 (.iface 111 (.agg #[.pointer (some ⟨b, o, none⟩), .int .u8 st])) (rtT t st) := by
  intro t
  generalize hn : SizeOf.sizeOf t = n
  induction n using Nat.strongRecOn generalizing t with
  | _ n ih =>
    intro st b o v hst hb hc ht
    obtain ⟨k, nm, xs⟩ := t
    simp only [PT.mk.sizeOf_spec] at hn
    obtain ⟨b1, o1, s1, r1⟩ : ∃ b1 o1, SlV B v xs.length b1 o1 ∧ PT.Row B W0 b1 o1 xs := ht.2
    rw [rtT]
    refine Part.mk 111 _ 156 157 158 _ _ (ptrs 111 b1 o1 3 0 xs.length) _ (partT_fits _) (fun a w => partT_has _ a w) (partT_weight _) (partT_ef _) (partT_ew _)
      (fun W h => typedFits_calls B (.mk k nm xs) st b o v W hst (by have := h.size; omega) (hm.below h) (by have := h.size; omega) (hc.below hb h) (PT.In.below (h.mono hB) ht))
      (fun W h => typedWeight_calls _ _ W)
      (fun lo W h1 h2 h3 => typedHas_hands B lo (.mk k nm xs) st b o v W (by omega) h2 (by omega) (hc.below hb h3) (PT.In.below (h3.mono hB) ht) b1 o1 s1)
      (by rw [ptrs_len, rtTs_map, List.length_map]) (fun j v' t' h1 h2 => ?_)
    have hj : j < xs.length := by
      have := (List.getElem?_eq_some_iff.1 h1).1
      rwa [ptrs_len] at this
    rw [ptrs_get hj] at h1
    obtain rfl := Option.some.inj h1
    rw [rtTs_map, List.getElem?_map] at h2
    obtain ⟨x, hx, rfl⟩ := Option.map_eq_some_iff.1 h2
    have hmem := List.mem_of_getElem? hx
    obtain ⟨_, ao, cap, _, hsl⟩ := s1
    obtain ⟨_, hb1⟩ := hsl.resolve_left (by omega)
    obtain ⟨vx, cx, ix⟩ := PT.Row.get r1 hx
    have := List.sizeOf_lt_of_mem hmem
    exact ih (SizeOf.sizeOf x) (by omega) x rfl 0 b1 (o1 + j * 3) vx (by omega) (by omega) cx ix
/-- an expression in memory is a part -/
theorem partE {B : Nat} {W0 : World} (hB : B ≤ W0.heap.size) (hm : MaxOk W0) : ∀ (t : PE) (st b o : Nat) (v : VE), st ≤ 3 → b < W0.heap.size → CellsAt W0 b o (t.cells v) → t.In B W0 v →
    Part W0 (.iface 114 (.agg #[.pointer (some ⟨b, o, none⟩), .int .u8 st])) (rtE t st) := by
  intro t
  generalize hn : SizeOf.sizeOf t = n
  induction n using Nat.strongRecOn generalizing t with
  | _ n ih =>
    intro st b o v hst hb hc ht
    obtain ⟨p0, n0, q0, p1, n1, q1, rfl⟩ := ht.shape
    obtain ⟨op, iv, nm, sc, pl, xs, ps⟩ := t
    simp only [PE.mk.sizeOf_spec] at hn
    obtain ⟨b1, o1, s1, r1⟩ : ∃ b1 o1, SlV B (.slice p1 n1 q1) xs.length b1 o1 ∧ PE.Row B W0 b1 o1 xs := ht.2.2
    rw [rtE]
    refine Part.mk 114 _ 160 161 162 _ _ (ptrs 114 b1 o1 8 (inArgs (.mk op iv nm sc pl [] ps) st) xs.length) _ (partE_fits _) (fun a w => partE_has _ a w) (partE_weight _) (partE_ef _) (partE_ew _)
      (fun W h => exprFits_calls B op iv nm sc pl xs ps p0 n0 q0 p1 n1 q1 st b o W hst (by have := h.size; omega) (hm.below h) (by have := h.size; omega) (hc.below hb h) (PE.In.below (h.mono hB) ht))
      (fun W h => exprWeight_calls _ _ W)
      (fun lo W h1 h2 h3 => exprHas_hands B lo (.mk op iv nm sc pl xs ps) st b o ⟨.slice p0 n0 q0, .slice p1 n1 q1⟩ W (by omega) h2 (by omega) hst (hc.below hb h3) (PE.In.below (h3.mono hB) ht) b1 o1 s1)
      (by rw [ptrs_len, rtEs_map, List.length_map]) (fun j v' t' h1 h2 => ?_)
    have hj : j < xs.length := by
      have := (List.getElem?_eq_some_iff.1 h1).1
      rwa [ptrs_len] at this
    rw [ptrs_get hj] at h1
    obtain rfl := Option.some.inj h1
    rw [rtEs_map, List.getElem?_map] at h2
    obtain ⟨x, hx, rfl⟩ := Option.map_eq_some_iff.1 h2
    have hmem := List.mem_of_getElem? hx
    obtain ⟨_, ao, cap, _, hsl⟩ := s1
    obtain ⟨_, hb1⟩ := hsl.resolve_left (by omega)
    obtain ⟨vx, cx, ix⟩ := PE.Row.get r1 hx
    have := List.sizeOf_lt_of_mem hmem
    exact ih (SizeOf.sizeOf x) (by omega) x rfl _ b1 (o1 + j * 8) vx (inArgs_le3 _ hst) (by omega) cx ix
end Go.Proofs.YtojeijeimpffgaaGreat
/- What may be a tree, its second plain part: the shapes of statements and items, what fits; statements, items and programs as trees of parts. -/
namespace Go.Proofs.YtojeijeimpffgaaGreat
open Go.RowKit
set_option linter.unusedVariables false

structure SSh where
  known : Bool
  name : Nat
  second : Nat
  names : Bool
  exprs : Nat
  pairs : Bool
  place : Bool
  queue : Bool
  body : Bool
  other : Bool
  arms : Bool
def sSh (k : Int) : SSh :=
  if k = 1 then ⟨true, 1, 0, false, 1, false, false, false, false, false, false⟩
  else if k = 2 then ⟨true, 3, 0, true, 1, false, false, false, false, false, false⟩
  else if k = 3 then ⟨true, 0, 0, false, 1, false, true, false, false, false, false⟩
  else if k = 4 then ⟨true, 0, 0, false, 1, false, false, false, false, false, false⟩
  else if k = 5 then ⟨true, 1, 0, false, 0, false, false, false, false, false, false⟩
  else if k = 6 then ⟨true, 0, 0, false, 1, false, false, false, true, true, false⟩
  else if k = 7 then ⟨true, 0, 0, false, 1, false, false, false, true, false, false⟩
  else if k = 8 then ⟨true, 1, 3, false, 0, false, false, false, false, false, true⟩
  else if k = 9 ∨ k = 13 then ⟨true, 0, 0, false, 0, false, false, false, true, false, false⟩
  else if k = 10 then ⟨true, 0, 0, false, 0, true, false, false, true, false, false⟩
  else if k = 11 then ⟨true, 1, 0, false, 0, false, true, false, true, false, false⟩
  else if k = 12 then ⟨true, 1, 1, false, 0, false, false, true, false, false, false⟩
  else ⟨false, 0, 0, false, 0, false, false, false, false, false, false⟩
def SSh.cells (h : SSh) : Array Value := #[.bool h.known, .int .u8 h.name, .int .u8 h.second, .bool h.names, .int .i64 h.exprs, .bool h.pairs, .bool h.place, .bool h.queue, .bool h.body, .bool h.other, .bool h.arms]
structure ISh where
  known : Bool
  name : Nat
  field : Nat
  body : Bool
  fields : Nat
  rest : Nat
def iSh (k : Int) : ISh :=
  if k = 1 then ⟨true, 3, 1, false, 0, 3⟩ else if k = 2 then ⟨true, 3, 3, false, 2, 3⟩ else if k = 3 then ⟨true, 1, 1, true, 0, 0⟩ else ⟨false, 0, 0, false, 0, 3⟩
def ISh.cells (h : ISh) : Array Value := #[.bool h.known, .int .u8 h.name, .int .u8 h.field, .bool h.body, .int .u8 h.fields, .int .u8 h.rest]

/-! ### what fits -/
def fitNs (ns : List ByteArray) : Bool := decide (ns.length ≤ 6) && ns.all nmB
def fitLists (h : SSh) (ns : List ByteArray) (es : List PE) : Bool :=
  if h.pairs then decide (es.length = ns.length) && fitNs ns else if h.names then decide (es.length = h.exprs) && fitNs ns else decide (es.length = h.exprs) && decide (ns.length = 0)
def fitPlS (h : SSh) (pl : PP) : Bool := if h.place then plB pl else samePl pl zeroP
def armB (a : PA) : Bool := tyB a.variant && (noB a.name || nmB a.name)
def fitArms (h : SSh) (ar : List PA) : Bool := if h.arms then decide (ar.length ≤ 6) && ar.all armB else decide (ar.length = 0)
def fitQueue (h : SSh) (ty : PT) (int : Int) : Bool := if h.queue then decide (1 ≤ int) && decide (int ≤ 8) else decide (int = 0) && sameT ty zeroT
def fitSS (h : SSh) (nm sc : ByteArray) (ns : List ByteArray) (ty : PT) (int : Int) (pl : PP) (es : List PE) (bo el : List PS) (ar : List PA) : Bool :=
  h.known && (txB h.name nm && (txB h.second sc && (fitLists h ns es && (fitPlS h pl && (fitArms h ar && ((h.body || decide (bo.length = 0)) && ((h.other || decide (el.length = 0)) && fitQueue h ty int)))))))
def fieldB (x : Nat) (f : PF) : Bool := txB x f.name
def fitII (h : ISh) (nm : ByteArray) (fs : List PF) (bo : List PS) : Bool :=
  h.known && (txB h.name nm && (decide (fs.length ≤ 6) && (fs.all (fieldB h.field) && (h.body || decide (bo.length = 0)))))
def inExprs (op : Int) : Nat := if op = 1 ∨ op = 10 then 1 else 0

/-! ### trees of parts -/
mutual
def rtS : PS → RT
  | .mk op nm sc ns ty int pl es bo el ar pos => .mk (fitSS (sSh op) nm sc ns ty int pl es bo el ar) 1 ((if op = 12 then [rtT ty 0] else []) ++ (rtEs es (inExprs op) ++ (rtSs bo ++ (rtSs el ++ rtAs ar))))
def rtSs : List PS → List RT
  | [] => []
  | s :: l => rtS s :: rtSs l
def rtAs : List PA → List RT
  | [] => []
  | a :: l => rtA a ++ rtAs l
def rtA : PA → List RT
  | .mk _ _ bo => rtSs bo
end
def rtI (x : PI) : RT :=
  .mk (fitII (iSh x.kind) x.name x.fields x.body) 1 (x.fields.map (fun f => rtT f.type (iSh x.kind).fields) ++ (rtT x.result (iSh x.kind).rest :: (rtSs x.body ++ [rtE x.ret (iSh x.kind).rest])))
def rtP (p : List PI) : RT := .mk (decide (p.length ≤ 30)) 0 (p.map rtI)
theorem rtSs_map : ∀ l, rtSs l = l.map rtS
  | [] => by rw [rtSs]; rfl
  | t :: l => by rw [rtSs, rtSs_map l]; rfl
end Go.Proofs.YtojeijeimpffgaaGreat
