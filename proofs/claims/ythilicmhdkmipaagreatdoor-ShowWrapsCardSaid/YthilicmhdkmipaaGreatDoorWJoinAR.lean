/- What fits, fourth part: the place of an expression, an expression by its shape. -/
import Derived.Test.YthilicmhdkmipaaGreatDoorWTreeFits2
import Derived.Test.YthilicmhdkmipaaGreatDoorWJoinAH
import Derived.Test.YthilicmhdkmipaaGreatDoorWJoinAQ
namespace Go.Proofs.YthilicmhdkmipaaGreatDoor
open Go.RowKit
set_option linter.unusedVariables false

theorem noB_toList (s : ByteArray) : noB s = s.toList.isEmpty := by
  have h : noB s = decide (s.toList = []) := by unfold noB; rw [decide_eq_decide, nul_size]
  rw [h]; cases s.toList <;> simp
set_option maxHeartbeats 4000000 in
theorem fitsPlace_calls (B : Nat) (h : ESh) (op iv : Int) (nm sc : ByteArray) (pl : PP) (es : List PE) (ps : Int) (p0 : Option Addr) (n0 q0 : Nat) (p1 : Option Addr) (n1 q1 : Nat) (w : World) (hB : B ≤ w.heap.size) (hm : MaxOk w)
    (he : PE.In B w (.mk op iv nm sc pl es ps) ⟨.slice p0 n0 q0, .slice p1 n1 q1⟩) :
    Calls Tryz.prog 253 #[.agg h.cells, .agg #[.int .u8 op, .int .i64 iv, .string nm, .string sc, .string pl.name, .slice p0 n0 q0, .slice p1 n1 q1, .int .i64 ps]] w fun e w' => e = .returned (.bool (fitPl h (.mk op iv nm sc pl es ps))) ∧ Below w.heap.size w w' := by
  obtain ⟨kn, gr, sn, ss, hp, hf, fw, mo⟩ := h
  obtain ⟨_, hpl, b, o, s1, r1⟩ := he
  have hlen : n1 = es.length := by
    obtain ⟨_, ao, cap, h, _⟩ := s1
    injection h
  have hplen : n0 = pl.path.length := by
    obtain ⟨_, b', o', ⟨_, ao, cap, h, _⟩, _⟩ := hpl
    injection h
  have C : Hid (∀ w', Below w.heap.size w w' → Calls Tryz.prog 108 #[.agg #[.string pl.name, .slice p0 n0 q0]] w' fun e w'' => e = .returned (.bool (plB pl)) ∧ Below w'.heap.size w' w'') :=
    Lib.hid fun w' hw => isPlace_calls B pl _ w' (by have := hw.size; omega) (hm.below hw) (hpl.below (hw.mono hB))
  have Z : Hid (∀ w', Below w.heap.size w w' → Calls Tryz.prog 255 #[.agg #[.string pl.name, .slice p0 n0 q0]] w' fun e w'' => e = .returned (.bool (samePl pl zeroP)) ∧ Below w'.heap.size w' w'') :=
    Lib.hid fun w' hw => isZeroPlace_calls B pl _ w' (by have := hw.size; omega) (hpl.below (hw.mono hB))
  have A : Hid (∀ w', Below w.heap.size w w' → Calls Tryz.prog 254 #[.int .u8 1, .slice p0 n0 q0] w' fun e w'' => e = .returned (.bool (decide (pl.path.length ≤ 6) && pl.path.all nmB)) ∧ Below w'.heap.size w' w'') := by
    obtain ⟨hs, b', o', s', r'⟩ := hpl
    exact Lib.hid fun w' hw => fitAll_calls B pl.path b' o' _ w' (by have := hw.size; omega) (hm.below hw) s' (by
      cases hc : pl.path with
      | nil => trivial
      | cons a l => rw [hc] at r' s'; exact NRow.below (s'.lt (by simp)) (hw.mono hB) r')
  have hfp : fitPl ⟨kn, gr, sn, ss, hp, hf, fw, mo⟩ (.mk op iv nm sc pl es ps) = (if hp then plB pl else if hf then pl.name.toList.isEmpty && (decide (n0 = n1) && (decide (n0 ≤ 6) && pl.path.all nmB)) else samePl pl zeroP) := by
    rw [hlen, hplen, ← noB_toList]; rfl
  rw [hfp]
  clear hfp
  rw [← hplen] at A
  have bx := Lib.hid (box2 w (.cells #[.bool kn, .int .i64 gr, .int .u8 sn, .int .u8 ss, .bool hp, .bool hf, .int .i64 fw, .int .i64 mo] 286) (.cells #[.int .u8 op, .int .i64 iv, .string nm, .string sc, .string pl.name, .slice p0 n0 q0, .slice p1 n1 q1, .int .i64 ps] 37))
  generalize plB pl = xa at *
  generalize samePl pl zeroP = xb at *
  generalize (decide (n0 ≤ 6) && pl.path.all nmB) = xc at *
  clear hpl s1 r1 hm hlen hplen
  simp only [ESh.cells]
  cases hp
  · cases hf
    · go_enter Tryz.func253, Tryz.ntmps253
      go_wp2_with fail
      refine (Z.out _ bx.out).mono ?_; rintro e w1 ⟨rfl, b1⟩
      go_wp2
      go_ret
      exact ⟨rfl, up_tr bx.out b1⟩
    · by_cases hl : n0 = n1
      · subst hl
        go_enter Tryz.func253, Tryz.ntmps253
        go_wp2_with fail
        · refine (A.out _ bx.out).mono ?_; rintro e w1 ⟨rfl, b1⟩
          go_wp2
          go_ret
          exact ⟨ret_bool (by simp [*]), up_tr bx.out b1⟩
        all_goals (go_ret; exact ⟨ret_bool (by simp [*]), bx.out⟩)
      · have e1 : ((n0 : Int) == (n1 : Int)) = false := by rw [beq_eq_false_iff_ne]; omega
        have Hl := Lib.hid hl
        clear hl
        go_enter Tryz.func253, Tryz.ntmps253
        go_wp2_with fail
        all_goals (go_ret; exact ⟨ret_bool (by simp [Hl.out]), bx.out⟩)
  · go_enter Tryz.func253, Tryz.ntmps253
    go_wp2_with fail
    refine (C.out _ bx.out).mono ?_; rintro e w1 ⟨rfl, b1⟩
    go_wp2
    go_ret
    exact ⟨rfl, up_tr bx.out b1⟩

set_option maxHeartbeats 8000000 in
theorem shapeFits_calls (B : Nat) (h : ESh) (hn : h.name ≤ 3) (hn2 : h.second ≤ 3) (op iv : Int) (nm sc : ByteArray) (pl : PP) (es : List PE) (ps : Int) (p0 : Option Addr) (n0 q0 : Nat) (p1 : Option Addr) (n1 q1 : Nat) (w : World) (hB : B ≤ w.heap.size) (hm : MaxOk w)
    (he : PE.In B w (.mk op iv nm sc pl es ps) ⟨.slice p0 n0 q0, .slice p1 n1 q1⟩) :
    Calls Tryz.prog 250 #[.agg h.cells, .agg #[.int .u8 op, .int .i64 iv, .string nm, .string sc, .string pl.name, .slice p0 n0 q0, .slice p1 n1 q1, .int .i64 ps]] w fun e w' => e = .returned (.bool (fitSh h (.mk op iv nm sc pl es ps))) ∧ Below w.heap.size w w' := by
  have P : Hid (∀ w', Below w.heap.size w w' → Calls Tryz.prog 253 #[.agg h.cells, .agg #[.int .u8 op, .int .i64 iv, .string nm, .string sc, .string pl.name, .slice p0 n0 q0, .slice p1 n1 q1, .int .i64 ps]] w' fun e w'' => e = .returned (.bool (fitPl h (.mk op iv nm sc pl es ps))) ∧ Below w'.heap.size w' w'') :=
    Lib.hid fun w' hw => fitsPlace_calls B h op iv nm sc pl es ps p0 n0 q0 p1 n1 q1 w' (by have := hw.size; omega) (hm.below hw) (PE.In.below (hw.mono hB) he)
  obtain ⟨⟨_, _, _, hz1, hz2⟩, _, b, o, s1, r1⟩ := he
  have T1 : Hid (∀ w', Below w.heap.size w w' → Calls Tryz.prog 161 #[.int .u8 h.name, .string nm] w' fun e w'' => e = .returned (.bool (txB h.name nm)) ∧ Below w'.heap.size w' w'') := Lib.hid fun w' hw => textFits_calls _ hn nm hz1 w' (hm.below hw)
  have T2 : Hid (∀ w', Below w.heap.size w w' → Calls Tryz.prog 161 #[.int .u8 h.second, .string sc] w' fun e w'' => e = .returned (.bool (txB h.second sc)) ∧ Below w'.heap.size w' w'') := Lib.hid fun w' hw => textFits_calls _ hn2 sc hz2 w' (hm.below hw)
  have hlen : n1 = es.length := by
    obtain ⟨_, ao, cap, h, _⟩ := s1
    injection h
  have hfs : fitSh h (.mk op iv nm sc pl es ps) = (h.known && (decide (0 ≤ iv) && (decide (iv ≤ h.greatest) && (txB h.name nm && (txB h.second sc && (fitPl h (.mk op iv nm sc pl es ps) && (decide ((h.fewest : Int) ≤ (n1 : Int)) && decide ((n1 : Int) ≤ (h.most : Int))))))))) := by
    have a1 : decide ((h.fewest : Int) ≤ (n1 : Int)) = decide (h.fewest ≤ es.length) := by rw [decide_eq_decide]; omega
    have a2 : decide ((n1 : Int) ≤ (h.most : Int)) = decide (es.length ≤ h.most) := by rw [decide_eq_decide]; omega
    rw [a1, a2]; rfl
  rw [hfs]
  clear hfs hlen hm s1 r1 hn hn2 hz1 hz2
  generalize txB h.name nm = x1 at *
  generalize txB h.second sc = x2 at *
  generalize fitPl h (.mk op iv nm sc pl es ps) = x3 at *
  obtain ⟨kn, gr, sn, ss, hp, hf, fw, mo⟩ := h
  simp only [ESh.cells] at *
  cases kn
  · go_enter Tryz.func250, Tryz.ntmps250
    go_wp2_with fail
    go_ret
    exact ⟨ret_bool (by simp), box2 _ _ _⟩
  · skip
    go_enter Tryz.func250, Tryz.ntmps250
    go_wp2_with fail
    · refine (T1.out _ (box2 _ _ _)).mono ?_; rintro e w1 ⟨rfl, b1⟩
      have bel1 := Lib.hid (up_tr (box2 _ _ _) b1)
      have hc1 := old_cells b1
      go_wp2_with fail
      · refine (T2.out _ bel1.out).mono ?_; rintro e w2 ⟨rfl, b2⟩
        have bel2 := Lib.hid (up_tr bel1.out b2)
        have b2' := up_tr b1 b2
        have hc2 := old_cells b2'
        clear hc1 b1 b2
        go_wp2_with fail
        · refine (P.out _ bel2.out).mono ?_; rintro e w3 ⟨rfl, b3⟩
          have bel3 := Lib.hid (up_tr bel2.out b3)
          have b3' := up_tr b2' b3
          have hc3 := old_cells b3'
          clear hc2 b2' b3
          go_wp2_with fail
          all_goals (go_ret; exact ⟨ret_bool (by first | (simp [*]; done) | (simp [*]; intros; omega)), bel3.out⟩)
        all_goals (go_ret; exact ⟨ret_bool (by first | (simp [*]; done) | (simp [*]; intros; omega)), bel2.out⟩)
      all_goals (go_ret; exact ⟨ret_bool (by first | (simp [*]; done) | (simp [*]; intros; omega)), bel1.out⟩)
    all_goals (go_ret; exact ⟨ret_bool (by first | (simp [*]; done) | (simp [*]; intros; omega)), box2 _ _ _⟩)
end Go.Proofs.YthilicmhdkmipaaGreatDoor
/- What fits, fifth part: expressions. -/
namespace Go.Proofs.YthilicmhdkmipaaGreatDoor
open Go.RowKit
set_option linter.unusedVariables false

theorem eSh_names (k : Int) : (eSh k).name ≤ 3 ∧ (eSh k).second ≤ 3 := by
  unfold eSh
  repeat' (first | (constructor <;> simp <;> done) | split)
set_option maxHeartbeats 8000000 in
theorem exprFits_calls (B : Nat) (op iv : Int) (nm sc : ByteArray) (pl : PP) (es : List PE) (ps : Int) (p0 : Option Addr) (n0 q0 : Nat) (p1 : Option Addr) (n1 q1 : Nat) (st b o : Nat) (w : World) (hst : st ≤ 3) (hB : B ≤ w.heap.size) (hm : MaxOk w) (hb : b < w.heap.size)
    (hc : CellsAt w b o (PE.cells (.mk op iv nm sc pl es ps) ⟨.slice p0 n0 q0, .slice p1 n1 q1⟩)) (he : PE.In B w (.mk op iv nm sc pl es ps) ⟨.slice p0 n0 q0, .slice p1 n1 q1⟩) :
    Calls Tryz.prog 247 #[.agg #[.pointer (some ⟨b, o, none⟩), .int .u8 st]] w fun e w' => e = .returned (.bool (fitE (.mk op iv nm sc pl es ps) st)) ∧ Below w.heap.size w w' := by
  have c0 : w.cell? ⟨b, o, none⟩ = some (.int .u8 op) := hc 0 _ rfl
  have c1 : w.cell? ⟨b, o + 1, none⟩ = some (.int .i64 iv) := hc 1 _ rfl
  have c2 : w.cell? ⟨b, o + 2, none⟩ = some (.string nm) := hc 2 _ rfl
  have c3 : w.cell? ⟨b, o + 3, none⟩ = some (.string sc) := hc 3 _ rfl
  have c4 : w.cell? ⟨b, o + 4, none⟩ = some (.string pl.name) := hc 4 _ rfl
  have c5 : w.cell? ⟨b, o + 5, none⟩ = some (.slice p0 n0 q0) := hc 5 _ rfl
  have c6 : w.cell? ⟨b, o + 6, none⟩ = some (.slice p1 n1 q1) := hc 6 _ rfl
  have c7 : w.cell? ⟨b, o + 7, none⟩ = some (.int .i64 ps) := hc 7 _ rfl
  have C : Hid (∀ w', Below w.heap.size w w' → Calls Tryz.prog 114 #[.agg #[.int .u8 op, .int .i64 iv, .string nm, .string sc, .string pl.name, .slice p0 n0 q0, .slice p1 n1 q1, .int .i64 ps], .agg #[.int .u8 0, .int .i64 0, .string ByteArray.empty, .string ByteArray.empty, .string ByteArray.empty, .slice none 0 0, .slice none 0 0, .int .i64 0]] w' fun e w'' => e = .returned (.bool (sameE false (.mk op iv nm sc pl es ps) zeroE)) ∧ Below w'.heap.size w' w'') :=
    Lib.hid fun w' hw => sameE_calls B (.mk op iv nm sc pl es ps) zeroE ⟨.slice p0 n0 q0, .slice p1 n1 q1⟩ ⟨.slice none 0 0, .slice none 0 0⟩ w' (by have := hw.size; omega) (PE.In.below (hw.mono hB) he) (zeroE_in B w')
  have hu : U8 op := he.1.1
  have hk := u8_lt hu
  have hn := eSh_names op
  have D : Hid (∀ w', Calls Tryz.prog 249 #[.int .u8 op] w' fun e w'' => e = .returned (.agg (eSh op).cells) ∧ Below w'.heap.size w' w'') := Lib.hid fun w' => exprShape_calls op hk w'
  have S : Hid (∀ w', Below w.heap.size w w' → Calls Tryz.prog 250 #[.agg (eSh op).cells, .agg #[.int .u8 op, .int .i64 iv, .string nm, .string sc, .string pl.name, .slice p0 n0 q0, .slice p1 n1 q1, .int .i64 ps]] w' fun e w'' => e = .returned (.bool (fitSh (eSh op) (.mk op iv nm sc pl es ps))) ∧ Below w'.heap.size w' w'') :=
    Lib.hid fun w' hw => shapeFits_calls B (eSh op) hn.1 hn.2 op iv nm sc pl es ps p0 n0 q0 p1 n1 q1 w' (by have := hw.size; omega) (hm.below hw) (PE.In.below (hw.mono hB) he)
  unfold fitE
  clear hc he hm hu hk hn
  by_cases h3 : st = 3
  · rw [if_pos h3]
    subst h3
    clear D S
    generalize sameE false (.mk op iv nm sc pl es ps) zeroE = q at *
    show Calls Tryz.prog 247 #[.agg #[.pointer (some ⟨b, o, none⟩), .int .u8 3]] w _
    go_enter Tryz.func247, Tryz.ntmps247
    go_wp2_with fail
    refine (C.out _ (box1 _ _)).mono ?_; rintro e w1 ⟨rfl, b1⟩
    go_wp2
    go_ret
    exact ⟨rfl, up_tr (box1 _ _) b1⟩
  · rw [if_neg h3]
    have n3 : ((st : Int) == 3) = false := beq_eq_false_iff_ne.2 (by omega)
    have hl : lentB (.mk op iv nm sc pl es ps) = (decide (op = 5) || decide (op = 6)) := rfl
    rw [hl, show PE.op (.mk op iv nm sc pl es ps) = op from rfl]
    clear C hl
    generalize fitSh (eSh op) (.mk op iv nm sc pl es ps) = q at *
    generalize (eSh op).cells = cs at *
    obtain ⟨W0, hW0⟩ : ∃ W0, W0 = w.alloc (.cells #[.pointer (some ⟨b, o, none⟩), .int .u8 st] 160) := ⟨_, rfl⟩
    have HW := Lib.hid hW0
    have z1 : w.heap.size < W0.heap.size := by rw [hW0]; simp
    have z2 : b < W0.heap.size := by omega
    have f0 : W0.cell? ⟨w.heap.size, 0, none⟩ = some (.pointer (some ⟨b, o, none⟩)) := by rw [hW0]; go_simp
    have f1 : W0.cell? ⟨w.heap.size, 1, none⟩ = some (.int .u8 st) := by rw [hW0]; go_simp
    have d0 : W0.cell? ⟨b, o, none⟩ = some (.int .u8 op) := by rw [hW0]; go_simp
    have d1 : W0.cell? ⟨b, o + 1, none⟩ = some (.int .i64 iv) := by rw [hW0]; go_simp
    have d2 : W0.cell? ⟨b, o + 2, none⟩ = some (.string nm) := by rw [hW0]; go_simp
    have d3 : W0.cell? ⟨b, o + 3, none⟩ = some (.string sc) := by rw [hW0]; go_simp
    have d4 : W0.cell? ⟨b, o + 4, none⟩ = some (.string pl.name) := by rw [hW0]; go_simp
    have d5 : W0.cell? ⟨b, o + 5, none⟩ = some (.slice p0 n0 q0) := by rw [hW0]; go_simp
    have d6 : W0.cell? ⟨b, o + 6, none⟩ = some (.slice p1 n1 q1) := by rw [hW0]; go_simp
    have d7 : W0.cell? ⟨b, o + 7, none⟩ = some (.int .i64 ps) := by rw [hW0]; go_simp
    have B0 : Below w.heap.size w W0 := by rw [hW0]; exact box1 _ _
    have hF := Over.cells (W0 := W0)
    have K4 := Lib.hid (fun (n : Over W0) => (show Below w.heap.size w n.w from B0.trans (n.h.mono (by omega))))
    have A1 : Hid (∀ n' : Over W0, Calls Tryz.prog 249 #[.int .u8 op] n'.w fun e w'' => e = .returned (.agg cs) ∧ ∃ m : Over W0, w'' = m.w) := Lib.hid fun n' => over_calls (D.out _)
    have A2 : Hid (∀ n' : Over W0, Calls Tryz.prog 250 #[.agg cs, .agg #[.int .u8 op, .int .i64 iv, .string nm, .string sc, .string pl.name, .slice p0 n0 q0, .slice p1 n1 q1, .int .i64 ps]] n'.w fun e w'' => e = .returned (.bool q) ∧ ∃ m : Over W0, w'' = m.w) := Lib.hid fun n' => over_calls (S.out _ (K4.out n'))
    clear D S B0 hW0
    by_cases h5 : op = 5 ∨ op = 6
    · have hb5 : (decide (op = 5) || decide (op = 6)) = true := by rcases h5 with rfl | rfl <;> rfl
      rw [hb5]
      clear hb5
      by_cases h1 : st = 1
      · subst h1
        show Calls Tryz.prog 247 #[.agg #[.pointer (some ⟨b, o, none⟩), .int .u8 1]] w _
        rcases h5 with rfl | rfl
        all_goals
          (go_enter Tryz.func247, Tryz.ntmps247
           go_wp2_with fail
           clear c0 c1 c2 c3 c4 c5 c6 c7
           rw [show w.alloc (.cells #[.pointer (some ⟨b, o, none⟩), .int .u8 1] 160) = W0 from HW.out.symm]
           refine wp_region_over (by kernel_rfl) (by kernel_rfl) ?_
           repeat (go_big_quiet_step ((first | (go_at_call 249; exact A1.out _) | (go_at_call 250; exact A2.out _))))
           refine wpQuiet_nil ?_
           rintro _ ⟨m, rfl⟩
           have HF := Lib.hid (K4.out m)
           go_wp2
           go_ret
           exact ⟨ret_bool (by simp), HF.out⟩)
      · have n1' : ((st : Int) == 1) = false := beq_eq_false_iff_ne.2 (by omega)
        rcases h5 with rfl | rfl
        all_goals
          (go_enter Tryz.func247, Tryz.ntmps247
           go_wp2_with fail
           clear c0 c1 c2 c3 c4 c5 c6 c7
           rw [show w.alloc (.cells #[.pointer (some ⟨b, o, none⟩), .int .u8 st] 160) = W0 from HW.out.symm]
           refine wp_region_over (by kernel_rfl) (by kernel_rfl) ?_
           repeat (go_big_quiet_step ((first | (go_at_call 249; exact A1.out _) | (go_at_call 250; exact A2.out _))))
           refine wpQuiet_nil ?_
           rintro _ ⟨m, rfl⟩
           have HF := Lib.hid (K4.out m)
           go_wp2
           go_ret
           exact ⟨ret_bool (by simp [h1]), HF.out⟩)
    · have hb5 : (decide (op = 5) || decide (op = 6)) = false := by simp; omega
      rw [hb5]
      have e5 : (op == 5) = false := beq_eq_false_iff_ne.2 (by omega)
      have e6 : (op == 6) = false := beq_eq_false_iff_ne.2 (by omega)
      clear h5 hb5
      go_enter Tryz.func247, Tryz.ntmps247
      go_wp2_with fail
      clear c0 c1 c2 c3 c4 c5 c6 c7
      rw [show w.alloc (.cells #[.pointer (some ⟨b, o, none⟩), .int .u8 st] 160) = W0 from HW.out.symm]
      refine wp_region_over (by kernel_rfl) (by kernel_rfl) ?_
      repeat (go_big_quiet_step ((first | (go_at_call 249; exact A1.out _) | (go_at_call 250; exact A2.out _))))
      refine wpQuiet_nil ?_
      rintro _ ⟨m, rfl⟩
      have HF := Lib.hid (K4.out m)
      go_wp2
      go_ret
      exact ⟨ret_bool (by simp), HF.out⟩
end Go.Proofs.YthilicmhdkmipaaGreatDoor
/- What the writer writes of a program, over contracts of its items. -/
namespace Go.Proofs.YthilicmhdkmipaaGreatDoor
open Go.RowKit
set_option linter.unusedVariables false

/-- the contract of an item -/
def ItemAt (B R : Nat) (x : PI) : Prop := ∀ (T0 G0 : TkB) (ts : List TkB) (v : VI) (w : World), B ≤ w.heap.size → Words B w → AtW B R T0 G0 ts w → PI.In B w x v → Lim T0 G0 (ts ++ tokI x) →
  Calls Tryz.prog 88 #[.pointer (some ⟨R, 0, none⟩), .agg (x.cells v).toArray] w fun e w' => e = .returned (.tuple #[]) ∧ AtW B R T0 G0 (ts ++ tokI x) w' ∧ WBut B R w w'
theorem textP_snoc : ∀ (l : List PI) (k : Nat) (x : PI), l[k]? = some x → textP (l.take (k + 1)) = textP (l.take k) ++ lineT (tokI x) ++ [10]
  | y :: l, 0, x, h => by
    obtain rfl : y = x := by simpa using h
    simp [textP]
  | y :: l, k + 1, x, h => by
    rw [List.take_succ_cons, List.take_succ_cons, textP, textP, textP_snoc l k x (by simpa using h)]; simp
theorem textP_len : ∀ (l : List PI) (k : Nat), (textP (l.take k)).length ≤ (textP l).length
  | [], k => by simp [textP]
  | y :: l, 0 => by simp [textP]
  | y :: l, k + 1 => by
    rw [List.take_succ_cons, textP, textP]
    have := textP_len l k
    simp only [List.length_append]; omega
theorem IsW.start {B R : Nat} {T : TkB} {w : World} (h : IsW B R T ⟨#[]⟩ w) : AtW B R T [] [] w := by
  unfold AtW
  simpa [puts, gapA] using h
set_option maxRecDepth 100000 in
set_option maxHeartbeats 4000000 in
theorem program_calls (B R : Nat) (l : List PI) (IH : ∀ x ∈ l, ItemAt B R x) (v : Value) (w : World) (hB : B ≤ w.heap.size) (hW : Words B w) (hA : IsW B R [] ⟨#[]⟩ w) (hp : ProgIn B w l v) (hL : (textP l).length ≤ 1000000000) :
    Calls Tryz.prog 45 #[.pointer (some ⟨R, 0, none⟩), .agg #[v]] w fun e w' => e = .returned (.tuple #[]) ∧ IsW B R (textP l) ⟨#[]⟩ w' ∧ WBut B R w w' := by
  obtain ⟨b, o, ⟨hl, ao, cap, rfl, k1⟩, hr⟩ := hp
  obtain ⟨n, hn⟩ : ∃ n, n = l.length := ⟨_, rfl⟩
  rw [← hn] at hl k1 ⊢
  have hn' : n ≤ 9223372036854775807 := by unfold maxLen at hl; omega
  have Hn := Lib.hid hn
  have bx : Below w.heap.size w (w.alloc (.cells #[.slice ao n cap] 24)) := new_only _ _
  have BX := Lib.hid (WBut.of bx hB (R := R))
  have HA := Lib.hid (IsW.stays hA bx)
  have HW := Lib.hid hW
  have HR := Lib.hid hr
  have HI := Lib.hid IH
  have HK := Lib.hid k1
  have hRR : R < w.heap.size := hA.lt
  have HL := Lib.hid hL
  clear hn IH hW hA hr hL bx k1
  go_enter Tryz.func45, Tryz.ntmps45
  go_wp2_with fail
  go_loopw [9] (fun i wr => ∃ k : Nat, k ≤ n ∧ i = .int .i64 k ∧ Hid (IsW B R (textP (l.take k)) ⟨#[]⟩ wr) ∧ Hid (WBut B R w wr))
    (fun i _ => n - (intOf i).toNat)
  case atStart => exact ⟨0, by omega, rfl, HA, BX⟩
  case round =>
    obtain ⟨k, hk, rfl, Hw, Hb⟩ := hrel
    by_cases hlt : k < n
    · obtain ⟨x, hx⟩ := (⟨l[k]'(by rw [← Hn.out]; exact hlt), List.getElem?_eq_getElem _⟩ : ∃ a, l[k]? = some a)
      obtain ⟨rfl, hbB⟩ := HK.out.resolve_left (by omega)
      obtain ⟨vx, cx, ix⟩ := PI.Row.get HR.out hx
      obtain ⟨a1, n1, c1, a2, n2, c2, a3, n3, c3, a4, n4, c4, a5, n5, c5, rfl⟩ := ix.shape
      have hBr : B ≤ wr.heap.size := Nat.le_trans hB Hb.out.size
      have hcx := cx.below hbB Hb.out.bel
      have hbr : b < wr.heap.size := by omega
      have d0 : wr.cell? ⟨b, o + k * 16, none⟩ = some (.int .u8 x.kind) := by simpa using hcx 0 _ rfl
      have d1 : wr.cell? ⟨b, o + k * 16 + 1, none⟩ = some (.string x.name) := hcx 1 _ rfl
      have d2 : wr.cell? ⟨b, o + k * 16 + 2, none⟩ = some (.slice a1 n1 c1) := hcx 2 _ rfl
      have d3 : wr.cell? ⟨b, o + k * 16 + 3, none⟩ = some (.int .u8 x.result.kind) := hcx 3 _ rfl
      have d4 : wr.cell? ⟨b, o + k * 16 + 4, none⟩ = some (.string x.result.name) := hcx 4 _ rfl
      have d5 : wr.cell? ⟨b, o + k * 16 + 5, none⟩ = some (.slice a2 n2 c2) := hcx 5 _ rfl
      have d6 : wr.cell? ⟨b, o + k * 16 + 6, none⟩ = some (.slice a3 n3 c3) := hcx 6 _ rfl
      have d7 : wr.cell? ⟨b, o + k * 16 + 7, none⟩ = some (.int .u8 x.ret.op) := hcx 7 _ rfl
      have d8 : wr.cell? ⟨b, o + k * 16 + 8, none⟩ = some (.int .i64 x.ret.int) := hcx 8 _ rfl
      have d9 : wr.cell? ⟨b, o + k * 16 + 9, none⟩ = some (.string x.ret.name) := hcx 9 _ rfl
      have d10 : wr.cell? ⟨b, o + k * 16 + 10, none⟩ = some (.string x.ret.second) := hcx 10 _ rfl
      have d11 : wr.cell? ⟨b, o + k * 16 + 11, none⟩ = some (.string x.ret.place.name) := hcx 11 _ rfl
      have d12 : wr.cell? ⟨b, o + k * 16 + 12, none⟩ = some (.slice a4 n4 c4) := hcx 12 _ rfl
      have d13 : wr.cell? ⟨b, o + k * 16 + 13, none⟩ = some (.slice a5 n5 c5) := hcx 13 _ rfl
      have d14 : wr.cell? ⟨b, o + k * 16 + 14, none⟩ = some (.int .i64 x.ret.pos) := hcx 14 _ rfl
      have d15 : wr.cell? ⟨b, o + k * 16 + 15, none⟩ = some (.int .i64 x.pos) := hcx 15 _ rfl
      have HX := Lib.hid (PI.In.below Hb.out.bel ix)
      have HS := Lib.hid (textP_snoc l k x hx)
      have HI1 := Lib.hid (HI.out x (List.mem_of_getElem? hx))
      have HLk := Lib.hid (textP_len l (k + 1))
      clear hx cx ix hcx
      obtain ⟨w1, hw1⟩ : ∃ w1, w1 = wr.alloc (.cells #[.int .u8 x.kind, .string x.name, .slice a1 n1 c1, .int .u8 x.result.kind, .string x.result.name, .slice a2 n2 c2, .slice a3 n3 c3, .int .u8 x.ret.op, .int .i64 x.ret.int, .string x.ret.name, .string x.ret.second, .string x.ret.place.name, .slice a4 n4 c4, .slice a5 n5 c5, .int .i64 x.ret.pos, .int .i64 x.pos] 68) := ⟨_, rfl⟩
      have hRr : R < wr.heap.size := by have := Hb.out.size; omega
      have EB : CBox R wr.heap.size [.int .u8 x.kind, .string x.name, .slice a1 n1 c1, .int .u8 x.result.kind, .string x.result.name, .slice a2 n2 c2, .slice a3 n3 c3, .int .u8 x.ret.op, .int .i64 x.ret.int, .string x.ret.name, .string x.ret.second, .string x.ret.place.name, .slice a4 n4 c4, .slice a5 n5 c5, .int .i64 x.ret.pos, .int .i64 x.pos] w1 := by rw [hw1]; exact CBox.new _ (by decide) hRr
      have bx1 : Below wr.heap.size wr w1 := by rw [hw1]; exact new_only _ _
      have B1 := Lib.hid (Hb.out.trans (WBut.of bx1 hBr (R := R)))
      have hz1 : wr.heap.size < w1.heap.size := EB.lt
      have hlim : Lim (textP (l.take k)) [] ([] ++ tokI x) := by
        have h1 := HLk.out
        have h2 := HL.out
        rw [HS.out] at h1
        unfold Lim
        rw [List.nil_append]
        simp only [List.length_append, List.length_cons, List.length_nil, lineT] at h1 ⊢
        omega
      have P : Hid (Calls Tryz.prog 88 #[.pointer (some ⟨R, 0, none⟩), .agg #[.int .u8 x.kind, .string x.name, .slice a1 n1 c1, .int .u8 x.result.kind, .string x.result.name, .slice a2 n2 c2, .slice a3 n3 c3, .int .u8 x.ret.op, .int .i64 x.ret.int, .string x.ret.name, .string x.ret.second, .string x.ret.place.name, .slice a4 n4 c4, .slice a5 n5 c5, .int .i64 x.ret.pos, .int .i64 x.pos]] w1 fun e w' => e = .returned (.tuple #[]) ∧ AtW B R (textP (l.take k)) [] ([] ++ tokI x) w' ∧ WBut B R w1 w') := Lib.hid (HI1.out (textP (l.take k)) [] [] ⟨.slice a1 n1 c1, .slice a2 n2 c2, .slice a3 n3 c3, ⟨.slice a4 n4 c4, .slice a5 n5 c5⟩⟩ w1 (by omega) (HW.out.below B1.out.bel) (IsW.start (IsW.stays Hw.out bx1)) (PI.In.below (bx1.mono hBr) HX.out) hlim)
      have y0 : w1.cell? ⟨wr.heap.size, 0, none⟩ = some (.int .u8 x.kind) := EB.has 0 _ rfl
      have y1 : w1.cell? ⟨wr.heap.size, 1, none⟩ = some (.string x.name) := EB.has 1 _ rfl
      have y2 : w1.cell? ⟨wr.heap.size, 2, none⟩ = some (.slice a1 n1 c1) := EB.has 2 _ rfl
      have y3 : w1.cell? ⟨wr.heap.size, 3, none⟩ = some (.int .u8 x.result.kind) := EB.has 3 _ rfl
      have y4 : w1.cell? ⟨wr.heap.size, 4, none⟩ = some (.string x.result.name) := EB.has 4 _ rfl
      have y5 : w1.cell? ⟨wr.heap.size, 5, none⟩ = some (.slice a2 n2 c2) := EB.has 5 _ rfl
      have y6 : w1.cell? ⟨wr.heap.size, 6, none⟩ = some (.slice a3 n3 c3) := EB.has 6 _ rfl
      have y7 : w1.cell? ⟨wr.heap.size, 7, none⟩ = some (.int .u8 x.ret.op) := EB.has 7 _ rfl
      have y8 : w1.cell? ⟨wr.heap.size, 8, none⟩ = some (.int .i64 x.ret.int) := EB.has 8 _ rfl
      have y9 : w1.cell? ⟨wr.heap.size, 9, none⟩ = some (.string x.ret.name) := EB.has 9 _ rfl
      have y10 : w1.cell? ⟨wr.heap.size, 10, none⟩ = some (.string x.ret.second) := EB.has 10 _ rfl
      have y11 : w1.cell? ⟨wr.heap.size, 11, none⟩ = some (.string x.ret.place.name) := EB.has 11 _ rfl
      have y12 : w1.cell? ⟨wr.heap.size, 12, none⟩ = some (.slice a4 n4 c4) := EB.has 12 _ rfl
      have y13 : w1.cell? ⟨wr.heap.size, 13, none⟩ = some (.slice a5 n5 c5) := EB.has 13 _ rfl
      have y14 : w1.cell? ⟨wr.heap.size, 14, none⟩ = some (.int .i64 x.ret.pos) := EB.has 14 _ rfl
      have y15 : w1.cell? ⟨wr.heap.size, 15, none⟩ = some (.int .i64 x.pos) := EB.has 15 _ rfl
      have HLL := Lib.hid hlim
      clear bx1 EB Hw HI1 HX hlim
      go_upto_region 4 with (fail)
      rw [← hw1]
      clear hw1
      go_wp2_with fail
      (with_reducible refine (P.out).mono ?_)
      rintro e w2 ⟨rfl, h, b2⟩
      have B2 := Lib.hid (B1.out.trans b2)
      have P2 := Lib.hid (endLine_calls B R _ _ w2 h (by have := HLL.out; unfold Lim at this; omega) (Nat.le_trans hB B2.out.size))
      clear h b2 P y0 y1 y2 y3 y4 y5 y6 y7 y8 y9 y10 y11 y12 y13 y14 y15 d0 d1 d2 d3 d4 d5 d6 d7 d8 d9 d10 d11 d12 d13 d14 d15
      go_wp2_with fail
      (with_reducible refine (P2.out).mono ?_)
      rintro e w3 ⟨rfl, h, b3⟩
      have B3 := Lib.hid (B2.out.trans b3)
      have A3 : Hid (IsW B R (textP (l.take (k + 1))) ⟨#[]⟩ w3) := Lib.hid (by
        rw [HS.out]
        simpa [lineT] using h)
      clear h b3 P2
      go_wp2
      go_roundw
      case rel => exact ⟨k + 1, by omega, by go_num, A3, B3⟩
      case measure => simp [intOf]; omega
    · obtain rfl : k = n := by omega
      have hall : l.take k = l := List.take_of_length_le (by rw [Hn.out]; exact Nat.le_refl _)
      go_wp2
      go_end0
      exact ⟨rfl, by rw [hall] at Hw; exact Hw.out, Hb.out⟩
end Go.Proofs.YthilicmhdkmipaaGreatDoor
/- What the writer writes of an item: a function. -/
namespace Go.Proofs.YthilicmhdkmipaaGreatDoor
open Go.RowKit
set_option linter.unusedVariables false

set_option maxRecDepth 100000 in
set_option maxHeartbeats 4000000 in
theorem item_fn (B R : Nat) (nm : ByteArray) (fs : List PF) (ty : PT) (bo : List PS) (ret : PE) (pos : Int) (hf : ∀ x ∈ fs, TypedAt B R x.type) (ht : TypedAt B R ty) (hb : StmtsAt B R bo) (he : ExprAt B R ret) (T0 G0 : TkB) (ts : List TkB) (v : VI) (w : World) (hB : B ≤ w.heap.size) (hW : Words B w) (hA : AtW B R T0 G0 ts w) (hx : PI.In B w ⟨3, nm, fs, ty, bo, ret, pos⟩ v) (hL : Lim T0 G0 (ts ++ (tokI ⟨3, nm, fs, ty, bo, ret, pos⟩))) :
    Calls Tryz.prog 88 #[.pointer (some ⟨R, 0, none⟩), .agg (PI.cells ⟨3, nm, fs, ty, bo, ret, pos⟩ v).toArray] w fun e w' => e = .returned (.tuple #[]) ∧ AtW B R T0 G0 (ts ++ (tokI ⟨3, nm, fs, ty, bo, ret, pos⟩)) w' ∧ WBut B R w w' := by
  obtain ⟨a1, n1, c1, a2, n2, c2, a3, n3, c3, a4, n4, c4, a5, n5, c5, rfl⟩ := hx.shape
  have HX := Lib.hid hx
  obtain ⟨⟨_, _, hsn⟩, ⟨b1, o1, s1, r1⟩, hty, ⟨b3, o3, s3, r3⟩, hre⟩ := hx
  have R1 := Lib.hid r1
  have R3 := Lib.hid r3
  have HTY := Lib.hid hty
  have HRE := Lib.hid hre
  clear r1 r3 hty hre
  have hRR : R < w.heap.size := hA.lt
  obtain ⟨w1, hw1⟩ : ∃ w1, w1 = (w.alloc (.cells #[.pointer (some ⟨R, 0, none⟩)] 81)).alloc (.cells #[.int .u8 3, .string nm, .slice a1 n1 c1, .int .u8 ty.kind, .string ty.name, .slice a2 n2 c2, .slice a3 n3 c3, .int .u8 ret.op, .int .i64 ret.int, .string ret.name, .string ret.second, .string ret.place.name, .slice a4 n4 c4, .slice a5 n5 c5, .int .i64 ret.pos, .int .i64 pos] 68) := ⟨_, rfl⟩
  have bx : Below w.heap.size w w1 := by rw [hw1]; exact (new_only _ _).alloc (by simp) _
  have E1 : Hid (CBox R (w.heap.size + 1) [.int .u8 3, .string nm, .slice a1 n1 c1, .int .u8 ty.kind, .string ty.name, .slice a2 n2 c2, .slice a3 n3 c3, .int .u8 ret.op, .int .i64 ret.int, .string ret.name, .string ret.second, .string ret.place.name, .slice a4 n4 c4, .slice a5 n5 c5, .int .i64 ret.pos, .int .i64 pos] w1) := Lib.hid (by rw [hw1]; exact CBox.new2 _ _ _ (by decide) hRR)
  have Q1 : Hid (CBox R w.heap.size [.pointer (some ⟨R, 0, none⟩)] w1) := Lib.hid (by rw [hw1]; exact CBox.old _ _ nePW hRR)
  have et : ts ++ (tokI ⟨3, nm, fs, ty, bo, ret, pos⟩) = ts ++ fnT ⟨3, nm, fs, ty, bo, ret, pos⟩ := rfl
  rw [et] at hL ⊢
  clear et
  have B1 : Hid (WBut B R w w1) := Lib.hid (WBut.of bx hB (R := R))
  have HW := Lib.hid hW
  have A1 := Lib.hid (hA.stays bx)
  have HL := Lib.hid hL
  show Calls Tryz.prog 88 #[.pointer (some ⟨R, 0, none⟩), .agg #[.int .u8 3, .string nm, .slice a1 n1 c1, .int .u8 ty.kind, .string ty.name, .slice a2 n2 c2, .slice a3 n3 c3, .int .u8 ret.op, .int .i64 ret.int, .string ret.name, .string ret.second, .string ret.place.name, .slice a4 n4 c4, .slice a5 n5 c5, .int .i64 ret.pos, .int .i64 pos]] w _
  clear hW hA hL bx
  go_enter Tryz.func88, Tryz.ntmps88
  go_upto_region 1 with (fail)
  (try simp only [size_alloc])
  rw [← hw1]
  clear hw1
  have x1_0 : w1.cell? ⟨w.heap.size + 1, 0, none⟩ = some (.int .u8 3) := E1.out.has 0 _ rfl
  have x1_1 : w1.cell? ⟨w.heap.size + 1, 1, none⟩ = some (.string nm) := E1.out.has 1 _ rfl
  have x1_2 : w1.cell? ⟨w.heap.size + 1, 2, none⟩ = some (.slice a1 n1 c1) := E1.out.has 2 _ rfl
  have x1_3 : w1.cell? ⟨w.heap.size + 1, 3, none⟩ = some (.int .u8 ty.kind) := E1.out.has 3 _ rfl
  have x1_4 : w1.cell? ⟨w.heap.size + 1, 4, none⟩ = some (.string ty.name) := E1.out.has 4 _ rfl
  have x1_5 : w1.cell? ⟨w.heap.size + 1, 5, none⟩ = some (.slice a2 n2 c2) := E1.out.has 5 _ rfl
  have x1_6 : w1.cell? ⟨w.heap.size + 1, 6, none⟩ = some (.slice a3 n3 c3) := E1.out.has 6 _ rfl
  have x1_7 : w1.cell? ⟨w.heap.size + 1, 7, none⟩ = some (.int .u8 ret.op) := E1.out.has 7 _ rfl
  have x1_8 : w1.cell? ⟨w.heap.size + 1, 8, none⟩ = some (.int .i64 ret.int) := E1.out.has 8 _ rfl
  have x1_9 : w1.cell? ⟨w.heap.size + 1, 9, none⟩ = some (.string ret.name) := E1.out.has 9 _ rfl
  have x1_10 : w1.cell? ⟨w.heap.size + 1, 10, none⟩ = some (.string ret.second) := E1.out.has 10 _ rfl
  have x1_11 : w1.cell? ⟨w.heap.size + 1, 11, none⟩ = some (.string ret.place.name) := E1.out.has 11 _ rfl
  have x1_12 : w1.cell? ⟨w.heap.size + 1, 12, none⟩ = some (.slice a4 n4 c4) := E1.out.has 12 _ rfl
  have x1_13 : w1.cell? ⟨w.heap.size + 1, 13, none⟩ = some (.slice a5 n5 c5) := E1.out.has 13 _ rfl
  have x1_14 : w1.cell? ⟨w.heap.size + 1, 14, none⟩ = some (.int .i64 ret.pos) := E1.out.has 14 _ rfl
  have x1_15 : w1.cell? ⟨w.heap.size + 1, 15, none⟩ = some (.int .i64 pos) := E1.out.has 15 _ rfl
  have y1 : w1.cell? ⟨w.heap.size, 0, none⟩ = some (.pointer (some ⟨R, 0, none⟩)) := Q1.out.has 0 _ rfl
  have zq1 : w.heap.size < w1.heap.size := Q1.out.lt
  have z1 : w.heap.size + 1 < w1.heap.size := E1.out.lt
  have hB1 : B ≤ w1.heap.size := Nat.le_trans hB B1.out.size
  have P := Lib.hid (function_calls B R 3 nm fs ty bo ret pos hf ht hb he T0 G0 ts ⟨.slice a1 n1 c1, .slice a2 n2 c2, .slice a3 n3 c3, ⟨.slice a4 n4 c4, .slice a5 n5 c5⟩⟩ w1 hB1 (HW.out.below B1.out.bel) A1.out (PI.In.below B1.out.bel HX.out) HL.out)
  have P : Hid (Calls Tryz.prog 148 #[.pointer (some ⟨R, 0, none⟩), .agg #[.int .u8 3, .string nm, .slice a1 n1 c1, .int .u8 ty.kind, .string ty.name, .slice a2 n2 c2, .slice a3 n3 c3, .int .u8 ret.op, .int .i64 ret.int, .string ret.name, .string ret.second, .string ret.place.name, .slice a4 n4 c4, .slice a5 n5 c5, .int .i64 ret.pos, .int .i64 pos]] w1 fun e w' => e = .returned (.tuple #[]) ∧ AtW B R T0 G0 (ts ++ fnT ⟨3, nm, fs, ty, bo, ret, pos⟩) w' ∧ WBut B R w1 w') := Lib.hid P.out
  go_wp2_with fail
  (with_reducible refine (P.out).mono ?_)
  rintro e w2 ⟨rfl, h, b⟩
  have A2 := Lib.hid h
  have B2 := Lib.hid (B1.out.trans b)
  have E2 := Lib.hid (E1.out.but b)
  have Q2 := Lib.hid (Q1.out.but b)
  clear h b P x1_0 x1_1 x1_2 x1_3 x1_4 x1_5 x1_6 x1_7 x1_8 x1_9 x1_10 x1_11 x1_12 x1_13 x1_14 x1_15 z1 A1 E1 y1 zq1 Q1
  go_wp2
  go_end0
  exact ⟨rfl, A2.out, B2.out⟩
theorem stmts_nil (B R : Nat) : StmtsAt B R [] := by
  intro T0 G0 ts v b o w hB hW hA hs hr hL
  obtain ⟨hn, ao, cap, rfl, _⟩ := hs
  rw [show tokSs [] = [] from rfl, List.append_nil]
  show Calls Tryz.prog 177 #[.pointer (some ⟨R, 0, none⟩), .slice ao 0 cap] w _
  go_enter Tryz.func177, Tryz.ntmps177
  go_wp2_with fail
  go_loopw [8] (fun i wr => i = .int .i64 0 ∧ w = wr) (fun _ _ => 0)
  case atStart => exact ⟨rfl, rfl⟩
  case round =>
    obtain ⟨rfl, rfl⟩ := hrel
    go_wp2
    go_end0
    exact ⟨rfl, hA, WBut.refl B R _⟩
end Go.Proofs.YthilicmhdkmipaaGreatDoor
