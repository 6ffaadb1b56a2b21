/- What fits, third part: types. -/
import Derived.Test.YthilicmhdkmipaaGreatDoorITreeFits2
import Derived.Test.YthilicmhdkmipaaGreatDoorIJoinAL
namespace Go.Proofs.YthilicmhdkmipaaGreatDoor
open Go.RowKit
set_option linter.unusedVariables false

set_option maxHeartbeats 4000000 in
theorem typedFits_calls (B : Nat) (t : PT) (st b o : Nat) (v : Value) (w : World) (hst : st ≤ 3) (hB : B ≤ w.heap.size) (hm : MaxOk w) (hb : b < w.heap.size) (hc : CellsAt w b o (t.cells v)) (ht : t.In B w v) :
    Calls Tryz.prog 244 #[.agg #[.pointer (some ⟨b, o, none⟩), .int .u8 st]] w fun e w' => e = .returned (.bool (fitT t st)) ∧ Below w.heap.size w w' := by
  have c0 : w.cell? ⟨b, o, none⟩ = some (.int .u8 t.kind) := hc 0 _ rfl
  have c1 : w.cell? ⟨b, o + 1, none⟩ = some (.string t.name) := hc 1 _ rfl
  have c2 : w.cell? ⟨b, o + 2, none⟩ = some v := hc 2 _ rfl
  have C : Hid (∀ w', Below w.heap.size w w' → Calls Tryz.prog 111 #[.agg #[.int .u8 t.kind, .string t.name, v], .agg #[.int .u8 0, .string ByteArray.empty, .slice none 0 0]] w' fun e w'' => e = .returned (.bool (sameT t zeroT)) ∧ Below w'.heap.size w' w'') :=
    Lib.hid fun w' hw => sameT_calls B t zeroT v _ w' (by have := hw.size; omega) (PT.In.below (hw.mono hB) ht) (zeroT_in B w')
  obtain ⟨hu, hs⟩ : U8 t.kind ∧ t.name.size ≤ maxLen := by
    obtain ⟨k, n, xs⟩ := t
    exact ht.1
  have D : Hid (∀ w', Calls Tryz.prog 246 #[.int .u8 t.kind] w' fun e w'' => e = .returned (.agg (tSh t.kind).cells) ∧ Below w'.heap.size w' w'') := Lib.hid fun w' => typeShape_calls t.kind (u8_lt hu) w'
  have hn3 : (tSh t.kind).name ≤ 3 := by
    unfold tSh
    split
    · simp
    · split
      · simp
      · split <;> simp
  have T : Hid (∀ w', MaxOk w' → Calls Tryz.prog 161 #[.int .u8 (tSh t.kind).name, .string t.name] w' fun e w'' => e = .returned (.bool (txB (tSh t.kind).name t.name)) ∧ Below w'.heap.size w' w'') := Lib.hid fun w' h => textFits_calls _ hn3 t.name hs w' h
  have hsh : ∃ ao cap, v = .slice ao t.args.length cap := by
    obtain ⟨k, n, xs⟩ := t
    obtain ⟨_, b', o', s, _⟩ := ht
    exact s.shape
  obtain ⟨ao, cap, rfl⟩ := hsh
  unfold fitT
  have HM := Lib.hid hm
  by_cases h3 : st = 3 ∨ (st = 2 ∧ t.kind = 0)
  · rw [if_pos h3]
    clear D T hc ht hu hs hn3
    generalize sameT t zeroT = q at *
    rcases h3 with rfl | ⟨rfl, hk⟩
    · show Calls Tryz.prog 244 #[.agg #[.pointer (some ⟨b, o, none⟩), .int .u8 3]] w _
      go_enter Tryz.func244, Tryz.ntmps244
      go_wp2_with fail
      refine (C.out _ (box1 _ _)).mono ?_; rintro e w1 ⟨rfl, b1⟩
      go_wp2
      go_ret
      exact ⟨rfl, up_tr (box1 _ _) b1⟩
    · rw [hk] at c0 C
      show Calls Tryz.prog 244 #[.agg #[.pointer (some ⟨b, o, none⟩), .int .u8 2]] w _
      go_enter Tryz.func244, Tryz.ntmps244
      go_wp2_with fail
      refine (C.out _ (box1 _ _)).mono ?_; rintro e w1 ⟨rfl, b1⟩
      go_wp2
      go_ret
      exact ⟨rfl, up_tr (box1 _ _) b1⟩
  · rw [if_neg h3]
    have n3 : ((st : Int) == 3) = false := beq_eq_false_iff_ne.2 (by omega)
    have hd : ((st : Int) == 2) = false ∨ (st = 2 ∧ (t.kind == 0) = false) := by
      by_cases h2 : st = 2
      · exact .inr ⟨h2, beq_eq_false_iff_ne.2 (by omega)⟩
      · exact .inl (beq_eq_false_iff_ne.2 (by omega))
    clear C hc ht hu hs hn3 h3
    generalize hq : txB (tSh t.kind).name t.name = q at *
    clear hq
    generalize tSh t.kind = sh at *
    obtain ⟨kn, nm, ar⟩ := sh
    simp only [TSh.cells] at *
    have W : Hid (∀ w1, Below w.heap.size w w1 → MaxOk w1) := Lib.hid fun w1 h => HM.out.below h
    clear hm HM
    generalize t.args.length = n at *
    rcases hd with n2 | ⟨rfl, n2⟩
    · go_enter Tryz.func244, Tryz.ntmps244
      go_wp2_with fail
      refine (D.out _).mono ?_; rintro e w1 ⟨rfl, b1⟩
      have hc1 := old_cells b1
      have bel1 := up_tr (box1 _ _) b1
      have hs1 : w.heap.size < w1.heap.size := by have := b1.size; simp at this; omega
      have k0 : w1.cell? ⟨w.heap.size, 0, none⟩ = some (.pointer (some ⟨b, o, none⟩)) := (hc1 _ _ (by simp)).trans (by go_simp)
      have k1 : w1.cell? ⟨b, o + 1, none⟩ = some (.string t.name) := (bel1.cell (p := ⟨b, o + 1, none⟩) hb).trans c1
      have k2 : w1.cell? ⟨b, o + 2, none⟩ = some (.slice ao n cap) := (bel1.cell (p := ⟨b, o + 2, none⟩) hb).trans c2
      clear b1
      go_wp2_with fail
      obtain ⟨W0, hW0⟩ : ∃ W0, W0 = w1.alloc (.cells #[.bool kn, .int .u8 nm, .int .i64 ar] 283) := ⟨_, rfl⟩
      rw [← hW0]
      have zz : b < w1.heap.size := by omega
      have z0 : w1.heap.size < W0.heap.size := by rw [hW0]; simp
      have z1 : w.heap.size < W0.heap.size := by omega
      have z2 : b < W0.heap.size := by omega
      have f0 : W0.cell? ⟨w1.heap.size, 0, none⟩ = some (.bool kn) := by rw [hW0]; go_simp
      have f1 : W0.cell? ⟨w1.heap.size, 1, none⟩ = some (.int .u8 nm) := by rw [hW0]; go_simp
      have f2 : W0.cell? ⟨w1.heap.size, 2, none⟩ = some (.int .i64 ar) := by rw [hW0]; go_simp
      have f3 : W0.cell? ⟨w.heap.size, 0, none⟩ = some (.pointer (some ⟨b, o, none⟩)) := by rw [hW0]; go_simp
      have f4 : W0.cell? ⟨b, o + 1, none⟩ = some (.string t.name) := by rw [hW0]; go_simp
      have f5 : W0.cell? ⟨b, o + 2, none⟩ = some (.slice ao n cap) := by rw [hW0]; go_simp
      have B0 : Below w.heap.size w W0 := by rw [hW0]; exact bel1.alloc (by omega) _
      have hF := Over.cells (W0 := W0)
      have K1 := Lib.hid (fun (n : Over W0) => (show MaxOk n.w from W.out _ (B0.trans (n.h.mono (by omega)))))
      have K4 := Lib.hid (fun (n : Over W0) => (show Below w.heap.size w n.w from B0.trans (n.h.mono (by omega))))
      clear hW0 k0 k1 k2 hc1 c0 c1 c2 bel1 B0
      have arm : Hid (∀ n' : Over W0, Calls Tryz.prog 161 #[.int .u8 nm, .string t.name] n'.w fun e w'' => e = .returned (.bool q) ∧ ∃ m : Over W0, w'' = m.w) := Lib.hid fun n' => over_calls (T.out _ (K1.out n'))
      cases kn
      · refine wp_region_over (by kernel_rfl) (by kernel_rfl) ?_
        repeat (go_big_quiet_step (fail))
        refine wpQuiet_nil ?_
        rintro _ ⟨m, rfl⟩
        have HF := Lib.hid (K4.out m)
        go_wp2
        go_ret
        exact ⟨ret_bool (by simp), HF.out⟩
      · by_cases hl : n = ar
        · have e1 : ((n : Int) == (ar : Int)) = true := by rw [beq_iff_eq]; omega
          cases q
          · refine wp_region_over (by kernel_rfl) (by kernel_rfl) ?_
            repeat (go_big_quiet_step ((go_at_call 161; exact arm.out _)))
            refine wpQuiet_nil ?_
            rintro _ ⟨m, rfl⟩
            have HF := Lib.hid (K4.out m)
            go_wp2
            go_ret
            exact ⟨ret_bool (by simp), HF.out⟩
          · refine wp_region_over (by kernel_rfl) (by kernel_rfl) ?_
            repeat (go_big_quiet_step ((go_at_call 161; exact arm.out _)))
            refine wpQuiet_nil ?_
            rintro _ ⟨m, rfl⟩
            have HF := Lib.hid (K4.out m)
            go_wp2
            go_ret
            exact ⟨ret_bool (by simp [hl]), HF.out⟩
        · have e1 : ((n : Int) == (ar : Int)) = false := by rw [beq_eq_false_iff_ne]; omega
          cases q
          · refine wp_region_over (by kernel_rfl) (by kernel_rfl) ?_
            repeat (go_big_quiet_step ((go_at_call 161; exact arm.out _)))
            refine wpQuiet_nil ?_
            rintro _ ⟨m, rfl⟩
            have HF := Lib.hid (K4.out m)
            go_wp2
            go_ret
            exact ⟨ret_bool (by simp), HF.out⟩
          · refine wp_region_over (by kernel_rfl) (by kernel_rfl) ?_
            repeat (go_big_quiet_step ((go_at_call 161; exact arm.out _)))
            refine wpQuiet_nil ?_
            rintro _ ⟨m, rfl⟩
            have HF := Lib.hid (K4.out m)
            go_wp2
            go_ret
            exact ⟨ret_bool (by simp [hl]), HF.out⟩
    · show Calls Tryz.prog 244 #[.agg #[.pointer (some ⟨b, o, none⟩), .int .u8 2]] w _
      clear n3
      go_enter Tryz.func244, Tryz.ntmps244
      go_wp2_with fail
      refine (D.out _).mono ?_; rintro e w1 ⟨rfl, b1⟩
      have hc1 := old_cells b1
      have bel1 := up_tr (box1 _ _) b1
      have hs1 : w.heap.size < w1.heap.size := by have := b1.size; simp at this; omega
      have k0 : w1.cell? ⟨w.heap.size, 0, none⟩ = some (.pointer (some ⟨b, o, none⟩)) := (hc1 _ _ (by simp)).trans (by go_simp)
      have k1 : w1.cell? ⟨b, o + 1, none⟩ = some (.string t.name) := (bel1.cell (p := ⟨b, o + 1, none⟩) hb).trans c1
      have k2 : w1.cell? ⟨b, o + 2, none⟩ = some (.slice ao n cap) := (bel1.cell (p := ⟨b, o + 2, none⟩) hb).trans c2
      clear b1
      go_wp2_with fail
      obtain ⟨W0, hW0⟩ : ∃ W0, W0 = w1.alloc (.cells #[.bool kn, .int .u8 nm, .int .i64 ar] 283) := ⟨_, rfl⟩
      rw [← hW0]
      have zz : b < w1.heap.size := by omega
      have z0 : w1.heap.size < W0.heap.size := by rw [hW0]; simp
      have z1 : w.heap.size < W0.heap.size := by omega
      have z2 : b < W0.heap.size := by omega
      have f0 : W0.cell? ⟨w1.heap.size, 0, none⟩ = some (.bool kn) := by rw [hW0]; go_simp
      have f1 : W0.cell? ⟨w1.heap.size, 1, none⟩ = some (.int .u8 nm) := by rw [hW0]; go_simp
      have f2 : W0.cell? ⟨w1.heap.size, 2, none⟩ = some (.int .i64 ar) := by rw [hW0]; go_simp
      have f3 : W0.cell? ⟨w.heap.size, 0, none⟩ = some (.pointer (some ⟨b, o, none⟩)) := by rw [hW0]; go_simp
      have f4 : W0.cell? ⟨b, o + 1, none⟩ = some (.string t.name) := by rw [hW0]; go_simp
      have f5 : W0.cell? ⟨b, o + 2, none⟩ = some (.slice ao n cap) := by rw [hW0]; go_simp
      have B0 : Below w.heap.size w W0 := by rw [hW0]; exact bel1.alloc (by omega) _
      have hF := Over.cells (W0 := W0)
      have K1 := Lib.hid (fun (n : Over W0) => (show MaxOk n.w from W.out _ (B0.trans (n.h.mono (by omega)))))
      have K4 := Lib.hid (fun (n : Over W0) => (show Below w.heap.size w n.w from B0.trans (n.h.mono (by omega))))
      clear hW0 k0 k1 k2 hc1 c0 c1 c2 bel1 B0
      have arm : Hid (∀ n' : Over W0, Calls Tryz.prog 161 #[.int .u8 nm, .string t.name] n'.w fun e w'' => e = .returned (.bool q) ∧ ∃ m : Over W0, w'' = m.w) := Lib.hid fun n' => over_calls (T.out _ (K1.out n'))
      cases kn
      · refine wp_region_over (by kernel_rfl) (by kernel_rfl) ?_
        repeat (go_big_quiet_step (fail))
        refine wpQuiet_nil ?_
        rintro _ ⟨m, rfl⟩
        have HF := Lib.hid (K4.out m)
        go_wp2
        go_ret
        exact ⟨ret_bool (by simp), HF.out⟩
      · by_cases hl : n = ar
        · have e1 : ((n : Int) == (ar : Int)) = true := by rw [beq_iff_eq]; omega
          cases q
          · refine wp_region_over (by kernel_rfl) (by kernel_rfl) ?_
            repeat (go_big_quiet_step ((go_at_call 161; exact arm.out _)))
            refine wpQuiet_nil ?_
            rintro _ ⟨m, rfl⟩
            have HF := Lib.hid (K4.out m)
            go_wp2
            go_ret
            exact ⟨ret_bool (by simp), HF.out⟩
          · refine wp_region_over (by kernel_rfl) (by kernel_rfl) ?_
            repeat (go_big_quiet_step ((go_at_call 161; exact arm.out _)))
            refine wpQuiet_nil ?_
            rintro _ ⟨m, rfl⟩
            have HF := Lib.hid (K4.out m)
            go_wp2
            go_ret
            exact ⟨ret_bool (by simp [hl]), HF.out⟩
        · have e1 : ((n : Int) == (ar : Int)) = false := by rw [beq_eq_false_iff_ne]; omega
          cases q
          · refine wp_region_over (by kernel_rfl) (by kernel_rfl) ?_
            repeat (go_big_quiet_step ((go_at_call 161; exact arm.out _)))
            refine wpQuiet_nil ?_
            rintro _ ⟨m, rfl⟩
            have HF := Lib.hid (K4.out m)
            go_wp2
            go_ret
            exact ⟨ret_bool (by simp), HF.out⟩
          · refine wp_region_over (by kernel_rfl) (by kernel_rfl) ?_
            repeat (go_big_quiet_step ((go_at_call 161; exact arm.out _)))
            refine wpQuiet_nil ?_
            rintro _ ⟨m, rfl⟩
            have HF := Lib.hid (K4.out m)
            go_wp2
            go_ret
            exact ⟨ret_bool (by simp [hl]), HF.out⟩
end Go.Proofs.YthilicmhdkmipaaGreatDoor
/- What fits, fourth part: the place of an expression, an expression by its shape. -/
namespace Go.Proofs.YthilicmhdkmipaaGreatDoor
open Go.RowKit
set_option linter.unusedVariables false

theorem noB_toList (s : ByteArray) : noB s = s.toList.isEmpty := by
  have h : noB s = decide (s.toList = []) := by unfold noB; rw [decide_eq_decide, nul_size]
  rw [h]; cases s.toList <;> simp
set_option maxHeartbeats 4000000 in
theorem fitsPlace_calls (B : Nat) (h : ESh) (op iv : Int) (nm sc : ByteArray) (pl : PP) (es : List PE) (ps : Int) (p0 : Option Addr) (n0 q0 : Nat) (p1 : Option Addr) (n1 q1 : Nat) (w : World) (hB : B ≤ w.heap.size) (hm : MaxOk w)
    (he : PE.In B w (.mk op iv nm sc pl es ps) ⟨.slice p0 n0 q0, .slice p1 n1 q1⟩) :
    Calls Tryz.prog 253 #[.agg h.cells, .agg #[.int .u8 op, .int .i64 iv, .string nm, .string sc, .string pl.name, .slice p0 n0 q0, .slice p1 n1 q1, .int .i64 ps]] w fun e w' => e = .returned (.bool (fitPl h (.mk op iv nm sc pl es ps))) ∧ Below w.heap.size w w' := by
  obtain ⟨kn, gr, sn, ss, hp, hf, fw, mo⟩ := h
  obtain ⟨_, hpl, b, o, s1, r1⟩ := he
  have hlen : n1 = es.length := by
    obtain ⟨_, ao, cap, h, _⟩ := s1
    injection h
  have hplen : n0 = pl.path.length := by
    obtain ⟨_, b', o', ⟨_, ao, cap, h, _⟩, _⟩ := hpl
    injection h
  have C : Hid (∀ w', Below w.heap.size w w' → Calls Tryz.prog 108 #[.agg #[.string pl.name, .slice p0 n0 q0]] w' fun e w'' => e = .returned (.bool (plB pl)) ∧ Below w'.heap.size w' w'') :=
    Lib.hid fun w' hw => isPlace_calls B pl _ w' (by have := hw.size; omega) (hm.below hw) (hpl.below (hw.mono hB))
  have Z : Hid (∀ w', Below w.heap.size w w' → Calls Tryz.prog 255 #[.agg #[.string pl.name, .slice p0 n0 q0]] w' fun e w'' => e = .returned (.bool (samePl pl zeroP)) ∧ Below w'.heap.size w' w'') :=
    Lib.hid fun w' hw => isZeroPlace_calls B pl _ w' (by have := hw.size; omega) (hpl.below (hw.mono hB))
  have A : Hid (∀ w', Below w.heap.size w w' → Calls Tryz.prog 254 #[.int .u8 1, .slice p0 n0 q0] w' fun e w'' => e = .returned (.bool (decide (pl.path.length ≤ 6) && pl.path.all nmB)) ∧ Below w'.heap.size w' w'') := by
    obtain ⟨hs, b', o', s', r'⟩ := hpl
    exact Lib.hid fun w' hw => fitAll_calls B pl.path b' o' _ w' (by have := hw.size; omega) (hm.below hw) s' (by
      cases hc : pl.path with
      | nil => trivial
      | cons a l => rw [hc] at r' s'; exact NRow.below (s'.lt (by simp)) (hw.mono hB) r')
  have hfp : fitPl ⟨kn, gr, sn, ss, hp, hf, fw, mo⟩ (.mk op iv nm sc pl es ps) = (if hp then plB pl else if hf then pl.name.toList.isEmpty && (decide (n0 = n1) && (decide (n0 ≤ 6) && pl.path.all nmB)) else samePl pl zeroP) := by
    rw [hlen, hplen, ← noB_toList]; rfl
  rw [hfp]
  clear hfp
  rw [← hplen] at A
  have bx := Lib.hid (box2 w (.cells #[.bool kn, .int .i64 gr, .int .u8 sn, .int .u8 ss, .bool hp, .bool hf, .int .i64 fw, .int .i64 mo] 286) (.cells #[.int .u8 op, .int .i64 iv, .string nm, .string sc, .string pl.name, .slice p0 n0 q0, .slice p1 n1 q1, .int .i64 ps] 37))
  generalize plB pl = xa at *
  generalize samePl pl zeroP = xb at *
  generalize (decide (n0 ≤ 6) && pl.path.all nmB) = xc at *
  clear hpl s1 r1 hm hlen hplen
  simp only [ESh.cells]
  cases hp
  · cases hf
    · go_enter Tryz.func253, Tryz.ntmps253
      go_wp2_with fail
      refine (Z.out _ bx.out).mono ?_; rintro e w1 ⟨rfl, b1⟩
      go_wp2
      go_ret
      exact ⟨rfl, up_tr bx.out b1⟩
    · by_cases hl : n0 = n1
      · subst hl
        go_enter Tryz.func253, Tryz.ntmps253
        go_wp2_with fail
        · refine (A.out _ bx.out).mono ?_; rintro e w1 ⟨rfl, b1⟩
          go_wp2
          go_ret
          exact ⟨ret_bool (by simp [*]), up_tr bx.out b1⟩
        all_goals (go_ret; exact ⟨ret_bool (by simp [*]), bx.out⟩)
      · have e1 : ((n0 : Int) == (n1 : Int)) = false := by rw [beq_eq_false_iff_ne]; omega
        have Hl := Lib.hid hl
        clear hl
        go_enter Tryz.func253, Tryz.ntmps253
        go_wp2_with fail
        all_goals (go_ret; exact ⟨ret_bool (by simp [Hl.out]), bx.out⟩)
  · go_enter Tryz.func253, Tryz.ntmps253
    go_wp2_with fail
    refine (C.out _ bx.out).mono ?_; rintro e w1 ⟨rfl, b1⟩
    go_wp2
    go_ret
    exact ⟨rfl, up_tr bx.out b1⟩

set_option maxHeartbeats 8000000 in
theorem shapeFits_calls (B : Nat) (h : ESh) (hn : h.name ≤ 3) (hn2 : h.second ≤ 3) (op iv : Int) (nm sc : ByteArray) (pl : PP) (es : List PE) (ps : Int) (p0 : Option Addr) (n0 q0 : Nat) (p1 : Option Addr) (n1 q1 : Nat) (w : World) (hB : B ≤ w.heap.size) (hm : MaxOk w)
    (he : PE.In B w (.mk op iv nm sc pl es ps) ⟨.slice p0 n0 q0, .slice p1 n1 q1⟩) :
    Calls Tryz.prog 250 #[.agg h.cells, .agg #[.int .u8 op, .int .i64 iv, .string nm, .string sc, .string pl.name, .slice p0 n0 q0, .slice p1 n1 q1, .int .i64 ps]] w fun e w' => e = .returned (.bool (fitSh h (.mk op iv nm sc pl es ps))) ∧ Below w.heap.size w w' := by
  have P : Hid (∀ w', Below w.heap.size w w' → Calls Tryz.prog 253 #[.agg h.cells, .agg #[.int .u8 op, .int .i64 iv, .string nm, .string sc, .string pl.name, .slice p0 n0 q0, .slice p1 n1 q1, .int .i64 ps]] w' fun e w'' => e = .returned (.bool (fitPl h (.mk op iv nm sc pl es ps))) ∧ Below w'.heap.size w' w'') :=
    Lib.hid fun w' hw => fitsPlace_calls B h op iv nm sc pl es ps p0 n0 q0 p1 n1 q1 w' (by have := hw.size; omega) (hm.below hw) (PE.In.below (hw.mono hB) he)
  obtain ⟨⟨_, _, _, hz1, hz2⟩, _, b, o, s1, r1⟩ := he
  have T1 : Hid (∀ w', Below w.heap.size w w' → Calls Tryz.prog 161 #[.int .u8 h.name, .string nm] w' fun e w'' => e = .returned (.bool (txB h.name nm)) ∧ Below w'.heap.size w' w'') := Lib.hid fun w' hw => textFits_calls _ hn nm hz1 w' (hm.below hw)
  have T2 : Hid (∀ w', Below w.heap.size w w' → Calls Tryz.prog 161 #[.int .u8 h.second, .string sc] w' fun e w'' => e = .returned (.bool (txB h.second sc)) ∧ Below w'.heap.size w' w'') := Lib.hid fun w' hw => textFits_calls _ hn2 sc hz2 w' (hm.below hw)
  have hlen : n1 = es.length := by
    obtain ⟨_, ao, cap, h, _⟩ := s1
    injection h
  have hfs : fitSh h (.mk op iv nm sc pl es ps) = (h.known && (decide (0 ≤ iv) && (decide (iv ≤ h.greatest) && (txB h.name nm && (txB h.second sc && (fitPl h (.mk op iv nm sc pl es ps) && (decide ((h.fewest : Int) ≤ (n1 : Int)) && decide ((n1 : Int) ≤ (h.most : Int))))))))) := by
    have a1 : decide ((h.fewest : Int) ≤ (n1 : Int)) = decide (h.fewest ≤ es.length) := by rw [decide_eq_decide]; omega
    have a2 : decide ((n1 : Int) ≤ (h.most : Int)) = decide (es.length ≤ h.most) := by rw [decide_eq_decide]; omega
    rw [a1, a2]; rfl
  rw [hfs]
  clear hfs hlen hm s1 r1 hn hn2 hz1 hz2
  generalize txB h.name nm = x1 at *
  generalize txB h.second sc = x2 at *
  generalize fitPl h (.mk op iv nm sc pl es ps) = x3 at *
  obtain ⟨kn, gr, sn, ss, hp, hf, fw, mo⟩ := h
  simp only [ESh.cells] at *
  cases kn
  · go_enter Tryz.func250, Tryz.ntmps250
    go_wp2_with fail
    go_ret
    exact ⟨ret_bool (by simp), box2 _ _ _⟩
  · skip
    go_enter Tryz.func250, Tryz.ntmps250
    go_wp2_with fail
    · refine (T1.out _ (box2 _ _ _)).mono ?_; rintro e w1 ⟨rfl, b1⟩
      have bel1 := Lib.hid (up_tr (box2 _ _ _) b1)
      have hc1 := old_cells b1
      go_wp2_with fail
      · refine (T2.out _ bel1.out).mono ?_; rintro e w2 ⟨rfl, b2⟩
        have bel2 := Lib.hid (up_tr bel1.out b2)
        have b2' := up_tr b1 b2
        have hc2 := old_cells b2'
        clear hc1 b1 b2
        go_wp2_with fail
        · refine (P.out _ bel2.out).mono ?_; rintro e w3 ⟨rfl, b3⟩
          have bel3 := Lib.hid (up_tr bel2.out b3)
          have b3' := up_tr b2' b3
          have hc3 := old_cells b3'
          clear hc2 b2' b3
          go_wp2_with fail
          all_goals (go_ret; exact ⟨ret_bool (by first | (simp [*]; done) | (simp [*]; intros; omega)), bel3.out⟩)
        all_goals (go_ret; exact ⟨ret_bool (by first | (simp [*]; done) | (simp [*]; intros; omega)), bel2.out⟩)
      all_goals (go_ret; exact ⟨ret_bool (by first | (simp [*]; done) | (simp [*]; intros; omega)), bel1.out⟩)
    all_goals (go_ret; exact ⟨ret_bool (by first | (simp [*]; done) | (simp [*]; intros; omega)), box2 _ _ _⟩)
end Go.Proofs.YthilicmhdkmipaaGreatDoor
/- What fits, fifth part: expressions. -/
namespace Go.Proofs.YthilicmhdkmipaaGreatDoor
open Go.RowKit
set_option linter.unusedVariables false

theorem eSh_names (k : Int) : (eSh k).name ≤ 3 ∧ (eSh k).second ≤ 3 := by
  unfold eSh
  repeat' (first | (constructor <;> simp <;> done) | split)
set_option maxHeartbeats 8000000 in
theorem exprFits_calls (B : Nat) (op iv : Int) (nm sc : ByteArray) (pl : PP) (es : List PE) (ps : Int) (p0 : Option Addr) (n0 q0 : Nat) (p1 : Option Addr) (n1 q1 : Nat) (st b o : Nat) (w : World) (hst : st ≤ 3) (hB : B ≤ w.heap.size) (hm : MaxOk w) (hb : b < w.heap.size)
    (hc : CellsAt w b o (PE.cells (.mk op iv nm sc pl es ps) ⟨.slice p0 n0 q0, .slice p1 n1 q1⟩)) (he : PE.In B w (.mk op iv nm sc pl es ps) ⟨.slice p0 n0 q0, .slice p1 n1 q1⟩) :
    Calls Tryz.prog 247 #[.agg #[.pointer (some ⟨b, o, none⟩), .int .u8 st]] w fun e w' => e = .returned (.bool (fitE (.mk op iv nm sc pl es ps) st)) ∧ Below w.heap.size w w' := by
  have c0 : w.cell? ⟨b, o, none⟩ = some (.int .u8 op) := hc 0 _ rfl
  have c1 : w.cell? ⟨b, o + 1, none⟩ = some (.int .i64 iv) := hc 1 _ rfl
  have c2 : w.cell? ⟨b, o + 2, none⟩ = some (.string nm) := hc 2 _ rfl
  have c3 : w.cell? ⟨b, o + 3, none⟩ = some (.string sc) := hc 3 _ rfl
  have c4 : w.cell? ⟨b, o + 4, none⟩ = some (.string pl.name) := hc 4 _ rfl
  have c5 : w.cell? ⟨b, o + 5, none⟩ = some (.slice p0 n0 q0) := hc 5 _ rfl
  have c6 : w.cell? ⟨b, o + 6, none⟩ = some (.slice p1 n1 q1) := hc 6 _ rfl
  have c7 : w.cell? ⟨b, o + 7, none⟩ = some (.int .i64 ps) := hc 7 _ rfl
  have C : Hid (∀ w', Below w.heap.size w w' → Calls Tryz.prog 114 #[.agg #[.int .u8 op, .int .i64 iv, .string nm, .string sc, .string pl.name, .slice p0 n0 q0, .slice p1 n1 q1, .int .i64 ps], .agg #[.int .u8 0, .int .i64 0, .string ByteArray.empty, .string ByteArray.empty, .string ByteArray.empty, .slice none 0 0, .slice none 0 0, .int .i64 0]] w' fun e w'' => e = .returned (.bool (sameE false (.mk op iv nm sc pl es ps) zeroE)) ∧ Below w'.heap.size w' w'') :=
    Lib.hid fun w' hw => sameE_calls B (.mk op iv nm sc pl es ps) zeroE ⟨.slice p0 n0 q0, .slice p1 n1 q1⟩ ⟨.slice none 0 0, .slice none 0 0⟩ w' (by have := hw.size; omega) (PE.In.below (hw.mono hB) he) (zeroE_in B w')
  have hu : U8 op := he.1.1
  have hk := u8_lt hu
  have hn := eSh_names op
  have D : Hid (∀ w', Calls Tryz.prog 249 #[.int .u8 op] w' fun e w'' => e = .returned (.agg (eSh op).cells) ∧ Below w'.heap.size w' w'') := Lib.hid fun w' => exprShape_calls op hk w'
  have S : Hid (∀ w', Below w.heap.size w w' → Calls Tryz.prog 250 #[.agg (eSh op).cells, .agg #[.int .u8 op, .int .i64 iv, .string nm, .string sc, .string pl.name, .slice p0 n0 q0, .slice p1 n1 q1, .int .i64 ps]] w' fun e w'' => e = .returned (.bool (fitSh (eSh op) (.mk op iv nm sc pl es ps))) ∧ Below w'.heap.size w' w'') :=
    Lib.hid fun w' hw => shapeFits_calls B (eSh op) hn.1 hn.2 op iv nm sc pl es ps p0 n0 q0 p1 n1 q1 w' (by have := hw.size; omega) (hm.below hw) (PE.In.below (hw.mono hB) he)
  unfold fitE
  clear hc he hm hu hk hn
  by_cases h3 : st = 3
  · rw [if_pos h3]
    subst h3
    clear D S
    generalize sameE false (.mk op iv nm sc pl es ps) zeroE = q at *
    show Calls Tryz.prog 247 #[.agg #[.pointer (some ⟨b, o, none⟩), .int .u8 3]] w _
    go_enter Tryz.func247, Tryz.ntmps247
    go_wp2_with fail
    refine (C.out _ (box1 _ _)).mono ?_; rintro e w1 ⟨rfl, b1⟩
    go_wp2
    go_ret
    exact ⟨rfl, up_tr (box1 _ _) b1⟩
  · rw [if_neg h3]
    have n3 : ((st : Int) == 3) = false := beq_eq_false_iff_ne.2 (by omega)
    have hl : lentB (.mk op iv nm sc pl es ps) = (decide (op = 5) || decide (op = 6)) := rfl
    rw [hl, show PE.op (.mk op iv nm sc pl es ps) = op from rfl]
    clear C hl
    generalize fitSh (eSh op) (.mk op iv nm sc pl es ps) = q at *
    generalize (eSh op).cells = cs at *
    obtain ⟨W0, hW0⟩ : ∃ W0, W0 = w.alloc (.cells #[.pointer (some ⟨b, o, none⟩), .int .u8 st] 160) := ⟨_, rfl⟩
    have HW := Lib.hid hW0
    have z1 : w.heap.size < W0.heap.size := by rw [hW0]; simp
    have z2 : b < W0.heap.size := by omega
    have f0 : W0.cell? ⟨w.heap.size, 0, none⟩ = some (.pointer (some ⟨b, o, none⟩)) := by rw [hW0]; go_simp
    have f1 : W0.cell? ⟨w.heap.size, 1, none⟩ = some (.int .u8 st) := by rw [hW0]; go_simp
    have d0 : W0.cell? ⟨b, o, none⟩ = some (.int .u8 op) := by rw [hW0]; go_simp
    have d1 : W0.cell? ⟨b, o + 1, none⟩ = some (.int .i64 iv) := by rw [hW0]; go_simp
    have d2 : W0.cell? ⟨b, o + 2, none⟩ = some (.string nm) := by rw [hW0]; go_simp
    have d3 : W0.cell? ⟨b, o + 3, none⟩ = some (.string sc) := by rw [hW0]; go_simp
    have d4 : W0.cell? ⟨b, o + 4, none⟩ = some (.string pl.name) := by rw [hW0]; go_simp
    have d5 : W0.cell? ⟨b, o + 5, none⟩ = some (.slice p0 n0 q0) := by rw [hW0]; go_simp
    have d6 : W0.cell? ⟨b, o + 6, none⟩ = some (.slice p1 n1 q1) := by rw [hW0]; go_simp
    have d7 : W0.cell? ⟨b, o + 7, none⟩ = some (.int .i64 ps) := by rw [hW0]; go_simp
    have B0 : Below w.heap.size w W0 := by rw [hW0]; exact box1 _ _
    have hF := Over.cells (W0 := W0)
    have K4 := Lib.hid (fun (n : Over W0) => (show Below w.heap.size w n.w from B0.trans (n.h.mono (by omega))))
    have A1 : Hid (∀ n' : Over W0, Calls Tryz.prog 249 #[.int .u8 op] n'.w fun e w'' => e = .returned (.agg cs) ∧ ∃ m : Over W0, w'' = m.w) := Lib.hid fun n' => over_calls (D.out _)
    have A2 : Hid (∀ n' : Over W0, Calls Tryz.prog 250 #[.agg cs, .agg #[.int .u8 op, .int .i64 iv, .string nm, .string sc, .string pl.name, .slice p0 n0 q0, .slice p1 n1 q1, .int .i64 ps]] n'.w fun e w'' => e = .returned (.bool q) ∧ ∃ m : Over W0, w'' = m.w) := Lib.hid fun n' => over_calls (S.out _ (K4.out n'))
    clear D S B0 hW0
    by_cases h5 : op = 5 ∨ op = 6
    · have hb5 : (decide (op = 5) || decide (op = 6)) = true := by rcases h5 with rfl | rfl <;> rfl
      rw [hb5]
      clear hb5
      by_cases h1 : st = 1
      · subst h1
        show Calls Tryz.prog 247 #[.agg #[.pointer (some ⟨b, o, none⟩), .int .u8 1]] w _
        rcases h5 with rfl | rfl
        all_goals
          (go_enter Tryz.func247, Tryz.ntmps247
           go_wp2_with fail
           clear c0 c1 c2 c3 c4 c5 c6 c7
           rw [show w.alloc (.cells #[.pointer (some ⟨b, o, none⟩), .int .u8 1] 160) = W0 from HW.out.symm]
           refine wp_region_over (by kernel_rfl) (by kernel_rfl) ?_
           repeat (go_big_quiet_step ((first | (go_at_call 249; exact A1.out _) | (go_at_call 250; exact A2.out _))))
           refine wpQuiet_nil ?_
           rintro _ ⟨m, rfl⟩
           have HF := Lib.hid (K4.out m)
           go_wp2
           go_ret
           exact ⟨ret_bool (by simp), HF.out⟩)
      · have n1' : ((st : Int) == 1) = false := beq_eq_false_iff_ne.2 (by omega)
        rcases h5 with rfl | rfl
        all_goals
          (go_enter Tryz.func247, Tryz.ntmps247
           go_wp2_with fail
           clear c0 c1 c2 c3 c4 c5 c6 c7
           rw [show w.alloc (.cells #[.pointer (some ⟨b, o, none⟩), .int .u8 st] 160) = W0 from HW.out.symm]
           refine wp_region_over (by kernel_rfl) (by kernel_rfl) ?_
           repeat (go_big_quiet_step ((first | (go_at_call 249; exact A1.out _) | (go_at_call 250; exact A2.out _))))
           refine wpQuiet_nil ?_
           rintro _ ⟨m, rfl⟩
           have HF := Lib.hid (K4.out m)
           go_wp2
           go_ret
           exact ⟨ret_bool (by simp [h1]), HF.out⟩)
    · have hb5 : (decide (op = 5) || decide (op = 6)) = false := by simp; omega
      rw [hb5]
      have e5 : (op == 5) = false := beq_eq_false_iff_ne.2 (by omega)
      have e6 : (op == 6) = false := beq_eq_false_iff_ne.2 (by omega)
      clear h5 hb5
      go_enter Tryz.func247, Tryz.ntmps247
      go_wp2_with fail
      clear c0 c1 c2 c3 c4 c5 c6 c7
      rw [show w.alloc (.cells #[.pointer (some ⟨b, o, none⟩), .int .u8 st] 160) = W0 from HW.out.symm]
      refine wp_region_over (by kernel_rfl) (by kernel_rfl) ?_
      repeat (go_big_quiet_step ((first | (go_at_call 249; exact A1.out _) | (go_at_call 250; exact A2.out _))))
      refine wpQuiet_nil ?_
      rintro _ ⟨m, rfl⟩
      have HF := Lib.hid (K4.out m)
      go_wp2
      go_ret
      exact ⟨ret_bool (by simp), HF.out⟩
end Go.Proofs.YthilicmhdkmipaaGreatDoor
