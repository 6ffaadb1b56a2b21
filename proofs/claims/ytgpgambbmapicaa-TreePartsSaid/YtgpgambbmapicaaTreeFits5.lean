/- What fits, fifth part: expressions. -/
import Derived.Test.YtgpgambbmapicaaTreeFits4
namespace Go.Proofs.Ytgpgambbmapicaa
open Go.RowKit
set_option linter.unusedVariables false

theorem eSh_names (k : Int) : (eSh k).name ≤ 3 ∧ (eSh k).second ≤ 3 := by
  unfold eSh
  repeat' (first | (constructor <;> simp <;> done) | split)
set_option maxHeartbeats 8000000 in
theorem exprFits_calls (B : Nat) (op iv : Int) (nm sc : ByteArray) (pl : PP) (es : List PE) (ps : Int) (p0 : Option Addr) (n0 q0 : Nat) (p1 : Option Addr) (n1 q1 : Nat) (st b o : Nat) (w : World) (hst : st ≤ 3) (hB : B ≤ w.heap.size) (hm : MaxOk w) (hb : b < w.heap.size)
    (hc : CellsAt w b o (PE.cells (.mk op iv nm sc pl es ps) ⟨.slice p0 n0 q0, .slice p1 n1 q1⟩)) (he : PE.In B w (.mk op iv nm sc pl es ps) ⟨.slice p0 n0 q0, .slice p1 n1 q1⟩) :
    Calls Try.prog 123 #[.agg #[.pointer (some ⟨b, o, none⟩), .int .u8 st]] w fun e w' => e = .returned (.bool (fitE (.mk op iv nm sc pl es ps) st)) ∧ Below w.heap.size w w' := by
  have c0 : w.cell? ⟨b, o, none⟩ = some (.int .u8 op) := hc 0 _ rfl
  have c1 : w.cell? ⟨b, o + 1, none⟩ = some (.int .i64 iv) := hc 1 _ rfl
  have c2 : w.cell? ⟨b, o + 2, none⟩ = some (.string nm) := hc 2 _ rfl
  have c3 : w.cell? ⟨b, o + 3, none⟩ = some (.string sc) := hc 3 _ rfl
  have c4 : w.cell? ⟨b, o + 4, none⟩ = some (.string pl.name) := hc 4 _ rfl
  have c5 : w.cell? ⟨b, o + 5, none⟩ = some (.slice p0 n0 q0) := hc 5 _ rfl
  have c6 : w.cell? ⟨b, o + 6, none⟩ = some (.slice p1 n1 q1) := hc 6 _ rfl
  have c7 : w.cell? ⟨b, o + 7, none⟩ = some (.int .i64 ps) := hc 7 _ rfl
  have C : Hid (∀ w', Below w.heap.size w w' → Calls Try.prog 125 #[.agg #[.int .u8 op, .int .i64 iv, .string nm, .string sc, .string pl.name, .slice p0 n0 q0, .slice p1 n1 q1, .int .i64 ps], .agg #[.int .u8 0, .int .i64 0, .string ByteArray.empty, .string ByteArray.empty, .string ByteArray.empty, .slice none 0 0, .slice none 0 0, .int .i64 0]] w' fun e w'' => e = .returned (.bool (sameE false (.mk op iv nm sc pl es ps) zeroE)) ∧ Below w'.heap.size w' w'') :=
    Lib.hid fun w' hw => sameE_calls B (.mk op iv nm sc pl es ps) zeroE ⟨.slice p0 n0 q0, .slice p1 n1 q1⟩ ⟨.slice none 0 0, .slice none 0 0⟩ w' (by have := hw.size; omega) (PE.In.below (hw.mono hB) he) (zeroE_in B w')
  have hu : U8 op := he.1.1
  have hk := u8_lt hu
  have hn := eSh_names op
  have D : Hid (∀ w', Calls Try.prog 126 #[.int .u8 op] w' fun e w'' => e = .returned (.agg (eSh op).cells) ∧ Below w'.heap.size w' w'') := Lib.hid fun w' => exprShape_calls op hk w'
  have S : Hid (∀ w', Below w.heap.size w w' → Calls Try.prog 127 #[.agg (eSh op).cells, .agg #[.int .u8 op, .int .i64 iv, .string nm, .string sc, .string pl.name, .slice p0 n0 q0, .slice p1 n1 q1, .int .i64 ps]] w' fun e w'' => e = .returned (.bool (fitSh (eSh op) (.mk op iv nm sc pl es ps))) ∧ Below w'.heap.size w' w'') :=
    Lib.hid fun w' hw => shapeFits_calls B (eSh op) hn.1 hn.2 op iv nm sc pl es ps p0 n0 q0 p1 n1 q1 w' (by have := hw.size; omega) (hm.below hw) (PE.In.below (hw.mono hB) he)
  unfold fitE
  clear hc he hm hu hk hn
  by_cases h3 : st = 3
  · rw [if_pos h3]
    subst h3
    clear D S
    generalize sameE false (.mk op iv nm sc pl es ps) zeroE = q at *
    show Calls Try.prog 123 #[.agg #[.pointer (some ⟨b, o, none⟩), .int .u8 3]] w _
    go_enter Try.func123, Try.ntmps123
    go_wp2_with fail
    refine (C.out _ (box1 _ _)).mono ?_; rintro e w1 ⟨rfl, b1⟩
    go_wp2
    go_ret
    exact ⟨rfl, up_tr (box1 _ _) b1⟩
  · rw [if_neg h3]
    have n3 : ((st : Int) == 3) = false := beq_eq_false_iff_ne.2 (by omega)
    have hl : lentB (.mk op iv nm sc pl es ps) = (decide (op = 5) || decide (op = 6)) := rfl
    rw [hl, show PE.op (.mk op iv nm sc pl es ps) = op from rfl]
    clear C hl
    generalize fitSh (eSh op) (.mk op iv nm sc pl es ps) = q at *
    generalize (eSh op).cells = cs at *
    obtain ⟨W0, hW0⟩ : ∃ W0, W0 = w.alloc (.cells #[.pointer (some ⟨b, o, none⟩), .int .u8 st] 58) := ⟨_, rfl⟩
    have HW := Lib.hid hW0
    have z1 : w.heap.size < W0.heap.size := by rw [hW0]; simp
    have z2 : b < W0.heap.size := by omega
    have f0 : W0.cell? ⟨w.heap.size, 0, none⟩ = some (.pointer (some ⟨b, o, none⟩)) := by rw [hW0]; go_simp
    have f1 : W0.cell? ⟨w.heap.size, 1, none⟩ = some (.int .u8 st) := by rw [hW0]; go_simp
    have d0 : W0.cell? ⟨b, o, none⟩ = some (.int .u8 op) := by rw [hW0]; go_simp
    have d1 : W0.cell? ⟨b, o + 1, none⟩ = some (.int .i64 iv) := by rw [hW0]; go_simp
    have d2 : W0.cell? ⟨b, o + 2, none⟩ = some (.string nm) := by rw [hW0]; go_simp
    have d3 : W0.cell? ⟨b, o + 3, none⟩ = some (.string sc) := by rw [hW0]; go_simp
    have d4 : W0.cell? ⟨b, o + 4, none⟩ = some (.string pl.name) := by rw [hW0]; go_simp
    have d5 : W0.cell? ⟨b, o + 5, none⟩ = some (.slice p0 n0 q0) := by rw [hW0]; go_simp
    have d6 : W0.cell? ⟨b, o + 6, none⟩ = some (.slice p1 n1 q1) := by rw [hW0]; go_simp
    have d7 : W0.cell? ⟨b, o + 7, none⟩ = some (.int .i64 ps) := by rw [hW0]; go_simp
    have B0 : Below w.heap.size w W0 := by rw [hW0]; exact box1 _ _
    have hF := Over.cells (W0 := W0)
    have K4 := Lib.hid (fun (n : Over W0) => (show Below w.heap.size w n.w from B0.trans (n.h.mono (by omega))))
    have A1 : Hid (∀ n' : Over W0, Calls Try.prog 126 #[.int .u8 op] n'.w fun e w'' => e = .returned (.agg cs) ∧ ∃ m : Over W0, w'' = m.w) := Lib.hid fun n' => over_calls (D.out _)
    have A2 : Hid (∀ n' : Over W0, Calls Try.prog 127 #[.agg cs, .agg #[.int .u8 op, .int .i64 iv, .string nm, .string sc, .string pl.name, .slice p0 n0 q0, .slice p1 n1 q1, .int .i64 ps]] n'.w fun e w'' => e = .returned (.bool q) ∧ ∃ m : Over W0, w'' = m.w) := Lib.hid fun n' => over_calls (S.out _ (K4.out n'))
    clear D S B0 hW0
    by_cases h5 : op = 5 ∨ op = 6
    · have hb5 : (decide (op = 5) || decide (op = 6)) = true := by rcases h5 with rfl | rfl <;> rfl
      rw [hb5]
      clear hb5
      by_cases h1 : st = 1
      · subst h1
        show Calls Try.prog 123 #[.agg #[.pointer (some ⟨b, o, none⟩), .int .u8 1]] w _
        rcases h5 with rfl | rfl
        all_goals
          (go_enter Try.func123, Try.ntmps123
           go_wp2_with fail
           clear c0 c1 c2 c3 c4 c5 c6 c7
           rw [show w.alloc (.cells #[.pointer (some ⟨b, o, none⟩), .int .u8 1] 58) = W0 from HW.out.symm]
           refine wp_region_over (by kernel_rfl) (by kernel_rfl) ?_
           repeat (go_big_quiet_step ((first | (go_at_call 126; exact A1.out _) | (go_at_call 127; exact A2.out _))))
           refine wpQuiet_nil ?_
           rintro _ ⟨m, rfl⟩
           have HF := Lib.hid (K4.out m)
           go_wp2
           go_ret
           exact ⟨ret_bool (by simp), HF.out⟩)
      · have n1' : ((st : Int) == 1) = false := beq_eq_false_iff_ne.2 (by omega)
        rcases h5 with rfl | rfl
        all_goals
          (go_enter Try.func123, Try.ntmps123
           go_wp2_with fail
           clear c0 c1 c2 c3 c4 c5 c6 c7
           rw [show w.alloc (.cells #[.pointer (some ⟨b, o, none⟩), .int .u8 st] 58) = W0 from HW.out.symm]
           refine wp_region_over (by kernel_rfl) (by kernel_rfl) ?_
           repeat (go_big_quiet_step ((first | (go_at_call 126; exact A1.out _) | (go_at_call 127; exact A2.out _))))
           refine wpQuiet_nil ?_
           rintro _ ⟨m, rfl⟩
           have HF := Lib.hid (K4.out m)
           go_wp2
           go_ret
           exact ⟨ret_bool (by simp [h1]), HF.out⟩)
    · have hb5 : (decide (op = 5) || decide (op = 6)) = false := by simp; omega
      rw [hb5]
      have e5 : (op == 5) = false := beq_eq_false_iff_ne.2 (by omega)
      have e6 : (op == 6) = false := beq_eq_false_iff_ne.2 (by omega)
      clear h5 hb5
      go_enter Try.func123, Try.ntmps123
      go_wp2_with fail
      clear c0 c1 c2 c3 c4 c5 c6 c7
      rw [show w.alloc (.cells #[.pointer (some ⟨b, o, none⟩), .int .u8 st] 58) = W0 from HW.out.symm]
      refine wp_region_over (by kernel_rfl) (by kernel_rfl) ?_
      repeat (go_big_quiet_step ((first | (go_at_call 126; exact A1.out _) | (go_at_call 127; exact A2.out _))))
      refine wpQuiet_nil ?_
      rintro _ ⟨m, rfl⟩
      have HF := Lib.hid (K4.out m)
      go_wp2
      go_ret
      exact ⟨ret_bool (by simp), HF.out⟩
end Go.Proofs.Ytgpgambbmapicaa
