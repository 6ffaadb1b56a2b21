/- What fits, third part: types. -/
import Derived.Test.YtekmkepaokdbmaaTreeFits2
import Derived.Test.YtekmkepaokdbmaaOver
namespace Go.Proofs.Ytekmkepaokdbmaa
open Go.RowKit
set_option linter.unusedVariables false

set_option maxHeartbeats 4000000 in
theorem typedFits_calls (B : Nat) (t : PT) (st b o : Nat) (v : Value) (w : World) (hst : st ≤ 3) (hB : B ≤ w.heap.size) (hm : MaxOk w) (hb : b < w.heap.size) (hc : CellsAt w b o (t.cells v)) (ht : t.In B w v) :
    Calls Try.prog 81 #[.agg #[.pointer (some ⟨b, o, none⟩), .int .u8 st]] w fun e w' => e = .returned (.bool (fitT t st)) ∧ Below w.heap.size w w' := by
  have c0 : w.cell? ⟨b, o, none⟩ = some (.int .u8 t.kind) := hc 0 _ rfl
  have c1 : w.cell? ⟨b, o + 1, none⟩ = some (.string t.name) := hc 1 _ rfl
  have c2 : w.cell? ⟨b, o + 2, none⟩ = some v := hc 2 _ rfl
  have C : Hid (∀ w', Below w.heap.size w w' → Calls Try.prog 83 #[.agg #[.int .u8 t.kind, .string t.name, v], .agg #[.int .u8 0, .string ByteArray.empty, .slice none 0 0]] w' fun e w'' => e = .returned (.bool (sameT t zeroT)) ∧ Below w'.heap.size w' w'') :=
    Lib.hid fun w' hw => sameT_calls B t zeroT v _ w' (by have := hw.size; omega) (PT.In.below (hw.mono hB) ht) (zeroT_in B w')
  obtain ⟨hu, hs⟩ : U8 t.kind ∧ t.name.size ≤ maxLen := by
    obtain ⟨k, n, xs⟩ := t
    exact ht.1
  have D : Hid (∀ w', Calls Try.prog 84 #[.int .u8 t.kind] w' fun e w'' => e = .returned (.agg (tSh t.kind).cells) ∧ Below w'.heap.size w' w'') := Lib.hid fun w' => typeShape_calls t.kind (u8_lt hu) w'
  have hn3 : (tSh t.kind).name ≤ 3 := by
    unfold tSh
    split
    · simp
    · split
      · simp
      · split <;> simp
  have T : Hid (∀ w', MaxOk w' → Calls Try.prog 85 #[.int .u8 (tSh t.kind).name, .string t.name] w' fun e w'' => e = .returned (.bool (txB (tSh t.kind).name t.name)) ∧ Below w'.heap.size w' w'') := Lib.hid fun w' h => textFits_calls _ hn3 t.name hs w' h
  have hsh : ∃ ao cap, v = .slice ao t.args.length cap := by
    obtain ⟨k, n, xs⟩ := t
    obtain ⟨_, b', o', s, _⟩ := ht
    exact s.shape
  obtain ⟨ao, cap, rfl⟩ := hsh
  unfold fitT
  have HM := Lib.hid hm
  by_cases h3 : st = 3 ∨ (st = 2 ∧ t.kind = 0)
  · rw [if_pos h3]
    clear D T hc ht hu hs hn3
    generalize sameT t zeroT = q at *
    rcases h3 with rfl | ⟨rfl, hk⟩
    · show Calls Try.prog 81 #[.agg #[.pointer (some ⟨b, o, none⟩), .int .u8 3]] w _
      go_enter Try.func81, Try.ntmps81
      go_wp2_with fail
      refine (C.out _ (box1 _ _)).mono ?_; rintro e w1 ⟨rfl, b1⟩
      go_wp2
      go_ret
      exact ⟨rfl, up_tr (box1 _ _) b1⟩
    · rw [hk] at c0 C
      show Calls Try.prog 81 #[.agg #[.pointer (some ⟨b, o, none⟩), .int .u8 2]] w _
      go_enter Try.func81, Try.ntmps81
      go_wp2_with fail
      refine (C.out _ (box1 _ _)).mono ?_; rintro e w1 ⟨rfl, b1⟩
      go_wp2
      go_ret
      exact ⟨rfl, up_tr (box1 _ _) b1⟩
  · rw [if_neg h3]
    have n3 : ((st : Int) == 3) = false := beq_eq_false_iff_ne.2 (by omega)
    have hd : ((st : Int) == 2) = false ∨ (st = 2 ∧ (t.kind == 0) = false) := by
      by_cases h2 : st = 2
      · exact .inr ⟨h2, beq_eq_false_iff_ne.2 (by omega)⟩
      · exact .inl (beq_eq_false_iff_ne.2 (by omega))
    clear C hc ht hu hs hn3 h3
    generalize hq : txB (tSh t.kind).name t.name = q at *
    clear hq
    generalize tSh t.kind = sh at *
    obtain ⟨kn, nm, ar⟩ := sh
    simp only [TSh.cells] at *
    have W : Hid (∀ w1, Below w.heap.size w w1 → MaxOk w1) := Lib.hid fun w1 h => HM.out.below h
    clear hm HM
    generalize t.args.length = n at *
    rcases hd with n2 | ⟨rfl, n2⟩
    · go_enter Try.func81, Try.ntmps81
      go_wp2_with fail
      refine (D.out _).mono ?_; rintro e w1 ⟨rfl, b1⟩
      have hc1 := old_cells b1
      have bel1 := up_tr (box1 _ _) b1
      have hs1 : w.heap.size < w1.heap.size := by have := b1.size; simp at this; omega
      have k0 : w1.cell? ⟨w.heap.size, 0, none⟩ = some (.pointer (some ⟨b, o, none⟩)) := (hc1 _ _ (by simp)).trans (by go_simp)
      have k1 : w1.cell? ⟨b, o + 1, none⟩ = some (.string t.name) := (bel1.cell (p := ⟨b, o + 1, none⟩) hb).trans c1
      have k2 : w1.cell? ⟨b, o + 2, none⟩ = some (.slice ao n cap) := (bel1.cell (p := ⟨b, o + 2, none⟩) hb).trans c2
      clear b1
      go_wp2_with fail
      obtain ⟨W0, hW0⟩ : ∃ W0, W0 = w1.alloc (.cells #[.bool kn, .int .u8 nm, .int .i64 ar] 126) := ⟨_, rfl⟩
      rw [← hW0]
      have zz : b < w1.heap.size := by omega
      have z0 : w1.heap.size < W0.heap.size := by rw [hW0]; simp
      have z1 : w.heap.size < W0.heap.size := by omega
      have z2 : b < W0.heap.size := by omega
      have f0 : W0.cell? ⟨w1.heap.size, 0, none⟩ = some (.bool kn) := by rw [hW0]; go_simp
      have f1 : W0.cell? ⟨w1.heap.size, 1, none⟩ = some (.int .u8 nm) := by rw [hW0]; go_simp
      have f2 : W0.cell? ⟨w1.heap.size, 2, none⟩ = some (.int .i64 ar) := by rw [hW0]; go_simp
      have f3 : W0.cell? ⟨w.heap.size, 0, none⟩ = some (.pointer (some ⟨b, o, none⟩)) := by rw [hW0]; go_simp
      have f4 : W0.cell? ⟨b, o + 1, none⟩ = some (.string t.name) := by rw [hW0]; go_simp
      have f5 : W0.cell? ⟨b, o + 2, none⟩ = some (.slice ao n cap) := by rw [hW0]; go_simp
      have B0 : Below w.heap.size w W0 := by rw [hW0]; exact bel1.alloc (by omega) _
      have hF := Over.cells (W0 := W0)
      have K1 := Lib.hid (fun (n : Over W0) => (show MaxOk n.w from W.out _ (B0.trans (n.h.mono (by omega)))))
      have K4 := Lib.hid (fun (n : Over W0) => (show Below w.heap.size w n.w from B0.trans (n.h.mono (by omega))))
      clear hW0 k0 k1 k2 hc1 c0 c1 c2 bel1 B0
      have arm : Hid (∀ n' : Over W0, Calls Try.prog 85 #[.int .u8 nm, .string t.name] n'.w fun e w'' => e = .returned (.bool q) ∧ ∃ m : Over W0, w'' = m.w) := Lib.hid fun n' => over_calls (T.out _ (K1.out n'))
      cases kn
      · refine wp_region_over (by kernel_rfl) (by kernel_rfl) ?_
        repeat (go_big_quiet_step (fail))
        refine wpQuiet_nil ?_
        rintro _ ⟨m, rfl⟩
        have HF := Lib.hid (K4.out m)
        go_wp2
        go_ret
        exact ⟨ret_bool (by simp), HF.out⟩
      · by_cases hl : n = ar
        · have e1 : ((n : Int) == (ar : Int)) = true := by rw [beq_iff_eq]; omega
          cases q
          · refine wp_region_over (by kernel_rfl) (by kernel_rfl) ?_
            repeat (go_big_quiet_step ((go_at_call 85; exact arm.out _)))
            refine wpQuiet_nil ?_
            rintro _ ⟨m, rfl⟩
            have HF := Lib.hid (K4.out m)
            go_wp2
            go_ret
            exact ⟨ret_bool (by simp), HF.out⟩
          · refine wp_region_over (by kernel_rfl) (by kernel_rfl) ?_
            repeat (go_big_quiet_step ((go_at_call 85; exact arm.out _)))
            refine wpQuiet_nil ?_
            rintro _ ⟨m, rfl⟩
            have HF := Lib.hid (K4.out m)
            go_wp2
            go_ret
            exact ⟨ret_bool (by simp [hl]), HF.out⟩
        · have e1 : ((n : Int) == (ar : Int)) = false := by rw [beq_eq_false_iff_ne]; omega
          cases q
          · refine wp_region_over (by kernel_rfl) (by kernel_rfl) ?_
            repeat (go_big_quiet_step ((go_at_call 85; exact arm.out _)))
            refine wpQuiet_nil ?_
            rintro _ ⟨m, rfl⟩
            have HF := Lib.hid (K4.out m)
            go_wp2
            go_ret
            exact ⟨ret_bool (by simp), HF.out⟩
          · refine wp_region_over (by kernel_rfl) (by kernel_rfl) ?_
            repeat (go_big_quiet_step ((go_at_call 85; exact arm.out _)))
            refine wpQuiet_nil ?_
            rintro _ ⟨m, rfl⟩
            have HF := Lib.hid (K4.out m)
            go_wp2
            go_ret
            exact ⟨ret_bool (by simp [hl]), HF.out⟩
    · show Calls Try.prog 81 #[.agg #[.pointer (some ⟨b, o, none⟩), .int .u8 2]] w _
      clear n3
      go_enter Try.func81, Try.ntmps81
      go_wp2_with fail
      refine (D.out _).mono ?_; rintro e w1 ⟨rfl, b1⟩
      have hc1 := old_cells b1
      have bel1 := up_tr (box1 _ _) b1
      have hs1 : w.heap.size < w1.heap.size := by have := b1.size; simp at this; omega
      have k0 : w1.cell? ⟨w.heap.size, 0, none⟩ = some (.pointer (some ⟨b, o, none⟩)) := (hc1 _ _ (by simp)).trans (by go_simp)
      have k1 : w1.cell? ⟨b, o + 1, none⟩ = some (.string t.name) := (bel1.cell (p := ⟨b, o + 1, none⟩) hb).trans c1
      have k2 : w1.cell? ⟨b, o + 2, none⟩ = some (.slice ao n cap) := (bel1.cell (p := ⟨b, o + 2, none⟩) hb).trans c2
      clear b1
      go_wp2_with fail
      obtain ⟨W0, hW0⟩ : ∃ W0, W0 = w1.alloc (.cells #[.bool kn, .int .u8 nm, .int .i64 ar] 126) := ⟨_, rfl⟩
      rw [← hW0]
      have zz : b < w1.heap.size := by omega
      have z0 : w1.heap.size < W0.heap.size := by rw [hW0]; simp
      have z1 : w.heap.size < W0.heap.size := by omega
      have z2 : b < W0.heap.size := by omega
      have f0 : W0.cell? ⟨w1.heap.size, 0, none⟩ = some (.bool kn) := by rw [hW0]; go_simp
      have f1 : W0.cell? ⟨w1.heap.size, 1, none⟩ = some (.int .u8 nm) := by rw [hW0]; go_simp
      have f2 : W0.cell? ⟨w1.heap.size, 2, none⟩ = some (.int .i64 ar) := by rw [hW0]; go_simp
      have f3 : W0.cell? ⟨w.heap.size, 0, none⟩ = some (.pointer (some ⟨b, o, none⟩)) := by rw [hW0]; go_simp
      have f4 : W0.cell? ⟨b, o + 1, none⟩ = some (.string t.name) := by rw [hW0]; go_simp
      have f5 : W0.cell? ⟨b, o + 2, none⟩ = some (.slice ao n cap) := by rw [hW0]; go_simp
      have B0 : Below w.heap.size w W0 := by rw [hW0]; exact bel1.alloc (by omega) _
      have hF := Over.cells (W0 := W0)
      have K1 := Lib.hid (fun (n : Over W0) => (show MaxOk n.w from W.out _ (B0.trans (n.h.mono (by omega)))))
      have K4 := Lib.hid (fun (n : Over W0) => (show Below w.heap.size w n.w from B0.trans (n.h.mono (by omega))))
      clear hW0 k0 k1 k2 hc1 c0 c1 c2 bel1 B0
      have arm : Hid (∀ n' : Over W0, Calls Try.prog 85 #[.int .u8 nm, .string t.name] n'.w fun e w'' => e = .returned (.bool q) ∧ ∃ m : Over W0, w'' = m.w) := Lib.hid fun n' => over_calls (T.out _ (K1.out n'))
      cases kn
      · refine wp_region_over (by kernel_rfl) (by kernel_rfl) ?_
        repeat (go_big_quiet_step (fail))
        refine wpQuiet_nil ?_
        rintro _ ⟨m, rfl⟩
        have HF := Lib.hid (K4.out m)
        go_wp2
        go_ret
        exact ⟨ret_bool (by simp), HF.out⟩
      · by_cases hl : n = ar
        · have e1 : ((n : Int) == (ar : Int)) = true := by rw [beq_iff_eq]; omega
          cases q
          · refine wp_region_over (by kernel_rfl) (by kernel_rfl) ?_
            repeat (go_big_quiet_step ((go_at_call 85; exact arm.out _)))
            refine wpQuiet_nil ?_
            rintro _ ⟨m, rfl⟩
            have HF := Lib.hid (K4.out m)
            go_wp2
            go_ret
            exact ⟨ret_bool (by simp), HF.out⟩
          · refine wp_region_over (by kernel_rfl) (by kernel_rfl) ?_
            repeat (go_big_quiet_step ((go_at_call 85; exact arm.out _)))
            refine wpQuiet_nil ?_
            rintro _ ⟨m, rfl⟩
            have HF := Lib.hid (K4.out m)
            go_wp2
            go_ret
            exact ⟨ret_bool (by simp [hl]), HF.out⟩
        · have e1 : ((n : Int) == (ar : Int)) = false := by rw [beq_eq_false_iff_ne]; omega
          cases q
          · refine wp_region_over (by kernel_rfl) (by kernel_rfl) ?_
            repeat (go_big_quiet_step ((go_at_call 85; exact arm.out _)))
            refine wpQuiet_nil ?_
            rintro _ ⟨m, rfl⟩
            have HF := Lib.hid (K4.out m)
            go_wp2
            go_ret
            exact ⟨ret_bool (by simp), HF.out⟩
          · refine wp_region_over (by kernel_rfl) (by kernel_rfl) ?_
            repeat (go_big_quiet_step ((go_at_call 85; exact arm.out _)))
            refine wpQuiet_nil ?_
            rintro _ ⟨m, rfl⟩
            have HF := Lib.hid (K4.out m)
            go_wp2
            go_ret
            exact ⟨ret_bool (by simp [hl]), HF.out⟩
end Go.Proofs.Ytekmkepaokdbmaa
