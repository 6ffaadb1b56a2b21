/- The document's Instr, Op by Op (made by gen_coderef.py S). -/
import Derived.Test.YtlbdoomknjiilaaDoorCodeRef1
import Derived.Test.YtlbdoomknjiilaaDoorCodeSiteW
import Derived.Test.YtlbdoomknjiilaaDoorCodeRefIA
namespace Go.Proofs.YtlbdoomknjiilaaDoor
open Go.RowKit
set_option linter.unusedVariables false

set_option maxRecDepth 100000 in
set_option maxHeartbeats 8000000 in
theorem refSwitch_16 (a1 a2 a3 a4 a5 a6 : Option Addr) (n1 n2 n3 n4 n5 n6 c1 c2 c3 c4 c5 c6 : Nat) (mn xa xb xc xi sl : Int) (nm : ByteArray) (k b o : Nat) (tb tp tn : Bool) (w : World) (hk : k < n1) (hm : n1 ≤ maxLen) (ha : a1 = some ⟨b, o, none⟩) (hb : b < w.heap.size)
    (g2 : w.cell? ⟨b, o + k * 4 + 2, none⟩ = some (.int .i64 sl)) (g3 : w.cell? ⟨b, o + k * 4 + 3, none⟩ = some (.slice a3 n3 c3)) (l : List Int) (hl : n4 = l.length) (b4 o4 : Nat) (hrow : n4 ≠ 0 → a4 = some ⟨b4, o4, none⟩ ∧ b4 < w.heap.size ∧ ∀ (j : Nat) i, l[j]? = some i → w.cell? ⟨b4, o4 + j, none⟩ = some (.int .i64 i))
    (KB : Hid (∀ W, Hid (Below w.heap.size w W) → Calls Tryd.prog 29 #[.agg #[.int .u8 16, .int .i64 xa, .int .i64 xb, .int .i64 xc, .slice none 0 0, .slice a5 n5 c5, .int .i64 xi, .string ⟨#[]⟩, .slice a6 n6 c6]] W fun e w' => e = .returned (.bool tb) ∧ Below W.heap.size W w'))
    (KP : Hid (∀ W, Hid (Below w.heap.size w W) → Calls Tryd.prog 27 #[.slice a5 n5 c5] W fun e w' => e = .returned (.bool tp) ∧ Below W.heap.size W w'))
    (KN : Hid (∀ W, Calls Tryd.prog 28 #[.string nm] W fun e w' => e = .returned (.bool tn) ∧ W = w')) :
    Calls Tryd.prog 16 #[.agg #[.slice a1 n1 c1, .int .i64 mn, .slice a2 n2 c2], .int .i64 k, .agg #[.int .u8 16, .int .i64 xa, .int .i64 xb, .int .i64 xc, .slice a4 n4 c4, .slice a5 n5 c5, .int .i64 xi, .string nm, .slice a6 n6 c6]] w fun e w' => e = .returned (.int .i64 (errB (tn && slotsB l n3 && tb))) ∧ Below w.heap.size w w' := by
  subst ha
  unfold maxLen at hm
  have hk0 : 0 ≤ (k : Int) := by omega
  have hk1 : (k : Int) < (n1 : Int) := by omega
  obtain ⟨R, hR⟩ : ∃ R, R = errB (tn && slotsB l n3 && tb) := ⟨_, rfl⟩
  rw [← hR]
  have HR := Lib.hid hR
  clear hR
  have HL := Lib.hid hl
  have HRw := Lib.hid hrow
  clear hl hrow
  go_enter Tryd.func16, Tryd.ntmps16
  go_wp2_with fail
  obtain ⟨W0, hW⟩ : ∃ W, W = (w.alloc (.cells #[.slice (some ⟨b, o, none⟩) n1 c1, .int .i64 mn, .slice a2 n2 c2] 25)).alloc (.cells #[.int .u8 16, .int .i64 xa, .int .i64 xb, .int .i64 xc, .slice a4 n4 c4, .slice a5 n5 c5, .int .i64 xi, .string nm, .slice a6 n6 c6] 34) := ⟨_, rfl⟩
  have bel0 : Below w.heap.size w W0 := by rw [hW]; exact box2 _ _ _
  have ov : ∀ (m : Over W0) (p q : Nat) (v : Value), W0.cell? ⟨p, q, none⟩ = some v → m.w.cell? ⟨p, q, none⟩ = some v := fun m p q v h => (m.cells _ _ (World.block_lt_of_cell? W0 _ h)).trans h
  have q2 := fun m => ov m _ _ _ (cell_over g2 bel0)
  have q3 := fun m => ov m _ _ _ (cell_over g3 bel0)
  have u0 := fun m => ov m w.heap.size 0 (.slice (some ⟨b, o, none⟩) n1 c1) (by rw [hW]; go_simp)
  have i0 := fun m => ov m (w.heap.size + 1) 0 (.int .u8 16) (by rw [hW]; go_simp)
  have i1 := fun m => ov m (w.heap.size + 1) 1 (.int .i64 xa) (by rw [hW]; go_simp)
  have i2 := fun m => ov m (w.heap.size + 1) 2 (.int .i64 xb) (by rw [hW]; go_simp)
  have i3 := fun m => ov m (w.heap.size + 1) 3 (.int .i64 xc) (by rw [hW]; go_simp)
  have i4 := fun m => ov m (w.heap.size + 1) 4 (.slice a4 n4 c4) (by rw [hW]; go_simp)
  have i5 := fun m => ov m (w.heap.size + 1) 5 (.slice a5 n5 c5) (by rw [hW]; go_simp)
  have i6 := fun m => ov m (w.heap.size + 1) 6 (.int .i64 xi) (by rw [hW]; go_simp)
  have i7 := fun m => ov m (w.heap.size + 1) 7 (.string nm) (by rw [hW]; go_simp)
  have i8 := fun m => ov m (w.heap.size + 1) 8 (.slice a6 n6 c6) (by rw [hW]; go_simp)
  have z0 : w.heap.size + 1 < W0.heap.size := by rw [hW]; simp
  rw [← hW]
  clear hW ov
  refine wp_region_over (by kernel_rfl) (by kernel_rfl) ?_
  repeat (go_big_quiet_step (fail))
  refine wpQuiet_nil ?_
  rintro _ ⟨m, rfl⟩
  have H0 := Lib.hid (bel0.trans (m.h.mono bel0.size))
  have z1 : w.heap.size + 1 < m.w.heap.size := Nat.lt_of_lt_of_le z0 m.h.size
  have i0 := i0 m
  have i1 := i1 m
  have i2 := i2 m
  have i3 := i3 m
  have i4 := i4 m
  have i5 := i5 m
  have i6 := i6 m
  have i7 := i7 m
  have i8 := i8 m
  have u0 := u0 m
  generalize m.w = w1 at *
  clear q2 q3 bel0 z0 m
  go_upto_region 6 with (fail)
  obtain ⟨W1, hW⟩ : ∃ W, W = w1.alloc (.cells #[.int .u8 16, .int .i64 xa, .int .i64 xb, .int .i64 xc, .slice a4 n4 c4, .slice a5 n5 c5, .int .i64 xi, .string nm, .slice a6 n6 c6] 34) := ⟨_, rfl⟩
  have H1 : Hid (Below w.heap.size w W1) := by rw [hW]; exact hid_upR H0 (box1 _ _)
  have zw : w1.heap.size < W1.heap.size := by rw [hW]; simp
  have u0 := step_of hW u0
  have i0 := step_of hW i0
  have i1 := step_of hW i1
  have i2 := step_of hW i2
  have i3 := step_of hW i3
  have i4 := step_of hW i4
  have i5 := step_of hW i5
  have i6 := step_of hW i6
  have i7 := step_of hW i7
  have i8 := step_of hW i8
  have y0 : W1.cell? ⟨w1.heap.size, 0, none⟩ = some (.int .u8 16) := by rw [hW]; go_simp
  have y1 : W1.cell? ⟨w1.heap.size, 1, none⟩ = some (.int .i64 xa) := by rw [hW]; go_simp
  have y2 : W1.cell? ⟨w1.heap.size, 2, none⟩ = some (.int .i64 xb) := by rw [hW]; go_simp
  have y3 : W1.cell? ⟨w1.heap.size, 3, none⟩ = some (.int .i64 xc) := by rw [hW]; go_simp
  have y4 : W1.cell? ⟨w1.heap.size, 4, none⟩ = some (.slice a4 n4 c4) := by rw [hW]; go_simp
  have y5 : W1.cell? ⟨w1.heap.size, 5, none⟩ = some (.slice a5 n5 c5) := by rw [hW]; go_simp
  have y6 : W1.cell? ⟨w1.heap.size, 6, none⟩ = some (.int .i64 xi) := by rw [hW]; go_simp
  have y7 : W1.cell? ⟨w1.heap.size, 7, none⟩ = some (.string nm) := by rw [hW]; go_simp
  have y8 : W1.cell? ⟨w1.heap.size, 8, none⟩ = some (.slice a6 n6 c6) := by rw [hW]; go_simp
  have fz : ∀ o, W1.frozen? ⟨w1.heap.size, o, none⟩ = false := by rw [hW]; intro o; go_simp
  have z2 : w.heap.size + 1 < W1.heap.size := by omega
  have z3 : w.heap.size < W1.heap.size := by omega
  have J := Lib.hid (Below.refl W1.heap.size W1)
  have zy : w.heap.size ≤ w1.heap.size := by omega
  rw [← hW]
  clear hW H0 z1
  have HRow : Hid (n4 ≠ 0 → a4 = some ⟨b4, o4, none⟩ ∧ b4 < W1.heap.size ∧ ∀ (j : Nat) i, l[j]? = some i → W1.cell? ⟨b4, o4 + j, none⟩ = some (.int .i64 i)) := Lib.hid fun h => ⟨(HRw.out h).1, Nat.lt_of_lt_of_le (HRw.out h).2.1 H1.out.size, fun j i hj => cell_over ((HRw.out h).2.2 j i hj) H1.out⟩
  cases tn with
  | false =>
    go_wp2_with fail
    (with_reducible refine (KN.out _).mono ?_)
    rintro e v1 ⟨rfl, rfl⟩
    go_wp2_with fail
    go_loop [9, 11] (fun okv i => okv = .bool false ∧ i = .int .i64 0) (fun _ _ => 0)
    case atStart => exact ⟨rfl, rfl⟩
    case round =>
      obtain ⟨rfl, rfl⟩ := hrel
      by_cases h0 : n4 = 0
      · subst h0
        as_aux_lemma =>
          go_wp2_with fail
          go_ret
          exact ⟨ret_int (by rw [HR.out]; rfl), (hid_set (hid_set H1 zy) zy).out⟩
      · have h1 : (0 : Int) < (n4 : Int) := by omega
        have h2 : 0 < n4 := by omega
        as_aux_lemma =>
          go_wp2_with fail
          go_ret
          exact ⟨ret_int (by rw [HR.out]; rfl), (hid_set (hid_set H1 zy) zy).out⟩
  | true =>
    by_cases h6 : n4 ≤ 6
    · have e6 : decide ((n4 : Int) ≤ 6) = true := decide_eq_true (by omega)
      have HS : Hid (slotsB l n3 = l.all fun k => withinB k 0 n3) := Lib.hid (by unfold slotsB; rw [decide_eq_true (by rw [← HL.out]; exact h6)]; rfl)
      have HK : Hid (∀ (k : Nat) x, l[k]? = some x → ((l.take (k + 1)).all fun k => withinB k 0 n3) = (((l.take k).all fun k => withinB k 0 n3) && withinB x 0 n3)) := Lib.hid fun k x hx => by rw [List.take_add_one, hx, List.all_append]; simp
      have HNo : Hid (∀ k : Nat, false = ((l.take k).all fun k => withinB k 0 n3) → slotsB l n3 = false) := Lib.hid fun k hk => by
        rw [HS.out]
        cases hh : (l.all fun k => withinB k 0 n3)
        · rfl
        · have this : ((l.take k).all fun k => withinB k 0 n3) = true := List.all_eq_true.2 fun x hx => List.all_eq_true.1 hh x (List.mem_of_mem_take hx)
          rw [this] at hk
          cases hk
      go_wp2_with fail
      (with_reducible refine (KN.out _).mono ?_)
      rintro e v1 ⟨rfl, rfl⟩
      go_wp2_with fail
      go_loop [9, 11] (fun okv i => ∃ (k : Nat) (c : Bool), k ≤ n4 ∧ i = .int .i64 k ∧ okv = .bool c ∧ Hid (c = (l.take k).all fun k => withinB k 0 n3)) (fun _ i => n4 - (intOf i).toNat)
      case atStart => exact ⟨0, true, by omega, rfl, rfl, Lib.hid rfl⟩
      case round =>
        obtain ⟨kk, c, hkk, rfl, rfl, HC⟩ := hrel
        have hk0' : 0 ≤ (kk : Int) := by omega
        by_cases hlt : kk < n4
        · have hk1' : (kk : Int) < (n4 : Int) := by omega
          cases c with
          | false =>
            have HY := Lib.hid (HNo.out kk HC.out)
            as_aux_lemma =>
              go_wp2_with fail
              go_ret
              exact ⟨ret_int (by rw [HR.out, HY.out]; rfl), (hid_set (hid_set H1 zy) zy).out⟩
          | true =>
            obtain ⟨rfl, hb4, hr4⟩ := HRow.out (by omega)
            obtain ⟨x, hx, _⟩ := get_at (l := l) (k := kk) (by rw [← HL.out]; exact hlt)
            have hc4 := hr4 kk x hx
            have HX := Lib.hid (HK.out kk x hx)
            clear hx hr4
            by_cases g1 : 0 ≤ x
            · by_cases g5 : x ≤ (n3 : Int)
              · have HN : Hid (true = (l.take (kk + 1)).all fun k => withinB k 0 n3) := Lib.hid (by rw [HX.out, ← HC.out]; unfold withinB; rw [decide_eq_true g1, decide_eq_true g5]; rfl)
                as_aux_lemma =>
                  go_wp2_with fail
                  go_round
                  case rel => exact ⟨kk + 1, true, by omega, by go_num, rfl, HN⟩
                  case measure => simp [intOf]; omega
              · have HN : Hid (false = (l.take (kk + 1)).all fun k => withinB k 0 n3) := Lib.hid (by rw [HX.out, ← HC.out]; unfold withinB; rw [decide_eq_true g1, decide_eq_false g5]; rfl)
                as_aux_lemma =>
                  go_wp2_with fail
                  go_round
                  case rel => exact ⟨kk + 1, false, by omega, by go_num, rfl, HN⟩
                  case measure => simp [intOf]; omega
            · have HN : Hid (false = (l.take (kk + 1)).all fun k => withinB k 0 n3) := Lib.hid (by rw [HX.out, ← HC.out]; unfold withinB; rw [decide_eq_false g1]; rfl)
              as_aux_lemma =>
                go_wp2_with fail
                go_round
                case rel => exact ⟨kk + 1, false, by omega, by go_num, rfl, HN⟩
                case measure => simp [intOf]; omega
        · obtain rfl : n4 = kk := by omega
          cases c with
          | false =>
            have HY := Lib.hid (HNo.out n4 HC.out)
            as_aux_lemma =>
              go_wp2_with fail
              go_ret
              exact ⟨ret_int (by rw [HR.out, HY.out]; rfl), (hid_set (hid_set H1 zy) zy).out⟩
          | true =>
            have HY : Hid (slotsB l n3 = true) := Lib.hid (by rw [HS.out, HC.out, List.take_of_length_le (by rw [HL.out]; exact Nat.le_refl _)])
            cases tb with
            | false =>
              as_aux_lemma =>
                go_wp2_with fail
                (with_reducible refine (KB.out _ (hid_set (hid_set H1 zy) zy)).mono ?_)
                rintro e vb ⟨rfl, b⟩
                have GB := hid_upR (hid_set (hid_set H1 zy) zy) b
                clear b
                go_wp2_with fail
                go_ret
                exact ⟨ret_int (by rw [HR.out, HY.out]; rfl), GB.out⟩
            | true =>
              as_aux_lemma =>
                go_wp2_with fail
                (with_reducible refine (KB.out _ (hid_set (hid_set H1 zy) zy)).mono ?_)
                rintro e vb ⟨rfl, b⟩
                have GB := hid_upR (hid_set (hid_set H1 zy) zy) b
                clear b
                go_wp2_with fail
                go_ret
                exact ⟨ret_int (by rw [HR.out, HY.out]; rfl), GB.out⟩
    · have e6 : decide ((n4 : Int) ≤ 6) = false := decide_eq_false (by omega)
      have HY : Hid (slotsB l n3 = false) := Lib.hid (by unfold slotsB; rw [decide_eq_false (by rw [← HL.out]; exact h6)]; rfl)
      go_wp2_with fail
      (with_reducible refine (KN.out _).mono ?_)
      rintro e v1 ⟨rfl, rfl⟩
      go_wp2_with fail
      go_loop [9, 11] (fun okv i => okv = .bool false ∧ i = .int .i64 0) (fun _ _ => 0)
      case atStart => exact ⟨rfl, rfl⟩
      case round =>
        obtain ⟨rfl, rfl⟩ := hrel
        have h1 : (0 : Int) < (n4 : Int) := by omega
        have h2 : 0 < n4 := by omega
        as_aux_lemma =>
          go_wp2_with fail
          go_ret
          exact ⟨ret_int (by rw [HR.out, HY.out]; rfl), (hid_set (hid_set H1 zy) zy).out⟩

end Go.Proofs.YtlbdoomknjiilaaDoor
