/- The document's Instr, Op by Op (made by gen_coderef.py B2). -/
import Derived.Test.YtlbdoomknjiilaaDoorCodeRef1
import Derived.Test.YtlbdoomknjiilaaDoorCodeSiteW
import Derived.Test.YtlbdoomknjiilaaDoorCodeRefIA
namespace Go.Proofs.YtlbdoomknjiilaaDoor
open Go.RowKit
set_option linter.unusedVariables false

set_option maxRecDepth 100000 in
set_option maxHeartbeats 8000000 in
theorem refPlace_21 (a1 a2 a3 a4 a5 a6 : Option Addr) (n1 n2 n3 n4 n5 n6 c1 c2 c3 c4 c5 c6 : Nat) (mn xa xb xc xi sl : Int) (nm : ByteArray) (k b o : Nat) (tb tp tn : Bool) (w : World) (hk : k < n1) (hm : n1 ≤ maxLen) (ha : a1 = some ⟨b, o, none⟩) (hb : b < w.heap.size)
    (g2 : w.cell? ⟨b, o + k * 4 + 2, none⟩ = some (.int .i64 sl)) (g3 : w.cell? ⟨b, o + k * 4 + 3, none⟩ = some (.slice a3 n3 c3))
    (KB : Hid (∀ W, Hid (Below w.heap.size w W) → Calls Tryd.prog 29 #[.agg #[.int .u8 21, .int .i64 0, .int .i64 xb, .int .i64 xc, .slice a4 n4 c4, .slice none 0 0, .int .i64 xi, .string nm, .slice a6 n6 c6]] W fun e w' => e = .returned (.bool tb) ∧ Below W.heap.size W w'))
    (KP : Hid (∀ W, Hid (Below w.heap.size w W) → Calls Tryd.prog 27 #[.slice a5 n5 c5] W fun e w' => e = .returned (.bool tp) ∧ Below W.heap.size W w'))
    (KN : Hid (∀ W, Calls Tryd.prog 28 #[.string nm] W fun e w' => e = .returned (.bool tn) ∧ W = w')) :
    Calls Tryd.prog 16 #[.agg #[.slice a1 n1 c1, .int .i64 mn, .slice a2 n2 c2], .int .i64 k, .agg #[.int .u8 21, .int .i64 xa, .int .i64 xb, .int .i64 xc, .slice a4 n4 c4, .slice a5 n5 c5, .int .i64 xi, .string nm, .slice a6 n6 c6]] w fun e w' => e = .returned (.int .i64 (errB (tp && (placeP xa sl) && tb))) ∧ Below w.heap.size w w' := by
  subst ha
  unfold maxLen at hm
  have hk0 : 0 ≤ (k : Int) := by omega
  have hk1 : (k : Int) < (n1 : Int) := by omega
  obtain ⟨R, hR⟩ : ∃ R, R = errB (tp && (placeP xa sl) && tb) := ⟨_, rfl⟩
  rw [← hR]
  have HR := Lib.hid hR
  clear hR
  go_enter Tryd.func16, Tryd.ntmps16
  go_wp2_with fail
  obtain ⟨W0, hW⟩ : ∃ W, W = (w.alloc (.cells #[.slice (some ⟨b, o, none⟩) n1 c1, .int .i64 mn, .slice a2 n2 c2] 25)).alloc (.cells #[.int .u8 21, .int .i64 xa, .int .i64 xb, .int .i64 xc, .slice a4 n4 c4, .slice a5 n5 c5, .int .i64 xi, .string nm, .slice a6 n6 c6] 34) := ⟨_, rfl⟩
  have bel0 : Below w.heap.size w W0 := by rw [hW]; exact box2 _ _ _
  have ov : ∀ (m : Over W0) (p q : Nat) (v : Value), W0.cell? ⟨p, q, none⟩ = some v → m.w.cell? ⟨p, q, none⟩ = some v := fun m p q v h => (m.cells _ _ (World.block_lt_of_cell? W0 _ h)).trans h
  have q2 := fun m => ov m _ _ _ (cell_over g2 bel0)
  have q3 := fun m => ov m _ _ _ (cell_over g3 bel0)
  have u0 := fun m => ov m w.heap.size 0 (.slice (some ⟨b, o, none⟩) n1 c1) (by rw [hW]; go_simp)
  have i0 := fun m => ov m (w.heap.size + 1) 0 (.int .u8 21) (by rw [hW]; go_simp)
  have i1 := fun m => ov m (w.heap.size + 1) 1 (.int .i64 xa) (by rw [hW]; go_simp)
  have i2 := fun m => ov m (w.heap.size + 1) 2 (.int .i64 xb) (by rw [hW]; go_simp)
  have i3 := fun m => ov m (w.heap.size + 1) 3 (.int .i64 xc) (by rw [hW]; go_simp)
  have i4 := fun m => ov m (w.heap.size + 1) 4 (.slice a4 n4 c4) (by rw [hW]; go_simp)
  have i5 := fun m => ov m (w.heap.size + 1) 5 (.slice a5 n5 c5) (by rw [hW]; go_simp)
  have i6 := fun m => ov m (w.heap.size + 1) 6 (.int .i64 xi) (by rw [hW]; go_simp)
  have i7 := fun m => ov m (w.heap.size + 1) 7 (.string nm) (by rw [hW]; go_simp)
  have i8 := fun m => ov m (w.heap.size + 1) 8 (.slice a6 n6 c6) (by rw [hW]; go_simp)
  have z0 : w.heap.size + 1 < W0.heap.size := by rw [hW]; simp
  rw [← hW]
  clear hW ov
  refine wp_region_over (by kernel_rfl) (by kernel_rfl) ?_
  repeat (go_big_quiet_step (fail))
  refine wpQuiet_nil ?_
  rintro _ ⟨m, rfl⟩
  have H0 := Lib.hid (bel0.trans (m.h.mono bel0.size))
  have z1 : w.heap.size + 1 < m.w.heap.size := Nat.lt_of_lt_of_le z0 m.h.size
  have i0 := i0 m
  have i1 := i1 m
  have i2 := i2 m
  have i3 := i3 m
  have i4 := i4 m
  have i5 := i5 m
  have i6 := i6 m
  have i7 := i7 m
  have i8 := i8 m
  have u0 := u0 m
  generalize m.w = w1 at *
  clear q2 q3 bel0 z0 m
  go_upto_region 6 with (fail)
  obtain ⟨W1, hW⟩ : ∃ W, W = w1.alloc (.cells #[.int .u8 21, .int .i64 xa, .int .i64 xb, .int .i64 xc, .slice a4 n4 c4, .slice a5 n5 c5, .int .i64 xi, .string nm, .slice a6 n6 c6] 34) := ⟨_, rfl⟩
  have H1 : Hid (Below w.heap.size w W1) := by rw [hW]; exact hid_upR H0 (box1 _ _)
  have zw : w1.heap.size < W1.heap.size := by rw [hW]; simp
  have u0 := step_of hW u0
  have i0 := step_of hW i0
  have i1 := step_of hW i1
  have i2 := step_of hW i2
  have i3 := step_of hW i3
  have i4 := step_of hW i4
  have i5 := step_of hW i5
  have i6 := step_of hW i6
  have i7 := step_of hW i7
  have i8 := step_of hW i8
  have y0 : W1.cell? ⟨w1.heap.size, 0, none⟩ = some (.int .u8 21) := by rw [hW]; go_simp
  have y1 : W1.cell? ⟨w1.heap.size, 1, none⟩ = some (.int .i64 xa) := by rw [hW]; go_simp
  have y2 : W1.cell? ⟨w1.heap.size, 2, none⟩ = some (.int .i64 xb) := by rw [hW]; go_simp
  have y3 : W1.cell? ⟨w1.heap.size, 3, none⟩ = some (.int .i64 xc) := by rw [hW]; go_simp
  have y4 : W1.cell? ⟨w1.heap.size, 4, none⟩ = some (.slice a4 n4 c4) := by rw [hW]; go_simp
  have y5 : W1.cell? ⟨w1.heap.size, 5, none⟩ = some (.slice a5 n5 c5) := by rw [hW]; go_simp
  have y6 : W1.cell? ⟨w1.heap.size, 6, none⟩ = some (.int .i64 xi) := by rw [hW]; go_simp
  have y7 : W1.cell? ⟨w1.heap.size, 7, none⟩ = some (.string nm) := by rw [hW]; go_simp
  have y8 : W1.cell? ⟨w1.heap.size, 8, none⟩ = some (.slice a6 n6 c6) := by rw [hW]; go_simp
  have fz : ∀ o, W1.frozen? ⟨w1.heap.size, o, none⟩ = false := by rw [hW]; intro o; go_simp
  have z2 : w.heap.size + 1 < W1.heap.size := by omega
  have z3 : w.heap.size < W1.heap.size := by omega
  have J := Lib.hid (Below.refl W1.heap.size W1)
  have zy : w.heap.size ≤ w1.heap.size := by omega
  rw [← hW]
  clear hW H0 z1
  by_cases h1 : 0 ≤ xa
  ·
    by_cases h2 : xa < sl
    ·
      cases tp with
      | false =>
        as_aux_lemma =>
          go_wp2_with fail
          (with_reducible refine (KP.out _ H1).mono ?_)
          rintro e v1 ⟨rfl, b⟩
          have G1 := hid_upR H1 b
          have J1 := hid_upR J b
          have q1 := rule_of J1.out
          have r1 : ∀ b o, b < W1.heap.size → v1.frozen? ⟨b, o, none⟩ = W1.frozen? ⟨b, o, none⟩ := fun b o hb => J1.out.frozen (p := ⟨b, o, none⟩) hb
          have s1 : w1.heap.size < v1.heap.size := Nat.lt_of_lt_of_le zw J1.out.size
          clear b
          go_wp2_with fail
          go_ret
          exact ⟨ret_int (by rw [HR.out]; rfl), (hid_set (hid_set G1 zy) zy).out⟩
      | true =>
        cases tb with
        | false =>
          as_aux_lemma =>
            go_wp2_with fail
            (with_reducible refine (KP.out _ H1).mono ?_)
            rintro e v1 ⟨rfl, b⟩
            have G1 := hid_upR H1 b
            have J1 := hid_upR J b
            have q1 := rule_of J1.out
            have r1 : ∀ b o, b < W1.heap.size → v1.frozen? ⟨b, o, none⟩ = W1.frozen? ⟨b, o, none⟩ := fun b o hb => J1.out.frozen (p := ⟨b, o, none⟩) hb
            have s1 : w1.heap.size < v1.heap.size := Nat.lt_of_lt_of_le zw J1.out.size
            clear b
            go_wp2_with fail
            (with_reducible refine (KB.out _ (hid_set (hid_set G1 zy) zy)).mono ?_)
            rintro e vb ⟨rfl, b⟩
            have GB := hid_upR (hid_set (hid_set G1 zy) zy) b
            clear b
            go_wp2_with fail
            go_ret
            exact ⟨ret_int (by rw [HR.out, show (placeP xa sl) = true from decide_eq_true (by omega)]; first | rfl | (cases tp <;> rfl)), GB.out⟩
        | true =>
          as_aux_lemma =>
            go_wp2_with fail
            (with_reducible refine (KP.out _ H1).mono ?_)
            rintro e v1 ⟨rfl, b⟩
            have G1 := hid_upR H1 b
            have J1 := hid_upR J b
            have q1 := rule_of J1.out
            have r1 : ∀ b o, b < W1.heap.size → v1.frozen? ⟨b, o, none⟩ = W1.frozen? ⟨b, o, none⟩ := fun b o hb => J1.out.frozen (p := ⟨b, o, none⟩) hb
            have s1 : w1.heap.size < v1.heap.size := Nat.lt_of_lt_of_le zw J1.out.size
            clear b
            go_wp2_with fail
            (with_reducible refine (KB.out _ (hid_set (hid_set G1 zy) zy)).mono ?_)
            rintro e vb ⟨rfl, b⟩
            have GB := hid_upR (hid_set (hid_set G1 zy) zy) b
            clear b
            go_wp2_with fail
            go_ret
            exact ⟨ret_int (by rw [HR.out, show (placeP xa sl) = true from decide_eq_true (by omega)]; first | rfl | (cases tp <;> rfl)), GB.out⟩
    ·
      as_aux_lemma =>
        go_wp2_with fail
        go_ret
        exact ⟨ret_int (by rw [HR.out, show (placeP xa sl) = false from decide_eq_false (by omega)]; first | rfl | (cases tp <;> rfl)), (hid_set (hid_set H1 zy) zy).out⟩
  ·
    as_aux_lemma =>
      go_wp2_with fail
      go_ret
      exact ⟨ret_int (by rw [HR.out, show (placeP xa sl) = false from decide_eq_false (by omega)]; first | rfl | (cases tp <;> rfl)), (hid_set (hid_set H1 zy) zy).out⟩

set_option maxRecDepth 100000 in
set_option maxHeartbeats 8000000 in
theorem refPlace_22 (a1 a2 a3 a4 a5 a6 : Option Addr) (n1 n2 n3 n4 n5 n6 c1 c2 c3 c4 c5 c6 : Nat) (mn xa xb xc xi sl : Int) (nm : ByteArray) (k b o : Nat) (tb tp tn : Bool) (w : World) (hk : k < n1) (hm : n1 ≤ maxLen) (ha : a1 = some ⟨b, o, none⟩) (hb : b < w.heap.size)
    (g2 : w.cell? ⟨b, o + k * 4 + 2, none⟩ = some (.int .i64 sl)) (g3 : w.cell? ⟨b, o + k * 4 + 3, none⟩ = some (.slice a3 n3 c3))
    (KB : Hid (∀ W, Hid (Below w.heap.size w W) → Calls Tryd.prog 29 #[.agg #[.int .u8 22, .int .i64 0, .int .i64 xb, .int .i64 xc, .slice a4 n4 c4, .slice none 0 0, .int .i64 xi, .string nm, .slice a6 n6 c6]] W fun e w' => e = .returned (.bool tb) ∧ Below W.heap.size W w'))
    (KP : Hid (∀ W, Hid (Below w.heap.size w W) → Calls Tryd.prog 27 #[.slice a5 n5 c5] W fun e w' => e = .returned (.bool tp) ∧ Below W.heap.size W w'))
    (KN : Hid (∀ W, Calls Tryd.prog 28 #[.string nm] W fun e w' => e = .returned (.bool tn) ∧ W = w')) :
    Calls Tryd.prog 16 #[.agg #[.slice a1 n1 c1, .int .i64 mn, .slice a2 n2 c2], .int .i64 k, .agg #[.int .u8 22, .int .i64 xa, .int .i64 xb, .int .i64 xc, .slice a4 n4 c4, .slice a5 n5 c5, .int .i64 xi, .string nm, .slice a6 n6 c6]] w fun e w' => e = .returned (.int .i64 (errB (tp && (placeP xa sl) && tb))) ∧ Below w.heap.size w w' := by
  subst ha
  unfold maxLen at hm
  have hk0 : 0 ≤ (k : Int) := by omega
  have hk1 : (k : Int) < (n1 : Int) := by omega
  obtain ⟨R, hR⟩ : ∃ R, R = errB (tp && (placeP xa sl) && tb) := ⟨_, rfl⟩
  rw [← hR]
  have HR := Lib.hid hR
  clear hR
  go_enter Tryd.func16, Tryd.ntmps16
  go_wp2_with fail
  obtain ⟨W0, hW⟩ : ∃ W, W = (w.alloc (.cells #[.slice (some ⟨b, o, none⟩) n1 c1, .int .i64 mn, .slice a2 n2 c2] 25)).alloc (.cells #[.int .u8 22, .int .i64 xa, .int .i64 xb, .int .i64 xc, .slice a4 n4 c4, .slice a5 n5 c5, .int .i64 xi, .string nm, .slice a6 n6 c6] 34) := ⟨_, rfl⟩
  have bel0 : Below w.heap.size w W0 := by rw [hW]; exact box2 _ _ _
  have ov : ∀ (m : Over W0) (p q : Nat) (v : Value), W0.cell? ⟨p, q, none⟩ = some v → m.w.cell? ⟨p, q, none⟩ = some v := fun m p q v h => (m.cells _ _ (World.block_lt_of_cell? W0 _ h)).trans h
  have q2 := fun m => ov m _ _ _ (cell_over g2 bel0)
  have q3 := fun m => ov m _ _ _ (cell_over g3 bel0)
  have u0 := fun m => ov m w.heap.size 0 (.slice (some ⟨b, o, none⟩) n1 c1) (by rw [hW]; go_simp)
  have i0 := fun m => ov m (w.heap.size + 1) 0 (.int .u8 22) (by rw [hW]; go_simp)
  have i1 := fun m => ov m (w.heap.size + 1) 1 (.int .i64 xa) (by rw [hW]; go_simp)
  have i2 := fun m => ov m (w.heap.size + 1) 2 (.int .i64 xb) (by rw [hW]; go_simp)
  have i3 := fun m => ov m (w.heap.size + 1) 3 (.int .i64 xc) (by rw [hW]; go_simp)
  have i4 := fun m => ov m (w.heap.size + 1) 4 (.slice a4 n4 c4) (by rw [hW]; go_simp)
  have i5 := fun m => ov m (w.heap.size + 1) 5 (.slice a5 n5 c5) (by rw [hW]; go_simp)
  have i6 := fun m => ov m (w.heap.size + 1) 6 (.int .i64 xi) (by rw [hW]; go_simp)
  have i7 := fun m => ov m (w.heap.size + 1) 7 (.string nm) (by rw [hW]; go_simp)
  have i8 := fun m => ov m (w.heap.size + 1) 8 (.slice a6 n6 c6) (by rw [hW]; go_simp)
  have z0 : w.heap.size + 1 < W0.heap.size := by rw [hW]; simp
  rw [← hW]
  clear hW ov
  refine wp_region_over (by kernel_rfl) (by kernel_rfl) ?_
  repeat (go_big_quiet_step (fail))
  refine wpQuiet_nil ?_
  rintro _ ⟨m, rfl⟩
  have H0 := Lib.hid (bel0.trans (m.h.mono bel0.size))
  have z1 : w.heap.size + 1 < m.w.heap.size := Nat.lt_of_lt_of_le z0 m.h.size
  have i0 := i0 m
  have i1 := i1 m
  have i2 := i2 m
  have i3 := i3 m
  have i4 := i4 m
  have i5 := i5 m
  have i6 := i6 m
  have i7 := i7 m
  have i8 := i8 m
  have u0 := u0 m
  generalize m.w = w1 at *
  clear q2 q3 bel0 z0 m
  go_upto_region 6 with (fail)
  obtain ⟨W1, hW⟩ : ∃ W, W = w1.alloc (.cells #[.int .u8 22, .int .i64 xa, .int .i64 xb, .int .i64 xc, .slice a4 n4 c4, .slice a5 n5 c5, .int .i64 xi, .string nm, .slice a6 n6 c6] 34) := ⟨_, rfl⟩
  have H1 : Hid (Below w.heap.size w W1) := by rw [hW]; exact hid_upR H0 (box1 _ _)
  have zw : w1.heap.size < W1.heap.size := by rw [hW]; simp
  have u0 := step_of hW u0
  have i0 := step_of hW i0
  have i1 := step_of hW i1
  have i2 := step_of hW i2
  have i3 := step_of hW i3
  have i4 := step_of hW i4
  have i5 := step_of hW i5
  have i6 := step_of hW i6
  have i7 := step_of hW i7
  have i8 := step_of hW i8
  have y0 : W1.cell? ⟨w1.heap.size, 0, none⟩ = some (.int .u8 22) := by rw [hW]; go_simp
  have y1 : W1.cell? ⟨w1.heap.size, 1, none⟩ = some (.int .i64 xa) := by rw [hW]; go_simp
  have y2 : W1.cell? ⟨w1.heap.size, 2, none⟩ = some (.int .i64 xb) := by rw [hW]; go_simp
  have y3 : W1.cell? ⟨w1.heap.size, 3, none⟩ = some (.int .i64 xc) := by rw [hW]; go_simp
  have y4 : W1.cell? ⟨w1.heap.size, 4, none⟩ = some (.slice a4 n4 c4) := by rw [hW]; go_simp
  have y5 : W1.cell? ⟨w1.heap.size, 5, none⟩ = some (.slice a5 n5 c5) := by rw [hW]; go_simp
  have y6 : W1.cell? ⟨w1.heap.size, 6, none⟩ = some (.int .i64 xi) := by rw [hW]; go_simp
  have y7 : W1.cell? ⟨w1.heap.size, 7, none⟩ = some (.string nm) := by rw [hW]; go_simp
  have y8 : W1.cell? ⟨w1.heap.size, 8, none⟩ = some (.slice a6 n6 c6) := by rw [hW]; go_simp
  have fz : ∀ o, W1.frozen? ⟨w1.heap.size, o, none⟩ = false := by rw [hW]; intro o; go_simp
  have z2 : w.heap.size + 1 < W1.heap.size := by omega
  have z3 : w.heap.size < W1.heap.size := by omega
  have J := Lib.hid (Below.refl W1.heap.size W1)
  have zy : w.heap.size ≤ w1.heap.size := by omega
  rw [← hW]
  clear hW H0 z1
  by_cases h1 : 0 ≤ xa
  ·
    by_cases h2 : xa < sl
    ·
      cases tp with
      | false =>
        as_aux_lemma =>
          go_wp2_with fail
          (with_reducible refine (KP.out _ H1).mono ?_)
          rintro e v1 ⟨rfl, b⟩
          have G1 := hid_upR H1 b
          have J1 := hid_upR J b
          have q1 := rule_of J1.out
          have r1 : ∀ b o, b < W1.heap.size → v1.frozen? ⟨b, o, none⟩ = W1.frozen? ⟨b, o, none⟩ := fun b o hb => J1.out.frozen (p := ⟨b, o, none⟩) hb
          have s1 : w1.heap.size < v1.heap.size := Nat.lt_of_lt_of_le zw J1.out.size
          clear b
          go_wp2_with fail
          go_ret
          exact ⟨ret_int (by rw [HR.out]; rfl), (hid_set (hid_set G1 zy) zy).out⟩
      | true =>
        cases tb with
        | false =>
          as_aux_lemma =>
            go_wp2_with fail
            (with_reducible refine (KP.out _ H1).mono ?_)
            rintro e v1 ⟨rfl, b⟩
            have G1 := hid_upR H1 b
            have J1 := hid_upR J b
            have q1 := rule_of J1.out
            have r1 : ∀ b o, b < W1.heap.size → v1.frozen? ⟨b, o, none⟩ = W1.frozen? ⟨b, o, none⟩ := fun b o hb => J1.out.frozen (p := ⟨b, o, none⟩) hb
            have s1 : w1.heap.size < v1.heap.size := Nat.lt_of_lt_of_le zw J1.out.size
            clear b
            go_wp2_with fail
            (with_reducible refine (KB.out _ (hid_set (hid_set G1 zy) zy)).mono ?_)
            rintro e vb ⟨rfl, b⟩
            have GB := hid_upR (hid_set (hid_set G1 zy) zy) b
            clear b
            go_wp2_with fail
            go_ret
            exact ⟨ret_int (by rw [HR.out, show (placeP xa sl) = true from decide_eq_true (by omega)]; first | rfl | (cases tp <;> rfl)), GB.out⟩
        | true =>
          as_aux_lemma =>
            go_wp2_with fail
            (with_reducible refine (KP.out _ H1).mono ?_)
            rintro e v1 ⟨rfl, b⟩
            have G1 := hid_upR H1 b
            have J1 := hid_upR J b
            have q1 := rule_of J1.out
            have r1 : ∀ b o, b < W1.heap.size → v1.frozen? ⟨b, o, none⟩ = W1.frozen? ⟨b, o, none⟩ := fun b o hb => J1.out.frozen (p := ⟨b, o, none⟩) hb
            have s1 : w1.heap.size < v1.heap.size := Nat.lt_of_lt_of_le zw J1.out.size
            clear b
            go_wp2_with fail
            (with_reducible refine (KB.out _ (hid_set (hid_set G1 zy) zy)).mono ?_)
            rintro e vb ⟨rfl, b⟩
            have GB := hid_upR (hid_set (hid_set G1 zy) zy) b
            clear b
            go_wp2_with fail
            go_ret
            exact ⟨ret_int (by rw [HR.out, show (placeP xa sl) = true from decide_eq_true (by omega)]; first | rfl | (cases tp <;> rfl)), GB.out⟩
    ·
      as_aux_lemma =>
        go_wp2_with fail
        go_ret
        exact ⟨ret_int (by rw [HR.out, show (placeP xa sl) = false from decide_eq_false (by omega)]; first | rfl | (cases tp <;> rfl)), (hid_set (hid_set H1 zy) zy).out⟩
  ·
    as_aux_lemma =>
      go_wp2_with fail
      go_ret
      exact ⟨ret_int (by rw [HR.out, show (placeP xa sl) = false from decide_eq_false (by omega)]; first | rfl | (cases tp <;> rfl)), (hid_set (hid_set H1 zy) zy).out⟩

set_option maxRecDepth 100000 in
set_option maxHeartbeats 8000000 in
theorem refPlace_23 (a1 a2 a3 a4 a5 a6 : Option Addr) (n1 n2 n3 n4 n5 n6 c1 c2 c3 c4 c5 c6 : Nat) (mn xa xb xc xi sl : Int) (nm : ByteArray) (k b o : Nat) (tb tp tn : Bool) (w : World) (hk : k < n1) (hm : n1 ≤ maxLen) (ha : a1 = some ⟨b, o, none⟩) (hb : b < w.heap.size)
    (g2 : w.cell? ⟨b, o + k * 4 + 2, none⟩ = some (.int .i64 sl)) (g3 : w.cell? ⟨b, o + k * 4 + 3, none⟩ = some (.slice a3 n3 c3))
    (KB : Hid (∀ W, Hid (Below w.heap.size w W) → Calls Tryd.prog 29 #[.agg #[.int .u8 23, .int .i64 0, .int .i64 xb, .int .i64 xc, .slice a4 n4 c4, .slice none 0 0, .int .i64 xi, .string nm, .slice a6 n6 c6]] W fun e w' => e = .returned (.bool tb) ∧ Below W.heap.size W w'))
    (KP : Hid (∀ W, Hid (Below w.heap.size w W) → Calls Tryd.prog 27 #[.slice a5 n5 c5] W fun e w' => e = .returned (.bool tp) ∧ Below W.heap.size W w'))
    (KN : Hid (∀ W, Calls Tryd.prog 28 #[.string nm] W fun e w' => e = .returned (.bool tn) ∧ W = w')) :
    Calls Tryd.prog 16 #[.agg #[.slice a1 n1 c1, .int .i64 mn, .slice a2 n2 c2], .int .i64 k, .agg #[.int .u8 23, .int .i64 xa, .int .i64 xb, .int .i64 xc, .slice a4 n4 c4, .slice a5 n5 c5, .int .i64 xi, .string nm, .slice a6 n6 c6]] w fun e w' => e = .returned (.int .i64 (errB (tp && (placeP xa sl) && tb))) ∧ Below w.heap.size w w' := by
  subst ha
  unfold maxLen at hm
  have hk0 : 0 ≤ (k : Int) := by omega
  have hk1 : (k : Int) < (n1 : Int) := by omega
  obtain ⟨R, hR⟩ : ∃ R, R = errB (tp && (placeP xa sl) && tb) := ⟨_, rfl⟩
  rw [← hR]
  have HR := Lib.hid hR
  clear hR
  go_enter Tryd.func16, Tryd.ntmps16
  go_wp2_with fail
  obtain ⟨W0, hW⟩ : ∃ W, W = (w.alloc (.cells #[.slice (some ⟨b, o, none⟩) n1 c1, .int .i64 mn, .slice a2 n2 c2] 25)).alloc (.cells #[.int .u8 23, .int .i64 xa, .int .i64 xb, .int .i64 xc, .slice a4 n4 c4, .slice a5 n5 c5, .int .i64 xi, .string nm, .slice a6 n6 c6] 34) := ⟨_, rfl⟩
  have bel0 : Below w.heap.size w W0 := by rw [hW]; exact box2 _ _ _
  have ov : ∀ (m : Over W0) (p q : Nat) (v : Value), W0.cell? ⟨p, q, none⟩ = some v → m.w.cell? ⟨p, q, none⟩ = some v := fun m p q v h => (m.cells _ _ (World.block_lt_of_cell? W0 _ h)).trans h
  have q2 := fun m => ov m _ _ _ (cell_over g2 bel0)
  have q3 := fun m => ov m _ _ _ (cell_over g3 bel0)
  have u0 := fun m => ov m w.heap.size 0 (.slice (some ⟨b, o, none⟩) n1 c1) (by rw [hW]; go_simp)
  have i0 := fun m => ov m (w.heap.size + 1) 0 (.int .u8 23) (by rw [hW]; go_simp)
  have i1 := fun m => ov m (w.heap.size + 1) 1 (.int .i64 xa) (by rw [hW]; go_simp)
  have i2 := fun m => ov m (w.heap.size + 1) 2 (.int .i64 xb) (by rw [hW]; go_simp)
  have i3 := fun m => ov m (w.heap.size + 1) 3 (.int .i64 xc) (by rw [hW]; go_simp)
  have i4 := fun m => ov m (w.heap.size + 1) 4 (.slice a4 n4 c4) (by rw [hW]; go_simp)
  have i5 := fun m => ov m (w.heap.size + 1) 5 (.slice a5 n5 c5) (by rw [hW]; go_simp)
  have i6 := fun m => ov m (w.heap.size + 1) 6 (.int .i64 xi) (by rw [hW]; go_simp)
  have i7 := fun m => ov m (w.heap.size + 1) 7 (.string nm) (by rw [hW]; go_simp)
  have i8 := fun m => ov m (w.heap.size + 1) 8 (.slice a6 n6 c6) (by rw [hW]; go_simp)
  have z0 : w.heap.size + 1 < W0.heap.size := by rw [hW]; simp
  rw [← hW]
  clear hW ov
  refine wp_region_over (by kernel_rfl) (by kernel_rfl) ?_
  repeat (go_big_quiet_step (fail))
  refine wpQuiet_nil ?_
  rintro _ ⟨m, rfl⟩
  have H0 := Lib.hid (bel0.trans (m.h.mono bel0.size))
  have z1 : w.heap.size + 1 < m.w.heap.size := Nat.lt_of_lt_of_le z0 m.h.size
  have i0 := i0 m
  have i1 := i1 m
  have i2 := i2 m
  have i3 := i3 m
  have i4 := i4 m
  have i5 := i5 m
  have i6 := i6 m
  have i7 := i7 m
  have i8 := i8 m
  have u0 := u0 m
  generalize m.w = w1 at *
  clear q2 q3 bel0 z0 m
  go_upto_region 6 with (fail)
  obtain ⟨W1, hW⟩ : ∃ W, W = w1.alloc (.cells #[.int .u8 23, .int .i64 xa, .int .i64 xb, .int .i64 xc, .slice a4 n4 c4, .slice a5 n5 c5, .int .i64 xi, .string nm, .slice a6 n6 c6] 34) := ⟨_, rfl⟩
  have H1 : Hid (Below w.heap.size w W1) := by rw [hW]; exact hid_upR H0 (box1 _ _)
  have zw : w1.heap.size < W1.heap.size := by rw [hW]; simp
  have u0 := step_of hW u0
  have i0 := step_of hW i0
  have i1 := step_of hW i1
  have i2 := step_of hW i2
  have i3 := step_of hW i3
  have i4 := step_of hW i4
  have i5 := step_of hW i5
  have i6 := step_of hW i6
  have i7 := step_of hW i7
  have i8 := step_of hW i8
  have y0 : W1.cell? ⟨w1.heap.size, 0, none⟩ = some (.int .u8 23) := by rw [hW]; go_simp
  have y1 : W1.cell? ⟨w1.heap.size, 1, none⟩ = some (.int .i64 xa) := by rw [hW]; go_simp
  have y2 : W1.cell? ⟨w1.heap.size, 2, none⟩ = some (.int .i64 xb) := by rw [hW]; go_simp
  have y3 : W1.cell? ⟨w1.heap.size, 3, none⟩ = some (.int .i64 xc) := by rw [hW]; go_simp
  have y4 : W1.cell? ⟨w1.heap.size, 4, none⟩ = some (.slice a4 n4 c4) := by rw [hW]; go_simp
  have y5 : W1.cell? ⟨w1.heap.size, 5, none⟩ = some (.slice a5 n5 c5) := by rw [hW]; go_simp
  have y6 : W1.cell? ⟨w1.heap.size, 6, none⟩ = some (.int .i64 xi) := by rw [hW]; go_simp
  have y7 : W1.cell? ⟨w1.heap.size, 7, none⟩ = some (.string nm) := by rw [hW]; go_simp
  have y8 : W1.cell? ⟨w1.heap.size, 8, none⟩ = some (.slice a6 n6 c6) := by rw [hW]; go_simp
  have fz : ∀ o, W1.frozen? ⟨w1.heap.size, o, none⟩ = false := by rw [hW]; intro o; go_simp
  have z2 : w.heap.size + 1 < W1.heap.size := by omega
  have z3 : w.heap.size < W1.heap.size := by omega
  have J := Lib.hid (Below.refl W1.heap.size W1)
  have zy : w.heap.size ≤ w1.heap.size := by omega
  rw [← hW]
  clear hW H0 z1
  by_cases h1 : 0 ≤ xa
  ·
    by_cases h2 : xa < sl
    ·
      cases tp with
      | false =>
        as_aux_lemma =>
          go_wp2_with fail
          (with_reducible refine (KP.out _ H1).mono ?_)
          rintro e v1 ⟨rfl, b⟩
          have G1 := hid_upR H1 b
          have J1 := hid_upR J b
          have q1 := rule_of J1.out
          have r1 : ∀ b o, b < W1.heap.size → v1.frozen? ⟨b, o, none⟩ = W1.frozen? ⟨b, o, none⟩ := fun b o hb => J1.out.frozen (p := ⟨b, o, none⟩) hb
          have s1 : w1.heap.size < v1.heap.size := Nat.lt_of_lt_of_le zw J1.out.size
          clear b
          go_wp2_with fail
          go_ret
          exact ⟨ret_int (by rw [HR.out]; rfl), (hid_set (hid_set G1 zy) zy).out⟩
      | true =>
        cases tb with
        | false =>
          as_aux_lemma =>
            go_wp2_with fail
            (with_reducible refine (KP.out _ H1).mono ?_)
            rintro e v1 ⟨rfl, b⟩
            have G1 := hid_upR H1 b
            have J1 := hid_upR J b
            have q1 := rule_of J1.out
            have r1 : ∀ b o, b < W1.heap.size → v1.frozen? ⟨b, o, none⟩ = W1.frozen? ⟨b, o, none⟩ := fun b o hb => J1.out.frozen (p := ⟨b, o, none⟩) hb
            have s1 : w1.heap.size < v1.heap.size := Nat.lt_of_lt_of_le zw J1.out.size
            clear b
            go_wp2_with fail
            (with_reducible refine (KB.out _ (hid_set (hid_set G1 zy) zy)).mono ?_)
            rintro e vb ⟨rfl, b⟩
            have GB := hid_upR (hid_set (hid_set G1 zy) zy) b
            clear b
            go_wp2_with fail
            go_ret
            exact ⟨ret_int (by rw [HR.out, show (placeP xa sl) = true from decide_eq_true (by omega)]; first | rfl | (cases tp <;> rfl)), GB.out⟩
        | true =>
          as_aux_lemma =>
            go_wp2_with fail
            (with_reducible refine (KP.out _ H1).mono ?_)
            rintro e v1 ⟨rfl, b⟩
            have G1 := hid_upR H1 b
            have J1 := hid_upR J b
            have q1 := rule_of J1.out
            have r1 : ∀ b o, b < W1.heap.size → v1.frozen? ⟨b, o, none⟩ = W1.frozen? ⟨b, o, none⟩ := fun b o hb => J1.out.frozen (p := ⟨b, o, none⟩) hb
            have s1 : w1.heap.size < v1.heap.size := Nat.lt_of_lt_of_le zw J1.out.size
            clear b
            go_wp2_with fail
            (with_reducible refine (KB.out _ (hid_set (hid_set G1 zy) zy)).mono ?_)
            rintro e vb ⟨rfl, b⟩
            have GB := hid_upR (hid_set (hid_set G1 zy) zy) b
            clear b
            go_wp2_with fail
            go_ret
            exact ⟨ret_int (by rw [HR.out, show (placeP xa sl) = true from decide_eq_true (by omega)]; first | rfl | (cases tp <;> rfl)), GB.out⟩
    ·
      as_aux_lemma =>
        go_wp2_with fail
        go_ret
        exact ⟨ret_int (by rw [HR.out, show (placeP xa sl) = false from decide_eq_false (by omega)]; first | rfl | (cases tp <;> rfl)), (hid_set (hid_set H1 zy) zy).out⟩
  ·
    as_aux_lemma =>
      go_wp2_with fail
      go_ret
      exact ⟨ret_int (by rw [HR.out, show (placeP xa sl) = false from decide_eq_false (by omega)]; first | rfl | (cases tp <;> rfl)), (hid_set (hid_set H1 zy) zy).out⟩

set_option maxRecDepth 100000 in
set_option maxHeartbeats 8000000 in
theorem refPlace_24 (a1 a2 a3 a4 a5 a6 : Option Addr) (n1 n2 n3 n4 n5 n6 c1 c2 c3 c4 c5 c6 : Nat) (mn xa xb xc xi sl : Int) (nm : ByteArray) (k b o : Nat) (tb tp tn : Bool) (w : World) (hk : k < n1) (hm : n1 ≤ maxLen) (ha : a1 = some ⟨b, o, none⟩) (hb : b < w.heap.size)
    (g2 : w.cell? ⟨b, o + k * 4 + 2, none⟩ = some (.int .i64 sl)) (g3 : w.cell? ⟨b, o + k * 4 + 3, none⟩ = some (.slice a3 n3 c3))
    (KB : Hid (∀ W, Hid (Below w.heap.size w W) → Calls Tryd.prog 29 #[.agg #[.int .u8 24, .int .i64 0, .int .i64 xb, .int .i64 xc, .slice a4 n4 c4, .slice none 0 0, .int .i64 xi, .string nm, .slice a6 n6 c6]] W fun e w' => e = .returned (.bool tb) ∧ Below W.heap.size W w'))
    (KP : Hid (∀ W, Hid (Below w.heap.size w W) → Calls Tryd.prog 27 #[.slice a5 n5 c5] W fun e w' => e = .returned (.bool tp) ∧ Below W.heap.size W w'))
    (KN : Hid (∀ W, Calls Tryd.prog 28 #[.string nm] W fun e w' => e = .returned (.bool tn) ∧ W = w')) :
    Calls Tryd.prog 16 #[.agg #[.slice a1 n1 c1, .int .i64 mn, .slice a2 n2 c2], .int .i64 k, .agg #[.int .u8 24, .int .i64 xa, .int .i64 xb, .int .i64 xc, .slice a4 n4 c4, .slice a5 n5 c5, .int .i64 xi, .string nm, .slice a6 n6 c6]] w fun e w' => e = .returned (.int .i64 (errB (tp && (placeP xa sl) && tb))) ∧ Below w.heap.size w w' := by
  subst ha
  unfold maxLen at hm
  have hk0 : 0 ≤ (k : Int) := by omega
  have hk1 : (k : Int) < (n1 : Int) := by omega
  obtain ⟨R, hR⟩ : ∃ R, R = errB (tp && (placeP xa sl) && tb) := ⟨_, rfl⟩
  rw [← hR]
  have HR := Lib.hid hR
  clear hR
  go_enter Tryd.func16, Tryd.ntmps16
  go_wp2_with fail
  obtain ⟨W0, hW⟩ : ∃ W, W = (w.alloc (.cells #[.slice (some ⟨b, o, none⟩) n1 c1, .int .i64 mn, .slice a2 n2 c2] 25)).alloc (.cells #[.int .u8 24, .int .i64 xa, .int .i64 xb, .int .i64 xc, .slice a4 n4 c4, .slice a5 n5 c5, .int .i64 xi, .string nm, .slice a6 n6 c6] 34) := ⟨_, rfl⟩
  have bel0 : Below w.heap.size w W0 := by rw [hW]; exact box2 _ _ _
  have ov : ∀ (m : Over W0) (p q : Nat) (v : Value), W0.cell? ⟨p, q, none⟩ = some v → m.w.cell? ⟨p, q, none⟩ = some v := fun m p q v h => (m.cells _ _ (World.block_lt_of_cell? W0 _ h)).trans h
  have q2 := fun m => ov m _ _ _ (cell_over g2 bel0)
  have q3 := fun m => ov m _ _ _ (cell_over g3 bel0)
  have u0 := fun m => ov m w.heap.size 0 (.slice (some ⟨b, o, none⟩) n1 c1) (by rw [hW]; go_simp)
  have i0 := fun m => ov m (w.heap.size + 1) 0 (.int .u8 24) (by rw [hW]; go_simp)
  have i1 := fun m => ov m (w.heap.size + 1) 1 (.int .i64 xa) (by rw [hW]; go_simp)
  have i2 := fun m => ov m (w.heap.size + 1) 2 (.int .i64 xb) (by rw [hW]; go_simp)
  have i3 := fun m => ov m (w.heap.size + 1) 3 (.int .i64 xc) (by rw [hW]; go_simp)
  have i4 := fun m => ov m (w.heap.size + 1) 4 (.slice a4 n4 c4) (by rw [hW]; go_simp)
  have i5 := fun m => ov m (w.heap.size + 1) 5 (.slice a5 n5 c5) (by rw [hW]; go_simp)
  have i6 := fun m => ov m (w.heap.size + 1) 6 (.int .i64 xi) (by rw [hW]; go_simp)
  have i7 := fun m => ov m (w.heap.size + 1) 7 (.string nm) (by rw [hW]; go_simp)
  have i8 := fun m => ov m (w.heap.size + 1) 8 (.slice a6 n6 c6) (by rw [hW]; go_simp)
  have z0 : w.heap.size + 1 < W0.heap.size := by rw [hW]; simp
  rw [← hW]
  clear hW ov
  refine wp_region_over (by kernel_rfl) (by kernel_rfl) ?_
  repeat (go_big_quiet_step (fail))
  refine wpQuiet_nil ?_
  rintro _ ⟨m, rfl⟩
  have H0 := Lib.hid (bel0.trans (m.h.mono bel0.size))
  have z1 : w.heap.size + 1 < m.w.heap.size := Nat.lt_of_lt_of_le z0 m.h.size
  have i0 := i0 m
  have i1 := i1 m
  have i2 := i2 m
  have i3 := i3 m
  have i4 := i4 m
  have i5 := i5 m
  have i6 := i6 m
  have i7 := i7 m
  have i8 := i8 m
  have u0 := u0 m
  generalize m.w = w1 at *
  clear q2 q3 bel0 z0 m
  go_upto_region 6 with (fail)
  obtain ⟨W1, hW⟩ : ∃ W, W = w1.alloc (.cells #[.int .u8 24, .int .i64 xa, .int .i64 xb, .int .i64 xc, .slice a4 n4 c4, .slice a5 n5 c5, .int .i64 xi, .string nm, .slice a6 n6 c6] 34) := ⟨_, rfl⟩
  have H1 : Hid (Below w.heap.size w W1) := by rw [hW]; exact hid_upR H0 (box1 _ _)
  have zw : w1.heap.size < W1.heap.size := by rw [hW]; simp
  have u0 := step_of hW u0
  have i0 := step_of hW i0
  have i1 := step_of hW i1
  have i2 := step_of hW i2
  have i3 := step_of hW i3
  have i4 := step_of hW i4
  have i5 := step_of hW i5
  have i6 := step_of hW i6
  have i7 := step_of hW i7
  have i8 := step_of hW i8
  have y0 : W1.cell? ⟨w1.heap.size, 0, none⟩ = some (.int .u8 24) := by rw [hW]; go_simp
  have y1 : W1.cell? ⟨w1.heap.size, 1, none⟩ = some (.int .i64 xa) := by rw [hW]; go_simp
  have y2 : W1.cell? ⟨w1.heap.size, 2, none⟩ = some (.int .i64 xb) := by rw [hW]; go_simp
  have y3 : W1.cell? ⟨w1.heap.size, 3, none⟩ = some (.int .i64 xc) := by rw [hW]; go_simp
  have y4 : W1.cell? ⟨w1.heap.size, 4, none⟩ = some (.slice a4 n4 c4) := by rw [hW]; go_simp
  have y5 : W1.cell? ⟨w1.heap.size, 5, none⟩ = some (.slice a5 n5 c5) := by rw [hW]; go_simp
  have y6 : W1.cell? ⟨w1.heap.size, 6, none⟩ = some (.int .i64 xi) := by rw [hW]; go_simp
  have y7 : W1.cell? ⟨w1.heap.size, 7, none⟩ = some (.string nm) := by rw [hW]; go_simp
  have y8 : W1.cell? ⟨w1.heap.size, 8, none⟩ = some (.slice a6 n6 c6) := by rw [hW]; go_simp
  have fz : ∀ o, W1.frozen? ⟨w1.heap.size, o, none⟩ = false := by rw [hW]; intro o; go_simp
  have z2 : w.heap.size + 1 < W1.heap.size := by omega
  have z3 : w.heap.size < W1.heap.size := by omega
  have J := Lib.hid (Below.refl W1.heap.size W1)
  have zy : w.heap.size ≤ w1.heap.size := by omega
  rw [← hW]
  clear hW H0 z1
  by_cases h1 : 0 ≤ xa
  ·
    by_cases h2 : xa < sl
    ·
      cases tp with
      | false =>
        as_aux_lemma =>
          go_wp2_with fail
          (with_reducible refine (KP.out _ H1).mono ?_)
          rintro e v1 ⟨rfl, b⟩
          have G1 := hid_upR H1 b
          have J1 := hid_upR J b
          have q1 := rule_of J1.out
          have r1 : ∀ b o, b < W1.heap.size → v1.frozen? ⟨b, o, none⟩ = W1.frozen? ⟨b, o, none⟩ := fun b o hb => J1.out.frozen (p := ⟨b, o, none⟩) hb
          have s1 : w1.heap.size < v1.heap.size := Nat.lt_of_lt_of_le zw J1.out.size
          clear b
          go_wp2_with fail
          go_ret
          exact ⟨ret_int (by rw [HR.out]; rfl), (hid_set (hid_set G1 zy) zy).out⟩
      | true =>
        cases tb with
        | false =>
          as_aux_lemma =>
            go_wp2_with fail
            (with_reducible refine (KP.out _ H1).mono ?_)
            rintro e v1 ⟨rfl, b⟩
            have G1 := hid_upR H1 b
            have J1 := hid_upR J b
            have q1 := rule_of J1.out
            have r1 : ∀ b o, b < W1.heap.size → v1.frozen? ⟨b, o, none⟩ = W1.frozen? ⟨b, o, none⟩ := fun b o hb => J1.out.frozen (p := ⟨b, o, none⟩) hb
            have s1 : w1.heap.size < v1.heap.size := Nat.lt_of_lt_of_le zw J1.out.size
            clear b
            go_wp2_with fail
            (with_reducible refine (KB.out _ (hid_set (hid_set G1 zy) zy)).mono ?_)
            rintro e vb ⟨rfl, b⟩
            have GB := hid_upR (hid_set (hid_set G1 zy) zy) b
            clear b
            go_wp2_with fail
            go_ret
            exact ⟨ret_int (by rw [HR.out, show (placeP xa sl) = true from decide_eq_true (by omega)]; first | rfl | (cases tp <;> rfl)), GB.out⟩
        | true =>
          as_aux_lemma =>
            go_wp2_with fail
            (with_reducible refine (KP.out _ H1).mono ?_)
            rintro e v1 ⟨rfl, b⟩
            have G1 := hid_upR H1 b
            have J1 := hid_upR J b
            have q1 := rule_of J1.out
            have r1 : ∀ b o, b < W1.heap.size → v1.frozen? ⟨b, o, none⟩ = W1.frozen? ⟨b, o, none⟩ := fun b o hb => J1.out.frozen (p := ⟨b, o, none⟩) hb
            have s1 : w1.heap.size < v1.heap.size := Nat.lt_of_lt_of_le zw J1.out.size
            clear b
            go_wp2_with fail
            (with_reducible refine (KB.out _ (hid_set (hid_set G1 zy) zy)).mono ?_)
            rintro e vb ⟨rfl, b⟩
            have GB := hid_upR (hid_set (hid_set G1 zy) zy) b
            clear b
            go_wp2_with fail
            go_ret
            exact ⟨ret_int (by rw [HR.out, show (placeP xa sl) = true from decide_eq_true (by omega)]; first | rfl | (cases tp <;> rfl)), GB.out⟩
    ·
      as_aux_lemma =>
        go_wp2_with fail
        go_ret
        exact ⟨ret_int (by rw [HR.out, show (placeP xa sl) = false from decide_eq_false (by omega)]; first | rfl | (cases tp <;> rfl)), (hid_set (hid_set H1 zy) zy).out⟩
  ·
    as_aux_lemma =>
      go_wp2_with fail
      go_ret
      exact ⟨ret_int (by rw [HR.out, show (placeP xa sl) = false from decide_eq_false (by omega)]; first | rfl | (cases tp <;> rfl)), (hid_set (hid_set H1 zy) zy).out⟩

set_option maxRecDepth 100000 in
set_option maxHeartbeats 8000000 in
theorem refPlace_25 (a1 a2 a3 a4 a5 a6 : Option Addr) (n1 n2 n3 n4 n5 n6 c1 c2 c3 c4 c5 c6 : Nat) (mn xa xb xc xi sl : Int) (nm : ByteArray) (k b o : Nat) (tb tp tn : Bool) (w : World) (hk : k < n1) (hm : n1 ≤ maxLen) (ha : a1 = some ⟨b, o, none⟩) (hb : b < w.heap.size)
    (g2 : w.cell? ⟨b, o + k * 4 + 2, none⟩ = some (.int .i64 sl)) (g3 : w.cell? ⟨b, o + k * 4 + 3, none⟩ = some (.slice a3 n3 c3))
    (KB : Hid (∀ W, Hid (Below w.heap.size w W) → Calls Tryd.prog 29 #[.agg #[.int .u8 25, .int .i64 0, .int .i64 xb, .int .i64 xc, .slice a4 n4 c4, .slice none 0 0, .int .i64 xi, .string nm, .slice a6 n6 c6]] W fun e w' => e = .returned (.bool tb) ∧ Below W.heap.size W w'))
    (KP : Hid (∀ W, Hid (Below w.heap.size w W) → Calls Tryd.prog 27 #[.slice a5 n5 c5] W fun e w' => e = .returned (.bool tp) ∧ Below W.heap.size W w'))
    (KN : Hid (∀ W, Calls Tryd.prog 28 #[.string nm] W fun e w' => e = .returned (.bool tn) ∧ W = w')) :
    Calls Tryd.prog 16 #[.agg #[.slice a1 n1 c1, .int .i64 mn, .slice a2 n2 c2], .int .i64 k, .agg #[.int .u8 25, .int .i64 xa, .int .i64 xb, .int .i64 xc, .slice a4 n4 c4, .slice a5 n5 c5, .int .i64 xi, .string nm, .slice a6 n6 c6]] w fun e w' => e = .returned (.int .i64 (errB (tp && (placeP xa sl) && tb))) ∧ Below w.heap.size w w' := by
  subst ha
  unfold maxLen at hm
  have hk0 : 0 ≤ (k : Int) := by omega
  have hk1 : (k : Int) < (n1 : Int) := by omega
  obtain ⟨R, hR⟩ : ∃ R, R = errB (tp && (placeP xa sl) && tb) := ⟨_, rfl⟩
  rw [← hR]
  have HR := Lib.hid hR
  clear hR
  go_enter Tryd.func16, Tryd.ntmps16
  go_wp2_with fail
  obtain ⟨W0, hW⟩ : ∃ W, W = (w.alloc (.cells #[.slice (some ⟨b, o, none⟩) n1 c1, .int .i64 mn, .slice a2 n2 c2] 25)).alloc (.cells #[.int .u8 25, .int .i64 xa, .int .i64 xb, .int .i64 xc, .slice a4 n4 c4, .slice a5 n5 c5, .int .i64 xi, .string nm, .slice a6 n6 c6] 34) := ⟨_, rfl⟩
  have bel0 : Below w.heap.size w W0 := by rw [hW]; exact box2 _ _ _
  have ov : ∀ (m : Over W0) (p q : Nat) (v : Value), W0.cell? ⟨p, q, none⟩ = some v → m.w.cell? ⟨p, q, none⟩ = some v := fun m p q v h => (m.cells _ _ (World.block_lt_of_cell? W0 _ h)).trans h
  have q2 := fun m => ov m _ _ _ (cell_over g2 bel0)
  have q3 := fun m => ov m _ _ _ (cell_over g3 bel0)
  have u0 := fun m => ov m w.heap.size 0 (.slice (some ⟨b, o, none⟩) n1 c1) (by rw [hW]; go_simp)
  have i0 := fun m => ov m (w.heap.size + 1) 0 (.int .u8 25) (by rw [hW]; go_simp)
  have i1 := fun m => ov m (w.heap.size + 1) 1 (.int .i64 xa) (by rw [hW]; go_simp)
  have i2 := fun m => ov m (w.heap.size + 1) 2 (.int .i64 xb) (by rw [hW]; go_simp)
  have i3 := fun m => ov m (w.heap.size + 1) 3 (.int .i64 xc) (by rw [hW]; go_simp)
  have i4 := fun m => ov m (w.heap.size + 1) 4 (.slice a4 n4 c4) (by rw [hW]; go_simp)
  have i5 := fun m => ov m (w.heap.size + 1) 5 (.slice a5 n5 c5) (by rw [hW]; go_simp)
  have i6 := fun m => ov m (w.heap.size + 1) 6 (.int .i64 xi) (by rw [hW]; go_simp)
  have i7 := fun m => ov m (w.heap.size + 1) 7 (.string nm) (by rw [hW]; go_simp)
  have i8 := fun m => ov m (w.heap.size + 1) 8 (.slice a6 n6 c6) (by rw [hW]; go_simp)
  have z0 : w.heap.size + 1 < W0.heap.size := by rw [hW]; simp
  rw [← hW]
  clear hW ov
  refine wp_region_over (by kernel_rfl) (by kernel_rfl) ?_
  repeat (go_big_quiet_step (fail))
  refine wpQuiet_nil ?_
  rintro _ ⟨m, rfl⟩
  have H0 := Lib.hid (bel0.trans (m.h.mono bel0.size))
  have z1 : w.heap.size + 1 < m.w.heap.size := Nat.lt_of_lt_of_le z0 m.h.size
  have i0 := i0 m
  have i1 := i1 m
  have i2 := i2 m
  have i3 := i3 m
  have i4 := i4 m
  have i5 := i5 m
  have i6 := i6 m
  have i7 := i7 m
  have i8 := i8 m
  have u0 := u0 m
  generalize m.w = w1 at *
  clear q2 q3 bel0 z0 m
  go_upto_region 6 with (fail)
  obtain ⟨W1, hW⟩ : ∃ W, W = w1.alloc (.cells #[.int .u8 25, .int .i64 xa, .int .i64 xb, .int .i64 xc, .slice a4 n4 c4, .slice a5 n5 c5, .int .i64 xi, .string nm, .slice a6 n6 c6] 34) := ⟨_, rfl⟩
  have H1 : Hid (Below w.heap.size w W1) := by rw [hW]; exact hid_upR H0 (box1 _ _)
  have zw : w1.heap.size < W1.heap.size := by rw [hW]; simp
  have u0 := step_of hW u0
  have i0 := step_of hW i0
  have i1 := step_of hW i1
  have i2 := step_of hW i2
  have i3 := step_of hW i3
  have i4 := step_of hW i4
  have i5 := step_of hW i5
  have i6 := step_of hW i6
  have i7 := step_of hW i7
  have i8 := step_of hW i8
  have y0 : W1.cell? ⟨w1.heap.size, 0, none⟩ = some (.int .u8 25) := by rw [hW]; go_simp
  have y1 : W1.cell? ⟨w1.heap.size, 1, none⟩ = some (.int .i64 xa) := by rw [hW]; go_simp
  have y2 : W1.cell? ⟨w1.heap.size, 2, none⟩ = some (.int .i64 xb) := by rw [hW]; go_simp
  have y3 : W1.cell? ⟨w1.heap.size, 3, none⟩ = some (.int .i64 xc) := by rw [hW]; go_simp
  have y4 : W1.cell? ⟨w1.heap.size, 4, none⟩ = some (.slice a4 n4 c4) := by rw [hW]; go_simp
  have y5 : W1.cell? ⟨w1.heap.size, 5, none⟩ = some (.slice a5 n5 c5) := by rw [hW]; go_simp
  have y6 : W1.cell? ⟨w1.heap.size, 6, none⟩ = some (.int .i64 xi) := by rw [hW]; go_simp
  have y7 : W1.cell? ⟨w1.heap.size, 7, none⟩ = some (.string nm) := by rw [hW]; go_simp
  have y8 : W1.cell? ⟨w1.heap.size, 8, none⟩ = some (.slice a6 n6 c6) := by rw [hW]; go_simp
  have fz : ∀ o, W1.frozen? ⟨w1.heap.size, o, none⟩ = false := by rw [hW]; intro o; go_simp
  have z2 : w.heap.size + 1 < W1.heap.size := by omega
  have z3 : w.heap.size < W1.heap.size := by omega
  have J := Lib.hid (Below.refl W1.heap.size W1)
  have zy : w.heap.size ≤ w1.heap.size := by omega
  rw [← hW]
  clear hW H0 z1
  by_cases h1 : 0 ≤ xa
  ·
    by_cases h2 : xa < sl
    ·
      cases tp with
      | false =>
        as_aux_lemma =>
          go_wp2_with fail
          (with_reducible refine (KP.out _ H1).mono ?_)
          rintro e v1 ⟨rfl, b⟩
          have G1 := hid_upR H1 b
          have J1 := hid_upR J b
          have q1 := rule_of J1.out
          have r1 : ∀ b o, b < W1.heap.size → v1.frozen? ⟨b, o, none⟩ = W1.frozen? ⟨b, o, none⟩ := fun b o hb => J1.out.frozen (p := ⟨b, o, none⟩) hb
          have s1 : w1.heap.size < v1.heap.size := Nat.lt_of_lt_of_le zw J1.out.size
          clear b
          go_wp2_with fail
          go_ret
          exact ⟨ret_int (by rw [HR.out]; rfl), (hid_set (hid_set G1 zy) zy).out⟩
      | true =>
        cases tb with
        | false =>
          as_aux_lemma =>
            go_wp2_with fail
            (with_reducible refine (KP.out _ H1).mono ?_)
            rintro e v1 ⟨rfl, b⟩
            have G1 := hid_upR H1 b
            have J1 := hid_upR J b
            have q1 := rule_of J1.out
            have r1 : ∀ b o, b < W1.heap.size → v1.frozen? ⟨b, o, none⟩ = W1.frozen? ⟨b, o, none⟩ := fun b o hb => J1.out.frozen (p := ⟨b, o, none⟩) hb
            have s1 : w1.heap.size < v1.heap.size := Nat.lt_of_lt_of_le zw J1.out.size
            clear b
            go_wp2_with fail
            (with_reducible refine (KB.out _ (hid_set (hid_set G1 zy) zy)).mono ?_)
            rintro e vb ⟨rfl, b⟩
            have GB := hid_upR (hid_set (hid_set G1 zy) zy) b
            clear b
            go_wp2_with fail
            go_ret
            exact ⟨ret_int (by rw [HR.out, show (placeP xa sl) = true from decide_eq_true (by omega)]; first | rfl | (cases tp <;> rfl)), GB.out⟩
        | true =>
          as_aux_lemma =>
            go_wp2_with fail
            (with_reducible refine (KP.out _ H1).mono ?_)
            rintro e v1 ⟨rfl, b⟩
            have G1 := hid_upR H1 b
            have J1 := hid_upR J b
            have q1 := rule_of J1.out
            have r1 : ∀ b o, b < W1.heap.size → v1.frozen? ⟨b, o, none⟩ = W1.frozen? ⟨b, o, none⟩ := fun b o hb => J1.out.frozen (p := ⟨b, o, none⟩) hb
            have s1 : w1.heap.size < v1.heap.size := Nat.lt_of_lt_of_le zw J1.out.size
            clear b
            go_wp2_with fail
            (with_reducible refine (KB.out _ (hid_set (hid_set G1 zy) zy)).mono ?_)
            rintro e vb ⟨rfl, b⟩
            have GB := hid_upR (hid_set (hid_set G1 zy) zy) b
            clear b
            go_wp2_with fail
            go_ret
            exact ⟨ret_int (by rw [HR.out, show (placeP xa sl) = true from decide_eq_true (by omega)]; first | rfl | (cases tp <;> rfl)), GB.out⟩
    ·
      as_aux_lemma =>
        go_wp2_with fail
        go_ret
        exact ⟨ret_int (by rw [HR.out, show (placeP xa sl) = false from decide_eq_false (by omega)]; first | rfl | (cases tp <;> rfl)), (hid_set (hid_set H1 zy) zy).out⟩
  ·
    as_aux_lemma =>
      go_wp2_with fail
      go_ret
      exact ⟨ret_int (by rw [HR.out, show (placeP xa sl) = false from decide_eq_false (by omega)]; first | rfl | (cases tp <;> rfl)), (hid_set (hid_set H1 zy) zy).out⟩

end Go.Proofs.YtlbdoomknjiilaaDoor
