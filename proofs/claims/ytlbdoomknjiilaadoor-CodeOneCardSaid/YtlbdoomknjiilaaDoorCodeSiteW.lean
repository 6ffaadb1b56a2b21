/- Code: the walk of site.may, over the contracts of what it calls (made by gen_codesite.py). -/
import Derived.Test.YtlbdoomknjiilaaDoorCodeSite
import Derived.Deep.Cut
import Derived.Deep.CutRange
import Derived.Outline
namespace Go.Proofs.YtlbdoomknjiilaaDoor
open Go.RowKit
set_option linter.unusedVariables false

theorem hid_upC {w W W' : World} (h : Hid (Below w.heap.size w W)) (b : Below W.heap.size W W') : Hid (Below w.heap.size w W') := Lib.hid (h.out.trans (b.mono h.out.size))
theorem step_of {w1 W1 : World} {ob : Obj} {b o : Nat} {v : Value} (hW : W1 = w1.alloc ob) (h : w1.cell? ⟨b, o, none⟩ = some v) : W1.cell? ⟨b, o, none⟩ = some v := by rw [hW]; exact cell_over h (box1 _ _)
theorem rule_of {W1 W : World} (h : Below W1.heap.size W1 W) : ∀ b o, b < W1.heap.size → W.cell? ⟨b, o, none⟩ = W1.cell? ⟨b, o, none⟩ := fun b o hb => h.cell (p := ⟨b, o, none⟩) hb

set_option maxRecDepth 100000 in
set_option maxHeartbeats 4000000 in
theorem site0_walk (a1 a2 a3 a4 a5 a6 : Option Addr) (n1 n2 n3 n4 n5 n6 c1 c2 c3 c4 c5 c6 : Nat) (mn pa sl : Int) (fn nm S : ByteArray) (op xa xb xc xi ra rb ri : Int) (rp rs rn t0 t1 t2 t3 t4 t5 t6 t7 t8 : Bool) (w : World)
    (R1 : Hid (∀ W, Hid (Below w.heap.size w W) → Calls Tryd.prog 39 #[.int .u8 op] W fun e w' => e = .returned (.agg #[.string S, .int .u8 ra, .int .u8 rb, .int .u8 ri, .bool rp, .bool rs, .bool rn]) ∧ Below W.heap.size W w'))
    (K0 : Hid (∀ W, Hid (Below w.heap.size w W) → Calls Tryd.prog 40 #[.agg #[.string S, .int .u8 ra, .int .u8 rb, .int .u8 ri, .bool rp, .bool rs, .bool rn]] W fun e w' => e = .returned (.bool t0) ∧ Below W.heap.size W w'))
    (K1 : Hid (∀ W, Hid (Below w.heap.size w W) → Calls Tryd.prog 49 #[.agg #[.slice a1 n1 c1, .int .i64 mn, .slice a2 n2 c2, .string fn, .int .i64 pa, .int .i64 sl, .slice a3 n3 c3], .int .u8 ra, .int .i64 xa, .agg #[.int .u8 op, .int .i64 xa, .int .i64 xb, .int .i64 xc, .slice a4 n4 c4, .slice a5 n5 c5, .int .i64 xi, .string nm, .slice a6 n6 c6]] W fun e w' => e = .returned (.bool t1) ∧ Below W.heap.size W w'))
    (K2 : t1 = true → Hid (∀ W, Hid (Below w.heap.size w W) → Calls Tryd.prog 49 #[.agg #[.slice a1 n1 c1, .int .i64 mn, .slice a2 n2 c2, .string fn, .int .i64 pa, .int .i64 sl, .slice a3 n3 c3], .int .u8 rb, .int .i64 xb, .agg #[.int .u8 op, .int .i64 xa, .int .i64 xb, .int .i64 xc, .slice a4 n4 c4, .slice a5 n5 c5, .int .i64 xi, .string nm, .slice a6 n6 c6]] W fun e w' => e = .returned (.bool t2) ∧ Below W.heap.size W w'))
    (K3 : Hid (∀ W, Hid (Below w.heap.size w W) → Calls Tryd.prog 49 #[.agg #[.slice a1 n1 c1, .int .i64 mn, .slice a2 n2 c2, .string fn, .int .i64 pa, .int .i64 sl, .slice a3 n3 c3], .int .u8 ri, .int .i64 xi, .agg #[.int .u8 op, .int .i64 xa, .int .i64 xb, .int .i64 xc, .slice a4 n4 c4, .slice a5 n5 c5, .int .i64 xi, .string nm, .slice a6 n6 c6]] W fun e w' => e = .returned (.bool t3) ∧ Below W.heap.size W w'))
    (K6 : Hid (∀ W, Hid (Below w.heap.size w W) → Calls Tryd.prog 50 #[.agg #[.string S, .int .u8 ra, .int .u8 rb, .int .u8 ri, .bool rp, .bool rs, .bool rn], .slice a5 n5 c5] W fun e w' => e = .returned (.bool t6) ∧ Below W.heap.size W w'))
    (K7 : Hid (∀ W, Hid (Below w.heap.size w W) → Calls Tryd.prog 51 #[.agg #[.slice a1 n1 c1, .int .i64 mn, .slice a2 n2 c2, .string fn, .int .i64 pa, .int .i64 sl, .slice a3 n3 c3], .agg #[.string S, .int .u8 ra, .int .u8 rb, .int .u8 ri, .bool rp, .bool rs, .bool rn], .slice a4 n4 c4] W fun e w' => e = .returned (.bool t7) ∧ Below W.heap.size W w'))
    (K8 : Hid (∀ W, Hid (Below w.heap.size w W) → Calls Tryd.prog 52 #[.agg #[.string S, .int .u8 ra, .int .u8 rb, .int .u8 ri, .bool rp, .bool rs, .bool rn], .string nm] W fun e w' => e = .returned (.bool t8) ∧ Below W.heap.size W w'))
    (h4 : (xc == 0) = t4) (h5 : ((n6 : Int) == 0) = t5) :
    Calls Tryd.prog 26 #[.agg #[.slice a1 n1 c1, .int .i64 mn, .slice a2 n2 c2, .string fn, .int .i64 pa, .int .i64 sl, .slice a3 n3 c3], .agg #[.int .u8 op, .int .i64 xa, .int .i64 xb, .int .i64 xc, .slice a4 n4 c4, .slice a5 n5 c5, .int .i64 xi, .string nm, .slice a6 n6 c6]] w fun e w' => e = .returned (.bool (t0 && (t1 && (t2 && (t3 && (t4 && (t5 && (t6 && (t7 && t8))))))))) ∧ Below w.heap.size w w' := by
  have mB := Lib.hid (box2 w (.cells #[.slice a1 n1 c1, .int .i64 mn, .slice a2 n2 c2, .string fn, .int .i64 pa, .int .i64 sl, .slice a3 n3 c3] 65) (.cells #[.int .u8 op, .int .i64 xa, .int .i64 xb, .int .i64 xc, .slice a4 n4 c4, .slice a5 n5 c5, .int .i64 xi, .string nm, .slice a6 n6 c6] 34))
  go_enter Tryd.func26, Tryd.ntmps26
  go_wp2_with fail
  (with_reducible refine (R1.out _ mB).mono ?_)
  rintro e w1 ⟨rfl, b1⟩
  have H1 := hid_upC mB b1
  have s0 := (b1.cell (p := ⟨w.heap.size, 0, none⟩) (by simp; omega)).trans (show _ = some (Value.slice a1 n1 c1) by go_simp)
  have s1 := (b1.cell (p := ⟨w.heap.size, 1, none⟩) (by simp; omega)).trans (show _ = some (Value.int .i64 mn) by go_simp)
  have s2 := (b1.cell (p := ⟨w.heap.size, 2, none⟩) (by simp; omega)).trans (show _ = some (Value.slice a2 n2 c2) by go_simp)
  have s3 := (b1.cell (p := ⟨w.heap.size, 3, none⟩) (by simp; omega)).trans (show _ = some (Value.string fn) by go_simp)
  have s4 := (b1.cell (p := ⟨w.heap.size, 4, none⟩) (by simp; omega)).trans (show _ = some (Value.int .i64 pa) by go_simp)
  have s5 := (b1.cell (p := ⟨w.heap.size, 5, none⟩) (by simp; omega)).trans (show _ = some (Value.int .i64 sl) by go_simp)
  have s6 := (b1.cell (p := ⟨w.heap.size, 6, none⟩) (by simp; omega)).trans (show _ = some (Value.slice a3 n3 c3) by go_simp)
  have i0 := (b1.cell (p := ⟨w.heap.size + 1, 0, none⟩) (by simp)).trans (show _ = some (Value.int .u8 op) by go_simp)
  have i1 := (b1.cell (p := ⟨w.heap.size + 1, 1, none⟩) (by simp)).trans (show _ = some (Value.int .i64 xa) by go_simp)
  have i2 := (b1.cell (p := ⟨w.heap.size + 1, 2, none⟩) (by simp)).trans (show _ = some (Value.int .i64 xb) by go_simp)
  have i3 := (b1.cell (p := ⟨w.heap.size + 1, 3, none⟩) (by simp)).trans (show _ = some (Value.int .i64 xc) by go_simp)
  have i4 := (b1.cell (p := ⟨w.heap.size + 1, 4, none⟩) (by simp)).trans (show _ = some (Value.slice a4 n4 c4) by go_simp)
  have i5 := (b1.cell (p := ⟨w.heap.size + 1, 5, none⟩) (by simp)).trans (show _ = some (Value.slice a5 n5 c5) by go_simp)
  have i6 := (b1.cell (p := ⟨w.heap.size + 1, 6, none⟩) (by simp)).trans (show _ = some (Value.int .i64 xi) by go_simp)
  have i7 := (b1.cell (p := ⟨w.heap.size + 1, 7, none⟩) (by simp)).trans (show _ = some (Value.string nm) by go_simp)
  have i8 := (b1.cell (p := ⟨w.heap.size + 1, 8, none⟩) (by simp)).trans (show _ = some (Value.slice a6 n6 c6) by go_simp)
  have z1 : w.heap.size + 1 < w1.heap.size := Nat.lt_of_lt_of_le (by simp) b1.size
  have z0 : w.heap.size < w1.heap.size := by omega
  clear b1 R1 mB
  go_upto_region 2 with (fail)
  obtain ⟨W1, hW⟩ : ∃ W, W = w1.alloc (.cells #[.string S, .int .u8 ra, .int .u8 rb, .int .u8 ri, .bool rp, .bool rs, .bool rn] 79) := ⟨_, rfl⟩
  have H2 : Hid (Below w.heap.size w W1) := by rw [hW]; exact hid_upC H1 (box1 _ _)
  have zw : w1.heap.size < W1.heap.size := by rw [hW]; simp
  have s0 := step_of hW s0
  have s1 := step_of hW s1
  have s2 := step_of hW s2
  have s3 := step_of hW s3
  have s4 := step_of hW s4
  have s5 := step_of hW s5
  have s6 := step_of hW s6
  have i0 := step_of hW i0
  have i1 := step_of hW i1
  have i2 := step_of hW i2
  have i3 := step_of hW i3
  have i4 := step_of hW i4
  have i5 := step_of hW i5
  have i6 := step_of hW i6
  have i7 := step_of hW i7
  have i8 := step_of hW i8
  have r0 : W1.cell? ⟨w1.heap.size, 0, none⟩ = some (Value.string S) := by rw [hW]; go_simp
  have r1 : W1.cell? ⟨w1.heap.size, 1, none⟩ = some (Value.int .u8 ra) := by rw [hW]; go_simp
  have r2 : W1.cell? ⟨w1.heap.size, 2, none⟩ = some (Value.int .u8 rb) := by rw [hW]; go_simp
  have r3 : W1.cell? ⟨w1.heap.size, 3, none⟩ = some (Value.int .u8 ri) := by rw [hW]; go_simp
  have r4 : W1.cell? ⟨w1.heap.size, 4, none⟩ = some (Value.bool rp) := by rw [hW]; go_simp
  have r5 : W1.cell? ⟨w1.heap.size, 5, none⟩ = some (Value.bool rs) := by rw [hW]; go_simp
  have r6 : W1.cell? ⟨w1.heap.size, 6, none⟩ = some (Value.bool rn) := by rw [hW]; go_simp
  have z2 : w.heap.size + 1 < W1.heap.size := by omega
  have z3 : w.heap.size < W1.heap.size := by omega
  have J := Lib.hid (Below.refl W1.heap.size W1)
  rw [← hW]
  clear hW H1 z0 z1
  cases t0 with
  | false =>
    go_wp2_with fail
    (with_reducible refine (K0.out _ H2).mono ?_)
    rintro e v1 ⟨rfl, b⟩
    have G1 := hid_upC H2 b
    have J1 := hid_upC J b
    have q1 := rule_of J1.out
    clear b
    go_wp2_with fail
    go_ret
    exact ⟨rfl, G1.out⟩
  | true =>
    cases t1 with
    | false =>
      go_wp2_with fail
      (with_reducible refine (K0.out _ H2).mono ?_)
      rintro e v1 ⟨rfl, b⟩
      have G1 := hid_upC H2 b
      have J1 := hid_upC J b
      have q1 := rule_of J1.out
      clear b
      go_wp2_with fail
      (with_reducible refine (K1.out _ G1).mono ?_)
      rintro e v2 ⟨rfl, b⟩
      have G2 := hid_upC G1 b
      have J2 := hid_upC J1 b
      have q2 := rule_of J2.out
      clear b
      go_wp2_with fail
      go_ret
      exact ⟨rfl, G2.out⟩
    | true =>
      replace K2 := K2 rfl
      cases t2 with
      | false =>
        go_wp2_with fail
        (with_reducible refine (K0.out _ H2).mono ?_)
        rintro e v1 ⟨rfl, b⟩
        have G1 := hid_upC H2 b
        have J1 := hid_upC J b
        have q1 := rule_of J1.out
        clear b
        go_wp2_with fail
        (with_reducible refine (K1.out _ G1).mono ?_)
        rintro e v2 ⟨rfl, b⟩
        have G2 := hid_upC G1 b
        have J2 := hid_upC J1 b
        have q2 := rule_of J2.out
        clear b
        go_wp2_with fail
        (with_reducible refine (K2.out _ G2).mono ?_)
        rintro e v3 ⟨rfl, b⟩
        have G3 := hid_upC G2 b
        have J3 := hid_upC J2 b
        have q3 := rule_of J3.out
        clear b
        go_wp2_with fail
        go_ret
        exact ⟨rfl, G3.out⟩
      | true =>
        cases t3 with
        | false =>
          go_wp2_with fail
          (with_reducible refine (K0.out _ H2).mono ?_)
          rintro e v1 ⟨rfl, b⟩
          have G1 := hid_upC H2 b
          have J1 := hid_upC J b
          have q1 := rule_of J1.out
          clear b
          go_wp2_with fail
          (with_reducible refine (K1.out _ G1).mono ?_)
          rintro e v2 ⟨rfl, b⟩
          have G2 := hid_upC G1 b
          have J2 := hid_upC J1 b
          have q2 := rule_of J2.out
          clear b
          go_wp2_with fail
          (with_reducible refine (K2.out _ G2).mono ?_)
          rintro e v3 ⟨rfl, b⟩
          have G3 := hid_upC G2 b
          have J3 := hid_upC J2 b
          have q3 := rule_of J3.out
          clear b
          go_wp2_with fail
          (with_reducible refine (K3.out _ G3).mono ?_)
          rintro e v4 ⟨rfl, b⟩
          have G4 := hid_upC G3 b
          have J4 := hid_upC J3 b
          have q4 := rule_of J4.out
          clear b
          go_wp2_with fail
          go_ret
          exact ⟨rfl, G4.out⟩
        | true =>
          cases t4 with
          | false =>
            go_wp2_with fail
            (with_reducible refine (K0.out _ H2).mono ?_)
            rintro e v1 ⟨rfl, b⟩
            have G1 := hid_upC H2 b
            have J1 := hid_upC J b
            have q1 := rule_of J1.out
            clear b
            go_wp2_with fail
            (with_reducible refine (K1.out _ G1).mono ?_)
            rintro e v2 ⟨rfl, b⟩
            have G2 := hid_upC G1 b
            have J2 := hid_upC J1 b
            have q2 := rule_of J2.out
            clear b
            go_wp2_with fail
            (with_reducible refine (K2.out _ G2).mono ?_)
            rintro e v3 ⟨rfl, b⟩
            have G3 := hid_upC G2 b
            have J3 := hid_upC J2 b
            have q3 := rule_of J3.out
            clear b
            go_wp2_with fail
            (with_reducible refine (K3.out _ G3).mono ?_)
            rintro e v4 ⟨rfl, b⟩
            have G4 := hid_upC G3 b
            have J4 := hid_upC J3 b
            have q4 := rule_of J4.out
            clear b
            go_wp2_with fail
            go_ret
            exact ⟨rfl, G4.out⟩
          | true =>
            cases t5 with
            | false =>
              go_wp2_with fail
              (with_reducible refine (K0.out _ H2).mono ?_)
              rintro e v1 ⟨rfl, b⟩
              have G1 := hid_upC H2 b
              have J1 := hid_upC J b
              have q1 := rule_of J1.out
              clear b
              go_wp2_with fail
              (with_reducible refine (K1.out _ G1).mono ?_)
              rintro e v2 ⟨rfl, b⟩
              have G2 := hid_upC G1 b
              have J2 := hid_upC J1 b
              have q2 := rule_of J2.out
              clear b
              go_wp2_with fail
              (with_reducible refine (K2.out _ G2).mono ?_)
              rintro e v3 ⟨rfl, b⟩
              have G3 := hid_upC G2 b
              have J3 := hid_upC J2 b
              have q3 := rule_of J3.out
              clear b
              go_wp2_with fail
              (with_reducible refine (K3.out _ G3).mono ?_)
              rintro e v4 ⟨rfl, b⟩
              have G4 := hid_upC G3 b
              have J4 := hid_upC J3 b
              have q4 := rule_of J4.out
              clear b
              go_wp2_with fail
              go_ret
              exact ⟨rfl, G4.out⟩
            | true =>
              cases t6 with
              | false =>
                go_wp2_with fail
                (with_reducible refine (K0.out _ H2).mono ?_)
                rintro e v1 ⟨rfl, b⟩
                have G1 := hid_upC H2 b
                have J1 := hid_upC J b
                have q1 := rule_of J1.out
                clear b
                go_wp2_with fail
                (with_reducible refine (K1.out _ G1).mono ?_)
                rintro e v2 ⟨rfl, b⟩
                have G2 := hid_upC G1 b
                have J2 := hid_upC J1 b
                have q2 := rule_of J2.out
                clear b
                go_wp2_with fail
                (with_reducible refine (K2.out _ G2).mono ?_)
                rintro e v3 ⟨rfl, b⟩
                have G3 := hid_upC G2 b
                have J3 := hid_upC J2 b
                have q3 := rule_of J3.out
                clear b
                go_wp2_with fail
                (with_reducible refine (K3.out _ G3).mono ?_)
                rintro e v4 ⟨rfl, b⟩
                have G4 := hid_upC G3 b
                have J4 := hid_upC J3 b
                have q4 := rule_of J4.out
                clear b
                go_wp2_with fail
                (with_reducible refine (K6.out _ G4).mono ?_)
                rintro e v5 ⟨rfl, b⟩
                have G5 := hid_upC G4 b
                have J5 := hid_upC J4 b
                have q5 := rule_of J5.out
                clear b
                go_wp2_with fail
                go_ret
                exact ⟨rfl, G5.out⟩
              | true =>
                cases t7 with
                | false =>
                  go_wp2_with fail
                  (with_reducible refine (K0.out _ H2).mono ?_)
                  rintro e v1 ⟨rfl, b⟩
                  have G1 := hid_upC H2 b
                  have J1 := hid_upC J b
                  have q1 := rule_of J1.out
                  clear b
                  go_wp2_with fail
                  (with_reducible refine (K1.out _ G1).mono ?_)
                  rintro e v2 ⟨rfl, b⟩
                  have G2 := hid_upC G1 b
                  have J2 := hid_upC J1 b
                  have q2 := rule_of J2.out
                  clear b
                  go_wp2_with fail
                  (with_reducible refine (K2.out _ G2).mono ?_)
                  rintro e v3 ⟨rfl, b⟩
                  have G3 := hid_upC G2 b
                  have J3 := hid_upC J2 b
                  have q3 := rule_of J3.out
                  clear b
                  go_wp2_with fail
                  (with_reducible refine (K3.out _ G3).mono ?_)
                  rintro e v4 ⟨rfl, b⟩
                  have G4 := hid_upC G3 b
                  have J4 := hid_upC J3 b
                  have q4 := rule_of J4.out
                  clear b
                  go_wp2_with fail
                  (with_reducible refine (K6.out _ G4).mono ?_)
                  rintro e v5 ⟨rfl, b⟩
                  have G5 := hid_upC G4 b
                  have J5 := hid_upC J4 b
                  have q5 := rule_of J5.out
                  clear b
                  go_wp2_with fail
                  (with_reducible refine (K7.out _ G5).mono ?_)
                  rintro e v6 ⟨rfl, b⟩
                  have G6 := hid_upC G5 b
                  have J6 := hid_upC J5 b
                  have q6 := rule_of J6.out
                  clear b
                  go_wp2_with fail
                  go_ret
                  exact ⟨rfl, G6.out⟩
                | true =>
                  cases t8 with
                  | false =>
                    go_wp2_with fail
                    (with_reducible refine (K0.out _ H2).mono ?_)
                    rintro e v1 ⟨rfl, b⟩
                    have G1 := hid_upC H2 b
                    have J1 := hid_upC J b
                    have q1 := rule_of J1.out
                    clear b
                    go_wp2_with fail
                    (with_reducible refine (K1.out _ G1).mono ?_)
                    rintro e v2 ⟨rfl, b⟩
                    have G2 := hid_upC G1 b
                    have J2 := hid_upC J1 b
                    have q2 := rule_of J2.out
                    clear b
                    go_wp2_with fail
                    (with_reducible refine (K2.out _ G2).mono ?_)
                    rintro e v3 ⟨rfl, b⟩
                    have G3 := hid_upC G2 b
                    have J3 := hid_upC J2 b
                    have q3 := rule_of J3.out
                    clear b
                    go_wp2_with fail
                    (with_reducible refine (K3.out _ G3).mono ?_)
                    rintro e v4 ⟨rfl, b⟩
                    have G4 := hid_upC G3 b
                    have J4 := hid_upC J3 b
                    have q4 := rule_of J4.out
                    clear b
                    go_wp2_with fail
                    (with_reducible refine (K6.out _ G4).mono ?_)
                    rintro e v5 ⟨rfl, b⟩
                    have G5 := hid_upC G4 b
                    have J5 := hid_upC J4 b
                    have q5 := rule_of J5.out
                    clear b
                    go_wp2_with fail
                    (with_reducible refine (K7.out _ G5).mono ?_)
                    rintro e v6 ⟨rfl, b⟩
                    have G6 := hid_upC G5 b
                    have J6 := hid_upC J5 b
                    have q6 := rule_of J6.out
                    clear b
                    go_wp2_with fail
                    (with_reducible refine (K8.out _ G6).mono ?_)
                    rintro e v7 ⟨rfl, b⟩
                    have G7 := hid_upC G6 b
                    have J7 := hid_upC J6 b
                    have q7 := rule_of J7.out
                    clear b
                    go_wp2_with fail
                    go_ret
                    exact ⟨rfl, G7.out⟩
                  | true =>
                    go_wp2_with fail
                    (with_reducible refine (K0.out _ H2).mono ?_)
                    rintro e v1 ⟨rfl, b⟩
                    have G1 := hid_upC H2 b
                    have J1 := hid_upC J b
                    have q1 := rule_of J1.out
                    clear b
                    go_wp2_with fail
                    (with_reducible refine (K1.out _ G1).mono ?_)
                    rintro e v2 ⟨rfl, b⟩
                    have G2 := hid_upC G1 b
                    have J2 := hid_upC J1 b
                    have q2 := rule_of J2.out
                    clear b
                    go_wp2_with fail
                    (with_reducible refine (K2.out _ G2).mono ?_)
                    rintro e v3 ⟨rfl, b⟩
                    have G3 := hid_upC G2 b
                    have J3 := hid_upC J2 b
                    have q3 := rule_of J3.out
                    clear b
                    go_wp2_with fail
                    (with_reducible refine (K3.out _ G3).mono ?_)
                    rintro e v4 ⟨rfl, b⟩
                    have G4 := hid_upC G3 b
                    have J4 := hid_upC J3 b
                    have q4 := rule_of J4.out
                    clear b
                    go_wp2_with fail
                    (with_reducible refine (K6.out _ G4).mono ?_)
                    rintro e v5 ⟨rfl, b⟩
                    have G5 := hid_upC G4 b
                    have J5 := hid_upC J4 b
                    have q5 := rule_of J5.out
                    clear b
                    go_wp2_with fail
                    (with_reducible refine (K7.out _ G5).mono ?_)
                    rintro e v6 ⟨rfl, b⟩
                    have G6 := hid_upC G5 b
                    have J6 := hid_upC J5 b
                    have q6 := rule_of J6.out
                    clear b
                    go_wp2_with fail
                    (with_reducible refine (K8.out _ G6).mono ?_)
                    rintro e v7 ⟨rfl, b⟩
                    have G7 := hid_upC G6 b
                    have J7 := hid_upC J6 b
                    have q7 := rule_of J7.out
                    clear b
                    go_wp2_with fail
                    go_ret
                    exact ⟨rfl, G7.out⟩
end Go.Proofs.YtlbdoomknjiilaaDoor
