/- The document's Func (made by gen_codereffn.py). -/
import Derived.Test.YtlbdoomknjiilaaDoorCodeDoc
namespace Go.Proofs.YtlbdoomknjiilaaDoor
open Go.RowKit
set_option linter.unusedVariables false

theorem all_takeG {α : Type} {l : List α} {q : α → Bool} {x : α} {k : Nat} (hx : l[k]? = some x) : (l.take (k + 1)).all q = ((l.take k).all q && q x) := by
  rw [List.take_add_one, hx, List.all_append]
  simp
theorem all_noG {α : Type} {l : List α} {q : α → Bool} {x : α} (hx : x ∈ l) (h : q x = false) : l.all q = false := by
  cases h2 : l.all q
  · rfl
  · rw [List.all_eq_true] at h2
    rw [h2 x hx] at h
    cases h
theorem errB_t : errB true = 0 := rfl
theorem errB_f : errB false = 170 := rfl
def yesF (nm : ByteArray) (pa sl : Int) (n : Nat) : Bool := decide (0 ≤ pa) && (decide (pa ≤ sl) && (decide (sl ≤ 60) && decide (n ≤ 4000)))
set_option maxRecDepth 100000 in
set_option maxHeartbeats 8000000 in
theorem refFunc0_walk (a1 a2 a3 : Option Addr) (n1 n2 n3 c1 c2 c3 : Nat) (mn pa sl : Int) (fn : ByteArray) (t0 : Bool) (k b o : Nat) (l : List JJ) (q : JJ → Bool) (B : Nat) (w : World) (hBw : B ≤ w.heap.size) (hk : k < n1) (hm : n1 ≤ maxLen) (ha : a1 = some ⟨b, o, none⟩) (hb : b < w.heap.size)
    (g0 : w.cell? ⟨b, o + k * 4, none⟩ = some (.string fn)) (g1 : w.cell? ⟨b, o + k * 4 + 1, none⟩ = some (.int .i64 pa)) (g2 : w.cell? ⟨b, o + k * 4 + 2, none⟩ = some (.int .i64 sl)) (g3 : w.cell? ⟨b, o + k * 4 + 3, none⟩ = some (.slice a3 n3 c3))
    (hl : Hid (n3 = l.length)) (hm3 : n3 ≤ maxLen) (hJ : Hid (JsIn B w l (.slice a3 n3 c3)))
    (K0 : Hid (∀ W, Calls Tryd.prog 28 #[.string fn] W fun e w' => e = .returned (.bool t0) ∧ W = w'))
    (K1 : Hid (∀ (W : World) (x : JJ) (v : VJ), Below w.heap.size w W → x.In B W v → Calls Tryd.prog 16 #[.agg #[.slice a1 n1 c1, .int .i64 mn, .slice a2 n2 c2], .int .i64 k, x.val v] W fun e w' => e = .returned (.int .i64 (errB (q x))) ∧ Below W.heap.size W w')) :
    Calls Tryd.prog 23 #[.agg #[.slice a1 n1 c1, .int .i64 mn, .slice a2 n2 c2], .int .i64 k] w fun e w' =>
      e = .returned (.bool (t0 && (yesF fn pa sl n3 && l.all q))) ∧ Below w.heap.size w w' := by
  subst ha
  unfold maxLen at hm hm3
  have hk0 : 0 ≤ (k : Int) := by omega
  have hk1 : (k : Int) < (n1 : Int) := by omega
  obtain ⟨R, hR⟩ : ∃ R, R = (t0 && (yesF fn pa sl n3 && l.all q)) := ⟨_, rfl⟩
  rw [← hR]
  have HR := Lib.hid hR
  clear hR
  obtain ⟨o1, ho1⟩ : ∃ o', o' = Obj.cells #[.slice (some ⟨b, o, none⟩) n1 c1, .int .i64 mn, .slice a2 n2 c2] 25 := ⟨_, rfl⟩
  obtain ⟨o2, ho2⟩ : ∃ o', o' = Obj.cells #[.string fn, .int .i64 pa, .int .i64 sl, .slice a3 n3 c3] 45 := ⟨_, rfl⟩
  have mB := Lib.hid (box2 w o1 o2)
  subst ho1 ho2
  cases t0 with
  | false =>
    as_aux_lemma =>
      go_enter Tryd.func23, Tryd.ntmps23
      go_wp2_with (go_at_call 28; (with_reducible refine (K0.out _).mono ?_); rintro e w1 ⟨rfl, rfl⟩)
      go_ret
      exact ⟨ret_bool (by rw [HR.out]; rfl), mB.out⟩
  | true =>
    by_cases h1 : pa < 0
    · as_aux_lemma =>
        go_enter Tryd.func23, Tryd.ntmps23
        go_wp2_with (go_at_call 28; (with_reducible refine (K0.out _).mono ?_); rintro e w1 ⟨rfl, rfl⟩)
        go_ret
        exact ⟨ret_bool (by rw [HR.out, show yesF fn pa sl n3 = false from by unfold yesF; simp; omega]; rfl), mB.out⟩
    · by_cases h2 : sl < pa
      · as_aux_lemma =>
          go_enter Tryd.func23, Tryd.ntmps23
          go_wp2_with (go_at_call 28; (with_reducible refine (K0.out _).mono ?_); rintro e w1 ⟨rfl, rfl⟩)
          go_ret
          exact ⟨ret_bool (by rw [HR.out, show yesF fn pa sl n3 = false from by unfold yesF; simp; omega]; rfl), mB.out⟩
      · by_cases h3 : 60 < sl
        · as_aux_lemma =>
            go_enter Tryd.func23, Tryd.ntmps23
            go_wp2_with (go_at_call 28; (with_reducible refine (K0.out _).mono ?_); rintro e w1 ⟨rfl, rfl⟩)
            go_ret
            exact ⟨ret_bool (by rw [HR.out, show yesF fn pa sl n3 = false from by unfold yesF; simp; omega]; rfl), mB.out⟩
        · by_cases h4 : 4000 < (n3 : Int)
          · as_aux_lemma =>
              go_enter Tryd.func23, Tryd.ntmps23
              go_wp2_with (go_at_call 28; (with_reducible refine (K0.out _).mono ?_); rintro e w1 ⟨rfl, rfl⟩)
              go_ret
              exact ⟨ret_bool (by rw [HR.out, show yesF fn pa sl n3 = false from by unfold yesF; simp; omega]; rfl), mB.out⟩
          · have HY : Hid (R = l.all q) := Lib.hid (by rw [HR.out, (show yesF fn pa sl n3 = true from by unfold yesF; simp; omega)]; rfl)
            clear HR
            have d1 := decide_eq_false h1
            have d2 := decide_eq_false h2
            have d3 := decide_eq_false h3
            have d4 := decide_eq_false h4
            go_enter Tryd.func23, Tryd.ntmps23
            go_wp2_with (go_at_call 28; (with_reducible refine (K0.out _).mono ?_); rintro e w1 ⟨rfl, rfl⟩)
            obtain ⟨W2, hW⟩ : ∃ W, W = (w.alloc (Obj.cells #[.slice (some ⟨b, o, none⟩) n1 c1, .int .i64 mn, .slice a2 n2 c2] 25)).alloc (Obj.cells #[.string fn, .int .i64 pa, .int .i64 sl, .slice a3 n3 c3] 45) := ⟨_, rfl⟩
            have H2 : Hid (Below w.heap.size w W2) := by rw [hW]; exact mB
            have u0 : W2.cell? ⟨w.heap.size, 0, none⟩ = some (.slice (some ⟨b, o, none⟩) n1 c1) := by rw [hW]; go_simp
            have u1 : W2.cell? ⟨w.heap.size, 1, none⟩ = some (.int .i64 mn) := by rw [hW]; go_simp
            have u2 : W2.cell? ⟨w.heap.size, 2, none⟩ = some (.slice a2 n2 c2) := by rw [hW]; go_simp
            have f3 : W2.cell? ⟨w.heap.size + 1, 3, none⟩ = some (.slice a3 n3 c3) := by rw [hW]; go_simp
            rw [← hW]
            clear hW mB h1 h2 h3 h4 g0 g1 g2 g3
            go_loopw [6] (fun i wr => ∃ j : Nat, j ≤ n3 ∧ i = .int .i64 j ∧ Hid ((l.take j).all q = true) ∧ Hid (Below W2.heap.size W2 wr))
              (fun i _ => n3 - (intOf i).toNat)
            case atStart => exact ⟨0, by omega, rfl, Lib.hid rfl, Lib.hid (Below.refl _ _)⟩
            case round =>
              obtain ⟨j, hj, rfl, HA, HB⟩ := hrel
              have hj0 : 0 ≤ (j : Int) := by omega
              have v0 := cell_over u0 HB.out
              have v1 := cell_over u1 HB.out
              have v2 := cell_over u2 HB.out
              have v3 := cell_over f3 HB.out
              have HD := Lib.hid (H2.out.trans (HB.out.mono H2.out.size))
              by_cases hlt : j < n3
              · have hj1 : (j : Int) < (n3 : Int) := by omega
                obtain ⟨x, hx, hxm⟩ := get_at (l := l) (k := j) (by rw [← hl.out]; exact hlt)
                obtain ⟨bc, oc, ⟨_, ao', cap', he, _, h44⟩, hr4⟩ := hJ.out
                obtain ⟨hao, hx1, hx2⟩ := Value.slice.inj he
                clear hx1 hx2
                obtain ⟨hao2, hbc⟩ := h44.resolve_left (by rw [← hl.out]; omega)
                rw [hao2] at hao
                subst hao
                obtain ⟨v, hcs, hxi⟩ := hr4 j x hx
                have hbcw := Nat.lt_of_lt_of_le hbc hBw
                have K := Lib.hid fun m : Over wr => over_calls (n := m) (K1.out m.w x v (HD.out.trans (m.h.mono HD.out.size)) (hxi.below ((HD.out.trans (m.h.mono HD.out.size)).mono hBw)))
                have HX := Lib.hid (all_takeG (q := q) hx)
                have HM := Lib.hid hxm
                have xc := fun (i : Nat) u (hi : (x.cells v)[i]? = some u) => cell_over (hcs i u hi) HD.out
                obtain ⟨s1, s2, s3, s4, s5, s6, rfl⟩ := hxi.shape
                unfold JJ.val at K
                dsimp only at K
                have x0 : ∀ m : Over wr, m.w.cell? ⟨bc, oc + j * 9, none⟩ = some (.int .u8 x.op) := fun m => cell_over (xc 0 _ rfl) m.h
                have x1 : ∀ m : Over wr, m.w.cell? ⟨bc, oc + j * 9 + 1, none⟩ = some (.int .i64 x.a) := fun m => cell_over (xc 1 _ rfl) m.h
                have x2 : ∀ m : Over wr, m.w.cell? ⟨bc, oc + j * 9 + 2, none⟩ = some (.int .i64 x.b) := fun m => cell_over (xc 2 _ rfl) m.h
                have x3 : ∀ m : Over wr, m.w.cell? ⟨bc, oc + j * 9 + 3, none⟩ = some (.int .i64 x.c) := fun m => cell_over (xc 3 _ rfl) m.h
                have x4 : ∀ m : Over wr, m.w.cell? ⟨bc, oc + j * 9 + 4, none⟩ = some (.slice s1 x.slots.length s2) := fun m => cell_over (xc 4 _ rfl) m.h
                have x5 : ∀ m : Over wr, m.w.cell? ⟨bc, oc + j * 9 + 5, none⟩ = some (.slice s3 x.path.length s4) := fun m => cell_over (xc 5 _ rfl) m.h
                have x6 : ∀ m : Over wr, m.w.cell? ⟨bc, oc + j * 9 + 6, none⟩ = some (.int .i64 x.int) := fun m => cell_over (xc 6 _ rfl) m.h
                have x7 : ∀ m : Over wr, m.w.cell? ⟨bc, oc + j * 9 + 7, none⟩ = some (.string x.name) := fun m => cell_over (xc 7 _ rfl) m.h
                have x8 : ∀ m : Over wr, m.w.cell? ⟨bc, oc + j * 9 + 8, none⟩ = some (.slice s5 x.names s6) := fun m => cell_over (xc 8 _ rfl) m.h
                have o0 := fun m : Over wr => cell_over v0 m.h
                have o1 := fun m : Over wr => cell_over v1 m.h
                have o2 := fun m : Over wr => cell_over v2 m.h
                have o3 := fun m : Over wr => cell_over v3 m.h
                have HYes : Hid (q x = true → (l.take (j + 1)).all q = true) := Lib.hid fun h => by rw [HX.out, HA.out, h]; rfl
                have HNo : Hid (q x = false → R = false) := Lib.hid fun h => by rw [HY.out, all_noG HM.out h]
                generalize q x = t at *
                generalize x.op = xo at *
                generalize x.a = xa at *
                generalize x.b = xb at *
                generalize x.c = xxc at *
                generalize x.int = xi at *
                generalize x.name = xn at *
                generalize x.slots.length = l1 at *
                generalize x.path.length = l2 at *
                generalize x.names = l3 at *
                clear hx hxm hcs xc hxi hr4 h44 he hbc hJ HX HM K1
                cases t with
                | true =>
                  as_aux_lemma =>
                    have HN := Lib.hid (HYes.out rfl)
                    simp only [errB_t] at K
                    go_wp2_with fail
                    refine wp_region_over (by kernel_rfl) (by kernel_rfl) ?_
                    repeat (go_big_quiet_step ((go_at_call 16; with_reducible exact K.out _)))
                    refine wpQuiet_nil ?_
                    rintro _ ⟨m, rfl⟩
                    have HT := hid_upR HB m.h
                    generalize m.w = v1 at *
                    clear x0 x1 x2 x3 x4 x5 x6 x7 x8 o0 o1 o2 o3 K
                    go_wp2_with fail
                    go_roundw
                    case rel => exact ⟨j + 1, by omega, by go_num, HN, HT⟩
                    case measure => simp [intOf]; omega
                | false =>
                  as_aux_lemma =>
                    have HN := Lib.hid (HNo.out rfl)
                    simp only [errB_f] at K
                    go_wp2_with fail
                    refine wp_region_over (by kernel_rfl) (by kernel_rfl) ?_
                    repeat (go_big_quiet_step ((go_at_call 16; with_reducible exact K.out _)))
                    refine wpQuiet_nil ?_
                    rintro _ ⟨m, rfl⟩
                    have HT := hid_upR HD m.h
                    generalize m.w = v1 at *
                    clear x0 x1 x2 x3 x4 x5 x6 x7 x8 o0 o1 o2 o3 K
                    go_wp2_with fail
                    go_ret
                    exact ⟨ret_bool HN.out.symm, HT.out⟩
              · obtain rfl : n3 = j := by omega
                have HN : Hid (R = true) := Lib.hid (by rw [HY.out, ← HA.out, List.take_of_length_le (by rw [hl.out]; exact Nat.le_refl _)])
                go_wp2_with fail
                go_ret
                exact ⟨ret_bool HN.out.symm, HD.out⟩
theorem refFunc_calls (B : Nat) (u : UU) (vu : VU) (k : Nat) (f : FF) (hf : u.funcs[k]? = some f) (w : World) (hB : B ≤ w.heap.size) (hu : u.In B w vu) :
    Calls Tryd.prog 23 #[u.val vu, .int .i64 k] w fun e w' => e = .returned (.bool (mayF u f)) ∧ Below w.heap.size w w' := by
  obtain ⟨b, o, ⟨hm, ao, cap, hv, hc, h4⟩, hr⟩ := hu.1
  have hk := some_lt hf
  obtain ⟨hao, hbB⟩ := h4.resolve_left (by omega)
  obtain ⟨vc, hcs, hfi⟩ := hr k f hf
  have g3 : w.cell? ⟨b, o + k * 4 + 3, none⟩ = some vc := hcs 3 _ rfl
  have K0 := fun W => refName_calls f.name W
  have K1 := fun (W : World) (x : JJ) (v : VJ) (h : Below w.heap.size w W) (hx : x.In B W v) => refIn_calls B u vu k f hf x v W (Nat.le_trans hB h.size) (hu.below (h.mono hB)) hx
  simp only [docJ_eq] at K1
  have hJ := hfi.2
  obtain ⟨a1, c1, a2, c2, rfl⟩ := hu.shape
  obtain ⟨a3, c3, rfl⟩ := GIn.shape hfi.2
  obtain ⟨rfl, _, rfl⟩ := Value.slice.inj hv
  have e : mayF u f = (nameB f.name && (yesF f.name f.params f.slots f.code.length && f.code.all (mayJ u f))) := by
    unfold mayF yesF
    simp only [Bool.and_assoc]
  rw [e]
  exact refFunc0_walk _ a2 a3 _ _ _ _ c2 c3 _ _ _ _ _ k b o f.code (mayJ u f) B w hB hk hm hao (Nat.lt_of_lt_of_le hbB hB) (hcs 0 _ rfl) (hcs 1 _ rfl) (hcs 2 _ rfl) g3 (Lib.hid rfl) (GIn.len hJ) (Lib.hid hJ) (Lib.hid K0) (Lib.hid K1)
end Go.Proofs.YtlbdoomknjiilaaDoor
