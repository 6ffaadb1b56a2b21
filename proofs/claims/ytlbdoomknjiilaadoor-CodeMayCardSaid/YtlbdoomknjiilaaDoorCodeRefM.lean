/- The document's May. -/
import Derived.Test.YtlbdoomknjiilaaDoorCodeRefF
import Derived.Test.YtlbdoomknjiilaaDoorCodeRefT
namespace Go.Proofs.YtlbdoomknjiilaaDoor
open Go.RowKit
set_option linter.unusedVariables false

set_option maxRecDepth 100000 in
set_option maxHeartbeats 8000000 in
theorem refMay0_walk (a1 a2 : Option Addr) (n1 n2 c1 c2 : Nat) (mn pm : Int) (tt : Bool) (b o : Nat) (l : List FF) (q : FF → Bool) (w : World) (hm : n1 ≤ maxLen)
    (hp : Hid (0 ≤ mn ∧ mn < n1 → a1 = some ⟨b, o, none⟩ ∧ b < w.heap.size ∧ w.cell? ⟨b, o + mn.toNat * 4 + 1, none⟩ = some (.int .i64 pm)))
    (hl : Hid (n1 = l.length))
    (K0 : Hid (∀ W, Hid (Below w.heap.size w W) → Calls Tryd.prog 22 #[.slice a2 n2 c2] W fun e w' => e = .returned (.bool tt) ∧ Below W.heap.size W w'))
    (K1 : Hid (∀ (W : World) (k : Nat) f, l[k]? = some f → Hid (Below w.heap.size w W) → Calls Tryd.prog 23 #[.agg #[.slice a1 n1 c1, .int .i64 mn, .slice a2 n2 c2], .int .i64 k] W fun e w' => e = .returned (.bool (q f)) ∧ Below W.heap.size W w')) :
    Calls Tryd.prog 12 #[.agg #[.slice a1 n1 c1, .int .i64 mn, .slice a2 n2 c2]] w fun e w' =>
      e = .returned (.int .i64 (errB (tt && (decide (n1 ≤ 200) && ((decide (0 ≤ mn) && (decide (mn < n1) && decide (pm = 0))) && l.all q))))) ∧ Below w.heap.size w w' := by
  unfold maxLen at hm
  obtain ⟨R, hR⟩ : ∃ R, R = errB (tt && (decide (n1 ≤ 200) && ((decide (0 ≤ mn) && (decide (mn < n1) && decide (pm = 0))) && l.all q))) := ⟨_, rfl⟩
  rw [← hR]
  have HR := Lib.hid hR
  clear hR
  have mB := Lib.hid (box1 w (.cells #[.slice a1 n1 c1, .int .i64 mn, .slice a2 n2 c2] 25))
  by_cases h1 : 200 < (n1 : Int)
  · have HF : Hid (R = 170) := Lib.hid (by rw [HR.out, decide_eq_false (show ¬ n1 ≤ 200 by omega)]; cases tt <;> rfl)
    as_aux_lemma =>
      go_enter Tryd.func12, Tryd.ntmps12
      go_wp2_with fail
      go_ret
      exact ⟨ret_int HF.out.symm, mB.out⟩
  · by_cases h2 : mn < 0
    · have HF : Hid (R = 170) := Lib.hid (by rw [HR.out, decide_eq_false (show ¬ 0 ≤ mn by omega)]; cases tt <;> cases decide (n1 ≤ 200) <;> rfl)
      as_aux_lemma =>
        go_enter Tryd.func12, Tryd.ntmps12
        go_wp2_with fail
        go_ret
        exact ⟨ret_int HF.out.symm, mB.out⟩
    · by_cases h3 : (n1 : Int) ≤ mn
      · have HF : Hid (R = 170) := Lib.hid (by rw [HR.out, decide_eq_false (show ¬ mn < n1 by omega)]; cases tt <;> cases decide (n1 ≤ 200) <;> cases decide (0 ≤ mn) <;> rfl)
        as_aux_lemma =>
          go_enter Tryd.func12, Tryd.ntmps12
          go_wp2_with fail
          go_ret
          exact ⟨ret_int HF.out.symm, mB.out⟩
      · obtain ⟨rfl, hb, hc⟩ := hp.out ⟨by omega, by omega⟩
        obtain ⟨j, rfl⟩ : ∃ j : Nat, mn = j := ⟨mn.toNat, by omega⟩
        rw [Int.toNat_natCast] at hc
        have hj0 : 0 ≤ (j : Int) := by omega
        have hj1 : (j : Int) < (n1 : Int) := by omega
        by_cases h4 : pm = 0
        · subst h4
          cases tt with
          | false =>
            have HF : Hid (R = 170) := Lib.hid (by rw [HR.out]; rfl)
            as_aux_lemma =>
              go_enter Tryd.func12, Tryd.ntmps12
              go_wp2_with fail
              (with_reducible refine (K0.out _ mB).mono ?_)
              rintro e w1 ⟨rfl, b1⟩
              have HT := hid_upC mB b1
              clear b1
              go_wp2_with fail
              go_ret
              exact ⟨ret_int HF.out.symm, HT.out⟩
          | true =>
            have HY : Hid (R = errB (l.all q)) := Lib.hid (by rw [HR.out, decide_eq_true (show n1 ≤ 200 by omega), decide_eq_true hj0, decide_eq_true hj1]; rfl)
            have d1 := decide_eq_false h1
            have d2 := decide_eq_false h2
            have d3 := decide_eq_false h3
            have z0 : w.heap.size < (w.alloc (.cells #[.slice (some ⟨b, o, none⟩) n1 c1, .int .i64 j, .slice a2 n2 c2] 25)).heap.size := by simp
            clear HR
            go_enter Tryd.func12, Tryd.ntmps12
            go_wp2_with fail
            (with_reducible refine (K0.out _ mB).mono ?_)
            rintro e W2 ⟨rfl, b1⟩
            have H2 := hid_upC mB b1
            have px0 := (b1.cell (p := ⟨w.heap.size, 0, none⟩) z0).trans (show _ = some (Value.slice (some ⟨b, o, none⟩) n1 c1) by go_simp)
            have px1 := (b1.cell (p := ⟨w.heap.size, 1, none⟩) z0).trans (show _ = some (Value.int .i64 j) by go_simp)
            have px2 := (b1.cell (p := ⟨w.heap.size, 2, none⟩) z0).trans (show _ = some (Value.slice a2 n2 c2) by go_simp)
            clear b1 z0 hc
            go_wp2_with fail
            go_loopw [3] (fun i wr => ∃ k : Nat, k ≤ n1 ∧ i = .int .i64 k ∧ Hid ((l.take k).all q = true) ∧ Hid (Below W2.heap.size W2 wr))
              (fun i _ => n1 - (intOf i).toNat)
            case atStart => exact ⟨0, by omega, rfl, Lib.hid rfl, Lib.hid (Below.refl _ _)⟩
            case round =>
              obtain ⟨k, hk, rfl, HA, HB⟩ := hrel
              have hk0 : 0 ≤ (k : Int) := by omega
              have v0 := cell_over px0 HB.out
              have v1 := cell_over px1 HB.out
              have v2 := cell_over px2 HB.out
              have HD := Lib.hid (H2.out.trans (HB.out.mono H2.out.size))
              by_cases hlt : k < n1
              · have hk1 : (k : Int) < (n1 : Int) := by omega
                obtain ⟨f, hf, hfm⟩ := get_at (l := l) (k := k) (by rw [← hl.out]; exact hlt)
                have K := Lib.hid (K1.out wr k f hf HD)
                have HX := Lib.hid (all_takeG (q := q) hf)
                have HM := Lib.hid hfm
                have HYes : Hid (q f = true → (l.take (k + 1)).all q = true) := Lib.hid fun h => by rw [HX.out, HA.out, h]; rfl
                have HNo : Hid (q f = false → R = 170) := Lib.hid fun h => by rw [HY.out, all_noG HM.out h]; rfl
                generalize q f = t at *
                clear hf hfm HX HM
                cases t with
                | true =>
                  have HN := Lib.hid (HYes.out rfl)
                  as_aux_lemma =>
                    go_wp2_with fail
                    (with_reducible refine K.out.mono ?_)
                    rintro e w4 ⟨rfl, b4⟩
                    have HT := hid_upC HB b4
                    clear b4 v0 v1 v2
                    go_wp2_with fail
                    go_roundw
                    case rel => exact ⟨k + 1, by omega, by go_num, HN, HT⟩
                    case measure => simp [intOf]; omega
                | false =>
                  have HN := Lib.hid (HNo.out rfl)
                  as_aux_lemma =>
                    go_wp2_with fail
                    (with_reducible refine K.out.mono ?_)
                    rintro e w4 ⟨rfl, b4⟩
                    have HT := hid_upC HD b4
                    clear b4 v0 v1 v2
                    go_wp2_with fail
                    go_ret
                    exact ⟨ret_int HN.out.symm, HT.out⟩
              · obtain rfl : n1 = k := by omega
                have HN : Hid (R = 0) := Lib.hid (by
                  have e : l.take n1 = l := List.take_of_length_le (by rw [hl.out]; exact Nat.le_refl _)
                  rw [HY.out, ← e, HA.out]; rfl)
                go_wp2_with fail
                go_ret
                exact ⟨ret_int HN.out.symm, HD.out⟩
        · have e4 : (pm != 0) = true := by simpa using h4
          have HF : Hid (R = 170) := Lib.hid (by rw [HR.out, decide_eq_false h4]; cases tt <;> cases decide (n1 ≤ 200) <;> cases decide (0 ≤ (j : Int)) <;> cases decide ((j : Int) < n1) <;> rfl)
          as_aux_lemma =>
            go_enter Tryd.func12, Tryd.ntmps12
            go_wp2_with fail
            go_ret
            exact ⟨ret_int HF.out.symm, mB.out⟩
theorem refMay_calls (B : Nat) (u : UU) (vu : VU) (w : World) (hB : B ≤ w.heap.size) (hu : u.In B w vu) :
    Calls Tryd.prog 12 #[u.val vu] w fun e w' => e = .returned (.int .i64 (errB (mayU u))) ∧ Below w.heap.size w w' := by
  have K0 := fun (W : World) (h : Hid (Below w.heap.size w W)) => refTypes_calls B u.types vu.t W (Nat.le_trans hB h.out.size) (hu.below (h.out.mono hB)).2
  have K1 := fun (W : World) (k : Nat) f (hf : u.funcs[k]? = some f) (h : Hid (Below w.heap.size w W)) => refFunc_calls B u vu k f hf W (Nat.le_trans hB h.out.size) (hu.below (h.out.mono hB))
  obtain ⟨a1, c1, a2, c2, rfl⟩ := hu.shape
  obtain ⟨_, hm, _, b, o, hb, hr⟩ := GIn.at hu.1
  unfold mayU mainB
  refine refMay0_walk a1 a2 _ _ c1 c2 _ (paramsAt u u.main) _ b o u.funcs (mayF u) w hm (Lib.hid fun h => ?_) (Lib.hid rfl) (Lib.hid K0) (Lib.hid K1)
  obtain ⟨rfl, hbB⟩ := hb (by omega)
  obtain ⟨g, hg, hgm⟩ := get_at (l := u.funcs) (k := u.main.toNat) (by omega)
  obtain ⟨vg, hc, _⟩ := hr _ g hg
  refine ⟨rfl, by omega, ?_⟩
  have e : paramsAt u u.main = g.params := by simp [paramsAt, hg]
  rw [e]
  exact hc 1 _ rfl
end Go.Proofs.YtlbdoomknjiilaaDoor
