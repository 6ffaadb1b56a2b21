/- LoansMay: whether a use may be. -/
import Derived.Test.YtaoalplglfdobaaDoorLoansKit
import Derived.IntWalk
namespace Go.Proofs.YtaoalplglfdobaaDoor
open Go.RowKit
set_option linter.unusedVariables false

set_option maxRecDepth 100000 in
set_option maxHeartbeats 4000000 in
theorem loansMay_walk (w : World) (a : List LN) (va : Value) (ha : NIn w.heap.size w a va ∧ ∀ x ∈ a, (Lit.int .i64 x.till).wf = true) (q : PP) (vq : Value) (hq : q.In w.heap.size w vq) (u : Int) (hu : 0 ≤ u ∧ u ≤ 255) (hT : Tb w.heap.size w) :
    Calls Tryd.prog 3 #[va, .agg #[.string q.name, vq], .int .u8 u] w fun e w' => e = .returned (.bool true) ∧ Below w.heap.size w w' := by
  obtain ⟨hu0, hu1⟩ := hu
  have HT := Lib.hid hT
  have AW : Hid (∀ W, Hid (Below w.heap.size w W) → _) := Lib.hid fun W (h : Hid (Below w.heap.size w W)) => awake_up HT h
  have M1 : Hid (∀ W, Hid (Below w.heap.size w W) → _) := Lib.hid fun W (h : Hid (Below w.heap.size w W)) => manyB_calls w.heap.size a va W h.out.size (ha.1.below h.out)
  have L1 : Hid (∀ W, Hid (Below w.heap.size w W) → _) := Lib.hid fun W (h : Hid (Below w.heap.size w W)) => long_calls q w.heap.size vq W h.out.size (hq.below h.out)
  have hm1 := fun h => fit_of (l := a) h ha.2
  generalize manyB a = m1 at *
  generalize longP q = m2 at *
  obtain ⟨aa, ca, rfl⟩ := ha.1.shape
  obtain ⟨aq, cq, rfl⟩ := hq.shape
  have mB : ∀ (W : World), Hid (Below w.heap.size w (w.alloc (.cells #[.string q.name, .slice aq q.path.length cq] 25))) := fun _ => Lib.hid (box1 _ _)
  cases m1 with
  | true =>
    clear L1 hm1 ha hq hT
    go_enter Tryd.func3, Tryd.ntmps3
    go_wp2_with fail
    (with_reducible refine (M1.out _ (mB w)).mono ?_)
    rintro e w1 ⟨rfl, b1⟩
    have H1 := hid_up (mB w) b1
    clear b1
    go_wp2_with fail
    go_ret
    exact ⟨rfl, H1.out⟩
  | false =>
    cases m2 with
    | true =>
      obtain ⟨sq, hsq⟩ : ∃ s, s = q.name := ⟨_, rfl⟩
      rw [← hsq] at mB L1 ⊢
      generalize q.path.length = nq at *
      clear hm1 ha hq hT hsq
      go_enter Tryd.func3, Tryd.ntmps3
      go_wp2_with fail
      (with_reducible refine (M1.out _ (mB w)).mono ?_)
      rintro e w1 ⟨rfl, b1⟩
      have f0 := (b1.cell (p := ⟨w.heap.size, 0, none⟩) (by simp)).trans (show _ = some (Value.string sq) by go_simp)
      have f1 := (b1.cell (p := ⟨w.heap.size, 1, none⟩) (by simp)).trans (show _ = some (Value.slice aq nq cq) by go_simp)
      have H1 := hid_up (mB w) b1
      clear b1
      go_wp2_with fail
      (with_reducible refine (L1.out _ H1).mono ?_)
      rintro e w2 ⟨rfl, b2⟩
      have H2 := hid_up H1 b2
      clear b2
      go_wp2_with fail
      go_ret
      exact ⟨rfl, H2.out⟩
    | false =>
      have fa := hm1 rfl
      have la := fa.len
      have Y1 : Hid (∀ W, Hid (Below w.heap.size w W) → _) := Lib.hid fun W (h : Hid (Below w.heap.size w W)) => may_calls w.heap.size a q u hu0 hu1 _ _ (by omega) W h.out.size (ha.1.below h.out) (hq.below h.out)
      have T1 : Hid (∀ W, Hid (Below w.heap.size w W) → _) := Lib.hid fun W (h : Hid (Below w.heap.size w W)) => twinN_calls w.heap.size a _ (by omega) W h.out.size (ha.1.below h.out)
      have R1 : Hid (∀ (W : World) ao cap, Hid (NIn W.heap.size W a (.slice ao a.length cap)) → Hid (Below w.heap.size w W) → _) := Lib.hid fun (W : World) ao cap (h1 : Hid (NIn W.heap.size W a (.slice ao a.length cap))) (h : Hid (Below w.heap.size w W)) => refMay_calls W.heap.size a q u _ _ W (Nat.le_refl _) h1.out ((hq.below h.out).mono h.out.size)
      have hr : (mayB a q u == mayB a q u) = true := by simp
      obtain ⟨sq, hsq⟩ : ∃ s, s = q.name := ⟨_, rfl⟩
      rw [← hsq] at mB L1 R1 Y1 ⊢
      generalize mayB a q u = r at *
      generalize hnn : a.length = na at *
      generalize q.path.length = nq at *
      clear la hm1 ha hq hT fa hsq
      have K3 : Hid (∀ (W W' : World), Hid (Below w.heap.size w W) → Below W.heap.size W W' → Hid (Below w.heap.size w W')) := Lib.hid fun W W' h b => hid_up h b
      go_enter Tryd.func3, Tryd.ntmps3
      go_wp2_with fail
      (with_reducible refine (M1.out _ (mB w)).mono ?_)
      rintro e w1 ⟨rfl, b1⟩
      have f0 := (b1.cell (p := ⟨w.heap.size, 0, none⟩) (by simp)).trans (show _ = some (Value.string sq) by go_simp)
      have f1 := (b1.cell (p := ⟨w.heap.size, 1, none⟩) (by simp)).trans (show _ = some (Value.slice aq nq cq) by go_simp)
      have z1 : w.heap.size < w1.heap.size := Nat.lt_of_lt_of_le (by simp) b1.size
      have H1 := hid_up (mB w) b1
      clear b1 mB
      go_wp2_with fail
      (with_reducible refine (L1.out _ H1).mono ?_)
      rintro e w2 ⟨rfl, b2⟩
      have H2 := hid_up H1 b2
      have f0 := (b2.cell (p := ⟨w.heap.size, 0, none⟩) z1).trans f0
      have f1 := (b2.cell (p := ⟨w.heap.size, 1, none⟩) z1).trans f1
      have z2 : w.heap.size < w2.heap.size := Nat.lt_of_lt_of_le z1 b2.size
      clear b2 H1 M1 L1
      have hwu : IntKind.i64.wrap u = u := IntWalk.i64_in _ (by omega)
      have K4 := Lib.hid fun (W W' : World) (h : Hid (Below w2.heap.size w2 W)) (b : Below W.heap.size W W') => row_next' w2 W W' h b
      have K5 : Hid (∀ W, Hid (Below w2.heap.size w2 W) → Hid (Below w.heap.size w W)) := Lib.hid fun W h => Lib.hid (H2.out.trans (h.out.mono H2.out.size))
      have K6 := row_refl' w2
      go_wp2_with fail
      go_region_held3 (fun w' => (∀ b o, b < w2.heap.size → w'.cell? ⟨b, o, none⟩ = w2.cell? ⟨b, o, none⟩) ∧ Hid (Below w2.heap.size w2 w')) ((first | exact XB | (refine S_of _ _ ?_; (first | assumption | exact row_dr _))))
        (first
          | (go_at_call 12; (with_reducible refine (Y1.out _ (K5.out _ ?hb)).mono ?_); (case hb => (first | exact row_dr _ | assumption)); rintro e wn ⟨rfl, bn⟩; have XB := K4.out _ _ (by (first | exact row_dr _ | assumption)) bn; have XC := XB.2; clear bn)
          | (go_at_call 14; (with_reducible refine (T1.out _ (K5.out _ ?hb)).mono ?_); (case hb => assumption); rintro e wn ⟨ao', cap', rfl, HQ, bn⟩; have XB := K4.out _ _ XC bn; have XC := XB.2; clear bn)
          | (go_at_call 13; (with_reducible refine (R1.out _ _ _ ?ha (K5.out _ ?hb)).mono ?_); (case hb => assumption); (case ha => assumption); rintro e wn ⟨rfl, bn⟩; have XB := K4.out _ _ XC bn; have XC := XB.2; clear bn)
          | (go_at_call 15; (with_reducible refine (AW.out _ (K5.out _ ?hb)).mono ?_); (case hb => assumption); rintro e wn ⟨rfl, bn⟩; have XB := K4.out _ _ XC bn; have XC := XB.2; clear bn))
      have HF := Lib.hid (H2.out.trans (XB.2.out.mono H2.out.size))
      go_wp2_with fail
      go_ret
      exact ⟨rfl, HF.out⟩
end Go.Proofs.YtaoalplglfdobaaDoor
