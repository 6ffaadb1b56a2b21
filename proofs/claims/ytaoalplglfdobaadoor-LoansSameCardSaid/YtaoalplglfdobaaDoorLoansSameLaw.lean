/- LoansSame: whether books have the same loans. -/
import Derived.Test.YtaoalplglfdobaaDoorLoansKit
namespace Go.Proofs.YtaoalplglfdobaaDoor
open Go.RowKit
set_option linter.unusedVariables false

theorem sameB_refl (l : List LN) : sameB l l = true := sameB_iff.2 fun _ => Iff.rfl
set_option maxRecDepth 100000 in
set_option maxHeartbeats 4000000 in
theorem loansSame_walk (w : World) (a : List LN) (va : Value) (ha : NIn w.heap.size w a va ∧ ∀ x ∈ a, (Lit.int .i64 x.till).wf = true) (b : List LN) (vb : Value) (hb : NIn w.heap.size w b vb ∧ ∀ x ∈ b, (Lit.int .i64 x.till).wf = true) (hT : Tb w.heap.size w) :
    Calls Tryd.prog 5 #[va, vb] w fun e w' => e = .returned (.bool true) ∧ Below w.heap.size w w' := by
  have HT := Lib.hid hT
  have AW : Hid (∀ W, Hid (Below w.heap.size w W) → _) := Lib.hid fun W (h : Hid (Below w.heap.size w W)) => awake_up HT h
  have M1 : Hid (∀ W, Hid (Below w.heap.size w W) → _) := Lib.hid fun W (h : Hid (Below w.heap.size w W)) => manyB_calls w.heap.size a va W h.out.size (ha.1.below h.out)
  have M2 : Hid (∀ W, Hid (Below w.heap.size w W) → _) := Lib.hid fun W (h : Hid (Below w.heap.size w W)) => manyB_calls w.heap.size b vb W h.out.size (hb.1.below h.out)
  have hm1 := fun h => fit_of (l := a) h ha.2
  have hm2 := fun h => fit_of (l := b) h hb.2
  have H0 : Hid (Below w.heap.size w w) := Lib.hid (Below.refl _ _)
  generalize manyB a = m1 at *
  generalize manyB b = m2 at *
  obtain ⟨aa, ca, rfl⟩ := ha.1.shape
  obtain ⟨ab, cb, rfl⟩ := hb.1.shape
  cases m1 with
  | true =>
    clear M2 hm1 hm2 ha hb hT
    go_enter Tryd.func5, Tryd.ntmps5
    go_wp2_with (go_at_call 10; refine (M1.out _ (by assumption)).mono ?_; rintro e w1 ⟨rfl, b1⟩; have H1 := hid_up (by assumption) b1; clear b1)
    go_ret
    exact ⟨rfl, H1.out⟩
  | false =>
    cases m2 with
    | true =>
      clear hm1 hm2 ha hb hT
      go_enter Tryd.func5, Tryd.ntmps5
      go_wp2_with fail
      (with_reducible refine (M1.out _ H0).mono ?_)
      rintro e w1 ⟨rfl, b1⟩
      have H1 := hid_up H0 b1
      clear b1
      go_wp2_with fail
      (with_reducible refine (M2.out _ H1).mono ?_)
      rintro e w2 ⟨rfl, b2⟩
      have H2 := hid_up H1 b2
      clear b2
      go_wp2_with fail
      go_ret
      exact ⟨rfl, H2.out⟩
    | false =>
      have fa := hm1 rfl
      have fb := hm2 rfl
      have la := fa.len
      have lb := fb.len
      have S1 : Hid (∀ W, Hid (Below w.heap.size w W) → _) := Lib.hid fun W (h : Hid (Below w.heap.size w W)) => sameL_calls w.heap.size a b _ _ W h.out.size (ha.1.below h.out) (hb.1.below h.out) (hT.below h.out) fa fb
      have S2 : Hid (∀ W, Hid (Below w.heap.size w W) → _) := Lib.hid fun W (h : Hid (Below w.heap.size w W)) => sameL_calls w.heap.size a a _ _ W h.out.size (ha.1.below h.out) (ha.1.below h.out) (hT.below h.out) fa fa
      have T1 : Hid (∀ W, Hid (Below w.heap.size w W) → _) := Lib.hid fun W (h : Hid (Below w.heap.size w W)) => twinN_calls w.heap.size a _ (by omega) W h.out.size (ha.1.below h.out)
      have T2 : Hid (∀ W, Hid (Below w.heap.size w W) → _) := Lib.hid fun W (h : Hid (Below w.heap.size w W)) => twinN_calls w.heap.size b _ (by omega) W h.out.size (hb.1.below h.out)
      have R1 := Lib.hid fun (W : World) (v1 v2 : Value) (h1 : NIn W.heap.size W a v1) (h2 : NIn W.heap.size W b v2) => refSameB_calls W.heap.size a b v1 v2 W (Nat.le_refl _) h1 h2
      rw [sameB_refl] at S2
      generalize sameB a b = r at *
      generalize a.length = na at *
      generalize b.length = nb at *
      clear la lb hm1 hm2 ha hb hT fa fb
      go_enter Tryd.func5, Tryd.ntmps5
      go_wp2_with fail
      (with_reducible refine (M1.out _ H0).mono ?_)
      rintro e w1 ⟨rfl, b1⟩
      have H1 := hid_up H0 b1
      clear b1
      go_wp2_with fail
      (with_reducible refine (M2.out _ H1).mono ?_)
      rintro e w2 ⟨rfl, b2⟩
      have H2 := hid_up H1 b2
      clear b2 H1
      go_wp2_with fail
      (with_reducible refine (S1.out _ H2).mono ?_)
      rintro e w3 ⟨rfl, b3⟩
      have H3 := hid_up H2 b3
      clear b3 H2
      go_wp2_with fail
      (with_reducible refine (T1.out _ H3).mono ?_)
      rintro e w4 ⟨a4, c4, rfl, N1, b4⟩
      have H4 := hid_up H3 b4
      clear b4 H3
      go_wp2_with fail
      (with_reducible refine (T2.out _ H4).mono ?_)
      rintro e w5 ⟨a5, c5, rfl, N2, b5⟩
      have H5 := hid_up H4 b5
      have N1 := Lib.hid ((N1.out.below b5).mono b5.size)
      clear b5 H4
      go_wp2_with fail
      (with_reducible refine (R1.out _ _ _ N1.out N2.out).mono ?_)
      rintro e w6 ⟨rfl, b6⟩
      have H6 := hid_up H5 b6
      clear b6 H5 N1 N2
      cases r
      all_goals
        go_wp2_with fail
        (with_reducible refine (S2.out _ H6).mono ?_)
        rintro e w7 ⟨rfl, b7⟩
        have H7 := hid_up H6 b7
        clear b7 H6
        go_wp2_with fail
        (with_reducible refine (AW.out _ H7).mono ?_)
        rintro e w8 ⟨rfl, b8⟩
        have H8 := hid_up H7 b8
        clear b8 H7
        go_wp2_with fail
        go_ret
        exact ⟨rfl, H8.out⟩
end Go.Proofs.YtaoalplglfdobaaDoor
