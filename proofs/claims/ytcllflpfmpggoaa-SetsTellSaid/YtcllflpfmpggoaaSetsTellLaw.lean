/- SetsTell: whether two are the same, one is within the other. -/
import Derived.Test.YtcllflpfmpggoaaSetsKit
namespace Go.Proofs.Ytcllflpfmpggoaa
open Go.RowKit
set_option linter.unusedVariables false

set_option maxRecDepth 100000 in
set_option maxHeartbeats 4000000 in
theorem setsTell_walk (w : World) (a : List ByteArray) (va : Value) (ha : SIn w.heap.size w a va) (b : List ByteArray) (vb : Value) (hb : SIn w.heap.size w b vb) :
    Calls Try.prog 5 #[va, vb] w fun e w' => e = .returned (.bool true) ∧ Below w.heap.size w w' := by
  have M1 : Hid (∀ W, Hid (Below w.heap.size w W) → _) := Lib.hid fun W (h : Hid (Below w.heap.size w W)) => manyN_calls a w.heap.size va W h.out.size (ha.below h.out)
  have M2 : Hid (∀ W, Hid (Below w.heap.size w W) → _) := Lib.hid fun W (h : Hid (Below w.heap.size w W)) => manyN_calls b w.heap.size vb W h.out.size (hb.below h.out)
  have hm1 := @fewN_of a
  have hm2 := @fewN_of b
  have H0 : Hid (Below w.heap.size w w) := Lib.hid (Below.refl _ _)
  generalize manyN a = m1 at *
  generalize manyN b = m2 at *
  cases m1 with
  | true =>
    clear M2 hm1 hm2 ha hb
    go_enter Try.func5, Try.ntmps5
    go_wp2_with (go_at_call 10; refine (M1.out _ (by assumption)).mono ?_; rintro e w1 ⟨rfl, b1⟩; have H1 := hid_up (by assumption) b1; clear b1)
    go_ret
    exact ⟨rfl, H1.out⟩
  | false =>
    cases m2 with
    | true =>
      clear hm1 hm2 ha hb
      go_enter Try.func5, Try.ntmps5
      go_wp2_with (first
        | (go_at_call 10; with_reducible refine (M1.out _ (by assumption)).mono ?_; rintro e w1 ⟨rfl, b1⟩; have H1 := hid_up (by assumption) b1; clear b1)
        | (go_at_call 10; with_reducible refine (M2.out _ (by assumption)).mono ?_; rintro e w1 ⟨rfl, b1⟩; have H1 := hid_up (by assumption) b1; clear b1))
      go_ret
      exact ⟨rfl, H1.out⟩
    | false =>
      have la := (hm1 rfl).1
      have lb := (hm2 rfl).1
      have S1 : Hid (∀ W, Hid (Below w.heap.size w W) → _) := Lib.hid fun W (h : Hid (Below w.heap.size w W)) => same_calls w.heap.size a b va vb (by omega) (by omega) W h.out.size (ha.below h.out) (hb.below h.out)
      have W1 : Hid (∀ W, Hid (Below w.heap.size w W) → _) := Lib.hid fun W (h : Hid (Below w.heap.size w W)) => within_calls w.heap.size a b va vb (by omega) (by omega) W h.out.size (ha.below h.out) (hb.below h.out)
      have R1 : Hid (∀ W, Hid (Below w.heap.size w W) → _) := Lib.hid fun W (h : Hid (Below w.heap.size w W)) => refWithin_calls w.heap.size a b va vb (by omega) W h.out.size (ha.below h.out) (hb.below h.out)
      have R2 : Hid (∀ W, Hid (Below w.heap.size w W) → _) := Lib.hid fun W (h : Hid (Below w.heap.size w W)) => refWithin_calls w.heap.size b a vb va (by omega) W h.out.size (hb.below h.out) (ha.below h.out)
      unfold sameB at S1
      generalize withinN a b = r1 at *
      generalize withinN b a = r2 at *
      clear la lb hm1 hm2 ha hb
      cases r1 <;> cases r2
      all_goals
        go_enter Try.func5, Try.ntmps5
        go_wp2_with (first
          | (go_at_call 10; with_reducible refine (M1.out _ (by assumption)).mono ?_; rintro e w1 ⟨rfl, b1⟩; have H1 := hid_up (by assumption) b1; clear b1)
          | (go_at_call 10; with_reducible refine (M2.out _ (by assumption)).mono ?_; rintro e w1 ⟨rfl, b1⟩; have H1 := hid_up (by assumption) b1; clear b1)
          | (go_at_call 22; with_reducible refine (S1.out _ (by assumption)).mono ?_; rintro e w1 ⟨rfl, b1⟩; have H1 := hid_up (by assumption) b1; clear b1)
          | (go_at_call 24; with_reducible refine (W1.out _ (by assumption)).mono ?_; rintro e w1 ⟨rfl, b1⟩; have H1 := hid_up (by assumption) b1; clear b1)
          | (go_at_call 23; with_reducible refine (R1.out _ (by assumption)).mono ?_; rintro e w1 ⟨rfl, b1⟩; have H1 := hid_up (by assumption) b1; clear b1)
          | (go_at_call 23; with_reducible refine (R2.out _ (by assumption)).mono ?_; rintro e w1 ⟨rfl, b1⟩; have H1 := hid_up (by assumption) b1; clear b1)
          | (go_at_call 16; refine (awake_calls _).mono ?_; rintro e w1 ⟨rfl, b1⟩; have H1 := hid_up (by assumption) b1; clear b1))
        go_ret
        exact ⟨rfl, H1.out⟩
end Go.Proofs.Ytcllflpfmpggoaa
