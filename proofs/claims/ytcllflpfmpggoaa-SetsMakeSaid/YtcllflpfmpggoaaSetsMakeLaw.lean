/- SetsMake: unions, what both have, what the first alone has. -/
import Derived.Test.YtcllflpfmpggoaaSetsKit
import Derived.Test.YtcllflpfmpggoaaSetsRef2
namespace Go.Proofs.Ytcllflpfmpggoaa
open Go.RowKit
set_option linter.unusedVariables false

set_option maxRecDepth 100000 in
set_option maxHeartbeats 8000000 in
theorem setsMake_walk (w : World) (a : List ByteArray) (va : Value) (ha : SIn w.heap.size w a va) (b : List ByteArray) (vb : Value) (hb : SIn w.heap.size w b vb) :
    Calls Try.prog 4 #[va, vb] w fun e w' => e = .returned (.bool true) ∧ Below w.heap.size w w' := by
  have Ma : Hid (∀ W, Hid (Below w.heap.size w W) → _) := Lib.hid fun W (h : Hid (Below w.heap.size w W)) => manyN_calls a w.heap.size va W h.out.size (ha.below h.out)
  have Mb : Hid (∀ W, Hid (Below w.heap.size w W) → _) := Lib.hid fun W (h : Hid (Below w.heap.size w W)) => manyN_calls b w.heap.size vb W h.out.size (hb.below h.out)
  have fa := @fewN_of a
  have fb := @fewN_of b
  have H0 : Hid (Below w.heap.size w w) := Lib.hid (Below.refl _ _)
  generalize manyN a = ma at *
  generalize manyN b = mb at *
  cases ma with
  | true =>
    clear fa ha fb hb
    go_enter Try.func4, Try.ntmps4
    go_wp2_with (first
      | (go_at_call 10; with_reducible refine (Ma.out _ (by assumption)).mono ?_; rintro e w1 ⟨rfl, b1⟩; have H1 := hid_up (by assumption) b1; clear b1)
      )
    go_ret
    exact ⟨rfl, H1.out⟩
  | false =>
    cases mb with
    | true =>
      clear fa ha fb hb
      go_enter Try.func4, Try.ntmps4
      go_wp2_with (first
        | (go_at_call 10; with_reducible refine (Ma.out _ (by assumption)).mono ?_; rintro e w1 ⟨rfl, b1⟩; have H1 := hid_up (by assumption) b1; clear b1)
        | (go_at_call 10; with_reducible refine (Mb.out _ (by assumption)).mono ?_; rintro e w1 ⟨rfl, b1⟩; have H1 := hid_up (by assumption) b1; clear b1)
        )
      go_ret
      exact ⟨rfl, H1.out⟩
    | false =>
      have la := (fa rfl).1
      have Ha := Lib.hid ha
      have lb := (fb rfl).1
      have Hb := Lib.hid hb
      clear fa ha fb hb
      have LL : Hid (a.length ≤ 60 ∧ b.length ≤ 60) := Lib.hid ⟨la, lb⟩
      clear la lb
      go_enter Try.func4, Try.ntmps4
      go_wp2_with (first
        | (go_at_call 10; with_reducible refine (Ma.out _ (by assumption)).mono ?_; rintro e w1 ⟨rfl, b1⟩; have H1 := hid_up (by assumption) b1; clear b1)
        | (go_at_call 10; with_reducible refine (Mb.out _ (by assumption)).mono ?_; rintro e w1 ⟨rfl, b1⟩; have H1 := hid_up (by assumption) b1; clear b1)
        | fail)
      refine (union_calls w1.heap.size (a) (b) va vb (by have := LL.out; omega) w1 (Nat.le_refl _) (SIn.to Ha H1) (SIn.to Hb H1)).mono ?_
      rintro e w2 ⟨vu, rfl, hrow, b1⟩
      have H2 := hid_up H1 b1
      have Hu := Lib.hid hrow
      clear b1 hrow
      go_wp2_with fail
      refine (refUnion_calls w2.heap.size (a) (b) va vb (by have := LL.out; omega) w2 (Nat.le_refl _) (SIn.to Ha H2) (SIn.to Hb H2)).mono ?_
      rintro e w3 ⟨vx, rfl, hrow, b1⟩
      have Hu := SIn.up Hu b1
      have H3 := hid_up H2 b1
      have Hx := Lib.hid hrow
      clear b1 hrow
      go_wp2_with fail
      refine (ref_same_row Hu.out Hx.out).mono ?_
      rintro e w4 ⟨rfl, b1⟩
      have H4 := hid_up H3 b1
      clear b1 Hu Hx
      go_wp2_with fail
      refine (common_in w4.heap.size (a) (b) va vb (by have := LL.out; omega) (by have := LL.out; omega) w4 (Nat.le_refl _) (SIn.to Ha H4) (SIn.to Hb H4)).mono ?_
      rintro e w5 ⟨vc, rfl, hrow, b1⟩
      have H5 := hid_up H4 b1
      have Hc := Lib.hid hrow
      clear b1 hrow
      go_wp2_with fail
      refine (ref_pick_row true (by have := LL.out; omega) (SIn.to Ha H5) (SIn.to Hb H5)).mono ?_
      rintro e w6 ⟨vy, rfl, hrow, b1⟩
      have Hc := SIn.up Hc b1
      have H6 := hid_up H5 b1
      have Hy := Lib.hid hrow
      clear b1 hrow
      go_wp2_with fail
      refine (ref_same_row Hc.out Hy.out).mono ?_
      rintro e w7 ⟨rfl, b1⟩
      have H7 := hid_up H6 b1
      clear b1 Hc Hy
      go_wp2_with fail
      refine (minus_calls w7.heap.size (a) (b) va vb (by have := LL.out; omega) (by have := LL.out; omega) w7 (Nat.le_refl _) (SIn.to Ha H7) (SIn.to Hb H7)).mono ?_
      rintro e w8 ⟨vm, rfl, hrow, b1⟩
      have H8 := hid_up H7 b1
      have Hm := Lib.hid hrow
      clear b1 hrow
      go_wp2_with fail
      refine (ref_pick_row false (by have := LL.out; omega) (SIn.to Ha H8) (SIn.to Hb H8)).mono ?_
      rintro e w9 ⟨vz, rfl, hrow, b1⟩
      have Hm := SIn.up Hm b1
      have H9 := hid_up H8 b1
      have Hz := Lib.hid hrow
      clear b1 hrow
      go_wp2_with fail
      refine (ref_same_row Hm.out Hz.out).mono ?_
      rintro e w10 ⟨rfl, b1⟩
      have H10 := hid_up H9 b1
      clear b1 Hm Hz
      go_wp2_with fail
      refine (awake_calls w10).mono ?_
      rintro e w11 ⟨rfl, b1⟩
      have H11 := hid_up H10 b1
      clear b1
      go_wp2_with fail
      go_ret
      exact ⟨rfl, H11.out⟩
end Go.Proofs.Ytcllflpfmpggoaa
