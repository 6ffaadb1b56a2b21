/- SetsMembers: who is in a union, in what both have, in the rest. -/
import Derived.Test.YtcllflpfmpggoaaSetsKit
import Derived.Test.YtcllflpfmpggoaaSetsRef2
namespace Go.Proofs.Ytcllflpfmpggoaa
open Go.RowKit
set_option linter.unusedVariables false

set_option maxRecDepth 100000 in
set_option maxHeartbeats 8000000 in
theorem setsMembers_walk (w : World) (a : List ByteArray) (va : Value) (ha : SIn w.heap.size w a va) (b : List ByteArray) (vb : Value) (hb : SIn w.heap.size w b vb) (s : ByteArray) (hs : s.size ≤ strMax) :
    Calls Try.prog 7 #[va, vb, .string s] w fun e w' => e = .returned (.bool true) ∧ Below w.heap.size w w' := by
  have Ma : Hid (∀ W, Hid (Below w.heap.size w W) → _) := Lib.hid fun W (h : Hid (Below w.heap.size w W)) => manyN_calls a w.heap.size va W h.out.size (ha.below h.out)
  have Mb : Hid (∀ W, Hid (Below w.heap.size w W) → _) := Lib.hid fun W (h : Hid (Below w.heap.size w W)) => manyN_calls b w.heap.size vb W h.out.size (hb.below h.out)
  have fa := @fewN_of a
  have fb := @fewN_of b
  have H0 : Hid (Below w.heap.size w w) := Lib.hid (Below.refl _ _)
  generalize manyN a = ma at *
  generalize manyN b = mb at *
  cases ma with
  | true =>
    clear fa ha fb hb
    go_enter Try.func7, Try.ntmps7
    go_wp2_with (first
      | (go_at_call 10; with_reducible refine (Ma.out _ (by assumption)).mono ?_; rintro e w1 ⟨rfl, b1⟩; have H1 := hid_up (by assumption) b1; clear b1)
      | (go_at_call 16; refine (awake_calls _).mono ?_; rintro e w1 ⟨rfl, b1⟩; have H1 := hid_up (by assumption) b1; clear b1)
      )
    go_ret
    exact ⟨rfl, H1.out⟩
  | false =>
    cases mb with
    | true =>
      clear fa ha fb hb
      go_enter Try.func7, Try.ntmps7
      go_wp2_with (first
        | (go_at_call 10; with_reducible refine (Ma.out _ (by assumption)).mono ?_; rintro e w1 ⟨rfl, b1⟩; have H1 := hid_up (by assumption) b1; clear b1)
        | (go_at_call 10; with_reducible refine (Mb.out _ (by assumption)).mono ?_; rintro e w1 ⟨rfl, b1⟩; have H1 := hid_up (by assumption) b1; clear b1)
        | (go_at_call 16; refine (awake_calls _).mono ?_; rintro e w1 ⟨rfl, b1⟩; have H1 := hid_up (by assumption) b1; clear b1)
        )
      go_ret
      exact ⟨rfl, H1.out⟩
    | false =>
      have la := (fa rfl).1
      have Ha := Lib.hid ha
      have lb := (fb rfl).1
      have Hb := Lib.hid hb
      clear fa ha fb hb
      have LL : Hid (a.length ≤ 60 ∧ b.length ≤ 60) := Lib.hid ⟨la, lb⟩
      clear la lb hs
      have hu := has_union a b s
      have hc := has_common a b s
      have hm := has_minus a b s
      obtain ⟨x, hx⟩ : ∃ x, x = hasN a s := ⟨_, rfl⟩
      obtain ⟨y, hy⟩ : ∃ y, y = hasN b s := ⟨_, rfl⟩
      rw [← hx, ← hy] at hu hc hm
      have Hx := Lib.hid hx.symm
      have Hy := Lib.hid hy.symm
      have HU := Lib.hid hu
      have HC := Lib.hid hc
      have HM := Lib.hid hm
      clear hu hc hm hx hy
      cases x <;> cases y
      all_goals
        go_enter Try.func7, Try.ntmps7
        go_wp2_with (first
          | (go_at_call 10; with_reducible refine (Ma.out _ (by assumption)).mono ?_; rintro e w1 ⟨rfl, b1⟩; have H1 := hid_up (by assumption) b1; clear b1)
          | (go_at_call 10; with_reducible refine (Mb.out _ (by assumption)).mono ?_; rintro e w1 ⟨rfl, b1⟩; have H1 := hid_up (by assumption) b1; clear b1)
          | fail)
        refine (has_row (r := _) Hx.out (SIn.to Ha H1)).mono ?_
        rintro e w2 ⟨rfl, b1⟩
        have H2 := hid_up H1 b1
        clear b1
        go_wp2_with fail
        refine (has_row (r := _) Hy.out (SIn.to Hb H2)).mono ?_
        rintro e w3 ⟨rfl, b1⟩
        have H3 := hid_up H2 b1
        clear b1
        go_wp2_with fail
        refine (union_calls w3.heap.size (a) (b) va vb (by have := LL.out; omega) w3 (Nat.le_refl _) (SIn.to Ha H3) (SIn.to Hb H3)).mono ?_
        rintro e w4 ⟨vu, rfl, hrow, b1⟩
        have H4 := hid_up H3 b1
        have Hu := Lib.hid hrow
        clear b1 hrow
        go_wp2_with fail
        refine (common_in w4.heap.size (a) (b) va vb (by have := LL.out; omega) (by have := LL.out; omega) w4 (Nat.le_refl _) (SIn.to Ha H4) (SIn.to Hb H4)).mono ?_
        rintro e w5 ⟨vc, rfl, hrow, b1⟩
        have Hu := SIn.up Hu b1
        have H5 := hid_up H4 b1
        have Hc := Lib.hid hrow
        clear b1 hrow
        go_wp2_with fail
        refine (minus_calls w5.heap.size (a) (b) va vb (by have := LL.out; omega) (by have := LL.out; omega) w5 (Nat.le_refl _) (SIn.to Ha H5) (SIn.to Hb H5)).mono ?_
        rintro e w6 ⟨vm, rfl, hrow, b1⟩
        have Hu := SIn.up Hu b1
        have Hc := SIn.up Hc b1
        have H6 := hid_up H5 b1
        have Hm := Lib.hid hrow
        clear b1 hrow
        go_wp2_with fail
        refine (has_row (r := _) HU.out Hu.out).mono ?_
        rintro e w7 ⟨rfl, b1⟩
        have Hu := SIn.up Hu b1
        have Hc := SIn.up Hc b1
        have Hm := SIn.up Hm b1
        have H7 := hid_up H6 b1
        clear b1
        go_wp2_with fail
        refine (has_row (r := _) HC.out Hc.out).mono ?_
        rintro e w8 ⟨rfl, b1⟩
        have Hu := SIn.up Hu b1
        have Hc := SIn.up Hc b1
        have Hm := SIn.up Hm b1
        have H8 := hid_up H7 b1
        clear b1
        go_wp2_with fail
        refine (has_row (r := _) HM.out Hm.out).mono ?_
        rintro e w9 ⟨rfl, b1⟩
        have Hu := SIn.up Hu b1
        have Hc := SIn.up Hc b1
        have Hm := SIn.up Hm b1
        have H9 := hid_up H8 b1
        clear b1
        go_wp2_with fail
        refine (rise_calls (unionN a b) (union_rise _ _) w9.heap.size vu w9 (Nat.le_refl _) Hu.out).mono ?_
        rintro e w10 ⟨rfl, b1⟩
        have Hc := SIn.up Hc b1
        have Hm := SIn.up Hm b1
        have H10 := hid_up H9 b1
        clear b1 Hu
        go_wp2_with fail
        refine (rise_calls (pickN a b true) (pickN_rise _ _ _) w10.heap.size vc w10 (Nat.le_refl _) Hc.out).mono ?_
        rintro e w11 ⟨rfl, b1⟩
        have Hm := SIn.up Hm b1
        have H11 := hid_up H10 b1
        clear b1 Hc
        go_wp2_with fail
        refine (rise_calls (pickN a b false) (pickN_rise _ _ _) w11.heap.size vm w11 (Nat.le_refl _) Hm.out).mono ?_
        rintro e w12 ⟨rfl, b1⟩
        have H12 := hid_up H11 b1
        clear b1 Hm
        go_wp2_with fail
        refine (of_in w12.heap.size (a) va (by have := LL.out; omega) w12 (Nat.le_refl _) (SIn.to Ha H12)).mono ?_
        rintro e w13 ⟨vo, rfl, hrow, b1⟩
        have H13 := hid_up H12 b1
        have Ho := Lib.hid hrow
        clear b1 hrow
        go_wp2_with fail
        refine (rise_calls (ofN a) (ofN_rise _) w13.heap.size vo w13 (Nat.le_refl _) Ho.out).mono ?_
        rintro e w14 ⟨rfl, b1⟩
        have H14 := hid_up H13 b1
        clear b1 Ho
        go_wp2_with fail
        refine (awake_calls w14).mono ?_
        rintro e w15 ⟨rfl, b1⟩
        have H15 := hid_up H14 b1
        clear b1
        go_wp2_with fail
        go_ret
        exact ⟨rfl, H15.out⟩
end Go.Proofs.Ytcllflpfmpggoaa
