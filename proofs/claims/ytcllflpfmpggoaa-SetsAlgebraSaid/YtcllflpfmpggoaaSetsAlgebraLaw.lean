/- SetsAlgebra: sets go as sets do. -/
import Derived.Test.YtcllflpfmpggoaaSetsKit
import Derived.Test.YtcllflpfmpggoaaSetsRef2
namespace Go.Proofs.Ytcllflpfmpggoaa
open Go.RowKit
set_option linter.unusedVariables false

set_option maxRecDepth 100000 in
set_option maxHeartbeats 8000000 in
theorem setsAlgebra_walk (w : World) (a : List ByteArray) (va : Value) (ha : SIn w.heap.size w a va) (b : List ByteArray) (vb : Value) (hb : SIn w.heap.size w b vb) (c : List ByteArray) (vc : Value) (hc : SIn w.heap.size w c vc) :
    Calls Try.prog 8 #[va, vb, vc] w fun e w' => e = .returned (.bool true) ∧ Below w.heap.size w w' := by
  have Ma : Hid (∀ W, Hid (Below w.heap.size w W) → _) := Lib.hid fun W (h : Hid (Below w.heap.size w W)) => manyN_calls a w.heap.size va W h.out.size (ha.below h.out)
  have Mb : Hid (∀ W, Hid (Below w.heap.size w W) → _) := Lib.hid fun W (h : Hid (Below w.heap.size w W)) => manyN_calls b w.heap.size vb W h.out.size (hb.below h.out)
  have Mc : Hid (∀ W, Hid (Below w.heap.size w W) → _) := Lib.hid fun W (h : Hid (Below w.heap.size w W)) => manyN_calls c w.heap.size vc W h.out.size (hc.below h.out)
  have fa := @fewN_of a
  have fb := @fewN_of b
  have fc := @fewN_of c
  have H0 : Hid (Below w.heap.size w w) := Lib.hid (Below.refl _ _)
  generalize manyN a = ma at *
  generalize manyN b = mb at *
  generalize manyN c = mc at *
  cases ma with
  | true =>
    clear fa ha fb hb fc hc
    go_enter Try.func8, Try.ntmps8
    go_wp2_with (first
      | (go_at_call 10; with_reducible refine (Ma.out _ (by assumption)).mono ?_; rintro e w1 ⟨rfl, b1⟩; have H1 := hid_up (by assumption) b1; clear b1)
      | (go_at_call 16; refine (awake_calls _).mono ?_; rintro e w1 ⟨rfl, b1⟩; have H1 := hid_up (by assumption) b1; clear b1)
      )
    go_ret
    exact ⟨rfl, H1.out⟩
  | false =>
    cases mb with
    | true =>
      clear fa ha fb hb fc hc
      go_enter Try.func8, Try.ntmps8
      go_wp2_with (first
        | (go_at_call 10; with_reducible refine (Ma.out _ (by assumption)).mono ?_; rintro e w1 ⟨rfl, b1⟩; have H1 := hid_up (by assumption) b1; clear b1)
        | (go_at_call 10; with_reducible refine (Mb.out _ (by assumption)).mono ?_; rintro e w1 ⟨rfl, b1⟩; have H1 := hid_up (by assumption) b1; clear b1)
        | (go_at_call 16; refine (awake_calls _).mono ?_; rintro e w1 ⟨rfl, b1⟩; have H1 := hid_up (by assumption) b1; clear b1)
        )
      go_ret
      exact ⟨rfl, H1.out⟩
    | false =>
      cases mc with
      | true =>
        clear fa ha fb hb fc hc
        go_enter Try.func8, Try.ntmps8
        go_wp2_with (first
          | (go_at_call 10; with_reducible refine (Ma.out _ (by assumption)).mono ?_; rintro e w1 ⟨rfl, b1⟩; have H1 := hid_up (by assumption) b1; clear b1)
          | (go_at_call 10; with_reducible refine (Mb.out _ (by assumption)).mono ?_; rintro e w1 ⟨rfl, b1⟩; have H1 := hid_up (by assumption) b1; clear b1)
          | (go_at_call 10; with_reducible refine (Mc.out _ (by assumption)).mono ?_; rintro e w1 ⟨rfl, b1⟩; have H1 := hid_up (by assumption) b1; clear b1)
          | (go_at_call 16; refine (awake_calls _).mono ?_; rintro e w1 ⟨rfl, b1⟩; have H1 := hid_up (by assumption) b1; clear b1)
          )
        go_ret
        exact ⟨rfl, H1.out⟩
      | false =>
        have la := (fa rfl).1
        have Ha := Lib.hid ha
        have lb := (fb rfl).1
        have Hb := Lib.hid hb
        have lc := (fc rfl).1
        have Hc := Lib.hid hc
        clear fa ha fb hb fc hc
        have k1 := union_len a b
        have k2 := union_len b a
        have k3 := union_len b c
        have k4 := union_len a (unionN b c)
        have k5 := union_len (unionN a b) c
        have p1 := pick_len a b true
        have p2 := pick_len b a true
        have p3 := pick_len b c true
        have p4 := pick_len a (pickN b c true) true
        have p5 := pick_len (pickN a b true) c true
        have p6 := pick_len a c true
        have p7 := pick_len a (unionN b c) true
        have p8 := pick_len a (unionN b c) false
        have p9 := pick_len a b false
        have q1 := pick_len (pickN a b false) c false
        have q2 := union_len (pickN a b true) (pickN a c true)
        have LL : Hid (a.length ≤ 60 ∧ b.length ≤ 60 ∧ c.length ≤ 60 ∧ (unionN a b).length ≤ 120 ∧ (unionN b a).length ≤ 120 ∧ (unionN b c).length ≤ 120 ∧ (unionN a (unionN b c)).length ≤ 180 ∧ (unionN (unionN a b) c).length ≤ 180 ∧ (pickN a b true).length ≤ 60 ∧ (pickN b a true).length ≤ 60 ∧ (pickN b c true).length ≤ 60 ∧ (pickN a (pickN b c true) true).length ≤ 60 ∧ (pickN (pickN a b true) c true).length ≤ 60 ∧ (pickN a c true).length ≤ 60 ∧ (pickN a (unionN b c) true).length ≤ 60 ∧ (pickN a (unionN b c) false).length ≤ 60 ∧ (pickN a b false).length ≤ 60 ∧ (pickN (pickN a b false) c false).length ≤ 60 ∧ (unionN (pickN a b true) (pickN a c true)).length ≤ 120) := Lib.hid (by refine ⟨?_, ?_, ?_, ?_, ?_, ?_, ?_, ?_, ?_, ?_, ?_, ?_, ?_, ?_, ?_, ?_, ?_, ?_, ?_⟩ <;> omega)
        clear la lb lc k1 k2 k3 k4 k5 p1 p2 p3 p4 p5 p6 p7 p8 p9 q1 q2
        go_enter Try.func8, Try.ntmps8
        go_wp2_with (first
          | (go_at_call 10; with_reducible refine (Ma.out _ (by assumption)).mono ?_; rintro e w1 ⟨rfl, b1⟩; have H1 := hid_up (by assumption) b1; clear b1)
          | (go_at_call 10; with_reducible refine (Mb.out _ (by assumption)).mono ?_; rintro e w1 ⟨rfl, b1⟩; have H1 := hid_up (by assumption) b1; clear b1)
          | (go_at_call 10; with_reducible refine (Mc.out _ (by assumption)).mono ?_; rintro e w1 ⟨rfl, b1⟩; have H1 := hid_up (by assumption) b1; clear b1)
          | fail)
        refine (union_calls w1.heap.size (a) (b) va vb (by have := LL.out; omega) w1 (Nat.le_refl _) (SIn.to Ha H1) (SIn.to Hb H1)).mono ?_
        rintro e w2 ⟨vd, rfl, hrow, b1⟩
        have H2 := hid_up H1 b1
        have Hd := Lib.hid hrow
        clear b1 hrow
        go_wp2_with fail
        refine (union_calls w2.heap.size (b) (a) vb va (by have := LL.out; omega) w2 (Nat.le_refl _) (SIn.to Hb H2) (SIn.to Ha H2)).mono ?_
        rintro e w3 ⟨vf, rfl, hrow, b1⟩
        have Hd := SIn.up Hd b1
        have H3 := hid_up H2 b1
        have Hf := Lib.hid hrow
        clear b1 hrow
        go_wp2_with fail
        refine (same_row (X := unionN a b) (Y := unionN b a) (fun s => by grind [unionN_mem, pick_true, pick_false]) (by have := LL.out; omega) (by have := LL.out; omega) Hd.out Hf.out).mono ?_
        rintro e w4 ⟨rfl, b1⟩
        have H4 := hid_up H3 b1
        clear b1 Hd Hf
        go_wp2_with fail
        refine (common_in w4.heap.size (a) (b) va vb (by have := LL.out; omega) (by have := LL.out; omega) w4 (Nat.le_refl _) (SIn.to Ha H4) (SIn.to Hb H4)).mono ?_
        rintro e w5 ⟨vg, rfl, hrow, b1⟩
        have H5 := hid_up H4 b1
        have Hg := Lib.hid hrow
        clear b1 hrow
        go_wp2_with fail
        refine (common_in w5.heap.size (b) (a) vb va (by have := LL.out; omega) (by have := LL.out; omega) w5 (Nat.le_refl _) (SIn.to Hb H5) (SIn.to Ha H5)).mono ?_
        rintro e w6 ⟨vh, rfl, hrow, b1⟩
        have Hg := SIn.up Hg b1
        have H6 := hid_up H5 b1
        have Hh := Lib.hid hrow
        clear b1 hrow
        go_wp2_with fail
        refine (same_row (X := pickN a b true) (Y := pickN b a true) (fun s => by grind [unionN_mem, pick_true, pick_false]) (by have := LL.out; omega) (by have := LL.out; omega) Hg.out Hh.out).mono ?_
        rintro e w7 ⟨rfl, b1⟩
        have H7 := hid_up H6 b1
        clear b1 Hg Hh
        go_wp2_with fail
        refine (union_calls w7.heap.size (b) (c) vb vc (by have := LL.out; omega) w7 (Nat.le_refl _) (SIn.to Hb H7) (SIn.to Hc H7)).mono ?_
        rintro e w8 ⟨vi, rfl, hrow, b1⟩
        have H8 := hid_up H7 b1
        have Hi := Lib.hid hrow
        clear b1 hrow
        go_wp2_with fail
        refine (union_calls w8.heap.size (a) (unionN b c) va vi (by have := LL.out; omega) w8 (Nat.le_refl _) (SIn.to Ha H8) Hi.out).mono ?_
        rintro e w9 ⟨vj, rfl, hrow, b1⟩
        have Hi := SIn.up Hi b1
        have H9 := hid_up H8 b1
        have Hj := Lib.hid hrow
        clear b1 hrow
        go_wp2_with fail
        refine (union_calls w9.heap.size (a) (b) va vb (by have := LL.out; omega) w9 (Nat.le_refl _) (SIn.to Ha H9) (SIn.to Hb H9)).mono ?_
        rintro e w10 ⟨vk, rfl, hrow, b1⟩
        have Hi := SIn.up Hi b1
        have Hj := SIn.up Hj b1
        have H10 := hid_up H9 b1
        have Hk := Lib.hid hrow
        clear b1 hrow
        go_wp2_with fail
        refine (union_calls w10.heap.size (unionN a b) (c) vk vc (by have := LL.out; omega) w10 (Nat.le_refl _) Hk.out (SIn.to Hc H10)).mono ?_
        rintro e w11 ⟨vl, rfl, hrow, b1⟩
        have Hi := SIn.up Hi b1
        have Hj := SIn.up Hj b1
        have Hk := SIn.up Hk b1
        have H11 := hid_up H10 b1
        have Hl := Lib.hid hrow
        clear b1 hrow
        go_wp2_with fail
        refine (same_row (X := unionN a (unionN b c)) (Y := unionN (unionN a b) c) (fun s => by grind [unionN_mem, pick_true, pick_false]) (by have := LL.out; omega) (by have := LL.out; omega) Hj.out Hl.out).mono ?_
        rintro e w12 ⟨rfl, b1⟩
        have Hi := SIn.up Hi b1
        have Hk := SIn.up Hk b1
        have H12 := hid_up H11 b1
        clear b1 Hj Hl
        go_wp2_with fail
        refine (common_in w12.heap.size (b) (c) vb vc (by have := LL.out; omega) (by have := LL.out; omega) w12 (Nat.le_refl _) (SIn.to Hb H12) (SIn.to Hc H12)).mono ?_
        rintro e w13 ⟨vm, rfl, hrow, b1⟩
        have Hi := SIn.up Hi b1
        have Hk := SIn.up Hk b1
        have H13 := hid_up H12 b1
        have Hm := Lib.hid hrow
        clear b1 hrow
        go_wp2_with fail
        refine (common_in w13.heap.size (a) (pickN b c true) va vm (by have := LL.out; omega) (by have := LL.out; omega) w13 (Nat.le_refl _) (SIn.to Ha H13) Hm.out).mono ?_
        rintro e w14 ⟨vn, rfl, hrow, b1⟩
        have Hi := SIn.up Hi b1
        have Hk := SIn.up Hk b1
        have Hm := SIn.up Hm b1
        have H14 := hid_up H13 b1
        have Hn := Lib.hid hrow
        clear b1 hrow
        go_wp2_with fail
        refine (common_in w14.heap.size (a) (b) va vb (by have := LL.out; omega) (by have := LL.out; omega) w14 (Nat.le_refl _) (SIn.to Ha H14) (SIn.to Hb H14)).mono ?_
        rintro e w15 ⟨vp, rfl, hrow, b1⟩
        have Hi := SIn.up Hi b1
        have Hk := SIn.up Hk b1
        have Hm := SIn.up Hm b1
        have Hn := SIn.up Hn b1
        have H15 := hid_up H14 b1
        have Hp := Lib.hid hrow
        clear b1 hrow
        go_wp2_with fail
        refine (common_in w15.heap.size (pickN a b true) (c) vp vc (by have := LL.out; omega) (by have := LL.out; omega) w15 (Nat.le_refl _) Hp.out (SIn.to Hc H15)).mono ?_
        rintro e w16 ⟨vq, rfl, hrow, b1⟩
        have Hi := SIn.up Hi b1
        have Hk := SIn.up Hk b1
        have Hm := SIn.up Hm b1
        have Hn := SIn.up Hn b1
        have Hp := SIn.up Hp b1
        have H16 := hid_up H15 b1
        have Hq := Lib.hid hrow
        clear b1 hrow
        go_wp2_with fail
        refine (same_row (X := pickN a (pickN b c true) true) (Y := pickN (pickN a b true) c true) (fun s => by grind [unionN_mem, pick_true, pick_false]) (by have := LL.out; omega) (by have := LL.out; omega) Hn.out Hq.out).mono ?_
        rintro e w17 ⟨rfl, b1⟩
        have Hi := SIn.up Hi b1
        have Hk := SIn.up Hk b1
        have Hm := SIn.up Hm b1
        have Hp := SIn.up Hp b1
        have H17 := hid_up H16 b1
        clear b1 Hn Hq
        go_wp2_with fail
        refine (union_calls w17.heap.size (b) (c) vb vc (by have := LL.out; omega) w17 (Nat.le_refl _) (SIn.to Hb H17) (SIn.to Hc H17)).mono ?_
        rintro e w18 ⟨vr, rfl, hrow, b1⟩
        have Hi := SIn.up Hi b1
        have Hk := SIn.up Hk b1
        have Hm := SIn.up Hm b1
        have Hp := SIn.up Hp b1
        have H18 := hid_up H17 b1
        have Hr := Lib.hid hrow
        clear b1 hrow
        go_wp2_with fail
        refine (common_in w18.heap.size (a) (unionN b c) va vr (by have := LL.out; omega) (by have := LL.out; omega) w18 (Nat.le_refl _) (SIn.to Ha H18) Hr.out).mono ?_
        rintro e w19 ⟨vs, rfl, hrow, b1⟩
        have Hi := SIn.up Hi b1
        have Hk := SIn.up Hk b1
        have Hm := SIn.up Hm b1
        have Hp := SIn.up Hp b1
        have Hr := SIn.up Hr b1
        have H19 := hid_up H18 b1
        have Hs := Lib.hid hrow
        clear b1 hrow
        go_wp2_with fail
        refine (common_in w19.heap.size (a) (b) va vb (by have := LL.out; omega) (by have := LL.out; omega) w19 (Nat.le_refl _) (SIn.to Ha H19) (SIn.to Hb H19)).mono ?_
        rintro e w20 ⟨vt, rfl, hrow, b1⟩
        have Hi := SIn.up Hi b1
        have Hk := SIn.up Hk b1
        have Hm := SIn.up Hm b1
        have Hp := SIn.up Hp b1
        have Hr := SIn.up Hr b1
        have Hs := SIn.up Hs b1
        have H20 := hid_up H19 b1
        have Ht := Lib.hid hrow
        clear b1 hrow
        go_wp2_with fail
        refine (common_in w20.heap.size (a) (c) va vc (by have := LL.out; omega) (by have := LL.out; omega) w20 (Nat.le_refl _) (SIn.to Ha H20) (SIn.to Hc H20)).mono ?_
        rintro e w21 ⟨vu, rfl, hrow, b1⟩
        have Hi := SIn.up Hi b1
        have Hk := SIn.up Hk b1
        have Hm := SIn.up Hm b1
        have Hp := SIn.up Hp b1
        have Hr := SIn.up Hr b1
        have Hs := SIn.up Hs b1
        have Ht := SIn.up Ht b1
        have H21 := hid_up H20 b1
        have Hu := Lib.hid hrow
        clear b1 hrow
        go_wp2_with fail
        refine (union_calls w21.heap.size (pickN a b true) (pickN a c true) vt vu (by have := LL.out; omega) w21 (Nat.le_refl _) Ht.out Hu.out).mono ?_
        rintro e w22 ⟨vx, rfl, hrow, b1⟩
        have Hi := SIn.up Hi b1
        have Hk := SIn.up Hk b1
        have Hm := SIn.up Hm b1
        have Hp := SIn.up Hp b1
        have Hr := SIn.up Hr b1
        have Hs := SIn.up Hs b1
        have Ht := SIn.up Ht b1
        have Hu := SIn.up Hu b1
        have H22 := hid_up H21 b1
        have Hx := Lib.hid hrow
        clear b1 hrow
        go_wp2_with fail
        refine (same_row (X := pickN a (unionN b c) true) (Y := unionN (pickN a b true) (pickN a c true)) (fun s => by grind [unionN_mem, pick_true, pick_false]) (by have := LL.out; omega) (by have := LL.out; omega) Hs.out Hx.out).mono ?_
        rintro e w23 ⟨rfl, b1⟩
        have Hi := SIn.up Hi b1
        have Hk := SIn.up Hk b1
        have Hm := SIn.up Hm b1
        have Hp := SIn.up Hp b1
        have Hr := SIn.up Hr b1
        have Ht := SIn.up Ht b1
        have Hu := SIn.up Hu b1
        have H23 := hid_up H22 b1
        clear b1 Hs Hx
        go_wp2_with fail
        refine (union_calls w23.heap.size (b) (c) vb vc (by have := LL.out; omega) w23 (Nat.le_refl _) (SIn.to Hb H23) (SIn.to Hc H23)).mono ?_
        rintro e w24 ⟨vy, rfl, hrow, b1⟩
        have Hi := SIn.up Hi b1
        have Hk := SIn.up Hk b1
        have Hm := SIn.up Hm b1
        have Hp := SIn.up Hp b1
        have Hr := SIn.up Hr b1
        have Ht := SIn.up Ht b1
        have Hu := SIn.up Hu b1
        have H24 := hid_up H23 b1
        have Hy := Lib.hid hrow
        clear b1 hrow
        go_wp2_with fail
        refine (minus_calls w24.heap.size (a) (unionN b c) va vy (by have := LL.out; omega) (by have := LL.out; omega) w24 (Nat.le_refl _) (SIn.to Ha H24) Hy.out).mono ?_
        rintro e w25 ⟨vz, rfl, hrow, b1⟩
        have Hi := SIn.up Hi b1
        have Hk := SIn.up Hk b1
        have Hm := SIn.up Hm b1
        have Hp := SIn.up Hp b1
        have Hr := SIn.up Hr b1
        have Ht := SIn.up Ht b1
        have Hu := SIn.up Hu b1
        have Hy := SIn.up Hy b1
        have H25 := hid_up H24 b1
        have Hz := Lib.hid hrow
        clear b1 hrow
        go_wp2_with fail
        refine (minus_calls w25.heap.size (a) (b) va vb (by have := LL.out; omega) (by have := LL.out; omega) w25 (Nat.le_refl _) (SIn.to Ha H25) (SIn.to Hb H25)).mono ?_
        rintro e w26 ⟨vA, rfl, hrow, b1⟩
        have Hi := SIn.up Hi b1
        have Hk := SIn.up Hk b1
        have Hm := SIn.up Hm b1
        have Hp := SIn.up Hp b1
        have Hr := SIn.up Hr b1
        have Ht := SIn.up Ht b1
        have Hu := SIn.up Hu b1
        have Hy := SIn.up Hy b1
        have Hz := SIn.up Hz b1
        have H26 := hid_up H25 b1
        have HA := Lib.hid hrow
        clear b1 hrow
        go_wp2_with fail
        refine (minus_calls w26.heap.size (pickN a b false) (c) vA vc (by have := LL.out; omega) (by have := LL.out; omega) w26 (Nat.le_refl _) HA.out (SIn.to Hc H26)).mono ?_
        rintro e w27 ⟨vB, rfl, hrow, b1⟩
        have Hi := SIn.up Hi b1
        have Hk := SIn.up Hk b1
        have Hm := SIn.up Hm b1
        have Hp := SIn.up Hp b1
        have Hr := SIn.up Hr b1
        have Ht := SIn.up Ht b1
        have Hu := SIn.up Hu b1
        have Hy := SIn.up Hy b1
        have Hz := SIn.up Hz b1
        have HA := SIn.up HA b1
        have H27 := hid_up H26 b1
        have HB := Lib.hid hrow
        clear b1 hrow
        go_wp2_with fail
        refine (same_row (X := pickN a (unionN b c) false) (Y := pickN (pickN a b false) c false) (fun s => by grind [unionN_mem, pick_true, pick_false]) (by have := LL.out; omega) (by have := LL.out; omega) Hz.out HB.out).mono ?_
        rintro e w28 ⟨rfl, b1⟩
        have Hi := SIn.up Hi b1
        have Hk := SIn.up Hk b1
        have Hm := SIn.up Hm b1
        have Hp := SIn.up Hp b1
        have Hr := SIn.up Hr b1
        have Ht := SIn.up Ht b1
        have Hu := SIn.up Hu b1
        have Hy := SIn.up Hy b1
        have HA := SIn.up HA b1
        have H28 := hid_up H27 b1
        clear b1 Hz HB
        go_wp2_with fail
        refine (awake_calls w28).mono ?_
        rintro e w29 ⟨rfl, b1⟩
        have Hi := SIn.up Hi b1
        have Hk := SIn.up Hk b1
        have Hm := SIn.up Hm b1
        have Hp := SIn.up Hp b1
        have Hr := SIn.up Hr b1
        have Ht := SIn.up Ht b1
        have Hu := SIn.up Hu b1
        have Hy := SIn.up Hy b1
        have HA := SIn.up HA b1
        have H29 := hid_up H28 b1
        clear b1
        go_wp2_with fail
        go_ret
        exact ⟨rfl, H29.out⟩
end Go.Proofs.Ytcllflpfmpggoaa
