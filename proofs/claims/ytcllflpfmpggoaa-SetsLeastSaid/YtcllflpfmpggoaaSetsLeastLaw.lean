/- SetsLeast: what two states join to knows most of what knows no more than either. -/
import Derived.Test.YtcllflpfmpggoaaSetsBoxes
namespace Go.Proofs.Ytcllflpfmpggoaa
open Go.RowKit
set_option linter.unusedVariables false

set_option maxRecDepth 100000 in
set_option maxHeartbeats 8000000 in
theorem setsLeast_walk (w : World) (da : Bool) (a : List ByteArray) (va : Value) (ha : SIn w.heap.size w a va) (db : Bool) (b : List ByteArray) (vb : Value) (hb : SIn w.heap.size w b vb) (dc : Bool) (c : List ByteArray) (vc : Value) (hc : SIn w.heap.size w c vc) :
    Calls Try.prog 9 #[.agg #[.bool da, va], .agg #[.bool db, vb], .agg #[.bool dc, vc]] w fun e w' => e = .returned (.bool true) ∧ Below w.heap.size w w' := by
  have Ma : Hid (∀ W, Hid (Below w.heap.size w W) → _) := Lib.hid fun W (h : Hid (Below w.heap.size w W)) => manyN_calls a w.heap.size va W h.out.size (ha.below h.out)
  have Mb : Hid (∀ W, Hid (Below w.heap.size w W) → _) := Lib.hid fun W (h : Hid (Below w.heap.size w W)) => manyN_calls b w.heap.size vb W h.out.size (hb.below h.out)
  have Mc : Hid (∀ W, Hid (Below w.heap.size w W) → _) := Lib.hid fun W (h : Hid (Below w.heap.size w W)) => manyN_calls c w.heap.size vc W h.out.size (hc.below h.out)
  have fa := @fewN_of a
  have fb := @fewN_of b
  have fc := @fewN_of c
  have Ha := Lib.hid ha
  have Hb := Lib.hid hb
  have Hc := Lib.hid hc
  obtain ⟨a0, c0, rfl⟩ := ha.of
  obtain ⟨a1, c1, rfl⟩ := hb.of
  obtain ⟨a2, c2, rfl⟩ := hc.of
  generalize manyN a = ma at *
  generalize manyN b = mb at *
  generalize manyN c = mc at *
  cases ma with
  | true =>
    clear fa ha Ha fb hb Hb fc hc Hc
    generalize a.length = n0 at *
    generalize b.length = n1 at *
    generalize c.length = n2 at *
    go_enter Try.func9, Try.ntmps9
    go_wp2_with fail
    obtain ⟨W0, hW⟩ : ∃ W, W = ((w.alloc (.cells #[.bool da, .slice a0 n0 c0] 32)).alloc (.cells #[.bool db, .slice a1 n1 c1] 32)).alloc (.cells #[.bool dc, .slice a2 n2 c2] 32) := ⟨_, rfl⟩
    obtain ⟨⟨zA, A0, A1⟩, ⟨zB, B0, B1⟩, ⟨zC, C0, C1⟩, H0⟩ := boxes3 hW
    rw [← hW]
    clear hW
    refine (Ma.out W0 H0).mono ?_
    rintro e w1 ⟨rfl, b1⟩; obtain ⟨zA, A0, A1⟩ := st_up zA A0 A1 b1; obtain ⟨zB, B0, B1⟩ := st_up zB B0 B1 b1; obtain ⟨zC, C0, C1⟩ := st_up zC C0 C1 b1; have H1 := hid_up H0 b1; clear b1
    go_wp2_with (first
      | (go_at_call 10; with_reducible refine (Ma.out _ (by assumption)).mono ?_; rintro e w1 ⟨rfl, b1⟩; obtain ⟨zA, A0, A1⟩ := st_up zA A0 A1 b1; obtain ⟨zB, B0, B1⟩ := st_up zB B0 B1 b1; obtain ⟨zC, C0, C1⟩ := st_up zC C0 C1 b1; have H1 := hid_up (by assumption) b1; clear b1)
      | (go_at_call 16; refine (awake_calls _).mono ?_; rintro e w1 ⟨rfl, b1⟩; obtain ⟨zA, A0, A1⟩ := st_up zA A0 A1 b1; obtain ⟨zB, B0, B1⟩ := st_up zB B0 B1 b1; obtain ⟨zC, C0, C1⟩ := st_up zC C0 C1 b1; have H1 := hid_up (by assumption) b1; clear b1))
    go_ret
    exact ⟨rfl, H1.out⟩
  | false =>
    cases mb with
    | true =>
      clear fa ha Ha fb hb Hb fc hc Hc
      generalize a.length = n0 at *
      generalize b.length = n1 at *
      generalize c.length = n2 at *
      go_enter Try.func9, Try.ntmps9
      go_wp2_with fail
      obtain ⟨W0, hW⟩ : ∃ W, W = ((w.alloc (.cells #[.bool da, .slice a0 n0 c0] 32)).alloc (.cells #[.bool db, .slice a1 n1 c1] 32)).alloc (.cells #[.bool dc, .slice a2 n2 c2] 32) := ⟨_, rfl⟩
      obtain ⟨⟨zA, A0, A1⟩, ⟨zB, B0, B1⟩, ⟨zC, C0, C1⟩, H0⟩ := boxes3 hW
      rw [← hW]
      clear hW
      refine (Ma.out W0 H0).mono ?_
      rintro e w1 ⟨rfl, b1⟩; obtain ⟨zA, A0, A1⟩ := st_up zA A0 A1 b1; obtain ⟨zB, B0, B1⟩ := st_up zB B0 B1 b1; obtain ⟨zC, C0, C1⟩ := st_up zC C0 C1 b1; have H1 := hid_up H0 b1; clear b1
      go_wp2_with (first
        | (go_at_call 10; with_reducible refine (Ma.out _ (by assumption)).mono ?_; rintro e w1 ⟨rfl, b1⟩; obtain ⟨zA, A0, A1⟩ := st_up zA A0 A1 b1; obtain ⟨zB, B0, B1⟩ := st_up zB B0 B1 b1; obtain ⟨zC, C0, C1⟩ := st_up zC C0 C1 b1; have H1 := hid_up (by assumption) b1; clear b1)
        | (go_at_call 10; with_reducible refine (Mb.out _ (by assumption)).mono ?_; rintro e w1 ⟨rfl, b1⟩; obtain ⟨zA, A0, A1⟩ := st_up zA A0 A1 b1; obtain ⟨zB, B0, B1⟩ := st_up zB B0 B1 b1; obtain ⟨zC, C0, C1⟩ := st_up zC C0 C1 b1; have H1 := hid_up (by assumption) b1; clear b1)
        | (go_at_call 16; refine (awake_calls _).mono ?_; rintro e w1 ⟨rfl, b1⟩; obtain ⟨zA, A0, A1⟩ := st_up zA A0 A1 b1; obtain ⟨zB, B0, B1⟩ := st_up zB B0 B1 b1; obtain ⟨zC, C0, C1⟩ := st_up zC C0 C1 b1; have H1 := hid_up (by assumption) b1; clear b1))
      go_ret
      exact ⟨rfl, H1.out⟩
    | false =>
      cases mc with
      | true =>
        clear fa ha Ha fb hb Hb fc hc Hc
        generalize a.length = n0 at *
        generalize b.length = n1 at *
        generalize c.length = n2 at *
        go_enter Try.func9, Try.ntmps9
        go_wp2_with fail
        obtain ⟨W0, hW⟩ : ∃ W, W = ((w.alloc (.cells #[.bool da, .slice a0 n0 c0] 32)).alloc (.cells #[.bool db, .slice a1 n1 c1] 32)).alloc (.cells #[.bool dc, .slice a2 n2 c2] 32) := ⟨_, rfl⟩
        obtain ⟨⟨zA, A0, A1⟩, ⟨zB, B0, B1⟩, ⟨zC, C0, C1⟩, H0⟩ := boxes3 hW
        rw [← hW]
        clear hW
        refine (Ma.out W0 H0).mono ?_
        rintro e w1 ⟨rfl, b1⟩; obtain ⟨zA, A0, A1⟩ := st_up zA A0 A1 b1; obtain ⟨zB, B0, B1⟩ := st_up zB B0 B1 b1; obtain ⟨zC, C0, C1⟩ := st_up zC C0 C1 b1; have H1 := hid_up H0 b1; clear b1
        go_wp2_with (first
          | (go_at_call 10; with_reducible refine (Ma.out _ (by assumption)).mono ?_; rintro e w1 ⟨rfl, b1⟩; obtain ⟨zA, A0, A1⟩ := st_up zA A0 A1 b1; obtain ⟨zB, B0, B1⟩ := st_up zB B0 B1 b1; obtain ⟨zC, C0, C1⟩ := st_up zC C0 C1 b1; have H1 := hid_up (by assumption) b1; clear b1)
          | (go_at_call 10; with_reducible refine (Mb.out _ (by assumption)).mono ?_; rintro e w1 ⟨rfl, b1⟩; obtain ⟨zA, A0, A1⟩ := st_up zA A0 A1 b1; obtain ⟨zB, B0, B1⟩ := st_up zB B0 B1 b1; obtain ⟨zC, C0, C1⟩ := st_up zC C0 C1 b1; have H1 := hid_up (by assumption) b1; clear b1)
          | (go_at_call 10; with_reducible refine (Mc.out _ (by assumption)).mono ?_; rintro e w1 ⟨rfl, b1⟩; obtain ⟨zA, A0, A1⟩ := st_up zA A0 A1 b1; obtain ⟨zB, B0, B1⟩ := st_up zB B0 B1 b1; obtain ⟨zC, C0, C1⟩ := st_up zC C0 C1 b1; have H1 := hid_up (by assumption) b1; clear b1)
          | (go_at_call 16; refine (awake_calls _).mono ?_; rintro e w1 ⟨rfl, b1⟩; obtain ⟨zA, A0, A1⟩ := st_up zA A0 A1 b1; obtain ⟨zB, B0, B1⟩ := st_up zB B0 B1 b1; obtain ⟨zC, C0, C1⟩ := st_up zC C0 C1 b1; have H1 := hid_up (by assumption) b1; clear b1))
        go_ret
        exact ⟨rfl, H1.out⟩
      | false =>
        have la := (fa rfl).1
        have lb := (fb rfl).1
        have lc := (fc rfl).1
        have JC : Hid (∀ W, Hid (Below w.heap.size w W) → _) := Lib.hid fun W (h : Hid (Below w.heap.size w W)) => join_calls w.heap.size da db a b _ _ (by omega) (by omega) W h.out.size (ha.below h.out) (hb.below h.out)
        have L1 : Hid (∀ W, Hid (Below w.heap.size w W) → _) := Lib.hid fun W (h : Hid (Below w.heap.size w W)) => less_calls w.heap.size dc da c a _ _ (by omega) (by omega) W h.out.size (hc.below h.out) (ha.below h.out)
        have L2 : Hid (∀ W, Hid (Below w.heap.size w W) → _) := Lib.hid fun W (h : Hid (Below w.heap.size w W)) => less_calls w.heap.size dc db c b _ _ (by omega) (by omega) W h.out.size (hc.below h.out) (hb.below h.out)
        have L3 : Hid (∀ W, Hid (Below w.heap.size w W) → _) := Lib.hid fun W (h : Hid (Below w.heap.size w W)) => less_calls w.heap.size da da a a _ _ (by omega) (by omega) W h.out.size (ha.below h.out) (ha.below h.out)
        have JL := join_short (da := da) (db := db) la lb
        have K1 : Hid (∀ (W1 W : World) vj, SIn W1.heap.size W1 (joinL da a db b) vj → Hid (Below w.heap.size w W) → Hid (Below W1.heap.size W1 W) → _) := Lib.hid fun W1 W vj hj h k => less_calls W.heap.size (da && db) da (joinL da a db b) a vj _ (by omega) (by omega) W (Nat.le_refl _) ((hj.below k.out).mono k.out.size) ((ha.below h.out).mono h.out.size)
        have K2 : Hid (∀ (W1 W : World) vj, SIn W1.heap.size W1 (joinL da a db b) vj → Hid (Below w.heap.size w W) → Hid (Below W1.heap.size W1 W) → _) := Lib.hid fun W1 W vj hj h k => less_calls W.heap.size (da && db) db (joinL da a db b) b vj _ (by omega) (by omega) W (Nat.le_refl _) ((hj.below k.out).mono k.out.size) ((hb.below h.out).mono h.out.size)
        have K3 : Hid (∀ (W1 W : World) vj, SIn W1.heap.size W1 (joinL da a db b) vj → Hid (Below w.heap.size w W) → Hid (Below W1.heap.size W1 W) → _) := Lib.hid fun W1 W vj hj h k => less_calls W.heap.size dc (da && db) c (joinL da a db b) _ vj (by omega) (by omega) W (Nat.le_refl _) ((hc.below h.out).mono h.out.size) ((hj.below k.out).mono k.out.size)
        rw [less_join1] at K1
        rw [less_join2] at K2
        rw [less_self] at L3
        have T := less_join3 da db dc a b c
        generalize lessB dc c (da && db) (joinL da a db b) = r3 at *
        generalize lessB dc c da a = r1 at *
        generalize lessB dc c db b = r2 at *
        generalize joinL da a db b = J at *
        generalize (da && db) = dj at *
        clear fa ha Ha la fb hb Hb lb fc hc Hc lc JL
        generalize a.length = n0 at *
        generalize b.length = n1 at *
        generalize c.length = n2 at *
        have T1 := Lib.hid T
        clear T
        go_enter Try.func9, Try.ntmps9
        go_wp2_with fail
        obtain ⟨W0, hW⟩ : ∃ W, W = ((w.alloc (.cells #[.bool da, .slice a0 n0 c0] 32)).alloc (.cells #[.bool db, .slice a1 n1 c1] 32)).alloc (.cells #[.bool dc, .slice a2 n2 c2] 32) := ⟨_, rfl⟩
        obtain ⟨⟨zA, A0, A1⟩, ⟨zB, B0, B1⟩, ⟨zC, C0, C1⟩, H0⟩ := boxes3 hW
        rw [← hW]
        clear hW
        refine (Ma.out W0 H0).mono ?_
        rintro e w1 ⟨rfl, b1⟩; obtain ⟨zA, A0, A1⟩ := st_up zA A0 A1 b1; obtain ⟨zB, B0, B1⟩ := st_up zB B0 B1 b1; obtain ⟨zC, C0, C1⟩ := st_up zC C0 C1 b1; have H1 := hid_up H0 b1; clear b1
        go_wp2_with (first
          | (go_at_call 10; with_reducible refine (Ma.out _ (by assumption)).mono ?_; rintro e w1 ⟨rfl, b1⟩; obtain ⟨zA, A0, A1⟩ := st_up zA A0 A1 b1; obtain ⟨zB, B0, B1⟩ := st_up zB B0 B1 b1; obtain ⟨zC, C0, C1⟩ := st_up zC C0 C1 b1; have H1 := hid_up (by assumption) b1; clear b1)
          | (go_at_call 10; with_reducible refine (Mb.out _ (by assumption)).mono ?_; rintro e w1 ⟨rfl, b1⟩; obtain ⟨zA, A0, A1⟩ := st_up zA A0 A1 b1; obtain ⟨zB, B0, B1⟩ := st_up zB B0 B1 b1; obtain ⟨zC, C0, C1⟩ := st_up zC C0 C1 b1; have H1 := hid_up (by assumption) b1; clear b1)
          | (go_at_call 10; with_reducible refine (Mc.out _ (by assumption)).mono ?_; rintro e w1 ⟨rfl, b1⟩; obtain ⟨zA, A0, A1⟩ := st_up zA A0 A1 b1; obtain ⟨zB, B0, B1⟩ := st_up zB B0 B1 b1; obtain ⟨zC, C0, C1⟩ := st_up zC C0 C1 b1; have H1 := hid_up (by assumption) b1; clear b1)
          | fail)
        refine (JC.out _ H1).mono ?_
        rintro e w2 ⟨vj, rfl, hj, b1⟩
        obtain ⟨zA, A0, A1⟩ := st_up zA A0 A1 b1; obtain ⟨zB, B0, B1⟩ := st_up zB B0 B1 b1; obtain ⟨zC, C0, C1⟩ := st_up zC C0 C1 b1; have H1 := hid_up H1 b1; clear b1
        obtain ⟨aj, cj, rfl⟩ := hj.of
        have HJ := Lib.hid hj
        clear hj
        have K1 := Lib.hid fun W => K1.out w2 W _ HJ.out
        have K2 := Lib.hid fun W => K2.out w2 W _ HJ.out
        have K3 := Lib.hid fun W => K3.out w2 W _ HJ.out
        clear HJ JC
        generalize J.length = nj at *
        go_wp2_with fail
        obtain ⟨W3, hW⟩ : ∃ W, W = w2.alloc (.cells #[.bool dj, .slice aj nj cj] 32) := ⟨_, rfl⟩
        obtain ⟨⟨zJ, J0, J1⟩, b1⟩ := boxes1 hW
        rw [← hW]
        clear hW
        obtain ⟨zA, A0, A1⟩ := st_up zA A0 A1 b1; obtain ⟨zB, B0, B1⟩ := st_up zB B0 B1 b1; obtain ⟨zC, C0, C1⟩ := st_up zC C0 C1 b1; have H1 := hid_up H1 b1; have G1 := Lib.hid b1; clear b1
        refine (K1.out _ H1 G1).mono ?_
        rintro e w4 ⟨rfl, b1⟩; obtain ⟨zA, A0, A1⟩ := st_up zA A0 A1 b1; obtain ⟨zB, B0, B1⟩ := st_up zB B0 B1 b1; obtain ⟨zC, C0, C1⟩ := st_up zC C0 C1 b1; obtain ⟨zJ, J0, J1⟩ := st_up zJ J0 J1 b1; have H1 := hid_up H1 b1; have G1 := hid_up G1 b1; clear b1
        have T2 : (r1 = false ∨ r2 = false ∨ r3 = true) := by
          have := T1.out
          cases r1 <;> cases r2 <;> cases r3 <;> simp at this ⊢
        clear T1
        cases r1 <;> cases r2 <;> cases r3
        all_goals
          first
            | (exfalso; simp at T2; done)
            | (clear T2
               go_wp2_with (first
                 | (go_at_call 26; with_reducible refine (K2.out _ (by assumption) (by assumption)).mono ?_; rintro e w1 ⟨rfl, b1⟩; obtain ⟨zA, A0, A1⟩ := st_up zA A0 A1 b1; obtain ⟨zB, B0, B1⟩ := st_up zB B0 B1 b1; obtain ⟨zC, C0, C1⟩ := st_up zC C0 C1 b1; obtain ⟨zJ, J0, J1⟩ := st_up zJ J0 J1 b1; have H1 := hid_up (w := w) (by assumption) b1; have G1 := hid_up (w := w2) (by assumption) b1; clear b1)
                 | (go_at_call 26; with_reducible refine (L1.out _ (by assumption)).mono ?_; rintro e w1 ⟨rfl, b1⟩; obtain ⟨zA, A0, A1⟩ := st_up zA A0 A1 b1; obtain ⟨zB, B0, B1⟩ := st_up zB B0 B1 b1; obtain ⟨zC, C0, C1⟩ := st_up zC C0 C1 b1; obtain ⟨zJ, J0, J1⟩ := st_up zJ J0 J1 b1; have H1 := hid_up (w := w) (by assumption) b1; have G1 := hid_up (w := w2) (by assumption) b1; clear b1)
                 | (go_at_call 26; with_reducible refine (L2.out _ (by assumption)).mono ?_; rintro e w1 ⟨rfl, b1⟩; obtain ⟨zA, A0, A1⟩ := st_up zA A0 A1 b1; obtain ⟨zB, B0, B1⟩ := st_up zB B0 B1 b1; obtain ⟨zC, C0, C1⟩ := st_up zC C0 C1 b1; obtain ⟨zJ, J0, J1⟩ := st_up zJ J0 J1 b1; have H1 := hid_up (w := w) (by assumption) b1; have G1 := hid_up (w := w2) (by assumption) b1; clear b1)
                 | (go_at_call 26; with_reducible refine (K3.out _ (by assumption) (by assumption)).mono ?_; rintro e w1 ⟨rfl, b1⟩; obtain ⟨zA, A0, A1⟩ := st_up zA A0 A1 b1; obtain ⟨zB, B0, B1⟩ := st_up zB B0 B1 b1; obtain ⟨zC, C0, C1⟩ := st_up zC C0 C1 b1; obtain ⟨zJ, J0, J1⟩ := st_up zJ J0 J1 b1; have H1 := hid_up (w := w) (by assumption) b1; have G1 := hid_up (w := w2) (by assumption) b1; clear b1)
                 | (go_at_call 26; with_reducible refine (L3.out _ (by assumption)).mono ?_; rintro e w1 ⟨rfl, b1⟩; obtain ⟨zA, A0, A1⟩ := st_up zA A0 A1 b1; obtain ⟨zB, B0, B1⟩ := st_up zB B0 B1 b1; obtain ⟨zC, C0, C1⟩ := st_up zC C0 C1 b1; obtain ⟨zJ, J0, J1⟩ := st_up zJ J0 J1 b1; have H1 := hid_up (w := w) (by assumption) b1; have G1 := hid_up (w := w2) (by assumption) b1; clear b1)
                 | (go_at_call 16; refine (awake_calls _).mono ?_; rintro e w1 ⟨rfl, b1⟩; obtain ⟨zA, A0, A1⟩ := st_up zA A0 A1 b1; obtain ⟨zB, B0, B1⟩ := st_up zB B0 B1 b1; obtain ⟨zC, C0, C1⟩ := st_up zC C0 C1 b1; obtain ⟨zJ, J0, J1⟩ := st_up zJ J0 J1 b1; have H1 := hid_up (w := w) (by assumption) b1; clear b1))
               go_ret
               exact ⟨rfl, H1.out⟩)
end Go.Proofs.Ytcllflpfmpggoaa
