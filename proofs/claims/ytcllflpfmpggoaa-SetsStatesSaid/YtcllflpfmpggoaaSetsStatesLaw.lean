/- SetsStates: what two states join to, and whether one knows no more than the other. -/
import Derived.Test.YtcllflpfmpggoaaSetsBoxes
namespace Go.Proofs.Ytcllflpfmpggoaa
open Go.RowKit
set_option linter.unusedVariables false

theorem join_at {B : Nat} {da db : Bool} {a b : List ByteArray} (L : List ByteArray) (hL : joinL da a db b = L) {va vb : Value} (hla : a.length ≤ 1000) (hlb : b.length ≤ 1000) {w : World} (hB : B ≤ w.heap.size) (ha : SIn B w a va) (hb : SIn B w b vb) :
    Calls Try.prog 25 #[.agg #[.bool da, va], .agg #[.bool db, vb]] w fun e w' => ∃ v', e = .returned (.agg #[.bool (da && db), v']) ∧ SIn w'.heap.size w' L v' ∧ Below w.heap.size w w' := by
  subst hL
  exact join_calls B da db a b va vb hla hlb w hB ha hb
/-- a store where no text stands leaves a row of texts as it is -/
theorem SIn.past {B : Nat} {w : World} {l : List ByteArray} {v : Value} {p : Addr} {ao : Option Addr} {n c : Nat} (h : SIn B w l v) (hp : w.cell? p = some (.slice ao n c)) (z : Value) : SIn B (w.setCell p z) l v := by
  obtain ⟨b, o, hs, hr⟩ := h
  refine ⟨b, o, hs, fun j s hj => ⟨(hr j s hj).1, ?_⟩⟩
  rw [World.cell?_setCell_other]
  · exact (hr j s hj).2
  · intro e
    rw [e, (hr j s hj).2] at hp
    cases hp
theorem box_past {w : World} {g k o o' : Nat} {x z : Value} (h : w.cell? ⟨g, o, none⟩ = some x) (hk : g ≠ k) : (w.setCell ⟨k, o', none⟩ z).cell? ⟨g, o, none⟩ = some x := by
  rw [World.cell?_setCell_other]
  · exact h
  · intro e; exact hk (by injection e with e _ _; exact e.symm)

set_option maxRecDepth 100000 in
set_option maxHeartbeats 8000000 in
theorem setsStates_walk (w : World) (da : Bool) (a : List ByteArray) (va : Value) (ha : SIn w.heap.size w a va) (db : Bool) (b : List ByteArray) (vb : Value) (hb : SIn w.heap.size w b vb) :
    Calls Try.prog 6 #[.agg #[.bool da, va], .agg #[.bool db, vb]] w fun e w' => e = .returned (.bool true) ∧ Below w.heap.size w w' := by
  have Ma : Hid (∀ W, Hid (Below w.heap.size w W) → _) := Lib.hid fun W (h : Hid (Below w.heap.size w W)) => manyN_calls a w.heap.size va W h.out.size (ha.below h.out)
  have Mb : Hid (∀ W, Hid (Below w.heap.size w W) → _) := Lib.hid fun W (h : Hid (Below w.heap.size w W)) => manyN_calls b w.heap.size vb W h.out.size (hb.below h.out)
  have fa := @fewN_of a
  have fb := @fewN_of b
  obtain ⟨a0, c0, rfl⟩ := ha.of
  obtain ⟨a1, c1, rfl⟩ := hb.of
  generalize manyN a = ma at *
  generalize manyN b = mb at *
  cases ma with
  | true =>
    clear fa ha fb hb
    generalize a.length = n0 at *
    generalize b.length = n1 at *
    go_enter Try.func6, Try.ntmps6
    go_wp2_with fail
    obtain ⟨W0, hW⟩ : ∃ W, W = (w.alloc (.cells #[.bool da, .slice a0 n0 c0] 32)).alloc (.cells #[.bool db, .slice a1 n1 c1] 32) := ⟨_, rfl⟩
    obtain ⟨⟨zA, A0, A1⟩, ⟨zB, B0, B1⟩, H0⟩ := boxes2 hW
    rw [← hW]
    clear hW
    refine (Ma.out W0 H0).mono ?_
    rintro e w1 ⟨rfl, b1⟩; obtain ⟨zA, A0, A1⟩ := st_up zA A0 A1 b1; obtain ⟨zB, B0, B1⟩ := st_up zB B0 B1 b1; have H1 := hid_up H0 b1; clear b1
    go_wp2_with (first
      | (go_at_call 10; with_reducible refine (Ma.out _ (by assumption)).mono ?_; rintro e w1 ⟨rfl, b1⟩; obtain ⟨zA, A0, A1⟩ := st_up zA A0 A1 b1; obtain ⟨zB, B0, B1⟩ := st_up zB B0 B1 b1; have H1 := hid_up (by assumption) b1; clear b1)
      )
    go_ret
    exact ⟨rfl, H1.out⟩
  | false =>
    cases mb with
    | true =>
      clear fa ha fb hb
      generalize a.length = n0 at *
      generalize b.length = n1 at *
      go_enter Try.func6, Try.ntmps6
      go_wp2_with fail
      obtain ⟨W0, hW⟩ : ∃ W, W = (w.alloc (.cells #[.bool da, .slice a0 n0 c0] 32)).alloc (.cells #[.bool db, .slice a1 n1 c1] 32) := ⟨_, rfl⟩
      obtain ⟨⟨zA, A0, A1⟩, ⟨zB, B0, B1⟩, H0⟩ := boxes2 hW
      rw [← hW]
      clear hW
      refine (Ma.out W0 H0).mono ?_
      rintro e w1 ⟨rfl, b1⟩; obtain ⟨zA, A0, A1⟩ := st_up zA A0 A1 b1; obtain ⟨zB, B0, B1⟩ := st_up zB B0 B1 b1; have H1 := hid_up H0 b1; clear b1
      go_wp2_with (first
        | (go_at_call 10; with_reducible refine (Ma.out _ (by assumption)).mono ?_; rintro e w1 ⟨rfl, b1⟩; obtain ⟨zA, A0, A1⟩ := st_up zA A0 A1 b1; obtain ⟨zB, B0, B1⟩ := st_up zB B0 B1 b1; have H1 := hid_up (by assumption) b1; clear b1)
        | (go_at_call 10; with_reducible refine (Mb.out _ (by assumption)).mono ?_; rintro e w1 ⟨rfl, b1⟩; obtain ⟨zA, A0, A1⟩ := st_up zA A0 A1 b1; obtain ⟨zB, B0, B1⟩ := st_up zB B0 B1 b1; have H1 := hid_up (by assumption) b1; clear b1)
        )
      go_ret
      exact ⟨rfl, H1.out⟩
    | false =>
      have la := (fa rfl).1
      have lb := (fb rfl).1
      cases da with
      | true =>
        cases db with
        | true =>
          have JC : Hid (∀ W, Hid (Below w.heap.size w W) → _) := Lib.hid fun W (h : Hid (Below w.heap.size w W)) => join_at (da := true) (db := true) ([]) rfl (by omega) (by omega) h.out.size (ha.below h.out) (hb.below h.out)
          have LC : Hid (∀ W, Hid (Below w.heap.size w W) → _) := Lib.hid fun W (h : Hid (Below w.heap.size w W)) => less_calls w.heap.size true true a b _ _ (by omega) (by omega) W h.out.size (ha.below h.out) (hb.below h.out)
          unfold lessB at LC
          rw [show (true || (!true && withinN a b)) = true from rfl] at LC
          clear fa ha la fb hb lb
          generalize a.length = n0 at *
          generalize b.length = n1 at *
          go_enter Try.func6, Try.ntmps6
          go_wp2_with fail
          obtain ⟨W0, hW⟩ : ∃ W, W = (w.alloc (.cells #[.bool true, .slice a0 n0 c0] 32)).alloc (.cells #[.bool true, .slice a1 n1 c1] 32) := ⟨_, rfl⟩
          obtain ⟨⟨zA, A0, A1⟩, ⟨zB, B0, B1⟩, H0⟩ := boxes2 hW
          rw [← hW]
          clear hW
          refine (Ma.out W0 H0).mono ?_
          rintro e w1 ⟨rfl, b1⟩; obtain ⟨zA, A0, A1⟩ := st_up zA A0 A1 b1; obtain ⟨zB, B0, B1⟩ := st_up zB B0 B1 b1; have H1 := hid_up H0 b1; clear b1
          go_wp2_with (first
            | (go_at_call 10; with_reducible refine (Ma.out _ (by assumption)).mono ?_; rintro e w1 ⟨rfl, b1⟩; obtain ⟨zA, A0, A1⟩ := st_up zA A0 A1 b1; obtain ⟨zB, B0, B1⟩ := st_up zB B0 B1 b1; have H1 := hid_up (by assumption) b1; clear b1)
            | (go_at_call 10; with_reducible refine (Mb.out _ (by assumption)).mono ?_; rintro e w1 ⟨rfl, b1⟩; obtain ⟨zA, A0, A1⟩ := st_up zA A0 A1 b1; obtain ⟨zB, B0, B1⟩ := st_up zB B0 B1 b1; have H1 := hid_up (by assumption) b1; clear b1)
            | fail)
          refine (JC.out _ H1).mono ?_
          rintro e w2 ⟨vj, rfl, hj, b1⟩
          obtain ⟨zA, A0, A1⟩ := st_up zA A0 A1 b1; obtain ⟨zB, B0, B1⟩ := st_up zB B0 B1 b1; have H1 := hid_up H1 b1; clear b1
          obtain ⟨aj, cj, rfl⟩ := hj.of
          have HJ := Lib.hid hj
          clear hj JC Ma Mb
          go_wp2_with fail
          obtain ⟨W3, hW⟩ : ∃ W, W = (w2.alloc (.cells #[.bool true, .slice aj 0 cj] 32)).alloc (.cells #[.bool true, .slice none 0 0] 32) := ⟨_, rfl⟩
          obtain ⟨⟨zJ, J0, J1⟩, ⟨zK, K0, K1⟩, b1⟩ := boxes2 hW
          rw [← hW]
          clear hW
          have b1 := b1.out
          obtain ⟨zA, A0, A1⟩ := st_up zA A0 A1 b1; obtain ⟨zB, B0, B1⟩ := st_up zB B0 B1 b1; have H1 := hid_up H1 b1; have HJ := SIn.up HJ b1; clear b1
          have HK : Hid (SIn W3.heap.size W3 [] (.slice none 0 0)) := Lib.hid (SIn.nothing _ _ none 0)
          refine (ref_same_row HJ.out HK.out).mono ?_
          rintro e w7 ⟨rfl, b1⟩
          obtain ⟨zA, A0, A1⟩ := st_up zA A0 A1 b1; obtain ⟨zB, B0, B1⟩ := st_up zB B0 B1 b1; have H1 := hid_up H1 b1; clear b1 HJ HK J0 J1 K0 K1 zJ zK
          go_wp2_with (first
            | (go_at_call 26; refine (LC.out _ (by assumption)).mono ?_; rintro e w1 ⟨rfl, b1⟩; obtain ⟨zA, A0, A1⟩ := st_up zA A0 A1 b1; obtain ⟨zB, B0, B1⟩ := st_up zB B0 B1 b1; have H1 := hid_up (by assumption) b1; clear b1)
            | (go_at_call 16; refine (awake_calls _).mono ?_; rintro e w1 ⟨rfl, b1⟩; have H1 := hid_up (by assumption) b1; clear b1))
          go_ret
          exact ⟨rfl, H1.out⟩
        | false =>
          have JC : Hid (∀ W, Hid (Below w.heap.size w W) → _) := Lib.hid fun W (h : Hid (Below w.heap.size w W)) => join_at (da := true) (db := false) (ofN b) (by unfold joinL; exact pick_self b) (by omega) (by omega) h.out.size (ha.below h.out) (hb.below h.out)
          have RC : Hid (∀ W, Hid (Below w.heap.size w W) → _) := Lib.hid fun W (h : Hid (Below w.heap.size w W)) => refOf_calls w.heap.size b _ (by omega) W h.out.size (hb.below h.out)
          have LC : Hid (∀ W, Hid (Below w.heap.size w W) → _) := Lib.hid fun W (h : Hid (Below w.heap.size w W)) => less_calls w.heap.size true false a b _ _ (by omega) (by omega) W h.out.size (ha.below h.out) (hb.below h.out)
          unfold lessB at LC
          rw [show (false || (!true && withinN a b)) = false from rfl] at LC
          generalize ofN b = L at *
          clear fa ha la fb hb lb
          generalize a.length = n0 at *
          generalize b.length = n1 at *
          go_enter Try.func6, Try.ntmps6
          go_wp2_with fail
          obtain ⟨W0, hW⟩ : ∃ W, W = (w.alloc (.cells #[.bool true, .slice a0 n0 c0] 32)).alloc (.cells #[.bool false, .slice a1 n1 c1] 32) := ⟨_, rfl⟩
          obtain ⟨⟨zA, A0, A1⟩, ⟨zB, B0, B1⟩, H0⟩ := boxes2 hW
          rw [← hW]
          clear hW
          refine (Ma.out W0 H0).mono ?_
          rintro e w1 ⟨rfl, b1⟩; obtain ⟨zA, A0, A1⟩ := st_up zA A0 A1 b1; obtain ⟨zB, B0, B1⟩ := st_up zB B0 B1 b1; have H1 := hid_up H0 b1; clear b1
          go_wp2_with (first
            | (go_at_call 10; with_reducible refine (Ma.out _ (by assumption)).mono ?_; rintro e w1 ⟨rfl, b1⟩; obtain ⟨zA, A0, A1⟩ := st_up zA A0 A1 b1; obtain ⟨zB, B0, B1⟩ := st_up zB B0 B1 b1; have H1 := hid_up (by assumption) b1; clear b1)
            | (go_at_call 10; with_reducible refine (Mb.out _ (by assumption)).mono ?_; rintro e w1 ⟨rfl, b1⟩; obtain ⟨zA, A0, A1⟩ := st_up zA A0 A1 b1; obtain ⟨zB, B0, B1⟩ := st_up zB B0 B1 b1; have H1 := hid_up (by assumption) b1; clear b1)
            | fail)
          refine (JC.out _ H1).mono ?_
          rintro e w2 ⟨vj, rfl, hj, b1⟩
          obtain ⟨zA, A0, A1⟩ := st_up zA A0 A1 b1; obtain ⟨zB, B0, B1⟩ := st_up zB B0 B1 b1; have H1 := hid_up H1 b1; clear b1
          obtain ⟨aj, cj, rfl⟩ := hj.of
          have HJ := Lib.hid hj
          clear hj JC Ma Mb
          generalize L.length = nj at *
          go_wp2_with fail
          obtain ⟨W3, hW⟩ : ∃ W, W = (w2.alloc (.cells #[.bool false, .slice aj nj cj] 32)).alloc (.cells #[.bool false, .slice none 0 0] 32) := ⟨_, rfl⟩
          have fK : W3.frozen? ⟨w2.heap.size + 1, 1, none⟩ = false := by rw [hW]; go_simp
          obtain ⟨⟨zJ, J0, J1⟩, ⟨zK, K0, K1⟩, b1⟩ := boxes2 hW
          rw [← hW]
          clear hW
          have b1 := b1.out
          obtain ⟨zA, A0, A1⟩ := st_up zA A0 A1 b1; obtain ⟨zB, B0, B1⟩ := st_up zB B0 B1 b1; have H1 := hid_up H1 b1; have HJ := SIn.up HJ b1; clear b1
          refine (RC.out _ H1).mono ?_
          rintro e w4 ⟨vk, rfl, hk, b1⟩
          have fK := (b1.frozen (p := ⟨w2.heap.size + 1, 1, none⟩) zK).trans fK
          obtain ⟨zA, A0, A1⟩ := st_up zA A0 A1 b1; obtain ⟨zB, B0, B1⟩ := st_up zB B0 B1 b1; obtain ⟨zJ, J0, J1⟩ := st_up zJ J0 J1 b1; obtain ⟨zK, K0, K1⟩ := st_up zK K0 K1 b1; have H1 := hid_up H1 b1; have HJ := SIn.up HJ b1; have HK := Lib.hid hk; clear b1 hk RC
          obtain ⟨ak, ck, rfl⟩ := HK.out.of
          have HJ2 := Lib.hid (HJ.out.past K1 (.slice ak L.length ck))
          have HK2 := Lib.hid (HK.out.past K1 (.slice ak L.length ck))
          have H2 := Lib.hid (H1.out.setCell (show w.heap.size ≤ w2.heap.size + 1 by omega) (p := ⟨w2.heap.size + 1, 1, none⟩) (.slice ak L.length ck))
          generalize L.length = nk at *
          go_wp2_with fail
          obtain ⟨W5, hW⟩ : ∃ W, W = w4.setCell ⟨w2.heap.size + 1, 1, none⟩ (.slice ak nk ck) := ⟨_, rfl⟩
          have zz : W5.heap.size = w4.heap.size := by rw [hW]; simp
          have A0 := box_past (k := w2.heap.size + 1) (o' := 1) (z := .slice ak nk ck) A0 (by omega)
          have A1 := box_past (k := w2.heap.size + 1) (o' := 1) (z := .slice ak nk ck) A1 (by omega)
          have B0 := box_past (k := w2.heap.size + 1) (o' := 1) (z := .slice ak nk ck) B0 (by omega)
          have B1 := box_past (k := w2.heap.size + 1) (o' := 1) (z := .slice ak nk ck) B1 (by omega)
          have J0 := box_past (k := w2.heap.size + 1) (o' := 1) (z := .slice ak nk ck) J0 (by omega)
          have J1 := box_past (k := w2.heap.size + 1) (o' := 1) (z := .slice ak nk ck) J1 (by omega)
          have K0 : (w4.setCell ⟨w2.heap.size + 1, 1, none⟩ (.slice ak nk ck)).cell? ⟨w2.heap.size + 1, 0, none⟩ = some (.bool false) := by rw [World.cell?_setCell_other (h := by simp)]; exact K0
          have K1 := World.cell?_setCell_same w4 ⟨w2.heap.size + 1, 1, none⟩ (.slice ak nk ck) K1
          rw [← hW] at A0 A1 B0 B1 J0 J1 K0 K1 H2 HJ2 HK2 ⊢
          clear hW H1 HJ HK
          rw [← zz] at zA zB zJ zK
          have HJ := Lib.hid (HJ2.out.mono (Nat.le_of_eq zz.symm))
          have HK := Lib.hid (HK2.out.mono (Nat.le_of_eq zz.symm))
          have H1 := H2
          clear zz HJ2 HK2 H2
          refine (ref_same_row HJ.out HK.out).mono ?_
          rintro e w7 ⟨rfl, b1⟩
          obtain ⟨zA, A0, A1⟩ := st_up zA A0 A1 b1; obtain ⟨zB, B0, B1⟩ := st_up zB B0 B1 b1; have H1 := hid_up H1 b1; clear b1 HJ HK J0 J1 K0 K1 zJ zK
          go_wp2_with (first
            | (go_at_call 26; refine (LC.out _ (by assumption)).mono ?_; rintro e w1 ⟨rfl, b1⟩; obtain ⟨zA, A0, A1⟩ := st_up zA A0 A1 b1; obtain ⟨zB, B0, B1⟩ := st_up zB B0 B1 b1; have H1 := hid_up (by assumption) b1; clear b1)
            | (go_at_call 16; refine (awake_calls _).mono ?_; rintro e w1 ⟨rfl, b1⟩; have H1 := hid_up (by assumption) b1; clear b1))
          go_ret
          exact ⟨rfl, H1.out⟩
      | false =>
        cases db with
        | true =>
          have JC : Hid (∀ W, Hid (Below w.heap.size w W) → _) := Lib.hid fun W (h : Hid (Below w.heap.size w W)) => join_at (da := false) (db := true) (ofN a) (by unfold joinL; exact pick_self a) (by omega) (by omega) h.out.size (ha.below h.out) (hb.below h.out)
          have RC : Hid (∀ W, Hid (Below w.heap.size w W) → _) := Lib.hid fun W (h : Hid (Below w.heap.size w W)) => refOf_calls w.heap.size a _ (by omega) W h.out.size (ha.below h.out)
          have LC : Hid (∀ W, Hid (Below w.heap.size w W) → _) := Lib.hid fun W (h : Hid (Below w.heap.size w W)) => less_calls w.heap.size false true a b _ _ (by omega) (by omega) W h.out.size (ha.below h.out) (hb.below h.out)
          unfold lessB at LC
          rw [show (true || (!false && withinN a b)) = true from rfl] at LC
          generalize ofN a = L at *
          clear fa ha la fb hb lb
          generalize a.length = n0 at *
          generalize b.length = n1 at *
          go_enter Try.func6, Try.ntmps6
          go_wp2_with fail
          obtain ⟨W0, hW⟩ : ∃ W, W = (w.alloc (.cells #[.bool false, .slice a0 n0 c0] 32)).alloc (.cells #[.bool true, .slice a1 n1 c1] 32) := ⟨_, rfl⟩
          obtain ⟨⟨zA, A0, A1⟩, ⟨zB, B0, B1⟩, H0⟩ := boxes2 hW
          rw [← hW]
          clear hW
          refine (Ma.out W0 H0).mono ?_
          rintro e w1 ⟨rfl, b1⟩; obtain ⟨zA, A0, A1⟩ := st_up zA A0 A1 b1; obtain ⟨zB, B0, B1⟩ := st_up zB B0 B1 b1; have H1 := hid_up H0 b1; clear b1
          go_wp2_with (first
            | (go_at_call 10; with_reducible refine (Ma.out _ (by assumption)).mono ?_; rintro e w1 ⟨rfl, b1⟩; obtain ⟨zA, A0, A1⟩ := st_up zA A0 A1 b1; obtain ⟨zB, B0, B1⟩ := st_up zB B0 B1 b1; have H1 := hid_up (by assumption) b1; clear b1)
            | (go_at_call 10; with_reducible refine (Mb.out _ (by assumption)).mono ?_; rintro e w1 ⟨rfl, b1⟩; obtain ⟨zA, A0, A1⟩ := st_up zA A0 A1 b1; obtain ⟨zB, B0, B1⟩ := st_up zB B0 B1 b1; have H1 := hid_up (by assumption) b1; clear b1)
            | fail)
          refine (JC.out _ H1).mono ?_
          rintro e w2 ⟨vj, rfl, hj, b1⟩
          obtain ⟨zA, A0, A1⟩ := st_up zA A0 A1 b1; obtain ⟨zB, B0, B1⟩ := st_up zB B0 B1 b1; have H1 := hid_up H1 b1; clear b1
          obtain ⟨aj, cj, rfl⟩ := hj.of
          have HJ := Lib.hid hj
          clear hj JC Ma Mb
          generalize L.length = nj at *
          go_wp2_with fail
          obtain ⟨W3, hW⟩ : ∃ W, W = (w2.alloc (.cells #[.bool false, .slice aj nj cj] 32)).alloc (.cells #[.bool false, .slice none 0 0] 32) := ⟨_, rfl⟩
          have fK : W3.frozen? ⟨w2.heap.size + 1, 1, none⟩ = false := by rw [hW]; go_simp
          obtain ⟨⟨zJ, J0, J1⟩, ⟨zK, K0, K1⟩, b1⟩ := boxes2 hW
          rw [← hW]
          clear hW
          have b1 := b1.out
          obtain ⟨zA, A0, A1⟩ := st_up zA A0 A1 b1; obtain ⟨zB, B0, B1⟩ := st_up zB B0 B1 b1; have H1 := hid_up H1 b1; have HJ := SIn.up HJ b1; clear b1
          refine (RC.out _ H1).mono ?_
          rintro e w4 ⟨vk, rfl, hk, b1⟩
          have fK := (b1.frozen (p := ⟨w2.heap.size + 1, 1, none⟩) zK).trans fK
          obtain ⟨zA, A0, A1⟩ := st_up zA A0 A1 b1; obtain ⟨zB, B0, B1⟩ := st_up zB B0 B1 b1; obtain ⟨zJ, J0, J1⟩ := st_up zJ J0 J1 b1; obtain ⟨zK, K0, K1⟩ := st_up zK K0 K1 b1; have H1 := hid_up H1 b1; have HJ := SIn.up HJ b1; have HK := Lib.hid hk; clear b1 hk RC
          obtain ⟨ak, ck, rfl⟩ := HK.out.of
          have HJ2 := Lib.hid (HJ.out.past K1 (.slice ak L.length ck))
          have HK2 := Lib.hid (HK.out.past K1 (.slice ak L.length ck))
          have H2 := Lib.hid (H1.out.setCell (show w.heap.size ≤ w2.heap.size + 1 by omega) (p := ⟨w2.heap.size + 1, 1, none⟩) (.slice ak L.length ck))
          generalize L.length = nk at *
          go_wp2_with fail
          obtain ⟨W5, hW⟩ : ∃ W, W = w4.setCell ⟨w2.heap.size + 1, 1, none⟩ (.slice ak nk ck) := ⟨_, rfl⟩
          have zz : W5.heap.size = w4.heap.size := by rw [hW]; simp
          have A0 := box_past (k := w2.heap.size + 1) (o' := 1) (z := .slice ak nk ck) A0 (by omega)
          have A1 := box_past (k := w2.heap.size + 1) (o' := 1) (z := .slice ak nk ck) A1 (by omega)
          have B0 := box_past (k := w2.heap.size + 1) (o' := 1) (z := .slice ak nk ck) B0 (by omega)
          have B1 := box_past (k := w2.heap.size + 1) (o' := 1) (z := .slice ak nk ck) B1 (by omega)
          have J0 := box_past (k := w2.heap.size + 1) (o' := 1) (z := .slice ak nk ck) J0 (by omega)
          have J1 := box_past (k := w2.heap.size + 1) (o' := 1) (z := .slice ak nk ck) J1 (by omega)
          have K0 : (w4.setCell ⟨w2.heap.size + 1, 1, none⟩ (.slice ak nk ck)).cell? ⟨w2.heap.size + 1, 0, none⟩ = some (.bool false) := by rw [World.cell?_setCell_other (h := by simp)]; exact K0
          have K1 := World.cell?_setCell_same w4 ⟨w2.heap.size + 1, 1, none⟩ (.slice ak nk ck) K1
          rw [← hW] at A0 A1 B0 B1 J0 J1 K0 K1 H2 HJ2 HK2 ⊢
          clear hW H1 HJ HK
          rw [← zz] at zA zB zJ zK
          have HJ := Lib.hid (HJ2.out.mono (Nat.le_of_eq zz.symm))
          have HK := Lib.hid (HK2.out.mono (Nat.le_of_eq zz.symm))
          have H1 := H2
          clear zz HJ2 HK2 H2
          refine (ref_same_row HJ.out HK.out).mono ?_
          rintro e w7 ⟨rfl, b1⟩
          obtain ⟨zA, A0, A1⟩ := st_up zA A0 A1 b1; obtain ⟨zB, B0, B1⟩ := st_up zB B0 B1 b1; have H1 := hid_up H1 b1; clear b1 HJ HK J0 J1 K0 K1 zJ zK
          go_wp2_with (first
            | (go_at_call 26; refine (LC.out _ (by assumption)).mono ?_; rintro e w1 ⟨rfl, b1⟩; obtain ⟨zA, A0, A1⟩ := st_up zA A0 A1 b1; obtain ⟨zB, B0, B1⟩ := st_up zB B0 B1 b1; have H1 := hid_up (by assumption) b1; clear b1)
            | (go_at_call 16; refine (awake_calls _).mono ?_; rintro e w1 ⟨rfl, b1⟩; have H1 := hid_up (by assumption) b1; clear b1))
          go_ret
          exact ⟨rfl, H1.out⟩
        | false =>
          have JC : Hid (∀ W, Hid (Below w.heap.size w W) → _) := Lib.hid fun W (h : Hid (Below w.heap.size w W)) => join_at (da := false) (db := false) (pickN a b true) rfl (by omega) (by omega) h.out.size (ha.below h.out) (hb.below h.out)
          have RC : Hid (∀ W, Hid (Below w.heap.size w W) → _) := Lib.hid fun W (h : Hid (Below w.heap.size w W)) => ref_pick_row (W := W) (X := a) (Y := b) true (by omega) ((ha.below h.out).mono h.out.size) ((hb.below h.out).mono h.out.size)
          have WC : Hid (∀ W, Hid (Below w.heap.size w W) → _) := Lib.hid fun W (h : Hid (Below w.heap.size w W)) => refWithin_calls w.heap.size a b _ _ (by omega) W h.out.size (ha.below h.out) (hb.below h.out)
          have LC : Hid (∀ W, Hid (Below w.heap.size w W) → _) := Lib.hid fun W (h : Hid (Below w.heap.size w W)) => less_calls w.heap.size false false a b _ _ (by omega) (by omega) W h.out.size (ha.below h.out) (hb.below h.out)
          unfold lessB at LC
          generalize withinN a b = r at *
          generalize pickN a b true = L at *
          clear fa ha la fb hb lb
          generalize a.length = n0 at *
          generalize b.length = n1 at *
          cases r
          all_goals
            go_enter Try.func6, Try.ntmps6
            go_wp2_with fail
            obtain ⟨W0, hW⟩ : ∃ W, W = (w.alloc (.cells #[.bool false, .slice a0 n0 c0] 32)).alloc (.cells #[.bool false, .slice a1 n1 c1] 32) := ⟨_, rfl⟩
            obtain ⟨⟨zA, A0, A1⟩, ⟨zB, B0, B1⟩, H0⟩ := boxes2 hW
            rw [← hW]
            clear hW
            refine (Ma.out W0 H0).mono ?_
            rintro e w1 ⟨rfl, b1⟩; obtain ⟨zA, A0, A1⟩ := st_up zA A0 A1 b1; obtain ⟨zB, B0, B1⟩ := st_up zB B0 B1 b1; have H1 := hid_up H0 b1; clear b1
            go_wp2_with (first
              | (go_at_call 10; with_reducible refine (Ma.out _ (by assumption)).mono ?_; rintro e w1 ⟨rfl, b1⟩; obtain ⟨zA, A0, A1⟩ := st_up zA A0 A1 b1; obtain ⟨zB, B0, B1⟩ := st_up zB B0 B1 b1; have H1 := hid_up (by assumption) b1; clear b1)
              | (go_at_call 10; with_reducible refine (Mb.out _ (by assumption)).mono ?_; rintro e w1 ⟨rfl, b1⟩; obtain ⟨zA, A0, A1⟩ := st_up zA A0 A1 b1; obtain ⟨zB, B0, B1⟩ := st_up zB B0 B1 b1; have H1 := hid_up (by assumption) b1; clear b1)
              | fail)
            refine (JC.out _ H1).mono ?_
            rintro e w2 ⟨vj, rfl, hj, b1⟩
            obtain ⟨zA, A0, A1⟩ := st_up zA A0 A1 b1; obtain ⟨zB, B0, B1⟩ := st_up zB B0 B1 b1; have H1 := hid_up H1 b1; clear b1
            obtain ⟨aj, cj, rfl⟩ := hj.of
            have HJ := Lib.hid hj
            clear hj JC Ma Mb
            generalize L.length = nj at *
            go_wp2_with fail
            obtain ⟨W3, hW⟩ : ∃ W, W = (w2.alloc (.cells #[.bool false, .slice aj nj cj] 32)).alloc (.cells #[.bool false, .slice none 0 0] 32) := ⟨_, rfl⟩
            have fK : W3.frozen? ⟨w2.heap.size + 1, 1, none⟩ = false := by rw [hW]; go_simp
            obtain ⟨⟨zJ, J0, J1⟩, ⟨zK, K0, K1⟩, b1⟩ := boxes2 hW
            rw [← hW]
            clear hW
            have b1 := b1.out
            obtain ⟨zA, A0, A1⟩ := st_up zA A0 A1 b1; obtain ⟨zB, B0, B1⟩ := st_up zB B0 B1 b1; have H1 := hid_up H1 b1; have HJ := SIn.up HJ b1; clear b1
            refine (RC.out _ H1).mono ?_
            rintro e w4 ⟨vk, rfl, hk, b1⟩
            have fK := (b1.frozen (p := ⟨w2.heap.size + 1, 1, none⟩) zK).trans fK
            obtain ⟨zA, A0, A1⟩ := st_up zA A0 A1 b1; obtain ⟨zB, B0, B1⟩ := st_up zB B0 B1 b1; obtain ⟨zJ, J0, J1⟩ := st_up zJ J0 J1 b1; obtain ⟨zK, K0, K1⟩ := st_up zK K0 K1 b1; have H1 := hid_up H1 b1; have HJ := SIn.up HJ b1; have HK := Lib.hid hk; clear b1 hk RC
            obtain ⟨ak, ck, rfl⟩ := HK.out.of
            have HJ2 := Lib.hid (HJ.out.past K1 (.slice ak L.length ck))
            have HK2 := Lib.hid (HK.out.past K1 (.slice ak L.length ck))
            have H2 := Lib.hid (H1.out.setCell (show w.heap.size ≤ w2.heap.size + 1 by omega) (p := ⟨w2.heap.size + 1, 1, none⟩) (.slice ak L.length ck))
            generalize L.length = nk at *
            go_wp2_with fail
            obtain ⟨W5, hW⟩ : ∃ W, W = w4.setCell ⟨w2.heap.size + 1, 1, none⟩ (.slice ak nk ck) := ⟨_, rfl⟩
            have zz : W5.heap.size = w4.heap.size := by rw [hW]; simp
            have A0 := box_past (k := w2.heap.size + 1) (o' := 1) (z := .slice ak nk ck) A0 (by omega)
            have A1 := box_past (k := w2.heap.size + 1) (o' := 1) (z := .slice ak nk ck) A1 (by omega)
            have B0 := box_past (k := w2.heap.size + 1) (o' := 1) (z := .slice ak nk ck) B0 (by omega)
            have B1 := box_past (k := w2.heap.size + 1) (o' := 1) (z := .slice ak nk ck) B1 (by omega)
            have J0 := box_past (k := w2.heap.size + 1) (o' := 1) (z := .slice ak nk ck) J0 (by omega)
            have J1 := box_past (k := w2.heap.size + 1) (o' := 1) (z := .slice ak nk ck) J1 (by omega)
            have K0 : (w4.setCell ⟨w2.heap.size + 1, 1, none⟩ (.slice ak nk ck)).cell? ⟨w2.heap.size + 1, 0, none⟩ = some (.bool false) := by rw [World.cell?_setCell_other (h := by simp)]; exact K0
            have K1 := World.cell?_setCell_same w4 ⟨w2.heap.size + 1, 1, none⟩ (.slice ak nk ck) K1
            rw [← hW] at A0 A1 B0 B1 J0 J1 K0 K1 H2 HJ2 HK2 ⊢
            clear hW H1 HJ HK
            rw [← zz] at zA zB zJ zK
            have HJ := Lib.hid (HJ2.out.mono (Nat.le_of_eq zz.symm))
            have HK := Lib.hid (HK2.out.mono (Nat.le_of_eq zz.symm))
            have H1 := H2
            clear zz HJ2 HK2 H2
            refine (WC.out _ H1).mono ?_
            rintro e w6 ⟨rfl, b1⟩
            obtain ⟨zA, A0, A1⟩ := st_up zA A0 A1 b1; obtain ⟨zB, B0, B1⟩ := st_up zB B0 B1 b1; obtain ⟨zJ, J0, J1⟩ := st_up zJ J0 J1 b1; obtain ⟨zK, K0, K1⟩ := st_up zK K0 K1 b1; have H1 := hid_up H1 b1; have HJ := SIn.up HJ b1; have HK := SIn.up HK b1; clear b1 WC
            go_wp2_with fail
            refine (ref_same_row HJ.out HK.out).mono ?_
            rintro e w7 ⟨rfl, b1⟩
            obtain ⟨zA, A0, A1⟩ := st_up zA A0 A1 b1; obtain ⟨zB, B0, B1⟩ := st_up zB B0 B1 b1; have H1 := hid_up H1 b1; clear b1 HJ HK J0 J1 K0 K1 zJ zK
            go_wp2_with (first
              | (go_at_call 26; refine (LC.out _ (by assumption)).mono ?_; rintro e w1 ⟨rfl, b1⟩; obtain ⟨zA, A0, A1⟩ := st_up zA A0 A1 b1; obtain ⟨zB, B0, B1⟩ := st_up zB B0 B1 b1; have H1 := hid_up (by assumption) b1; clear b1)
              | (go_at_call 16; refine (awake_calls _).mono ?_; rintro e w1 ⟨rfl, b1⟩; have H1 := hid_up (by assumption) b1; clear b1))
            go_ret
            exact ⟨rfl, H1.out⟩
end Go.Proofs.Ytcllflpfmpggoaa
