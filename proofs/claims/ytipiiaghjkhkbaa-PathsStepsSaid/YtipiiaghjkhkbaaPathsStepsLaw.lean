/- PathsSteps: a place begins each one that has more steps behind its own, and meets it; one that has another step there it doesn't meet. -/
import Derived.Test.YtipiiaghjkhkbaaPathsKit
namespace Go.Proofs.Ytipiiaghjkhkbaa
open Go.RowKit
set_option linter.unusedVariables false

theorem beg_more (nm : ByteArray) (p st : List ByteArray) : begP ⟨nm, p⟩ ⟨nm, p ++ st⟩ = true := by
  unfold begP
  rw [begK_iff]
  exact ⟨st.map keyS, by simp [PP.key]⟩
theorem beg_back (nm : ByteArray) (p st : List ByteArray) : begP ⟨nm, p ++ st⟩ ⟨nm, p⟩ = decide (st.length = 0) := by
  by_cases h : st.length = 0
  · have hs := List.eq_nil_of_length_eq_zero h
    subst hs
    have := beg_more nm p []
    rw [List.append_nil] at this ⊢
    simpa using this
  · rw [beg_no_len (by show p.length < (p ++ st).length; rw [List.length_append]; omega), decide_eq_false h]
theorem same_more (nm : ByteArray) (p st : List ByteArray) : sameP ⟨nm, p⟩ ⟨nm, p ++ st⟩ = decide (st.length = 0) := by
  rw [same_of_beg, beg_more, Bool.and_true, decide_eq_decide]
  show p.length = (p ++ st).length ↔ _
  rw [List.length_append]
  omega
theorem mid_at (p : List ByteArray) (s : ByteArray) (r : List ByteArray) : (p ++ [s] ++ r)[p.length]? = some s := by
  rw [List.append_assoc, List.getElem?_append_right (Nat.le_refl _)]
  simp
theorem meet_mid (nm : ByteArray) (p st : List ByteArray) (s t : ByteArray) : meetP ⟨nm, p ++ [s] ++ st⟩ ⟨nm, p ++ [t]⟩ = decide (keyS s = keyS t) := by
  by_cases h : keyS s = keyS t
  · obtain rfl := key_same.1 h
    unfold meetP
    rw [beg_more nm (p ++ [s]) st, Bool.or_true]
    simp
  · have a1 := mid_at p s st
    have a2 : (p ++ [t])[p.length]? = some t := by simp
    unfold meetP
    rw [beg_no_at (a := ⟨nm, p ++ [s] ++ st⟩) (b := ⟨nm, p ++ [t]⟩) a1 a2 h, beg_no_at (a := ⟨nm, p ++ [t]⟩) (b := ⟨nm, p ++ [s] ++ st⟩) a2 a1 (fun e => h e.symm), decide_eq_false h]
    rfl

set_option maxRecDepth 100000 in
set_option maxHeartbeats 4000000 in
theorem pathsSteps_walk (w : World) (x : PP) (va : Value) (h1 : x.In w.heap.size w va) (st : List ByteArray) (vs : Value) (h2 : SIn w.heap.size w st vs) (one : ByteArray) (h3 : one.size ≤ strMax) (other : ByteArray) (h4 : other.size ≤ strMax) :
    Calls Try.prog 7 #[.agg #[.string x.name, va], vs, .string one, .string other] w fun e w' => e = .returned (.bool true) ∧ Below w.heap.size w w' := by
  have L1 := Lib.hid fun W (h : Below w.heap.size w W) => long_calls x w.heap.size va W h.size (h1.below h)
  obtain ⟨ao1, cap1, rfl⟩ := h1.shape
  obtain ⟨ao2, cap2, rfl⟩ := h2.shape
  obtain ⟨n, hn⟩ : ∃ n, n = x.path.length := ⟨_, rfl⟩
  obtain ⟨m, hm⟩ : ∃ m, m = st.length := ⟨_, rfl⟩
  have Ht : Hid (longP x = false → n ≤ 100) := Lib.hid fun h => by rw [hn]; exact (tight_of h).path
  rw [← hn] at L1 h1 ⊢
  rw [← hm] at h2 ⊢
  have hsm : m ≤ maxLen := by
    obtain ⟨_, _, ⟨h, _⟩, _⟩ := h2
    rw [hm]; exact h
  unfold maxLen at hsm
  have Hn := Lib.hid hn
  have Hm := Lib.hid hm
  have HX := Lib.hid h1
  have HS := Lib.hid h2
  have hnm := h1.1
  generalize longP x = l1 at *
  obtain ⟨nm, p⟩ := x
  change n = p.length at hn
  clear hn hm h1 h2
  go_enter Try.func7, Try.ntmps7
  go_wp2_with fail
  obtain ⟨W0, hW⟩ : ∃ W, W = w.alloc (.cells #[.string nm, .slice ao1 n cap1] 24) := ⟨_, rfl⟩
  have f0 : W0.cell? ⟨w.heap.size, 0, none⟩ = some (.string nm) := by rw [hW]; go_simp
  have f1 : W0.cell? ⟨w.heap.size, 1, none⟩ = some (.slice ao1 n cap1) := by rw [hW]; go_simp
  have z1 : w.heap.size < W0.heap.size := by rw [hW]; simp
  have bel0 : Below w.heap.size w W0 := by rw [hW]; exact box1 _ _
  rw [← hW]
  clear hW
  refine (L1.out W0 bel0).mono ?_
  rintro e w1 ⟨rfl, b1⟩
  obtain ⟨f0, f1, z1⟩ := pl_up z1 b1 f0 f1
  have Hb := Lib.hid (bel0.trans (b1.mono bel0.size))
  clear b1 L1 bel0
  cases l1
  rotate_left
  · go_wp2_with fail
    refine (awake_calls w1).mono ?_
    rintro e w2 ⟨rfl, b1⟩
    have Hb := Lib.hid (Hb.out.trans (b1.mono Hb.out.size))
    clear b1
    go_wp2_with fail
    go_ret
    exact ⟨rfl, Hb.out⟩
  by_cases hm20 : (m : Int) > 20
  · go_wp2_with fail
    refine (awake_calls w1).mono ?_
    rintro e w2 ⟨rfl, b1⟩
    have Hb := Lib.hid (Hb.out.trans (b1.mono Hb.out.size))
    clear b1
    go_wp2_with fail
    go_ret
    exact ⟨rfl, Hb.out⟩
  have hn100 := Ht.out rfl
  go_wp2_with fail
  refine (with_lit nm p st (n + m) (by rw [Hn.out, Hm.out]) hnm (by omega) w.heap.size _ _ w1 Hb.out.size (HX.out.2.below Hb.out) (HS.out.below Hb.out)).mono ?_
  rintro e w2 ⟨aq, cq, rfl, HQ, b1⟩
  obtain ⟨f0, f1, z1⟩ := pl_up z1 b1 f0 f1
  have Hb := Lib.hid (Hb.out.trans (b1.mono Hb.out.size))
  clear b1
  have X0 : ∀ o : Obj, (w2.alloc o).cell? ⟨w.heap.size, 0, none⟩ = some (.string nm) := fun o => ((box1 w2 o).cell (p := ⟨w.heap.size, 0, none⟩) z1).trans f0
  have X1 : ∀ o : Obj, (w2.alloc o).cell? ⟨w.heap.size, 1, none⟩ = some (.slice ao1 n cap1) := fun o => ((box1 w2 o).cell (p := ⟨w.heap.size, 1, none⟩) z1).trans f1
  go_wp2_with fail
  obtain ⟨W3, hW⟩ : ∃ W, W = (w2.alloc (.cells #[.string nm, .slice aq (n + m) cq] 24)).alloc (.cells #[.string one] 9) := ⟨_, rfl⟩
  have b3 : Below w2.heap.size w2 W3 := by rw [hW]; exact box2 _ _ _
  have q0 : W3.cell? ⟨w2.heap.size, 0, none⟩ = some (.string nm) := by rw [hW]; go_simp
  have q1 : W3.cell? ⟨w2.heap.size, 1, none⟩ = some (.slice aq (n + m) cq) := by rw [hW]; go_simp
  have s0 : W3.cell? ⟨w2.heap.size + 1, 0, none⟩ = some (.string one) := by rw [hW]; go_simp
  have z3 : w2.heap.size + 1 < W3.heap.size := by rw [hW]; simp
  have z2 : w2.heap.size < W3.heap.size := by omega
  rw [← hW]
  obtain ⟨f0, f1, z1⟩ := pl_up z1 b3 f0 f1
  have Hb := Lib.hid (Hb.out.trans (b3.mono Hb.out.size))
  have HQ := Lib.hid ((HQ.out.below b3).mono b3.size)
  clear hW b3 X0 X1
  refine (with_lit nm p [one] (n + 1) (by rw [Hn.out]; rfl) hnm (by omega) W3.heap.size _ _ W3 (Nat.le_refl _) ((HX.out.2.below Hb.out).mono Hb.out.size) (SIn.one s0 z3 h3)).mono ?_
  rintro e w4 ⟨aa, ca, rfl, HA, b1⟩
  obtain ⟨f0, f1, z1⟩ := pl_up z1 b1 f0 f1
  obtain ⟨q0, q1, z2⟩ := pl_up z2 b1 q0 q1
  have Hb := Lib.hid (Hb.out.trans (b1.mono Hb.out.size))
  have HQ := Lib.hid ((HQ.out.below b1).mono b1.size)
  clear b1 s0 z3
  have X0 : ∀ o : Obj, (w4.alloc o).cell? ⟨w.heap.size, 0, none⟩ = some (.string nm) := fun o => ((box1 w4 o).cell (p := ⟨w.heap.size, 0, none⟩) z1).trans f0
  have X1 : ∀ o : Obj, (w4.alloc o).cell? ⟨w.heap.size, 1, none⟩ = some (.slice ao1 n cap1) := fun o => ((box1 w4 o).cell (p := ⟨w.heap.size, 1, none⟩) z1).trans f1
  go_wp2_with fail
  obtain ⟨W5, hW⟩ : ∃ W, W = (w4.alloc (.cells #[.string nm, .slice aa (n + 1) ca] 24)).alloc (.cells #[.string other] 9) := ⟨_, rfl⟩
  have b3 : Below w4.heap.size w4 W5 := by rw [hW]; exact box2 _ _ _
  have a0 : W5.cell? ⟨w4.heap.size, 0, none⟩ = some (.string nm) := by rw [hW]; go_simp
  have a1 : W5.cell? ⟨w4.heap.size, 1, none⟩ = some (.slice aa (n + 1) ca) := by rw [hW]; go_simp
  have s0 : W5.cell? ⟨w4.heap.size + 1, 0, none⟩ = some (.string other) := by rw [hW]; go_simp
  have z5 : w4.heap.size + 1 < W5.heap.size := by rw [hW]; simp
  have z4 : w4.heap.size < W5.heap.size := by omega
  rw [← hW]
  obtain ⟨f0, f1, z1⟩ := pl_up z1 b3 f0 f1
  obtain ⟨q0, q1, z2⟩ := pl_up z2 b3 q0 q1
  have Hb := Lib.hid (Hb.out.trans (b3.mono Hb.out.size))
  have HQ := Lib.hid ((HQ.out.below b3).mono b3.size)
  have HA := Lib.hid ((HA.out.below b3).mono b3.size)
  clear hW b3 X0 X1
  refine (with_lit nm p [other] (n + 1) (by rw [Hn.out]; rfl) hnm (by omega) W5.heap.size _ _ W5 (Nat.le_refl _) ((HX.out.2.below Hb.out).mono Hb.out.size) (SIn.one s0 z5 h4)).mono ?_
  rintro e w6 ⟨ab, cb, rfl, HB', b1⟩
  obtain ⟨f0, f1, z1⟩ := pl_up z1 b1 f0 f1
  obtain ⟨q0, q1, z2⟩ := pl_up z2 b1 q0 q1
  obtain ⟨a0, a1, z4⟩ := pl_up z4 b1 a0 a1
  have Hb := Lib.hid (Hb.out.trans (b1.mono Hb.out.size))
  have HQ := Lib.hid ((HQ.out.below b1).mono b1.size)
  have HA := Lib.hid ((HA.out.below b1).mono b1.size)
  clear b1 s0 z5
  have X0 : ∀ o : Obj, (w6.alloc o).cell? ⟨w.heap.size, 0, none⟩ = some (.string nm) := fun o => ((box1 w6 o).cell (p := ⟨w.heap.size, 0, none⟩) z1).trans f0
  have X1 : ∀ o : Obj, (w6.alloc o).cell? ⟨w.heap.size, 1, none⟩ = some (.slice ao1 n cap1) := fun o => ((box1 w6 o).cell (p := ⟨w.heap.size, 1, none⟩) z1).trans f1
  have Y0 : ∀ o : Obj, (w6.alloc o).cell? ⟨w2.heap.size, 0, none⟩ = some (.string nm) := fun o => ((box1 w6 o).cell (p := ⟨w2.heap.size, 0, none⟩) z2).trans q0
  have Y1 : ∀ o : Obj, (w6.alloc o).cell? ⟨w2.heap.size, 1, none⟩ = some (.slice aq (n + m) cq) := fun o => ((box1 w6 o).cell (p := ⟨w2.heap.size, 1, none⟩) z2).trans q1
  go_wp2_with fail
  obtain ⟨W6, hW⟩ : ∃ W, W = w6.alloc (.cells #[.string nm, .slice ab (n + 1) cb] 24) := ⟨_, rfl⟩
  have b3 : Below w6.heap.size w6 W6 := by rw [hW]; exact box1 _ _
  have c0 : W6.cell? ⟨w6.heap.size, 0, none⟩ = some (.string nm) := by rw [hW]; go_simp
  have c1 : W6.cell? ⟨w6.heap.size, 1, none⟩ = some (.slice ab (n + 1) cb) := by rw [hW]; go_simp
  have z6 : w6.heap.size < W6.heap.size := by rw [hW]; simp
  rw [← hW]
  obtain ⟨f0, f1, z1⟩ := pl_up z1 b3 f0 f1
  obtain ⟨q0, q1, z2⟩ := pl_up z2 b3 q0 q1
  obtain ⟨a0, a1, z4⟩ := pl_up z4 b3 a0 a1
  have Hb := Lib.hid (Hb.out.trans (b3.mono Hb.out.size))
  have HQ : Hid (PP.In W6.heap.size W6 ⟨nm, p ++ st⟩ (.slice aq (n + m) cq)) := Lib.hid ((HQ.out.below b3).mono b3.size)
  have HA : Hid (PP.In W6.heap.size W6 ⟨nm, p ++ [one]⟩ (.slice aa (n + 1) ca)) := Lib.hid ((HA.out.below b3).mono b3.size)
  have HBB : Hid (PP.In W6.heap.size W6 ⟨nm, p ++ [other]⟩ (.slice ab (n + 1) cb)) := Lib.hid ((HB'.out.below b3).mono b3.size)
  have HP : Hid (PP.In W6.heap.size W6 ⟨nm, p⟩ (.slice ao1 n cap1)) := Lib.hid ((HX.out.below Hb.out).mono Hb.out.size)
  have HST : Hid (SIn W6.heap.size W6 st (.slice ao2 m cap2)) := Lib.hid ((HS.out.below Hb.out).mono Hb.out.size)
  have D1 : Hid (∀ W, Hid (Below W6.heap.size W6 W) → Calls Try.prog 14 #[.agg #[.string nm, .slice ao1 n cap1], .agg #[.string nm, .slice aq (n + m) cq]] W fun e w' => e = .returned (.bool true) ∧ Below W.heap.size W w') :=
    Lib.hid fun W hb => row_begins W6 W ⟨nm, p⟩ ⟨nm, p ++ st⟩ _ _ true (beg_more nm p st) HP HQ hb
  have D2 : Hid (∀ W, Hid (Below W6.heap.size W6 W) → Calls Try.prog 14 #[.agg #[.string nm, .slice aq (n + m) cq], .agg #[.string nm, .slice ao1 n cap1]] W fun e w' => e = .returned (.bool (decide (m = 0))) ∧ Below W.heap.size W w') :=
    Lib.hid fun W hb => row_begins W6 W ⟨nm, p ++ st⟩ ⟨nm, p⟩ _ _ _ (by rw [beg_back, Hm.out]) HQ HP hb
  have D3 : Hid (∀ W, Hid (Below W6.heap.size W6 W) → Calls Try.prog 16 #[.agg #[.string nm, .slice ao1 n cap1], .agg #[.string nm, .slice aq (n + m) cq]] W fun e w' => e = .returned (.bool true) ∧ Below W.heap.size W w') :=
    Lib.hid fun W hb => row_meets W6 W ⟨nm, p⟩ ⟨nm, p ++ st⟩ _ _ true (by unfold meetP; rw [beg_more]; rfl) HP HQ hb
  have D4 : Hid (∀ W, Hid (Below W6.heap.size W6 W) → Calls Try.prog 16 #[.agg #[.string nm, .slice aq (n + m) cq], .agg #[.string nm, .slice ao1 n cap1]] W fun e w' => e = .returned (.bool true) ∧ Below W.heap.size W w') :=
    Lib.hid fun W hb => row_meets W6 W ⟨nm, p ++ st⟩ ⟨nm, p⟩ _ _ true (by unfold meetP; rw [beg_more, Bool.or_true]) HQ HP hb
  have D5 : Hid (∀ W, Hid (Below W6.heap.size W6 W) → Calls Try.prog 12 #[.agg #[.string nm, .slice ao1 n cap1], .agg #[.string nm, .slice aq (n + m) cq]] W fun e w' => e = .returned (.bool (decide (m = 0))) ∧ Below W.heap.size W w') :=
    Lib.hid fun W hb => by
      have := same_calls W6.heap.size ⟨nm, p⟩ ⟨nm, p ++ st⟩ _ _ W hb.out.size (HP.out.below hb.out) (HQ.out.below hb.out)
      rwa [same_more, ← Hm.out] at this
  have M1 : Hid (∀ W, Hid (Below W6.heap.size W6 W) → Calls Try.prog 16 #[.agg #[.string nm, .slice aa (n + 1) ca], .agg #[.string nm, .slice ab (n + 1) cb]] W fun e w' => e = .returned (.bool (decide (keyS one = keyS other))) ∧ Below W.heap.size W w') :=
    Lib.hid fun W hb => row_meets W6 W ⟨nm, p ++ [one]⟩ ⟨nm, p ++ [other]⟩ _ _ _ (by have := meet_mid nm p [] one other; simpa using this) HA HBB hb
  have M2 : Hid (∀ W ao cap, Hid (PP.In W.heap.size W ⟨nm, p ++ [one] ++ st⟩ (.slice ao (n + 1 + m) cap)) → Hid (Below W6.heap.size W6 W) → Calls Try.prog 16 #[.agg #[.string nm, .slice ao (n + 1 + m) cap], .agg #[.string nm, .slice ab (n + 1) cb]] W fun e w' => e = .returned (.bool (decide (keyS one = keyS other))) ∧ Below W.heap.size W w') :=
    Lib.hid fun W ao cap h hb => row_meets_new W6 W ⟨nm, p ++ [one] ++ st⟩ ⟨nm, p ++ [other]⟩ _ _ _ (meet_mid nm p st one other) h HBB hb
  have V1 : Hid (∀ W, Hid (Below W6.heap.size W6 W) → Calls Try.prog 27 #[.agg #[.string nm, .slice aa (n + 1) ca], .slice ao2 m cap2] W fun e w' => ∃ ao cap, e = .returned (.agg #[.string nm, .slice ao (n + 1 + m) cap]) ∧ Hid (PP.In w'.heap.size w' ⟨nm, p ++ [one] ++ st⟩ (.slice ao (n + 1 + m) cap)) ∧ Below W.heap.size W w') :=
    Lib.hid fun W hb => row_with W6 W nm (p ++ [one]) st (n + 1 + m) _ _ (by rw [Hn.out, Hm.out, List.length_append]; rfl) hnm (by omega) HA hb ((HST.out.below hb.out).mono hb.out.size)
  have K3 := Lib.hid fun W W' hb b => row_next W6 W W' hb b
  have K4 := Lib.hid fun W o hb => row_alloc W6 W o hb
  have K5 := Lib.hid fun W hb => row_next W6 W W.drew hb ((Below.refl _ W).drew)
  have Fin := Lib.hid fun W (h : Hid (Below W6.heap.size W6 W)) => (show Below w.heap.size w W from Hb.out.trans (h.out.mono Hb.out.size))
  have HB0 := Lib.hid (Below.refl W6.heap.size W6)
  clear hW b3 X0 X1 Y0 Y1 HQ HA HB' HBB HP HX HS HST Hb Ht Hn Hm hnm h3 h4
  refine (D1.out W6 HB0).mono ?_
  rintro e w7 ⟨rfl, b1⟩
  obtain ⟨hF, HB⟩ := K3.out _ _ HB0 b1
  clear b1 HB0 D1
  by_cases he : keyS one = keyS other
  · have e1 := str_eq he
    rw [decide_eq_true he] at M1 M2
    clear he
    by_cases hm0 : m = 0
    · have e2 : ((m : Int) == 0) = true := by rw [hm0]; rfl
      rw [decide_eq_true hm0] at D2 D5
      clear hm0
      go_wp2_with (first | (go_at_call 14; with_reducible (refine (D2.out _ (by assumption)).mono ?_); rintro e wn ⟨rfl, bn⟩; obtain ⟨hF, HB⟩ := K3.out _ _ (by assumption) bn; clear bn) | (go_at_call 16; with_reducible (first | refine (D3.out _ (by assumption)).mono ?_ | refine (D4.out _ (by assumption)).mono ?_); rintro e wn ⟨rfl, bn⟩; obtain ⟨hF, HB⟩ := K3.out _ _ (by assumption) bn; clear bn) | (go_at_call 12; (with_reducible refine (D5.out _ (by assumption)).mono ?_); rintro e wn ⟨rfl, bn⟩; obtain ⟨hF, HB⟩ := K3.out _ _ (by assumption) bn; clear bn))
      go_region_held3 (fun w' => (∀ b o, b < W6.heap.size → w'.cell? ⟨b, o, none⟩ = W6.cell? ⟨b, o, none⟩) ∧ Hid (Below W6.heap.size W6 w')) ((first | exact XB | (refine K4.out _ _ ?_; (first | assumption | (go_split_ands; done) | (go_split_ands; assumption))) | (refine K5.out _ ?_; (first | assumption | (go_split_ands; done) | (go_split_ands; assumption)))))
        (first
        | (go_at_call 16; (with_reducible refine (M1.out _ ?hb).mono ?_); (case hb => (first | assumption | (go_split_ands; done) | (go_split_ands; assumption))); rintro r wn ⟨rfl, bn⟩; have XB := K3.out _ _ (by (first | assumption | (go_split_ands; done) | (go_split_ands; assumption))) bn; clear bn)
        | (go_at_call 16; (with_reducible refine (M2.out _ _ _ (by assumption) ?hb).mono ?_); (case hb => (first | assumption | (go_split_ands; done) | (go_split_ands; assumption))); rintro r wn ⟨rfl, bn⟩; have XB := K3.out _ _ (by (first | assumption | (go_split_ands; done) | (go_split_ands; assumption))) bn; clear bn)
        | (go_at_call 27; (with_reducible refine (V1.out _ ?hb).mono ?_); (case hb => (first | assumption | (go_split_ands; done) | (go_split_ands; assumption))); rintro r wn ⟨ao', cap', rfl, HC, bn⟩; have XB := K3.out _ _ (by (first | assumption | (go_split_ands; done) | (go_split_ands; assumption))) bn; clear bn)
        | (go_at_call 18; refine (awake_calls _).mono ?_; rintro r wn ⟨rfl, bn⟩; have XB := K3.out _ _ (by (first | assumption | (go_split_ands; done) | (go_split_ands; assumption))) bn; clear bn))
      go_wp2_with fail
      go_ret
      exact ⟨rfl, Fin.out _ (by (first | assumption | (go_split_ands; done) | (go_split_ands; assumption)))⟩
    · have e2 := int_eq_iff hm0
      rw [decide_eq_false hm0] at D2 D5
      clear hm0
      go_wp2_with (first | (go_at_call 14; with_reducible (refine (D2.out _ (by assumption)).mono ?_); rintro e wn ⟨rfl, bn⟩; obtain ⟨hF, HB⟩ := K3.out _ _ (by assumption) bn; clear bn) | (go_at_call 16; with_reducible (first | refine (D3.out _ (by assumption)).mono ?_ | refine (D4.out _ (by assumption)).mono ?_); rintro e wn ⟨rfl, bn⟩; obtain ⟨hF, HB⟩ := K3.out _ _ (by assumption) bn; clear bn) | (go_at_call 12; (with_reducible refine (D5.out _ (by assumption)).mono ?_); rintro e wn ⟨rfl, bn⟩; obtain ⟨hF, HB⟩ := K3.out _ _ (by assumption) bn; clear bn))
      go_region_held3 (fun w' => (∀ b o, b < W6.heap.size → w'.cell? ⟨b, o, none⟩ = W6.cell? ⟨b, o, none⟩) ∧ Hid (Below W6.heap.size W6 w')) ((first | exact XB | (refine K4.out _ _ ?_; (first | assumption | (go_split_ands; done) | (go_split_ands; assumption))) | (refine K5.out _ ?_; (first | assumption | (go_split_ands; done) | (go_split_ands; assumption)))))
        (first
        | (go_at_call 16; (with_reducible refine (M1.out _ ?hb).mono ?_); (case hb => (first | assumption | (go_split_ands; done) | (go_split_ands; assumption))); rintro r wn ⟨rfl, bn⟩; have XB := K3.out _ _ (by (first | assumption | (go_split_ands; done) | (go_split_ands; assumption))) bn; clear bn)
        | (go_at_call 16; (with_reducible refine (M2.out _ _ _ (by assumption) ?hb).mono ?_); (case hb => (first | assumption | (go_split_ands; done) | (go_split_ands; assumption))); rintro r wn ⟨rfl, bn⟩; have XB := K3.out _ _ (by (first | assumption | (go_split_ands; done) | (go_split_ands; assumption))) bn; clear bn)
        | (go_at_call 27; (with_reducible refine (V1.out _ ?hb).mono ?_); (case hb => (first | assumption | (go_split_ands; done) | (go_split_ands; assumption))); rintro r wn ⟨ao', cap', rfl, HC, bn⟩; have XB := K3.out _ _ (by (first | assumption | (go_split_ands; done) | (go_split_ands; assumption))) bn; clear bn)
        | (go_at_call 18; refine (awake_calls _).mono ?_; rintro r wn ⟨rfl, bn⟩; have XB := K3.out _ _ (by (first | assumption | (go_split_ands; done) | (go_split_ands; assumption))) bn; clear bn))
      go_wp2_with fail
      go_ret
      exact ⟨rfl, Fin.out _ (by (first | assumption | (go_split_ands; done) | (go_split_ands; assumption)))⟩
  · have e1 := str_ne he
    rw [decide_eq_false he] at M1 M2
    clear he
    by_cases hm0 : m = 0
    · have e2 : ((m : Int) == 0) = true := by rw [hm0]; rfl
      rw [decide_eq_true hm0] at D2 D5
      clear hm0
      go_wp2_with (first | (go_at_call 14; with_reducible (refine (D2.out _ (by assumption)).mono ?_); rintro e wn ⟨rfl, bn⟩; obtain ⟨hF, HB⟩ := K3.out _ _ (by assumption) bn; clear bn) | (go_at_call 16; with_reducible (first | refine (D3.out _ (by assumption)).mono ?_ | refine (D4.out _ (by assumption)).mono ?_); rintro e wn ⟨rfl, bn⟩; obtain ⟨hF, HB⟩ := K3.out _ _ (by assumption) bn; clear bn) | (go_at_call 12; (with_reducible refine (D5.out _ (by assumption)).mono ?_); rintro e wn ⟨rfl, bn⟩; obtain ⟨hF, HB⟩ := K3.out _ _ (by assumption) bn; clear bn))
      go_region_held3 (fun w' => (∀ b o, b < W6.heap.size → w'.cell? ⟨b, o, none⟩ = W6.cell? ⟨b, o, none⟩) ∧ Hid (Below W6.heap.size W6 w')) ((first | exact XB | (refine K4.out _ _ ?_; (first | assumption | (go_split_ands; done) | (go_split_ands; assumption))) | (refine K5.out _ ?_; (first | assumption | (go_split_ands; done) | (go_split_ands; assumption)))))
        (first
        | (go_at_call 16; (with_reducible refine (M1.out _ ?hb).mono ?_); (case hb => (first | assumption | (go_split_ands; done) | (go_split_ands; assumption))); rintro r wn ⟨rfl, bn⟩; have XB := K3.out _ _ (by (first | assumption | (go_split_ands; done) | (go_split_ands; assumption))) bn; clear bn)
        | (go_at_call 16; (with_reducible refine (M2.out _ _ _ (by assumption) ?hb).mono ?_); (case hb => (first | assumption | (go_split_ands; done) | (go_split_ands; assumption))); rintro r wn ⟨rfl, bn⟩; have XB := K3.out _ _ (by (first | assumption | (go_split_ands; done) | (go_split_ands; assumption))) bn; clear bn)
        | (go_at_call 27; (with_reducible refine (V1.out _ ?hb).mono ?_); (case hb => (first | assumption | (go_split_ands; done) | (go_split_ands; assumption))); rintro r wn ⟨ao', cap', rfl, HC, bn⟩; have XB := K3.out _ _ (by (first | assumption | (go_split_ands; done) | (go_split_ands; assumption))) bn; clear bn)
        | (go_at_call 18; refine (awake_calls _).mono ?_; rintro r wn ⟨rfl, bn⟩; have XB := K3.out _ _ (by (first | assumption | (go_split_ands; done) | (go_split_ands; assumption))) bn; clear bn))
      go_wp2_with fail
      go_ret
      exact ⟨rfl, Fin.out _ (by (first | assumption | (go_split_ands; done) | (go_split_ands; assumption)))⟩
    · have e2 := int_eq_iff hm0
      rw [decide_eq_false hm0] at D2 D5
      clear hm0
      go_wp2_with (first | (go_at_call 14; with_reducible (refine (D2.out _ (by assumption)).mono ?_); rintro e wn ⟨rfl, bn⟩; obtain ⟨hF, HB⟩ := K3.out _ _ (by assumption) bn; clear bn) | (go_at_call 16; with_reducible (first | refine (D3.out _ (by assumption)).mono ?_ | refine (D4.out _ (by assumption)).mono ?_); rintro e wn ⟨rfl, bn⟩; obtain ⟨hF, HB⟩ := K3.out _ _ (by assumption) bn; clear bn) | (go_at_call 12; (with_reducible refine (D5.out _ (by assumption)).mono ?_); rintro e wn ⟨rfl, bn⟩; obtain ⟨hF, HB⟩ := K3.out _ _ (by assumption) bn; clear bn))
      go_region_held3 (fun w' => (∀ b o, b < W6.heap.size → w'.cell? ⟨b, o, none⟩ = W6.cell? ⟨b, o, none⟩) ∧ Hid (Below W6.heap.size W6 w')) ((first | exact XB | (refine K4.out _ _ ?_; (first | assumption | (go_split_ands; done) | (go_split_ands; assumption))) | (refine K5.out _ ?_; (first | assumption | (go_split_ands; done) | (go_split_ands; assumption)))))
        (first
        | (go_at_call 16; (with_reducible refine (M1.out _ ?hb).mono ?_); (case hb => (first | assumption | (go_split_ands; done) | (go_split_ands; assumption))); rintro r wn ⟨rfl, bn⟩; have XB := K3.out _ _ (by (first | assumption | (go_split_ands; done) | (go_split_ands; assumption))) bn; clear bn)
        | (go_at_call 16; (with_reducible refine (M2.out _ _ _ (by assumption) ?hb).mono ?_); (case hb => (first | assumption | (go_split_ands; done) | (go_split_ands; assumption))); rintro r wn ⟨rfl, bn⟩; have XB := K3.out _ _ (by (first | assumption | (go_split_ands; done) | (go_split_ands; assumption))) bn; clear bn)
        | (go_at_call 27; (with_reducible refine (V1.out _ ?hb).mono ?_); (case hb => (first | assumption | (go_split_ands; done) | (go_split_ands; assumption))); rintro r wn ⟨ao', cap', rfl, HC, bn⟩; have XB := K3.out _ _ (by (first | assumption | (go_split_ands; done) | (go_split_ands; assumption))) bn; clear bn)
        | (go_at_call 18; refine (awake_calls _).mono ?_; rintro r wn ⟨rfl, bn⟩; have XB := K3.out _ _ (by (first | assumption | (go_split_ands; done) | (go_split_ands; assumption))) bn; clear bn))
      go_wp2_with fail
      go_ret
      exact ⟨rfl, Fin.out _ (by (first | assumption | (go_split_ands; done) | (go_split_ands; assumption)))⟩
end Go.Proofs.Ytipiiaghjkhkbaa
