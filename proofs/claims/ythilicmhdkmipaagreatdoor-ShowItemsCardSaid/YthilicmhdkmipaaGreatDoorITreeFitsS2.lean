/- What fits: a statement by its shape, a statement (made by gen_fitsS.py). -/
import Derived.Test.YthilicmhdkmipaaGreatDoorITreeFitsS
namespace Go.Proofs.YthilicmhdkmipaaGreatDoor
open Go.RowKit
set_option linter.unusedVariables false

set_option maxRecDepth 100000 in
set_option maxHeartbeats 8000000 in
theorem stmtShapeFits_calls (B : Nat) (h : SSh) (hn : h.name ≤ 3) (hn2 : h.second ≤ 3) (op : Int) (nm sc : ByteArray) (ns : List ByteArray) (ty : PT) (int : Int) (pl : PP) (es : List PE) (bo el : List PS) (ar : List PA) (pos : Int) (a1 a2 a3 a4 a5 a6 a7 : Option Addr) (n1 n2 n3 n4 n5 n6 n7 c1 c2 c3 c4 c5 c6 c7 : Nat) (w : World) (hB : B ≤ w.heap.size) (hm : MaxOk w) (hs : PS.In B w (.mk op nm sc ns ty int pl es bo el ar pos) ⟨.slice a1 n1 c1, .slice a2 n2 c2, .slice a3 n3 c3, .slice a4 n4 c4, .slice a5 n5 c5, .slice a6 n6 c6, .slice a7 n7 c7⟩) :
    Calls Tryz.prog 271 #[.agg h.cells, .agg #[.int .u8 op, .string nm, .string sc, .slice a1 n1 c1, .int .u8 ty.kind, .string ty.name, .slice a2 n2 c2, .int .i64 int, .string pl.name, .slice a3 n3 c3, .slice a4 n4 c4, .slice a5 n5 c5, .slice a6 n6 c6, .slice a7 n7 c7, .int .i64 pos]] w fun e w' => e = .returned (.bool (fitSS h nm sc ns ty int pl es bo el ar)) ∧ Below w.heap.size w w' := by
  obtain ⟨⟨hu, hi, hp, hz1, hz2⟩, hns, hty, hpl, ⟨b4, o4, s4, r4⟩, ⟨b5, o5, s5, r5⟩, ⟨b6, o6, s6, r6⟩, b7, o7, s7, r7⟩ := hs
  obtain rfl : n7 = ar.length := s7.len
  have T1 : Hid (∀ w', Below w.heap.size w w' → Calls Tryz.prog 161 #[.int .u8 h.name, .string nm] w' fun e w'' => e = .returned (.bool (txB h.name nm)) ∧ Below w'.heap.size w' w'') := Lib.hid fun w' hw => textFits_calls _ hn nm hz1 w' (hm.below hw)
  have T2 : Hid (∀ w', Below w.heap.size w w' → Calls Tryz.prog 161 #[.int .u8 h.second, .string sc] w' fun e w'' => e = .returned (.bool (txB h.second sc)) ∧ Below w'.heap.size w' w'') := Lib.hid fun w' hw => textFits_calls _ hn2 sc hz2 w' (hm.below hw)
  have L : Hid (∀ w', Below w.heap.size w w' → Calls Tryz.prog 273 #[.agg h.cells, .agg #[.int .u8 op, .string nm, .string sc, .slice a1 n1 c1, .int .u8 ty.kind, .string ty.name, .slice a2 n2 c2, .int .i64 int, .string pl.name, .slice a3 n3 c3, .slice a4 n4 c4, .slice a5 n5 c5, .slice a6 n6 c6, .slice a7 ar.length c7, .int .i64 pos]] w' fun e w'' => e = .returned (.bool (fitLists h ns es)) ∧ Below w'.heap.size w' w'') :=
    Lib.hid fun w' hw => fitsLists_calls B h op nm sc ns ty int pl es bo el ar pos a1 a2 a3 a4 a5 a6 a7 n1 n2 n3 n4 n5 n6 ar.length c1 c2 c3 c4 c5 c6 c7 w' (by have := hw.size; omega) (hm.below hw) (hns.below (hw.mono hB)) s4.len
  have P : Hid (∀ w', Below w.heap.size w w' → Calls Tryz.prog 274 #[.agg h.cells, .agg #[.string pl.name, .slice a3 n3 c3]] w' fun e w'' => e = .returned (.bool (fitPlS h pl)) ∧ Below w'.heap.size w' w'') :=
    Lib.hid fun w' hw => fitsPlaceS_calls B h pl a3 n3 c3 w' (by have := hw.size; omega) (hm.below hw) (hpl.below (hw.mono hB))
  have A : Hid (∀ w', Below w.heap.size w w' → Calls Tryz.prog 275 #[.agg h.cells, .slice a7 ar.length c7] w' fun e w'' => e = .returned (.bool (fitArms h ar)) ∧ Below w'.heap.size w' w'') :=
    Lib.hid fun w' hw => fitsArms_calls B h ar a7 c7 b7 o7 w' (by have := hw.size; omega) (hm.below hw) s7 (PA.Row.below' (hw.mono hB) s7 r7)
  have Q : Hid (∀ w', Below w.heap.size w w' → Calls Tryz.prog 276 #[.agg h.cells, .agg #[.int .u8 op, .string nm, .string sc, .slice a1 n1 c1, .int .u8 ty.kind, .string ty.name, .slice a2 n2 c2, .int .i64 int, .string pl.name, .slice a3 n3 c3, .slice a4 n4 c4, .slice a5 n5 c5, .slice a6 n6 c6, .slice a7 ar.length c7, .int .i64 pos]] w' fun e w'' => e = .returned (.bool (fitQueue h ty int)) ∧ Below w'.heap.size w' w'') :=
    Lib.hid fun w' hw => fitsQueue_calls B h op nm sc ns ty int pl es bo el ar pos a1 a2 a3 a4 a5 a6 a7 n1 n2 n3 n4 n5 n6 ar.length c1 c2 c3 c4 c5 c6 c7 w' (by have := hw.size; omega) (PT.In.below (hw.mono hB) hty)
  have hf : fitSS h nm sc ns ty int pl es bo el ar = (h.known && (txB h.name nm && (txB h.second sc && (fitLists h ns es && (fitPlS h pl && (fitArms h ar && ((h.body || decide (n5 = 0)) && ((h.other || decide (n6 = 0)) && fitQueue h ty int)))))))) := by rw [s5.len, s6.len]; rfl
  rw [hf]
  clear hf hm hns hty hpl s4 r4 s5 r5 s6 r6 s7 r7 hn hn2 hz1 hz2 hu hi hp
  generalize txB h.name nm = x1 at *
  generalize txB h.second sc = x2 at *
  generalize fitLists h ns es = x3 at *
  generalize fitPlS h pl = x4 at *
  generalize fitArms h ar = x5 at *
  generalize fitQueue h ty int = x6 at *
  generalize ar.length = n7 at *
  obtain ⟨kn, sn, ss, nms, xs, prs, plc, que, bdy, oth, ams⟩ := h
  simp only [SSh.cells] at *
  have bx := Lib.hid (box2 w (.cells #[.bool kn, .int .u8 sn, .int .u8 ss, .bool nms, .int .i64 xs, .bool prs, .bool plc, .bool que, .bool bdy, .bool oth, .bool ams] 303) (.cells #[.int .u8 op, .string nm, .string sc, .slice a1 n1 c1, .int .u8 ty.kind, .string ty.name, .slice a2 n2 c2, .int .i64 int, .string pl.name, .slice a3 n3 c3, .slice a4 n4 c4, .slice a5 n5 c5, .slice a6 n6 c6, .slice a7 n7 c7, .int .i64 pos] 130))
  cases kn
  · skip
    as_aux_lemma =>
      go_enter Tryz.func271, Tryz.ntmps271
      go_wp2_with fail
      go_ret
      exact ⟨ret_bool (by simp), bx.out⟩
  · cases x1
    · skip
      as_aux_lemma =>
        go_enter Tryz.func271, Tryz.ntmps271
        go_wp2_with fail
        refine (T1.out _ bx.out).mono ?_; rintro e w1 ⟨rfl, b1⟩
        have bel1 := Lib.hid (up_tr bx.out b1)
        have hc1 := old_cells b1
        go_wp2_with fail
        go_ret
        exact ⟨ret_bool (by simp), bel1.out⟩
    · cases x2
      · skip
        as_aux_lemma =>
          go_enter Tryz.func271, Tryz.ntmps271
          go_wp2_with fail
          refine (T1.out _ bx.out).mono ?_; rintro e w1 ⟨rfl, b1⟩
          have bel1 := Lib.hid (up_tr bx.out b1)
          have hc1 := old_cells b1
          go_wp2_with fail
          refine (T2.out _ bel1.out).mono ?_; rintro e w2 ⟨rfl, b2⟩
          have bel2 := Lib.hid (up_tr bel1.out b2)
          have q2 := up_tr b1 b2
          have hc2 := old_cells q2
          clear hc1 b1 b2
          go_wp2_with fail
          go_ret
          exact ⟨ret_bool (by simp), bel2.out⟩
      · cases x3
        · skip
          as_aux_lemma =>
            go_enter Tryz.func271, Tryz.ntmps271
            go_wp2_with fail
            refine (T1.out _ bx.out).mono ?_; rintro e w1 ⟨rfl, b1⟩
            have bel1 := Lib.hid (up_tr bx.out b1)
            have hc1 := old_cells b1
            go_wp2_with fail
            refine (T2.out _ bel1.out).mono ?_; rintro e w2 ⟨rfl, b2⟩
            have bel2 := Lib.hid (up_tr bel1.out b2)
            have q2 := up_tr b1 b2
            have hc2 := old_cells q2
            clear hc1 b1 b2
            go_wp2_with fail
            refine (L.out _ bel2.out).mono ?_; rintro e w3 ⟨rfl, b3⟩
            have bel3 := Lib.hid (up_tr bel2.out b3)
            have q3 := up_tr q2 b3
            have hc3 := old_cells q3
            clear hc2 q2 b3
            go_wp2_with fail
            go_ret
            exact ⟨ret_bool (by simp), bel3.out⟩
        · cases x4
          · skip
            as_aux_lemma =>
              go_enter Tryz.func271, Tryz.ntmps271
              go_wp2_with fail
              refine (T1.out _ bx.out).mono ?_; rintro e w1 ⟨rfl, b1⟩
              have bel1 := Lib.hid (up_tr bx.out b1)
              have hc1 := old_cells b1
              go_wp2_with fail
              refine (T2.out _ bel1.out).mono ?_; rintro e w2 ⟨rfl, b2⟩
              have bel2 := Lib.hid (up_tr bel1.out b2)
              have q2 := up_tr b1 b2
              have hc2 := old_cells q2
              clear hc1 b1 b2
              go_wp2_with fail
              refine (L.out _ bel2.out).mono ?_; rintro e w3 ⟨rfl, b3⟩
              have bel3 := Lib.hid (up_tr bel2.out b3)
              have q3 := up_tr q2 b3
              have hc3 := old_cells q3
              clear hc2 q2 b3
              go_wp2_with fail
              refine (P.out _ bel3.out).mono ?_; rintro e w4 ⟨rfl, b4⟩
              have bel4 := Lib.hid (up_tr bel3.out b4)
              have q4 := up_tr q3 b4
              have hc4 := old_cells q4
              clear hc3 q3 b4
              go_wp2_with fail
              go_ret
              exact ⟨ret_bool (by simp), bel4.out⟩
          · cases x5
            · skip
              as_aux_lemma =>
                go_enter Tryz.func271, Tryz.ntmps271
                go_wp2_with fail
                refine (T1.out _ bx.out).mono ?_; rintro e w1 ⟨rfl, b1⟩
                have bel1 := Lib.hid (up_tr bx.out b1)
                have hc1 := old_cells b1
                go_wp2_with fail
                refine (T2.out _ bel1.out).mono ?_; rintro e w2 ⟨rfl, b2⟩
                have bel2 := Lib.hid (up_tr bel1.out b2)
                have q2 := up_tr b1 b2
                have hc2 := old_cells q2
                clear hc1 b1 b2
                go_wp2_with fail
                refine (L.out _ bel2.out).mono ?_; rintro e w3 ⟨rfl, b3⟩
                have bel3 := Lib.hid (up_tr bel2.out b3)
                have q3 := up_tr q2 b3
                have hc3 := old_cells q3
                clear hc2 q2 b3
                go_wp2_with fail
                refine (P.out _ bel3.out).mono ?_; rintro e w4 ⟨rfl, b4⟩
                have bel4 := Lib.hid (up_tr bel3.out b4)
                have q4 := up_tr q3 b4
                have hc4 := old_cells q4
                clear hc3 q3 b4
                go_wp2_with fail
                refine (A.out _ bel4.out).mono ?_; rintro e w5 ⟨rfl, b5⟩
                have bel5 := Lib.hid (up_tr bel4.out b5)
                have q5 := up_tr q4 b5
                have hc5 := old_cells q5
                clear hc4 q4 b5
                go_wp2_with fail
                go_ret
                exact ⟨ret_bool (by simp), bel5.out⟩
            · cases bdy
              · by_cases h5 : n5 = 0
                · subst h5
                  cases oth
                  · by_cases h6 : n6 = 0
                    · subst h6
                      as_aux_lemma =>
                        go_enter Tryz.func271, Tryz.ntmps271
                        go_wp2_with fail
                        refine (T1.out _ bx.out).mono ?_; rintro e w1 ⟨rfl, b1⟩
                        have bel1 := Lib.hid (up_tr bx.out b1)
                        have hc1 := old_cells b1
                        go_wp2_with fail
                        refine (T2.out _ bel1.out).mono ?_; rintro e w2 ⟨rfl, b2⟩
                        have bel2 := Lib.hid (up_tr bel1.out b2)
                        have q2 := up_tr b1 b2
                        have hc2 := old_cells q2
                        clear hc1 b1 b2
                        go_wp2_with fail
                        refine (L.out _ bel2.out).mono ?_; rintro e w3 ⟨rfl, b3⟩
                        have bel3 := Lib.hid (up_tr bel2.out b3)
                        have q3 := up_tr q2 b3
                        have hc3 := old_cells q3
                        clear hc2 q2 b3
                        go_wp2_with fail
                        refine (P.out _ bel3.out).mono ?_; rintro e w4 ⟨rfl, b4⟩
                        have bel4 := Lib.hid (up_tr bel3.out b4)
                        have q4 := up_tr q3 b4
                        have hc4 := old_cells q4
                        clear hc3 q3 b4
                        go_wp2_with fail
                        refine (A.out _ bel4.out).mono ?_; rintro e w5 ⟨rfl, b5⟩
                        have bel5 := Lib.hid (up_tr bel4.out b5)
                        have q5 := up_tr q4 b5
                        have hc5 := old_cells q5
                        clear hc4 q4 b5
                        go_wp2_with fail
                        refine (Q.out _ bel5.out).mono ?_; rintro e w6 ⟨rfl, b6⟩
                        have bel6 := Lib.hid (up_tr bel5.out b6)
                        have q6 := up_tr q5 b6
                        have hc6 := old_cells q6
                        clear hc5 q5 b6
                        go_wp2_with fail
                        go_ret
                        exact ⟨ret_bool (by simp), bel6.out⟩
                    · have e6 : ((n6 : Int) == 0) = false := ne_beq (by omega)
                      have H6 := Lib.hid h6
                      clear h6
                      as_aux_lemma =>
                        go_enter Tryz.func271, Tryz.ntmps271
                        go_wp2_with fail
                        refine (T1.out _ bx.out).mono ?_; rintro e w1 ⟨rfl, b1⟩
                        have bel1 := Lib.hid (up_tr bx.out b1)
                        have hc1 := old_cells b1
                        go_wp2_with fail
                        refine (T2.out _ bel1.out).mono ?_; rintro e w2 ⟨rfl, b2⟩
                        have bel2 := Lib.hid (up_tr bel1.out b2)
                        have q2 := up_tr b1 b2
                        have hc2 := old_cells q2
                        clear hc1 b1 b2
                        go_wp2_with fail
                        refine (L.out _ bel2.out).mono ?_; rintro e w3 ⟨rfl, b3⟩
                        have bel3 := Lib.hid (up_tr bel2.out b3)
                        have q3 := up_tr q2 b3
                        have hc3 := old_cells q3
                        clear hc2 q2 b3
                        go_wp2_with fail
                        refine (P.out _ bel3.out).mono ?_; rintro e w4 ⟨rfl, b4⟩
                        have bel4 := Lib.hid (up_tr bel3.out b4)
                        have q4 := up_tr q3 b4
                        have hc4 := old_cells q4
                        clear hc3 q3 b4
                        go_wp2_with fail
                        refine (A.out _ bel4.out).mono ?_; rintro e w5 ⟨rfl, b5⟩
                        have bel5 := Lib.hid (up_tr bel4.out b5)
                        have q5 := up_tr q4 b5
                        have hc5 := old_cells q5
                        clear hc4 q4 b5
                        go_wp2_with fail
                        go_ret
                        exact ⟨ret_bool (by simp [H6.out]), bel5.out⟩
                  · skip
                    as_aux_lemma =>
                      go_enter Tryz.func271, Tryz.ntmps271
                      go_wp2_with fail
                      refine (T1.out _ bx.out).mono ?_; rintro e w1 ⟨rfl, b1⟩
                      have bel1 := Lib.hid (up_tr bx.out b1)
                      have hc1 := old_cells b1
                      go_wp2_with fail
                      refine (T2.out _ bel1.out).mono ?_; rintro e w2 ⟨rfl, b2⟩
                      have bel2 := Lib.hid (up_tr bel1.out b2)
                      have q2 := up_tr b1 b2
                      have hc2 := old_cells q2
                      clear hc1 b1 b2
                      go_wp2_with fail
                      refine (L.out _ bel2.out).mono ?_; rintro e w3 ⟨rfl, b3⟩
                      have bel3 := Lib.hid (up_tr bel2.out b3)
                      have q3 := up_tr q2 b3
                      have hc3 := old_cells q3
                      clear hc2 q2 b3
                      go_wp2_with fail
                      refine (P.out _ bel3.out).mono ?_; rintro e w4 ⟨rfl, b4⟩
                      have bel4 := Lib.hid (up_tr bel3.out b4)
                      have q4 := up_tr q3 b4
                      have hc4 := old_cells q4
                      clear hc3 q3 b4
                      go_wp2_with fail
                      refine (A.out _ bel4.out).mono ?_; rintro e w5 ⟨rfl, b5⟩
                      have bel5 := Lib.hid (up_tr bel4.out b5)
                      have q5 := up_tr q4 b5
                      have hc5 := old_cells q5
                      clear hc4 q4 b5
                      go_wp2_with fail
                      refine (Q.out _ bel5.out).mono ?_; rintro e w6 ⟨rfl, b6⟩
                      have bel6 := Lib.hid (up_tr bel5.out b6)
                      have q6 := up_tr q5 b6
                      have hc6 := old_cells q6
                      clear hc5 q5 b6
                      go_wp2_with fail
                      go_ret
                      exact ⟨ret_bool (by simp), bel6.out⟩
                · have e5 : ((n5 : Int) == 0) = false := ne_beq (by omega)
                  have H5 := Lib.hid h5
                  clear h5
                  as_aux_lemma =>
                    go_enter Tryz.func271, Tryz.ntmps271
                    go_wp2_with fail
                    refine (T1.out _ bx.out).mono ?_; rintro e w1 ⟨rfl, b1⟩
                    have bel1 := Lib.hid (up_tr bx.out b1)
                    have hc1 := old_cells b1
                    go_wp2_with fail
                    refine (T2.out _ bel1.out).mono ?_; rintro e w2 ⟨rfl, b2⟩
                    have bel2 := Lib.hid (up_tr bel1.out b2)
                    have q2 := up_tr b1 b2
                    have hc2 := old_cells q2
                    clear hc1 b1 b2
                    go_wp2_with fail
                    refine (L.out _ bel2.out).mono ?_; rintro e w3 ⟨rfl, b3⟩
                    have bel3 := Lib.hid (up_tr bel2.out b3)
                    have q3 := up_tr q2 b3
                    have hc3 := old_cells q3
                    clear hc2 q2 b3
                    go_wp2_with fail
                    refine (P.out _ bel3.out).mono ?_; rintro e w4 ⟨rfl, b4⟩
                    have bel4 := Lib.hid (up_tr bel3.out b4)
                    have q4 := up_tr q3 b4
                    have hc4 := old_cells q4
                    clear hc3 q3 b4
                    go_wp2_with fail
                    refine (A.out _ bel4.out).mono ?_; rintro e w5 ⟨rfl, b5⟩
                    have bel5 := Lib.hid (up_tr bel4.out b5)
                    have q5 := up_tr q4 b5
                    have hc5 := old_cells q5
                    clear hc4 q4 b5
                    go_wp2_with fail
                    go_ret
                    exact ⟨ret_bool (by simp [H5.out]), bel5.out⟩
              · skip
                cases oth
                · by_cases h6 : n6 = 0
                  · subst h6
                    as_aux_lemma =>
                      go_enter Tryz.func271, Tryz.ntmps271
                      go_wp2_with fail
                      refine (T1.out _ bx.out).mono ?_; rintro e w1 ⟨rfl, b1⟩
                      have bel1 := Lib.hid (up_tr bx.out b1)
                      have hc1 := old_cells b1
                      go_wp2_with fail
                      refine (T2.out _ bel1.out).mono ?_; rintro e w2 ⟨rfl, b2⟩
                      have bel2 := Lib.hid (up_tr bel1.out b2)
                      have q2 := up_tr b1 b2
                      have hc2 := old_cells q2
                      clear hc1 b1 b2
                      go_wp2_with fail
                      refine (L.out _ bel2.out).mono ?_; rintro e w3 ⟨rfl, b3⟩
                      have bel3 := Lib.hid (up_tr bel2.out b3)
                      have q3 := up_tr q2 b3
                      have hc3 := old_cells q3
                      clear hc2 q2 b3
                      go_wp2_with fail
                      refine (P.out _ bel3.out).mono ?_; rintro e w4 ⟨rfl, b4⟩
                      have bel4 := Lib.hid (up_tr bel3.out b4)
                      have q4 := up_tr q3 b4
                      have hc4 := old_cells q4
                      clear hc3 q3 b4
                      go_wp2_with fail
                      refine (A.out _ bel4.out).mono ?_; rintro e w5 ⟨rfl, b5⟩
                      have bel5 := Lib.hid (up_tr bel4.out b5)
                      have q5 := up_tr q4 b5
                      have hc5 := old_cells q5
                      clear hc4 q4 b5
                      go_wp2_with fail
                      refine (Q.out _ bel5.out).mono ?_; rintro e w6 ⟨rfl, b6⟩
                      have bel6 := Lib.hid (up_tr bel5.out b6)
                      have q6 := up_tr q5 b6
                      have hc6 := old_cells q6
                      clear hc5 q5 b6
                      go_wp2_with fail
                      go_ret
                      exact ⟨ret_bool (by simp), bel6.out⟩
                  · have e6 : ((n6 : Int) == 0) = false := ne_beq (by omega)
                    have H6 := Lib.hid h6
                    clear h6
                    as_aux_lemma =>
                      go_enter Tryz.func271, Tryz.ntmps271
                      go_wp2_with fail
                      refine (T1.out _ bx.out).mono ?_; rintro e w1 ⟨rfl, b1⟩
                      have bel1 := Lib.hid (up_tr bx.out b1)
                      have hc1 := old_cells b1
                      go_wp2_with fail
                      refine (T2.out _ bel1.out).mono ?_; rintro e w2 ⟨rfl, b2⟩
                      have bel2 := Lib.hid (up_tr bel1.out b2)
                      have q2 := up_tr b1 b2
                      have hc2 := old_cells q2
                      clear hc1 b1 b2
                      go_wp2_with fail
                      refine (L.out _ bel2.out).mono ?_; rintro e w3 ⟨rfl, b3⟩
                      have bel3 := Lib.hid (up_tr bel2.out b3)
                      have q3 := up_tr q2 b3
                      have hc3 := old_cells q3
                      clear hc2 q2 b3
                      go_wp2_with fail
                      refine (P.out _ bel3.out).mono ?_; rintro e w4 ⟨rfl, b4⟩
                      have bel4 := Lib.hid (up_tr bel3.out b4)
                      have q4 := up_tr q3 b4
                      have hc4 := old_cells q4
                      clear hc3 q3 b4
                      go_wp2_with fail
                      refine (A.out _ bel4.out).mono ?_; rintro e w5 ⟨rfl, b5⟩
                      have bel5 := Lib.hid (up_tr bel4.out b5)
                      have q5 := up_tr q4 b5
                      have hc5 := old_cells q5
                      clear hc4 q4 b5
                      go_wp2_with fail
                      go_ret
                      exact ⟨ret_bool (by simp [H6.out]), bel5.out⟩
                · skip
                  as_aux_lemma =>
                    go_enter Tryz.func271, Tryz.ntmps271
                    go_wp2_with fail
                    refine (T1.out _ bx.out).mono ?_; rintro e w1 ⟨rfl, b1⟩
                    have bel1 := Lib.hid (up_tr bx.out b1)
                    have hc1 := old_cells b1
                    go_wp2_with fail
                    refine (T2.out _ bel1.out).mono ?_; rintro e w2 ⟨rfl, b2⟩
                    have bel2 := Lib.hid (up_tr bel1.out b2)
                    have q2 := up_tr b1 b2
                    have hc2 := old_cells q2
                    clear hc1 b1 b2
                    go_wp2_with fail
                    refine (L.out _ bel2.out).mono ?_; rintro e w3 ⟨rfl, b3⟩
                    have bel3 := Lib.hid (up_tr bel2.out b3)
                    have q3 := up_tr q2 b3
                    have hc3 := old_cells q3
                    clear hc2 q2 b3
                    go_wp2_with fail
                    refine (P.out _ bel3.out).mono ?_; rintro e w4 ⟨rfl, b4⟩
                    have bel4 := Lib.hid (up_tr bel3.out b4)
                    have q4 := up_tr q3 b4
                    have hc4 := old_cells q4
                    clear hc3 q3 b4
                    go_wp2_with fail
                    refine (A.out _ bel4.out).mono ?_; rintro e w5 ⟨rfl, b5⟩
                    have bel5 := Lib.hid (up_tr bel4.out b5)
                    have q5 := up_tr q4 b5
                    have hc5 := old_cells q5
                    clear hc4 q4 b5
                    go_wp2_with fail
                    refine (Q.out _ bel5.out).mono ?_; rintro e w6 ⟨rfl, b6⟩
                    have bel6 := Lib.hid (up_tr bel5.out b6)
                    have q6 := up_tr q5 b6
                    have hc6 := old_cells q6
                    clear hc5 q5 b6
                    go_wp2_with fail
                    go_ret
                    exact ⟨ret_bool (by simp), bel6.out⟩
theorem sSh_names (k : Int) : (sSh k).name ≤ 3 ∧ (sSh k).second ≤ 3 := by
  unfold sSh
  repeat' (first | (constructor <;> simp <;> done) | split)
set_option maxHeartbeats 8000000 in
theorem stmtFits_calls (B : Nat) (op : Int) (nm sc : ByteArray) (ns : List ByteArray) (ty : PT) (int : Int) (pl : PP) (es : List PE) (bo el : List PS) (ar : List PA) (pos : Int) (a1 a2 a3 a4 a5 a6 a7 : Option Addr) (n1 n2 n3 n4 n5 n6 n7 c1 c2 c3 c4 c5 c6 c7 : Nat) (b o : Nat) (w : World) (hB : B ≤ w.heap.size) (hm : MaxOk w) (hb : b < w.heap.size)
    (hc : CellsAt w b o (PS.cells (.mk op nm sc ns ty int pl es bo el ar pos) ⟨.slice a1 n1 c1, .slice a2 n2 c2, .slice a3 n3 c3, .slice a4 n4 c4, .slice a5 n5 c5, .slice a6 n6 c6, .slice a7 n7 c7⟩)) (he : PS.In B w (.mk op nm sc ns ty int pl es bo el ar pos) ⟨.slice a1 n1 c1, .slice a2 n2 c2, .slice a3 n3 c3, .slice a4 n4 c4, .slice a5 n5 c5, .slice a6 n6 c6, .slice a7 n7 c7⟩) :
    Calls Tryz.prog 267 #[.agg #[.pointer (some ⟨b, o, none⟩)]] w fun e w' => e = .returned (.bool (fitSS (sSh op) nm sc ns ty int pl es bo el ar)) ∧ Below w.heap.size w w' := by
  have c0_ : w.cell? ⟨b, o, none⟩ = some (.int .u8 op) := hc 0 _ rfl
  have c1_ : w.cell? ⟨b, o + 1, none⟩ = some (.string nm) := hc 1 _ rfl
  have c2_ : w.cell? ⟨b, o + 2, none⟩ = some (.string sc) := hc 2 _ rfl
  have c3_ : w.cell? ⟨b, o + 3, none⟩ = some (.slice a1 n1 c1) := hc 3 _ rfl
  have c4_ : w.cell? ⟨b, o + 4, none⟩ = some (.int .u8 ty.kind) := hc 4 _ rfl
  have c5_ : w.cell? ⟨b, o + 5, none⟩ = some (.string ty.name) := hc 5 _ rfl
  have c6_ : w.cell? ⟨b, o + 6, none⟩ = some (.slice a2 n2 c2) := hc 6 _ rfl
  have c7_ : w.cell? ⟨b, o + 7, none⟩ = some (.int .i64 int) := hc 7 _ rfl
  have c8_ : w.cell? ⟨b, o + 8, none⟩ = some (.string pl.name) := hc 8 _ rfl
  have c9_ : w.cell? ⟨b, o + 9, none⟩ = some (.slice a3 n3 c3) := hc 9 _ rfl
  have c10_ : w.cell? ⟨b, o + 10, none⟩ = some (.slice a4 n4 c4) := hc 10 _ rfl
  have c11_ : w.cell? ⟨b, o + 11, none⟩ = some (.slice a5 n5 c5) := hc 11 _ rfl
  have c12_ : w.cell? ⟨b, o + 12, none⟩ = some (.slice a6 n6 c6) := hc 12 _ rfl
  have c13_ : w.cell? ⟨b, o + 13, none⟩ = some (.slice a7 n7 c7) := hc 13 _ rfl
  have c14_ : w.cell? ⟨b, o + 14, none⟩ = some (.int .i64 pos) := hc 14 _ rfl
  have hu : U8 op := he.1.1
  have hk := u8_lt hu
  have hn := sSh_names op
  have D : Hid (∀ w', Calls Tryz.prog 270 #[.int .u8 op] w' fun e w'' => e = .returned (.agg (sSh op).cells) ∧ Below w'.heap.size w' w'') := Lib.hid fun w' => stmtShape_calls op hk w'
  have S : Hid (∀ w', Below w.heap.size w w' → Calls Tryz.prog 271 #[.agg (sSh op).cells, .agg #[.int .u8 op, .string nm, .string sc, .slice a1 n1 c1, .int .u8 ty.kind, .string ty.name, .slice a2 n2 c2, .int .i64 int, .string pl.name, .slice a3 n3 c3, .slice a4 n4 c4, .slice a5 n5 c5, .slice a6 n6 c6, .slice a7 n7 c7, .int .i64 pos]] w' fun e w'' => e = .returned (.bool (fitSS (sSh op) nm sc ns ty int pl es bo el ar)) ∧ Below w'.heap.size w' w'') :=
    Lib.hid fun w' hw => stmtShapeFits_calls B (sSh op) hn.1 hn.2 op nm sc ns ty int pl es bo el ar pos a1 a2 a3 a4 a5 a6 a7 n1 n2 n3 n4 n5 n6 n7 c1 c2 c3 c4 c5 c6 c7 w' (by have := hw.size; omega) (hm.below hw) (PS.In.below (hw.mono hB) he)
  clear hc he hm hu hk hn
  generalize fitSS (sSh op) nm sc ns ty int pl es bo el ar = q at *
  generalize (sSh op).cells = cs at *
  obtain ⟨W0, hW0⟩ : ∃ W0, W0 = w.alloc (.cells #[.pointer (some ⟨b, o, none⟩)] 301) := ⟨_, rfl⟩
  have HW := Lib.hid hW0
  have z1 : w.heap.size < W0.heap.size := by rw [hW0]; simp
  have z2 : b < W0.heap.size := by omega
  have f0 : W0.cell? ⟨w.heap.size, 0, none⟩ = some (.pointer (some ⟨b, o, none⟩)) := by rw [hW0]; go_simp
  have d0 : W0.cell? ⟨b, o, none⟩ = some (.int .u8 op) := by rw [hW0]; go_simp
  have d1 : W0.cell? ⟨b, o + 1, none⟩ = some (.string nm) := by rw [hW0]; go_simp
  have d2 : W0.cell? ⟨b, o + 2, none⟩ = some (.string sc) := by rw [hW0]; go_simp
  have d3 : W0.cell? ⟨b, o + 3, none⟩ = some (.slice a1 n1 c1) := by rw [hW0]; go_simp
  have d4 : W0.cell? ⟨b, o + 4, none⟩ = some (.int .u8 ty.kind) := by rw [hW0]; go_simp
  have d5 : W0.cell? ⟨b, o + 5, none⟩ = some (.string ty.name) := by rw [hW0]; go_simp
  have d6 : W0.cell? ⟨b, o + 6, none⟩ = some (.slice a2 n2 c2) := by rw [hW0]; go_simp
  have d7 : W0.cell? ⟨b, o + 7, none⟩ = some (.int .i64 int) := by rw [hW0]; go_simp
  have d8 : W0.cell? ⟨b, o + 8, none⟩ = some (.string pl.name) := by rw [hW0]; go_simp
  have d9 : W0.cell? ⟨b, o + 9, none⟩ = some (.slice a3 n3 c3) := by rw [hW0]; go_simp
  have d10 : W0.cell? ⟨b, o + 10, none⟩ = some (.slice a4 n4 c4) := by rw [hW0]; go_simp
  have d11 : W0.cell? ⟨b, o + 11, none⟩ = some (.slice a5 n5 c5) := by rw [hW0]; go_simp
  have d12 : W0.cell? ⟨b, o + 12, none⟩ = some (.slice a6 n6 c6) := by rw [hW0]; go_simp
  have d13 : W0.cell? ⟨b, o + 13, none⟩ = some (.slice a7 n7 c7) := by rw [hW0]; go_simp
  have d14 : W0.cell? ⟨b, o + 14, none⟩ = some (.int .i64 pos) := by rw [hW0]; go_simp
  have B0 : Below w.heap.size w W0 := by rw [hW0]; exact box1 _ _
  have hF := Over.cells (W0 := W0)
  have K4 := Lib.hid (fun (n : Over W0) => (show Below w.heap.size w n.w from B0.trans (n.h.mono (by omega))))
  have A1 : Hid (∀ n' : Over W0, Calls Tryz.prog 270 #[.int .u8 op] n'.w fun e w'' => e = .returned (.agg cs) ∧ ∃ m : Over W0, w'' = m.w) := Lib.hid fun n' => over_calls (D.out _)
  have A2 : Hid (∀ n' : Over W0, Calls Tryz.prog 271 #[.agg cs, .agg #[.int .u8 op, .string nm, .string sc, .slice a1 n1 c1, .int .u8 ty.kind, .string ty.name, .slice a2 n2 c2, .int .i64 int, .string pl.name, .slice a3 n3 c3, .slice a4 n4 c4, .slice a5 n5 c5, .slice a6 n6 c6, .slice a7 n7 c7, .int .i64 pos]] n'.w fun e w'' => e = .returned (.bool q) ∧ ∃ m : Over W0, w'' = m.w) := Lib.hid fun n' => over_calls (S.out _ (K4.out n'))
  clear D S B0 hW0
  go_enter Tryz.func267, Tryz.ntmps267
  go_wp2_with fail
  clear c0_ c1_ c2_ c3_ c4_ c5_ c6_ c7_ c8_ c9_ c10_ c11_ c12_ c13_ c14_
  rw [show w.alloc (.cells #[.pointer (some ⟨b, o, none⟩)] 301) = W0 from HW.out.symm]
  refine wp_region_over (by kernel_rfl) (by kernel_rfl) ?_
  repeat (go_big_quiet_step ((first | (go_at_call 270; exact A1.out _) | (go_at_call 271; exact A2.out _))))
  refine wpQuiet_nil ?_
  rintro _ ⟨m, rfl⟩
  have HF := Lib.hid (K4.out m)
  go_wp2
  go_ret
  exact ⟨rfl, HF.out⟩
end Go.Proofs.YthilicmhdkmipaaGreatDoor

