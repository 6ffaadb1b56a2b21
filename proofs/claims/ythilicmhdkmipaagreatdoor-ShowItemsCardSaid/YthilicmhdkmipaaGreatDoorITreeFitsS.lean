/- What fits: statements (made by gen_fitsS.py). -/
import Derived.Test.YthilicmhdkmipaaGreatDoorIJoinAK
import Derived.Test.YthilicmhdkmipaaGreatDoorIJoinAF
namespace Go.Proofs.YthilicmhdkmipaaGreatDoor
open Go.RowKit
set_option linter.unusedVariables false

set_option maxHeartbeats 4000000 in
theorem stmtShape_calls (k : Int) (hk : 0 ≤ k ∧ k ≤ 255) (w : World) :
    Calls Tryz.prog 270 #[.int .u8 k] w fun e w' => e = .returned (.agg (sSh k).cells) ∧ Below w.heap.size w w' := by
  rcases (show (k = 0 ∨ 13 < k) ∨ k = 1 ∨ k = 2 ∨ k = 3 ∨ k = 4 ∨ k = 5 ∨ k = 6 ∨ k = 7 ∨ k = 8 ∨ k = 9 ∨ k = 10 ∨ k = 11 ∨ k = 12 ∨ k = 13 by omega) with h | rfl | rfl | rfl | rfl | rfl | rfl | rfl | rfl | rfl | rfl | rfl | rfl | rfl
  · have e0 : sSh k = sSh 0 := by
      rcases h with rfl | h
      · rfl
      · unfold sSh; repeat rw [if_neg (by omega)]
    rw [e0]
    have n1 : (k == 1) = false := ne_beq (by omega)
    have n2 : (k == 2) = false := ne_beq (by omega)
    have n3 : (k == 3) = false := ne_beq (by omega)
    have n4 : (k == 4) = false := ne_beq (by omega)
    have n5 : (k == 5) = false := ne_beq (by omega)
    have n6 : (k == 6) = false := ne_beq (by omega)
    have n7 : (k == 7) = false := ne_beq (by omega)
    have n8 : (k == 8) = false := ne_beq (by omega)
    have n9 : (k == 9) = false := ne_beq (by omega)
    have n10 : (k == 10) = false := ne_beq (by omega)
    have n11 : (k == 11) = false := ne_beq (by omega)
    have n12 : (k == 12) = false := ne_beq (by omega)
    have n13 : (k == 13) = false := ne_beq (by omega)
    clear e0 h
    go_enter Tryz.func270, Tryz.ntmps270
    go_wp2_with fail
    (try simp only [Exit.inBlock, Exit.then])
    exact bodyPost_ret (v := .agg (sSh 0).cells) (by rw [results_cell1 rfl]; go_simp; rfl) rfl ⟨rfl, box1 w _⟩
  · clear hk; go_enter Tryz.func270, Tryz.ntmps270; go_wp2_with fail; (try simp only [Exit.inBlock, Exit.then]); exact bodyPost_ret (v := .agg (sSh 1).cells) (by rw [results_cell1 rfl]; go_simp; rfl) rfl ⟨rfl, box1 w _⟩
  · clear hk; go_enter Tryz.func270, Tryz.ntmps270; go_wp2_with fail; (try simp only [Exit.inBlock, Exit.then]); exact bodyPost_ret (v := .agg (sSh 2).cells) (by rw [results_cell1 rfl]; go_simp; rfl) rfl ⟨rfl, box1 w _⟩
  · clear hk; go_enter Tryz.func270, Tryz.ntmps270; go_wp2_with fail; (try simp only [Exit.inBlock, Exit.then]); exact bodyPost_ret (v := .agg (sSh 3).cells) (by rw [results_cell1 rfl]; go_simp; rfl) rfl ⟨rfl, box1 w _⟩
  · clear hk; go_enter Tryz.func270, Tryz.ntmps270; go_wp2_with fail; (try simp only [Exit.inBlock, Exit.then]); exact bodyPost_ret (v := .agg (sSh 4).cells) (by rw [results_cell1 rfl]; go_simp; rfl) rfl ⟨rfl, box1 w _⟩
  · clear hk; go_enter Tryz.func270, Tryz.ntmps270; go_wp2_with fail; (try simp only [Exit.inBlock, Exit.then]); exact bodyPost_ret (v := .agg (sSh 5).cells) (by rw [results_cell1 rfl]; go_simp; rfl) rfl ⟨rfl, box1 w _⟩
  · clear hk; go_enter Tryz.func270, Tryz.ntmps270; go_wp2_with fail; (try simp only [Exit.inBlock, Exit.then]); exact bodyPost_ret (v := .agg (sSh 6).cells) (by rw [results_cell1 rfl]; go_simp; rfl) rfl ⟨rfl, box1 w _⟩
  · clear hk; go_enter Tryz.func270, Tryz.ntmps270; go_wp2_with fail; (try simp only [Exit.inBlock, Exit.then]); exact bodyPost_ret (v := .agg (sSh 7).cells) (by rw [results_cell1 rfl]; go_simp; rfl) rfl ⟨rfl, box1 w _⟩
  · clear hk; go_enter Tryz.func270, Tryz.ntmps270; go_wp2_with fail; (try simp only [Exit.inBlock, Exit.then]); exact bodyPost_ret (v := .agg (sSh 8).cells) (by rw [results_cell1 rfl]; go_simp; rfl) rfl ⟨rfl, box1 w _⟩
  · clear hk; go_enter Tryz.func270, Tryz.ntmps270; go_wp2_with fail; (try simp only [Exit.inBlock, Exit.then]); exact bodyPost_ret (v := .agg (sSh 9).cells) (by rw [results_cell1 rfl]; go_simp; rfl) rfl ⟨rfl, box1 w _⟩
  · clear hk; go_enter Tryz.func270, Tryz.ntmps270; go_wp2_with fail; (try simp only [Exit.inBlock, Exit.then]); exact bodyPost_ret (v := .agg (sSh 10).cells) (by rw [results_cell1 rfl]; go_simp; rfl) rfl ⟨rfl, box1 w _⟩
  · clear hk; go_enter Tryz.func270, Tryz.ntmps270; go_wp2_with fail; (try simp only [Exit.inBlock, Exit.then]); exact bodyPost_ret (v := .agg (sSh 11).cells) (by rw [results_cell1 rfl]; go_simp; rfl) rfl ⟨rfl, box1 w _⟩
  · clear hk; go_enter Tryz.func270, Tryz.ntmps270; go_wp2_with fail; (try simp only [Exit.inBlock, Exit.then]); exact bodyPost_ret (v := .agg (sSh 12).cells) (by rw [results_cell1 rfl]; go_simp; rfl) rfl ⟨rfl, box1 w _⟩
  · clear hk; go_enter Tryz.func270, Tryz.ntmps270; go_wp2_with fail; (try simp only [Exit.inBlock, Exit.then]); exact bodyPost_ret (v := .agg (sSh 13).cells) (by rw [results_cell1 rfl]; go_simp; rfl) rfl ⟨rfl, box1 w _⟩
theorem nin_fit {B : Nat} {ns : List ByteArray} {v : Value} {w : World} (hB : B ≤ w.heap.size) (hm : MaxOk w) (h : NIn B w ns v) :
    Calls Tryz.prog 254 #[.int .u8 1, v] w fun e w' => e = .returned (.bool (fitNs ns)) ∧ Below w.heap.size w w' := by
  obtain ⟨b, o, s, r⟩ := h
  exact fitAll_calls B ns b o v w hB hm s r
theorem NIn.len {B : Nat} {w : World} {ns : List ByteArray} {a : Option Addr} {n c : Nat} (h : NIn B w ns (.slice a n c)) : n = ns.length := by
  obtain ⟨b, o, ⟨_, ao, cap, h, _⟩, _⟩ := h
  injection h
theorem SlV.len {B : Nat} {a : Option Addr} {n c m b o : Nat} (h : SlV B (.slice a n c) m b o) : n = m := by
  obtain ⟨_, ao, cap, h, _⟩ := h
  injection h
set_option maxHeartbeats 4000000 in
theorem fitsLists_calls (B : Nat) (h : SSh) (op : Int) (nm sc : ByteArray) (ns : List ByteArray) (ty : PT) (int : Int) (pl : PP) (es : List PE) (bo el : List PS) (ar : List PA) (pos : Int) (a1 a2 a3 a4 a5 a6 a7 : Option Addr) (n1 n2 n3 n4 n5 n6 n7 c1 c2 c3 c4 c5 c6 c7 : Nat) (w : World) (hB : B ≤ w.heap.size) (hm : MaxOk w) (hn : NIn B w ns (.slice a1 n1 c1)) (he : n4 = es.length) :
    Calls Tryz.prog 273 #[.agg h.cells, .agg #[.int .u8 op, .string nm, .string sc, .slice a1 n1 c1, .int .u8 ty.kind, .string ty.name, .slice a2 n2 c2, .int .i64 int, .string pl.name, .slice a3 n3 c3, .slice a4 n4 c4, .slice a5 n5 c5, .slice a6 n6 c6, .slice a7 n7 c7, .int .i64 pos]] w fun e w' => e = .returned (.bool (fitLists h ns es)) ∧ Below w.heap.size w w' := by
  obtain ⟨kn, sn, ss, nms, xs, prs, plc, que, bdy, oth, ams⟩ := h
  have hl := hn.len
  have F : Hid (∀ w', Below w.heap.size w w' → Calls Tryz.prog 254 #[.int .u8 1, .slice a1 n1 c1] w' fun e w'' => e = .returned (.bool (fitNs ns)) ∧ Below w'.heap.size w' w'') :=
    Lib.hid fun w' hw => nin_fit (by have := hw.size; omega) (hm.below hw) (hn.below (hw.mono hB))
  have hf : fitLists ⟨kn, sn, ss, nms, xs, prs, plc, que, bdy, oth, ams⟩ ns es = (if prs then decide (n4 = n1) && fitNs ns else if nms then decide (n4 = xs) && fitNs ns else decide (n4 = xs) && decide (n1 = 0)) := by rw [hl, he]; rfl
  rw [hf]
  have bx := Lib.hid (box2 w (.cells #[.bool kn, .int .u8 sn, .int .u8 ss, .bool nms, .int .i64 xs, .bool prs, .bool plc, .bool que, .bool bdy, .bool oth, .bool ams] 303) (.cells #[.int .u8 op, .string nm, .string sc, .slice a1 n1 c1, .int .u8 ty.kind, .string ty.name, .slice a2 n2 c2, .int .i64 int, .string pl.name, .slice a3 n3 c3, .slice a4 n4 c4, .slice a5 n5 c5, .slice a6 n6 c6, .slice a7 n7 c7, .int .i64 pos] 130))
  generalize fitNs ns = q at *
  clear hf hl hn he hm
  simp only [SSh.cells]
  cases prs
  · cases nms
    · skip
      by_cases hl : n4 = xs
      · subst hl
        by_cases h0 : n1 = 0
        · subst h0
          go_enter Tryz.func273, Tryz.ntmps273
          go_wp2_with fail
          go_ret
          exact ⟨ret_bool (by simp), bx.out⟩
        · have e0 : ((n1 : Int) == 0) = false := by rw [beq_eq_false_iff_ne]; omega
          have H0 := Lib.hid h0
          clear h0
          go_enter Tryz.func273, Tryz.ntmps273
          go_wp2_with fail
          go_ret
          exact ⟨ret_bool (by simp [H0.out]), bx.out⟩
      · have e1 : ((n4 : Int) == (xs : Int)) = false := by rw [beq_eq_false_iff_ne]; omega
        have Hl := Lib.hid hl
        clear hl
        go_enter Tryz.func273, Tryz.ntmps273
        go_wp2_with fail
        go_ret
        exact ⟨ret_bool (by simp [Hl.out]), bx.out⟩
    · skip
      by_cases hl : n4 = xs
      · subst hl
        go_enter Tryz.func273, Tryz.ntmps273
        go_wp2_with fail
        refine (F.out _ bx.out).mono ?_; rintro e w1 ⟨rfl, b1⟩
        go_wp2
        go_ret
        exact ⟨ret_bool (by simp), up_tr bx.out b1⟩
      · have e1 : ((n4 : Int) == (xs : Int)) = false := by rw [beq_eq_false_iff_ne]; omega
        have Hl := Lib.hid hl
        clear hl
        go_enter Tryz.func273, Tryz.ntmps273
        go_wp2_with fail
        go_ret
        exact ⟨ret_bool (by simp [Hl.out]), bx.out⟩
  · skip
    by_cases hl : n4 = n1
    · subst hl
      go_enter Tryz.func273, Tryz.ntmps273
      go_wp2_with fail
      refine (F.out _ bx.out).mono ?_; rintro e w1 ⟨rfl, b1⟩
      go_wp2
      go_ret
      exact ⟨ret_bool (by simp), up_tr bx.out b1⟩
    · have e1 : ((n4 : Int) == (n1 : Int)) = false := by rw [beq_eq_false_iff_ne]; omega
      have Hl := Lib.hid hl
      clear hl
      go_enter Tryz.func273, Tryz.ntmps273
      go_wp2_with fail
      go_ret
      exact ⟨ret_bool (by simp [Hl.out]), bx.out⟩
set_option maxHeartbeats 4000000 in
theorem fitsPlaceS_calls (B : Nat) (h : SSh) (pl : PP) (a3 : Option Addr) (n3 c3 : Nat) (w : World) (hB : B ≤ w.heap.size) (hm : MaxOk w) (hp : pl.In B w (.slice a3 n3 c3)) :
    Calls Tryz.prog 274 #[.agg h.cells, .agg #[.string pl.name, .slice a3 n3 c3]] w fun e w' => e = .returned (.bool (fitPlS h pl)) ∧ Below w.heap.size w w' := by
  obtain ⟨kn, sn, ss, nms, xs, prs, plc, que, bdy, oth, ams⟩ := h
  have C : Hid (∀ w', Below w.heap.size w w' → Calls Tryz.prog 108 #[.agg #[.string pl.name, .slice a3 n3 c3]] w' fun e w'' => e = .returned (.bool (plB pl)) ∧ Below w'.heap.size w' w'') :=
    Lib.hid fun w' hw => isPlace_calls B pl _ w' (by have := hw.size; omega) (hm.below hw) (hp.below (hw.mono hB))
  have Z : Hid (∀ w', Below w.heap.size w w' → Calls Tryz.prog 255 #[.agg #[.string pl.name, .slice a3 n3 c3]] w' fun e w'' => e = .returned (.bool (samePl pl zeroP)) ∧ Below w'.heap.size w' w'') :=
    Lib.hid fun w' hw => isZeroPlace_calls B pl _ w' (by have := hw.size; omega) (hp.below (hw.mono hB))
  rw [show fitPlS ⟨kn, sn, ss, nms, xs, prs, plc, que, bdy, oth, ams⟩ pl = (if plc then plB pl else samePl pl zeroP) from rfl]
  have bx := Lib.hid (box2 w (.cells #[.bool kn, .int .u8 sn, .int .u8 ss, .bool nms, .int .i64 xs, .bool prs, .bool plc, .bool que, .bool bdy, .bool oth, .bool ams] 303) (.cells #[.string pl.name, .slice a3 n3 c3] 34))
  generalize plB pl = xa at *
  generalize samePl pl zeroP = xb at *
  clear hp hm
  simp only [SSh.cells]
  cases plc
  · skip
    go_enter Tryz.func274, Tryz.ntmps274
    go_wp2_with fail
    refine (Z.out _ bx.out).mono ?_; rintro e w1 ⟨rfl, b1⟩
    go_wp2
    go_ret
    exact ⟨rfl, up_tr bx.out b1⟩
  · skip
    go_enter Tryz.func274, Tryz.ntmps274
    go_wp2_with fail
    refine (C.out _ bx.out).mono ?_; rintro e w1 ⟨rfl, b1⟩
    go_wp2
    go_ret
    exact ⟨rfl, up_tr bx.out b1⟩
set_option maxHeartbeats 4000000 in
theorem fitsQueue_calls (B : Nat) (h : SSh) (op : Int) (nm sc : ByteArray) (ns : List ByteArray) (ty : PT) (int : Int) (pl : PP) (es : List PE) (bo el : List PS) (ar : List PA) (pos : Int) (a1 a2 a3 a4 a5 a6 a7 : Option Addr) (n1 n2 n3 n4 n5 n6 n7 c1 c2 c3 c4 c5 c6 c7 : Nat) (w : World) (hB : B ≤ w.heap.size) (ht : ty.In B w (.slice a2 n2 c2)) :
    Calls Tryz.prog 276 #[.agg h.cells, .agg #[.int .u8 op, .string nm, .string sc, .slice a1 n1 c1, .int .u8 ty.kind, .string ty.name, .slice a2 n2 c2, .int .i64 int, .string pl.name, .slice a3 n3 c3, .slice a4 n4 c4, .slice a5 n5 c5, .slice a6 n6 c6, .slice a7 n7 c7, .int .i64 pos]] w fun e w' => e = .returned (.bool (fitQueue h ty int)) ∧ Below w.heap.size w w' := by
  obtain ⟨kn, sn, ss, nms, xs, prs, plc, que, bdy, oth, ams⟩ := h
  have C : Hid (∀ w', Below w.heap.size w w' → Calls Tryz.prog 111 #[.agg #[.int .u8 ty.kind, .string ty.name, .slice a2 n2 c2], .agg #[.int .u8 0, .string ByteArray.empty, .slice none 0 0]] w' fun e w'' => e = .returned (.bool (sameT ty zeroT)) ∧ Below w'.heap.size w' w'') :=
    Lib.hid fun w' hw => sameT_calls B ty zeroT _ _ w' (by have := hw.size; omega) (PT.In.below (hw.mono hB) ht) (zeroT_in B w')
  rw [show fitQueue ⟨kn, sn, ss, nms, xs, prs, plc, que, bdy, oth, ams⟩ ty int = (if que then decide (1 ≤ int) && decide (int ≤ 8) else decide (int = 0) && sameT ty zeroT) from rfl]
  have bx := Lib.hid (box2 w (.cells #[.bool kn, .int .u8 sn, .int .u8 ss, .bool nms, .int .i64 xs, .bool prs, .bool plc, .bool que, .bool bdy, .bool oth, .bool ams] 303) (.cells #[.int .u8 op, .string nm, .string sc, .slice a1 n1 c1, .int .u8 ty.kind, .string ty.name, .slice a2 n2 c2, .int .i64 int, .string pl.name, .slice a3 n3 c3, .slice a4 n4 c4, .slice a5 n5 c5, .slice a6 n6 c6, .slice a7 n7 c7, .int .i64 pos] 130))
  generalize sameT ty zeroT = xa at *
  clear ht
  simp only [SSh.cells]
  cases que
  · by_cases h0 : int = 0
    · subst h0
      go_enter Tryz.func276, Tryz.ntmps276
      go_wp2_with fail
      refine (C.out _ bx.out).mono ?_; rintro e w1 ⟨rfl, b1⟩
      go_wp2
      go_ret
      exact ⟨ret_bool (by simp), up_tr bx.out b1⟩
    · have e0 : (int == 0) = false := ne_beq h0
      have H0 := Lib.hid h0
      clear h0
      go_enter Tryz.func276, Tryz.ntmps276
      go_wp2_with fail
      go_ret
      exact ⟨ret_bool (by simp [H0.out]), bx.out⟩
  · by_cases h1 : 1 ≤ int
    · by_cases h8 : int ≤ 8
      · skip
        go_enter Tryz.func276, Tryz.ntmps276
        go_wp2_with fail
        go_ret
        exact ⟨ret_bool (by first | (simp; done) | (simp; omega)), bx.out⟩
      · skip
        go_enter Tryz.func276, Tryz.ntmps276
        go_wp2_with fail
        go_ret
        exact ⟨ret_bool (by first | (simp; done) | (simp; omega)), bx.out⟩
    · skip
      go_enter Tryz.func276, Tryz.ntmps276
      go_wp2_with fail
      go_ret
      exact ⟨ret_bool (by first | (simp; done) | (simp; omega)), bx.out⟩
set_option maxHeartbeats 1000000 in
theorem notArm_calls (vn an : ByteArray) (h1 : vn.size ≤ maxLen) (h2 : an.size ≤ maxLen) (bv : PA) (a : Option Addr) (n c : Nat) (hb : bv.variant = vn ∧ bv.name = an) (w : World) (hm : MaxOk w) :
    Calls Tryz.prog 277 #[.agg #[.string vn, .string an, .slice a n c]] w fun e w' => e = .returned (.bool (!armB bv)) ∧ Below w.heap.size w w' := by
  have C1 : Hid (∀ w', Below w.heap.size w w' → Calls Tryz.prog 161 #[.int .u8 3, .string vn] w' fun e w'' => e = .returned (.bool (tyB vn)) ∧ Below w'.heap.size w' w'') := Lib.hid fun w' hw => textFits_calls 3 (by omega) vn h1 w' (hm.below hw)
  have C2 : Hid (∀ w', Below w.heap.size w w' → Calls Tryz.prog 161 #[.int .u8 2, .string an] w' fun e w'' => e = .returned (.bool (noB an || nmB an)) ∧ Below w'.heap.size w' w'') := Lib.hid fun w' hw => textFits_calls 2 (by omega) an h2 w' (hm.below hw)
  rw [show armB bv = (tyB vn && (noB an || nmB an)) from by rw [armB, hb.1, hb.2]]
  clear hb hm
  generalize tyB vn = x1 at *
  generalize (noB an || nmB an) = x2 at *
  have bx := Lib.hid (box1 w (.cells #[.string vn, .string an, .slice a n c] 133))
  cases x1
  · skip
    go_enter Tryz.func277, Tryz.ntmps277
    go_wp2_with fail
    refine (C1.out _ bx.out).mono ?_; rintro e w1 ⟨rfl, b1⟩
    go_wp2
    go_ret
    exact ⟨rfl, up_tr bx.out b1⟩
  · skip
    go_enter Tryz.func277, Tryz.ntmps277
    go_wp2_with fail
    refine (C1.out _ bx.out).mono ?_; rintro e w1 ⟨rfl, b1⟩
    have bel1 := Lib.hid (up_tr bx.out b1)
    have hc1 := old_cells b1
    clear b1
    go_wp2_with fail
    refine (C2.out _ bel1.out).mono ?_; rintro e w2 ⟨rfl, b2⟩
    go_wp2
    go_ret
    exact ⟨ret_bool (by simp), up_tr bel1.out b2⟩
set_option maxHeartbeats 2000000 in
theorem indexArm_calls (B : Nat) (l : List PA) (b1 o1 : Nat) (v1 : Value) (w : World) (hB : B ≤ w.heap.size) (hm : MaxOk w) (s1 : SlV B v1 l.length b1 o1) (r1 : PA.Row B w b1 o1 l) :
    Calls Tryz.prog 279 #[v1, .func (.func 277) #[] #[]] w fun e w' => (∃ r : Int, e = .returned (.int .i64 r) ∧ decide (0 ≤ r) = l.any (fun s => (!armB s))) ∧ Below w.heap.size w w' := by
  obtain ⟨m1, ao1, cap1, rfl, h1⟩ := s1
  unfold maxLen at m1
  obtain ⟨n, hx⟩ : ∃ n, n = l.length := ⟨_, rfl⟩
  rw [← hx] at m1 h1 ⊢
  have Hx := Lib.hid hx
  have Hr := Lib.hid r1
  have H1 := Lib.hid h1
  have Hm := Lib.hid hm
  clear hx r1 h1 hm
  have hE : ∀ args w, (callFunc 277 args).run Tryz.prog w = .ok (.enter 277 args) w := enters_of Tryz.func277 (by kernel_rfl) rfl
  go_enter Tryz.func279, Tryz.ntmps279
  go_wp2_with fail
  go_loopw [8] (fun i wr => ∃ k : Nat, k ≤ n ∧ i = .int .i64 k ∧ Below w.heap.size w wr ∧ Hid (∀ (j : Nat) x, j < k → l[j]? = some x → (!armB x) = false))
    (fun i _ => n - (intOf i).toNat)
  case atStart => exact ⟨0, by omega, rfl, Below.refl _ _, Lib.hid fun j x hj => by omega⟩
  case round =>
    obtain ⟨k, hk, rfl, hbel, HK⟩ := hrel
    have hsz := hbel.size
    have hbB := hbel.mono hB
    by_cases hlt : k < n
    · obtain ⟨a, ha, hin⟩ := get_at (l := l) (k := k) (by rw [← Hx.out]; exact hlt)
      obtain ⟨rfl, hb1⟩ := H1.out.resolve_left (by omega)
      obtain ⟨va, ca, ia⟩ := PA.Row.get (PA.Row.below hbB (fun _ => hb1) Hr.out) ha
      obtain ⟨pa0, m0, k0, rfl⟩ := ia.shape
      obtain ⟨vn, an, hva, hna, hz, cc⟩ : ∃ vn an, a.variant = vn ∧ a.name = an ∧ (vn.size ≤ maxLen ∧ an.size ≤ maxLen) ∧ CellsAt wr b1 (o1 + k * 3) [.string vn, .string an, .slice pa0 m0 k0] := by
        cases a with
        | mk x y z => exact ⟨x, y, rfl, rfl, ia.1, ca⟩
      have c0 : wr.cell? ⟨b1, o1 + k * 3, none⟩ = some (.string vn) := cc 0 _ rfl
      have c1 : wr.cell? ⟨b1, o1 + k * 3 + 1, none⟩ = some (.string an) := cc 1 _ rfl
      have c2 : wr.cell? ⟨b1, o1 + k * 3 + 2, none⟩ = some (.slice pa0 m0 k0) := cc 2 _ rfl
      have C := Lib.hid (notArm_calls vn an hz.1 hz.2 a pa0 m0 k0 ⟨hva, hna⟩ wr (Hm.out.below hbel))
      clear hva hna hz cc
      have g1 : b1 < wr.heap.size := by omega
      have Ha := Lib.hid ha
      generalize hp : (!armB a) = pa at *
      have Hp := Lib.hid hp
      clear ha ca hin ia hp
      go_wp2_with fail
      refine C.out.mono ?_
      rintro e w2 ⟨rfl, b2⟩
      have b3 := hbel.trans (b2.mono (by omega))
      clear b2 c0 c1 c2
      cases pa
      · have HK2 : Hid (∀ (j : Nat) x, j < k + 1 → l[j]? = some x → (!armB x) = false) := Lib.hid fun j x hj hx => by
          by_cases e : j = k
          · subst e
            rw [Ha.out] at hx
            cases hx
            exact Hp.out
          · exact HK.out j x (by omega) hx
        go_wp2
        go_roundw
        case rel => exact ⟨k + 1, by omega, by go_num, b3, HK2⟩
        case measure => simp [intOf]; omega
      · have hres := Lib.hid (any_yes (p := fun s => (!armB s)) Ha.out Hp.out)
        go_wp2
        go_ret
        exact ⟨⟨k, rfl, by rw [hres.out]; simp⟩, b3⟩
    · obtain rfl : k = n := by omega
      have hres := Lib.hid (any_no (p := fun s => (!armB s)) fun j x hx => HK.out j x (by rw [Hx.out]; exact (List.getElem?_eq_some_iff.1 hx).1) hx)
      go_wp2
      go_ret
      exact ⟨⟨-1, rfl, by rw [hres.out]; simp⟩, hbel⟩
set_option maxHeartbeats 1000000 in
theorem containsArm_calls (B : Nat) (l : List PA) (b1 o1 : Nat) (v1 : Value) (w : World) (hB : B ≤ w.heap.size) (hm : MaxOk w) (s1 : SlV B v1 l.length b1 o1) (r1 : PA.Row B w b1 o1 l) :
    Calls Tryz.prog 278 #[v1, .func (.func 277) #[] #[]] w fun e w' => e = .returned (.bool (l.any (fun s => (!armB s)))) ∧ Below w.heap.size w w' := by
  have C := Lib.hid (indexArm_calls B l b1 o1 v1 w hB hm s1 r1)
  obtain ⟨ao1, cap1, rfl⟩ := s1.shape
  generalize l.any (fun s => (!armB s)) = res at *
  clear r1 s1 hm
  go_enter Tryz.func278, Tryz.ntmps278
  go_wp2_with fail
  refine C.out.mono ?_
  rintro e w2 ⟨⟨r, rfl, hr⟩, b2⟩
  go_wp2
  go_ret
  exact ⟨ret_bool (by rw [← hr]), b2⟩
theorem not_anyA (l : List PA) (p : PA → Bool) : (!(l.any fun s => !p s)) = l.all p := by
  rw [Bool.eq_iff_iff]; simp
set_option maxHeartbeats 4000000 in
theorem fitsArms_calls (B : Nat) (h : SSh) (ar : List PA) (a7 : Option Addr) (c7 : Nat) (b o : Nat) (w : World) (hB : B ≤ w.heap.size) (hm : MaxOk w) (s1 : SlV B (.slice a7 ar.length c7) ar.length b o) (r1 : PA.Row B w b o ar) :
    Calls Tryz.prog 275 #[.agg h.cells, .slice a7 ar.length c7] w fun e w' => e = .returned (.bool (fitArms h ar)) ∧ Below w.heap.size w w' := by
  obtain ⟨kn, sn, ss, nms, xs, prs, plc, que, bdy, oth, ams⟩ := h
  have D : Hid (∀ w', Below w.heap.size w w' → Calls Tryz.prog 278 #[.slice a7 ar.length c7, .func (.func 277) #[] #[]] w' fun e w'' => e = .returned (.bool (ar.any (fun s => (!armB s)))) ∧ Below w'.heap.size w' w'') :=
    Lib.hid fun w' hw => containsArm_calls B ar b o _ w' (by have := hw.size; omega) (hm.below hw) s1 (PA.Row.below' (hw.mono hB) s1 r1)
  rw [show fitArms ⟨kn, sn, ss, nms, xs, prs, plc, que, bdy, oth, ams⟩ ar = (if ams then decide (ar.length ≤ 6) && ar.all armB else decide (ar.length = 0)) from rfl, ← not_anyA]
  have bx := Lib.hid (box1 w (.cells #[.bool kn, .int .u8 sn, .int .u8 ss, .bool nms, .int .i64 xs, .bool prs, .bool plc, .bool que, .bool bdy, .bool oth, .bool ams] 303))
  generalize ar.any (fun s => !armB s) = q at *
  clear s1 r1 hm
  generalize ar.length = m at *
  simp only [SSh.cells]
  cases ams
  · by_cases h0 : m = 0
    · subst h0
      go_enter Tryz.func275, Tryz.ntmps275
      go_wp2_with fail
      go_ret
      exact ⟨ret_bool (by simp), bx.out⟩
    · have e0 : ((m : Int) == 0) = false := ne_beq (by omega)
      have H0 := Lib.hid h0
      clear h0
      go_enter Tryz.func275, Tryz.ntmps275
      go_wp2_with fail
      go_ret
      exact ⟨ret_bool (by simp [H0.out]), bx.out⟩
  · by_cases hl : m ≤ 6
    · skip
      go_enter Tryz.func275, Tryz.ntmps275
      go_wp2_with fail
      refine (D.out _ bx.out).mono ?_; rintro e w2 ⟨rfl, b2⟩
      go_wp2
      go_ret
      exact ⟨ret_bool (by simp), up_tr bx.out b2⟩
    · skip
      go_enter Tryz.func275, Tryz.ntmps275
      go_wp2_with fail
      go_ret
      exact ⟨ret_bool (by simp), bx.out⟩
end Go.Proofs.YthilicmhdkmipaaGreatDoor

