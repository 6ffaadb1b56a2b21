/- shown: of a type, of a place, over what tells whether it is whole. -/
import Derived.Test.YthilicmhdkmipaaGreatDoorWJoinAY
import Derived.Test.YthilicmhdkmipaaGreatDoorWJoinAN
import Derived.Test.YthilicmhdkmipaaGreatDoorWJoinAB
namespace Go.Proofs.YthilicmhdkmipaaGreatDoor
open Go.RowKit
set_option linter.unusedVariables false

theorem SlV.wider {B B' : Nat} {v : Value} {n b o : Nat} (h : SlV B v n b o) (hb : B ≤ B') : SlV B' v n b o := by
  obtain ⟨h1, ao, cap, h2, h3⟩ := h
  exact ⟨h1, ao, cap, h2, h3.imp id fun h => ⟨h.1, by omega⟩⟩
theorem NIn.wider {B B' : Nat} {w : World} {l : List ByteArray} {v : Value} (hb : B ≤ B') (h : NIn B w l v) : NIn B' w l v := by
  obtain ⟨b, o, h1, h2⟩ := h
  exact ⟨b, o, h1.wider hb, h2⟩
theorem PP.In.wider {B B' : Nat} {w : World} {x : PP} {v : Value} (hb : B ≤ B') (h : x.In B w v) : x.In B' w v := ⟨h.1, h.2.wider hb⟩
mutual
theorem PT.In.wider {B B' : Nat} {w : World} (hb : B ≤ B') : ∀ {t : PT} {v : Value}, t.In B w v → t.In B' w v
  | .mk kd n [], v, ⟨h1, b, o, hs, _⟩ => ⟨h1, b, o, hs.wider hb, trivial⟩
  | .mk kd n (t :: us), v, ⟨h1, b, o, hs, hr⟩ => ⟨h1, b, o, hs.wider hb, PT.Row.wider hb hr⟩
theorem PT.Row.wider {B B' : Nat} {w : World} (hb : B ≤ B') {b : Nat} : ∀ {l : List PT} {o : Nat}, PT.Row B w b o l → PT.Row B' w b o l
  | [], _, _ => trivial
  | t :: l, o, ⟨⟨v, h1, h2⟩, hr⟩ => ⟨⟨v, h1, PT.In.wider hb h2⟩, PT.Row.wider hb hr⟩
end
theorem Words.wider {B B' : Nat} {w : World} (hb : B ≤ B') (h : Words B w) : Words B' w := ⟨⟨by have := h.lt.1; omega, by have := h.lt.2; omega⟩, h.t, h.e, fun w2 k2 => h.tens w2 (k2.mono hb)⟩
/-- a writer that was just made -/
theorem IsW.new (w : World) : IsW w.heap.size w.heap.size [] ⟨#[]⟩ (w.alloc (.cells #[.pointer none, .slice none 0 0, .string ⟨#[]⟩] 140)) :=
  ⟨Nat.le_refl _, _, _, .inl rfl, heap_alloc_new w _, rfl, .inl ⟨rfl, rfl⟩⟩
theorem AtW.new (w : World) : AtW w.heap.size w.heap.size [] [] [] (w.alloc (.cells #[.pointer none, .slice none 0 0, .string ⟨#[]⟩] 140)) := IsW.new w
set_option maxRecDepth 100000 in
set_option maxHeartbeats 4000000 in
theorem shownT_calls (B : Nat) (t : PT) (q : Bool) (v : Value) (w : World) (hB : B ≤ w.heap.size) (hW : Words B w) (ht : t.In B w v)
    (hq : ∀ W, Below w.heap.size w W → Calls Tryz.prog 65 #[.agg #[.int .u8 t.kind, .string t.name, v]] W fun e w' => e = .returned (.bool q) ∧ Below W.heap.size W w')
    (hT : q = true → ∀ B R, TypedAt B R t) (hL : q = true → (lineT (tokT t)).length ≤ 1000000000) (h0 : q = true → lineT (tokT t) ≠ []) :
    Calls Tryz.prog 64 #[.agg #[.int .u8 t.kind, .string t.name, v], .func (.func 65) #[] #[], .func (.func 66) #[] #[]] w fun e w' => e = .returned (.string ⟨(if q then lineT (tokT t) else []).toArray⟩) ∧ Below w.heap.size w w' := by
  obtain ⟨ao, n, cap, rfl⟩ := ht.shape
  obtain ⟨w1, hw1⟩ : ∃ w1, w1 = w.alloc (.cells #[.int .u8 t.kind, .string t.name, .slice ao n cap] 31) := ⟨_, rfl⟩
  have bx : Below w.heap.size w w1 := by rw [hw1]; exact new_only _ _
  have hz : w.heap.size < w1.heap.size := by rw [hw1]; simp
  have x0 : w1.cell? ⟨w.heap.size, 0, none⟩ = some (.int .u8 t.kind) := by rw [hw1]; go_simp
  have x1 : w1.cell? ⟨w.heap.size, 1, none⟩ = some (.string t.name) := by rw [hw1]; go_simp
  have x2 : w1.cell? ⟨w.heap.size, 2, none⟩ = some (.slice ao n cap) := by rw [hw1]; go_simp
  have C1 := Lib.hid (hq w1 bx)
  have HW := Lib.hid hW
  have HT := Lib.hid ht
  have HTy := Lib.hid hT
  have HL := Lib.hid hL
  have H0 := Lib.hid h0
  clear hq hW ht hT hL h0
  go_enter Tryz.func64, Tryz.ntmps64
  go_upto_region 1 with (fail)
  rw [← hw1]
  clear hw1
  cases q with
  | false =>
    go_wp2_with fail
    (with_reducible refine (C1.out).mono ?_)
    rintro e w2 ⟨rfl, bq⟩
    have B2 := Lib.hid (bx.trans (bq.mono (by omega)))
    clear bq
    go_wp2
    go_ret
    exact ⟨rfl, B2.out⟩
  | true =>
    go_wp2_with fail
    (with_reducible refine (C1.out).mono ?_)
    rintro e w2 ⟨rfl, bq⟩
    have B2 := Lib.hid (bx.trans (bq.mono (by omega)))
    have b2 := bq
    have z2 := bq.size
    have y0 := (b2.cell (p := ⟨w.heap.size, 0, none⟩) hz).trans x0
    have y1 := (b2.cell (p := ⟨w.heap.size, 1, none⟩) hz).trans x1
    have y2 := (b2.cell (p := ⟨w.heap.size, 2, none⟩) hz).trans x2
    have A0 := Lib.hid (AtW.new w2)
    obtain ⟨w3, hw3⟩ : ∃ w3, w3 = w2.alloc (.cells #[.pointer none, .slice none 0 0, .string ⟨#[]⟩] 140) := ⟨_, rfl⟩
    have b3 : Below w2.heap.size w2 w3 := by rw [hw3]; exact new_only _ _
    rw [← hw3] at A0
    have C2 := Lib.hid (HTy.out trivial w2.heap.size w2.heap.size [] [] [] (.slice ao n cap) w3 b3.size (((HW.out.below (B2.out.mono hB)).wider (by omega)).below b3) A0.out (PT.In.below b3 (PT.In.wider (by omega) (PT.In.below (B2.out.mono hB) HT.out))) (HL.out trivial))
    have v0 := (b3.cell (p := ⟨w.heap.size, 0, none⟩) (show w.heap.size < w2.heap.size by omega)).trans y0
    have v1 := (b3.cell (p := ⟨w.heap.size, 1, none⟩) (show w.heap.size < w2.heap.size by omega)).trans y1
    have v2 := (b3.cell (p := ⟨w.heap.size, 2, none⟩) (show w.heap.size < w2.heap.size by omega)).trans y2
    have B3 := Lib.hid (B2.out.trans (b3.mono (by omega)))
    have Z3 := b3.size
    clear bq b2 b3 C1 x0 x1 x2 y0 y1 y2
    go_upto_region 4 with (fail)
    rw [← hw3]
    clear hw3
    go_wp2_with fail
    refine (C2.out).mono ?_
    rintro e w4 ⟨rfl, h4, b4⟩
    have B4 := Lib.hid (B3.out.trans (b4.bel.mono (by omega)))
    have C3 := Lib.hid (all_row _ _ _ _ _ w4 h4 (H0.out trivial))
    clear h4 b4 C2
    go_wp2_with (go_at_call 87; refine (C3.out).mono ?_; rintro e w5 ⟨rfl, b5⟩; have B5 := Lib.hid (B4.out.trans (b5.mono (by omega))); clear b5)
    go_ret
    exact ⟨rfl, B5.out⟩
set_option maxRecDepth 100000 in
set_option maxHeartbeats 4000000 in
theorem shownP_calls (B : Nat) (t : PP) (q : Bool) (v : Value) (w : World) (hB : B ≤ w.heap.size) (ht : t.In B w v)
    (hq : ∀ W, Below w.heap.size w W → Calls Tryz.prog 71 #[.agg #[.string t.name, v]] W fun e w' => e = .returned (.bool q) ∧ Below W.heap.size W w')
    (hL : q = true → (lineT (tokP t)).length ≤ 1000000000) (h0 : q = true → lineT (tokP t) ≠ []) :
    Calls Tryz.prog 70 #[.agg #[.string t.name, v], .func (.func 71) #[] #[], .func (.func 72) #[] #[]] w fun e w' => e = .returned (.string ⟨(if q then lineT (tokP t) else []).toArray⟩) ∧ Below w.heap.size w w' := by
  obtain ⟨ao, n, cap, rfl⟩ := ht.2.shape
  obtain ⟨w1, hw1⟩ : ∃ w1, w1 = w.alloc (.cells #[.string t.name, .slice ao n cap] 34) := ⟨_, rfl⟩
  have bx : Below w.heap.size w w1 := by rw [hw1]; exact new_only _ _
  have hz : w.heap.size < w1.heap.size := by rw [hw1]; simp
  have x0 : w1.cell? ⟨w.heap.size, 0, none⟩ = some (.string t.name) := by rw [hw1]; go_simp
  have x1 : w1.cell? ⟨w.heap.size, 1, none⟩ = some (.slice ao n cap) := by rw [hw1]; go_simp
  have C1 := Lib.hid (hq w1 bx)
  have HT := Lib.hid ht
  have HL := Lib.hid hL
  have H0 := Lib.hid h0
  clear hq ht hL h0
  go_enter Tryz.func70, Tryz.ntmps70
  go_upto_region 1 with (fail)
  rw [← hw1]
  clear hw1
  cases q with
  | false =>
    go_wp2_with fail
    (with_reducible refine (C1.out).mono ?_)
    rintro e w2 ⟨rfl, bq⟩
    have B2 := Lib.hid (bx.trans (bq.mono (by omega)))
    clear bq
    go_wp2
    go_ret
    exact ⟨rfl, B2.out⟩
  | true =>
    go_wp2_with fail
    (with_reducible refine (C1.out).mono ?_)
    rintro e w2 ⟨rfl, bq⟩
    have B2 := Lib.hid (bx.trans (bq.mono (by omega)))
    have b2 := bq
    have z2 := bq.size
    have y0 := (b2.cell (p := ⟨w.heap.size, 0, none⟩) hz).trans x0
    have y1 := (b2.cell (p := ⟨w.heap.size, 1, none⟩) hz).trans x1
    have A0 := Lib.hid (AtW.new w2)
    obtain ⟨w3, hw3⟩ : ∃ w3, w3 = w2.alloc (.cells #[.pointer none, .slice none 0 0, .string ⟨#[]⟩] 140) := ⟨_, rfl⟩
    have b3 : Below w2.heap.size w2 w3 := by rw [hw3]; exact new_only _ _
    rw [← hw3] at A0
    have C2 := Lib.hid (place_calls w2.heap.size w2.heap.size t [] [] [] (.slice ao n cap) w3 b3.size A0.out (PP.In.below (PP.In.wider (by omega) (PP.In.below HT.out (B2.out.mono hB))) b3) (HL.out trivial))
    have v0 := (b3.cell (p := ⟨w.heap.size, 0, none⟩) (show w.heap.size < w2.heap.size by omega)).trans y0
    have v1 := (b3.cell (p := ⟨w.heap.size, 1, none⟩) (show w.heap.size < w2.heap.size by omega)).trans y1
    have B3 := Lib.hid (B2.out.trans (b3.mono (by omega)))
    have Z3 := b3.size
    clear bq b2 b3 C1 x0 x1 y0 y1
    go_upto_region 4 with (fail)
    rw [← hw3]
    clear hw3
    go_wp2_with fail
    refine (C2.out).mono ?_
    rintro e w4 ⟨rfl, h4, b4⟩
    have B4 := Lib.hid (B3.out.trans (b4.bel.mono (by omega)))
    have C3 := Lib.hid (all_row _ _ _ _ _ w4 h4 (H0.out trivial))
    clear h4 b4 C2
    go_wp2_with (go_at_call 87; refine (C3.out).mono ?_; rintro e w5 ⟨rfl, b5⟩; have B5 := Lib.hid (B4.out.trans (b5.mono (by omega))); clear b5)
    go_ret
    exact ⟨rfl, B5.out⟩
end Go.Proofs.YthilicmhdkmipaaGreatDoor
/- How long an expression's text is that is not too great; that it isn't empty. -/
namespace Go.Proofs.YthilicmhdkmipaaGreatDoor
open Go.RowKit
set_option linter.unusedVariables false

theorem i64_geS {x : Int} (h : I64 x) : -9223372036854775808 ≤ x := by
  unfold I64 at h
  simp only [Lit.wf, Bool.and_eq_true, decide_eq_true_eq] at h
  have b : IntKind.i64.min = -9223372036854775808 := by decide
  omega
def sumW : List PE → Nat
  | [] => 0
  | x :: l => wtT (tokE x) + 20 + sumW l
theorem rest_w : ∀ l : List PE, wtT (restT (tokEs l)) + 18 * l.length ≤ sumW l
  | [] => by rw [tokEs, restT]; simp [wtT, sumW]
  | x :: l => by
    rw [tokEs, restT, sumW, List.length_cons]
    have := rest_w l
    simp only [wtT, wtT_app, wComma, List.cons_append, List.length_cons, List.length_nil]; omega
theorem joinT_consS (a : List TkB) (l : List (List TkB)) : joinT (a :: l) = a ++ restT l := joinT_cons a l
theorem join_w (l : List PE) : wtT (joinT (tokEs l)) + 18 * l.length ≤ sumW l := by
  cases l with
  | nil => rw [tokEs]; simp [wtT, sumW, joinT]
  | cons x l =>
    rw [tokEs, joinT_consS, wtT_app, sumW, List.length_cons]
    have := rest_w l; omega
theorem restP_w : ∀ (ns : List ByteArray) (l : List PE), wtT (restT (pairsT ns (tokEs l))) ≤ sumW l + wtT (ns.map kT)
  | [], l => by rw [pairsT]; simp [wtT, restT]; intro _ _ _ _ h; cases h
  | n :: ns, [] => by rw [tokEs, pairsT]; simp [wtT, restT]; intro _ _ _ _ _ h; cases h
  | n :: ns, x :: l => by
    rw [tokEs, pairsT, restT, sumW, List.map_cons]
    have := restP_w ns l
    simp only [wtT, wtT_app, wComma, wGives, List.cons_append, List.length_cons, List.length_nil]; omega
theorem joinP_w (ns : List ByteArray) (l : List PE) : wtT (joinT (pairsT ns (tokEs l))) ≤ sumW l + wtT (ns.map kT) := by
  match ns, l with
  | [], l => rw [pairsT]; simp [wtT, joinT]; intro _ _ _ _ h; cases h
  | n :: ns, [] => rw [tokEs, pairsT]; simp [wtT, joinT]; intro _ _ _ _ _ h; cases h
  | n :: ns, x :: l =>
    rw [tokEs, pairsT, joinT_consS, wtT_app, sumW, List.map_cons, wtT]
    have := restP_w ns l
    simp only [wtT, wGives, List.length_cons, List.length_nil]; omega
theorem enum_w (l : List PE) : wtT (enumT (tokEs l)) ≤ sumW l := by
  cases l with
  | nil => rw [tokEs]; simp [enumT, wtT]
  | cons x l => rw [tokEs, enumT, sumW]; simp only [wtT, wtT_app, wOpen, wEnd, List.length_cons, List.length_nil]; omega
theorem getD_w (l : List PE) : wtT ((tokEs l).getD 0 []) + wtT ((tokEs l).getD 1 []) ≤ sumW l := by
  match l with
  | [] => rw [tokEs]; simp [wtT]
  | [x] => rw [tokEs, tokEs]; simp [sumW, wtT]
  | x :: y :: l => rw [tokEs, tokEs]; simp [sumW]; omega
theorem side_w (k : Nat) (op : Int) (ts : List TkB) : wtT (sideT k op ts) ≤ wtT ts + 4 := by
  unfold sideT
  split
  · omega
  · simp only [wtT, wtT_app, wOpen, wEnd, List.length_cons, List.length_nil]; omega
theorem placeT_w (p : PP) (l : List PE) : wtT (placeT p (tokEs l)) ≤ wtT (tokP p) + sumW l := by
  unfold placeT
  split
  · have := join_w l; omega
  · cases l with
    | nil => rw [tokEs]; simp
    | cons x l =>
      have h := join_w (x :: l)
      rw [tokEs] at h ⊢
      rw [List.length_cons] at h
      simp only [wtT_app, wtT, wComma, List.length_cons, List.length_nil]; omega
mutual
theorem exprR_w {B : Nat} {w : World} : ∀ (x : PE) (v : VE) (m : Int), x.In B w v → 0 ≤ exprR x m → (wtT (tokE x) : Int) + 20 ≤ 5 * (m - exprR x m)
  | .mk op i n s p l pos, v, m, hx, h => by
    obtain ⟨⟨_, hi, _, _, _⟩, _, b, o, _, hr⟩ := hx
    rw [exprR] at h ⊢
    by_cases h0 : placeR p (nameR (nameR m n.size) s.size) < 0
    · rw [exprsR_neg _ _ h0] at h; omega
    have hp := placeR_w p (nameR (nameR m n.size) s.size) (by omega)
    have h1 : 0 ≤ nameR (nameR m n.size) s.size := by omega
    have e1 := nameR_ok h1
    have e2 := nameR_ok (m := m) (n := n.size) (by omega)
    have ih := exprsR_w l o (placeR p (nameR (nameR m n.size) s.size)) hr h
    have hj := join_w l
    have hjp := joinP_w p.path l
    have he := enum_w l
    have hg := getD_w l
    have hpl := placeT_w p l
    have hit := Lib.itoa_length_le i (i64_geS hi) (i64_lt hi)
    have hw := exprWord_len op
    have hkn := kT_len n
    have hks := kT_len s
    have s1 := side_w (strongB op) (opAt l 0) ((tokEs l).getD 0 [])
    have s2 := side_w (leftB op) (opAt l 0) ((tokEs l).getD 0 [])
    have s3 := side_w (strongB op + 1) (opAt l 1) ((tokEs l).getD 1 [])
    have hb : (boolWord i).length ≤ 5 := by unfold boolWord; split <;> simp
    generalize exprsR l (placeR p (nameR (nameR m n.size) s.size)) = r at *
    generalize placeR p (nameR (nameR m n.size) s.size) = r2 at *
    suffices H : ∀ ts, tokE (.mk op i n s p l pos) = ts → (wtT ts : Int) + 20 ≤ 5 * (m - r) from H _ rfl
    intro ts hts
    rw [tokE] at hts
    by_cases c : op = 1
    · rw [if_pos c] at hts
      subst hts
      simp only [wtT]
      omega
    rw [if_neg c] at hts
    clear c
    by_cases c : op = 2
    · rw [if_pos c] at hts
      subst hts
      simp only [wtT]
      omega
    rw [if_neg c] at hts
    clear c
    by_cases c : op = 3
    · rw [if_pos c] at hts
      subst hts
      simp only [wtT, wOpen, wEnd, List.length_cons, List.length_nil]
      omega
    rw [if_neg c] at hts
    clear c
    by_cases c : op = 4
    · rw [if_pos c] at hts
      subst hts
      omega
    rw [if_neg c] at hts
    clear c
    by_cases c : op = 5
    · rw [if_pos c] at hts
      subst hts
      simp only [wtT, wAmp, List.length_cons, List.length_nil]
      omega
    rw [if_neg c] at hts
    clear c
    by_cases c : op = 6
    · rw [if_pos c] at hts
      subst hts
      simp only [wtT, wAmp, wMut, List.length_cons, List.length_nil]
      omega
    rw [if_neg c] at hts
    clear c
    by_cases c : op = 18
    · rw [if_pos c] at hts
      subst hts
      simp only [wtT, wtT_app, wOpen, wEnd, List.length_cons, List.length_nil]
      omega
    rw [if_neg c] at hts
    clear c
    by_cases c : op = 19
    · rw [if_pos c] at hts
      subst hts
      simp only [wtT, wtT_app, wLeft, wRight, List.length_cons, List.length_nil]
      omega
    rw [if_neg c] at hts
    clear c
    by_cases c : op = 20
    · rw [if_pos c] at hts
      subst hts
      simp only [wtT, wDot, List.length_cons, List.length_nil]
      omega
    rw [if_neg c] at hts
    clear c
    by_cases c : op = 7 ∨ op = 8
    · rw [if_pos c] at hts
      subst hts
      simp only [wtT]
      omega
    rw [if_neg c] at hts
    clear c
    by_cases c : 9 ≤ op ∧ op ≤ 17
    · rw [if_pos c] at hts
      subst hts
      simp only [wtT, wtT_app]
      omega
    rw [if_neg c] at hts
    clear c
    subst hts
    simp only [wtT, wtT_app, wOpen, wEnd, List.length_cons, List.length_nil]
    omega
theorem exprsR_w {B : Nat} {w : World} {b : Nat} : ∀ (l : List PE) (o : Nat) (m : Int), PE.Row B w b o l → 0 ≤ exprsR l m → (sumW l : Int) ≤ 5 * (m - exprsR l m)
  | [], o, m, _, h => by rw [exprsR, sumW]; simp
  | x :: l, o, m, hr, h => by
    obtain ⟨⟨v, _, hx⟩, hr⟩ := hr
    rw [exprsR] at h ⊢
    by_cases h0 : m < 0
    · rw [if_pos h0] at h; omega
    rw [if_neg h0] at h ⊢
    by_cases h1 : exprR x m < 0
    · rw [exprsR_neg _ _ h1] at h; omega
    have a := exprR_w x v m hx (by omega)
    have c := exprsR_w l (o + 8) (exprR x m) hr h
    rw [sumW]
    omega
end
/-! ### texts that aren't empty -/
theorem line_ne {a : List TkB} {t : TkB} (h : t ∈ a) (ht : t ≠ []) : lineT a ≠ [] := by
  have : ∀ (a : List TkB) (g : TkB), t ∈ a → puts g a ≠ [] := by
    intro a
    induction a with
    | nil => intro g h; cases h
    | cons u a ih =>
      intro g h e
      rw [puts] at e
      simp at e
      rcases List.mem_cons.1 h with rfl | h
      · exact ht e.2.1
      · exact ih [32] h e.2.2
  exact this a [] h
end Go.Proofs.YthilicmhdkmipaaGreatDoor
