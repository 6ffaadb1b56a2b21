/- shown: of a type, of a place, over what tells whether it is whole. -/
import Derived.Test.YthilicmhdkmipaaGreatDoorQJoinAN
import Derived.Test.YthilicmhdkmipaaGreatDoorQJoinAV
namespace Go.Proofs.YthilicmhdkmipaaGreatDoor
open Go.RowKit
set_option linter.unusedVariables false

theorem SlV.wider {B B' : Nat} {v : Value} {n b o : Nat} (h : SlV B v n b o) (hb : B ≤ B') : SlV B' v n b o := by
  obtain ⟨h1, ao, cap, h2, h3⟩ := h
  exact ⟨h1, ao, cap, h2, h3.imp id fun h => ⟨h.1, by omega⟩⟩
theorem NIn.wider {B B' : Nat} {w : World} {l : List ByteArray} {v : Value} (hb : B ≤ B') (h : NIn B w l v) : NIn B' w l v := by
  obtain ⟨b, o, h1, h2⟩ := h
  exact ⟨b, o, h1.wider hb, h2⟩
theorem PP.In.wider {B B' : Nat} {w : World} {x : PP} {v : Value} (hb : B ≤ B') (h : x.In B w v) : x.In B' w v := ⟨h.1, h.2.wider hb⟩
mutual
theorem PT.In.wider {B B' : Nat} {w : World} (hb : B ≤ B') : ∀ {t : PT} {v : Value}, t.In B w v → t.In B' w v
  | .mk kd n [], v, ⟨h1, b, o, hs, _⟩ => ⟨h1, b, o, hs.wider hb, trivial⟩
  | .mk kd n (t :: us), v, ⟨h1, b, o, hs, hr⟩ => ⟨h1, b, o, hs.wider hb, PT.Row.wider hb hr⟩
theorem PT.Row.wider {B B' : Nat} {w : World} (hb : B ≤ B') {b : Nat} : ∀ {l : List PT} {o : Nat}, PT.Row B w b o l → PT.Row B' w b o l
  | [], _, _ => trivial
  | t :: l, o, ⟨⟨v, h1, h2⟩, hr⟩ => ⟨⟨v, h1, PT.In.wider hb h2⟩, PT.Row.wider hb hr⟩
end
theorem Words.wider {B B' : Nat} {w : World} (hb : B ≤ B') (h : Words B w) : Words B' w := ⟨⟨by have := h.lt.1; omega, by have := h.lt.2; omega⟩, h.t, h.e, fun w2 k2 => h.tens w2 (k2.mono hb)⟩
/-- a writer that was just made -/
theorem IsW.new (w : World) : IsW w.heap.size w.heap.size [] ⟨#[]⟩ (w.alloc (.cells #[.pointer none, .slice none 0 0, .string ⟨#[]⟩] 140)) :=
  ⟨Nat.le_refl _, _, _, .inl rfl, heap_alloc_new w _, rfl, .inl ⟨rfl, rfl⟩⟩
theorem AtW.new (w : World) : AtW w.heap.size w.heap.size [] [] [] (w.alloc (.cells #[.pointer none, .slice none 0 0, .string ⟨#[]⟩] 140)) := IsW.new w
set_option maxRecDepth 100000 in
set_option maxHeartbeats 4000000 in
theorem shownT_calls (B : Nat) (t : PT) (q : Bool) (v : Value) (w : World) (hB : B ≤ w.heap.size) (hW : Words B w) (ht : t.In B w v)
    (hq : ∀ W, Below w.heap.size w W → Calls Tryz.prog 65 #[.agg #[.int .u8 t.kind, .string t.name, v]] W fun e w' => e = .returned (.bool q) ∧ Below W.heap.size W w')
    (hT : q = true → ∀ B R, TypedAt B R t) (hL : q = true → (lineT (tokT t)).length ≤ 1000000000) (h0 : q = true → lineT (tokT t) ≠ []) :
    Calls Tryz.prog 64 #[.agg #[.int .u8 t.kind, .string t.name, v], .func (.func 65) #[] #[], .func (.func 66) #[] #[]] w fun e w' => e = .returned (.string ⟨(if q then lineT (tokT t) else []).toArray⟩) ∧ Below w.heap.size w w' := by
  obtain ⟨ao, n, cap, rfl⟩ := ht.shape
  obtain ⟨w1, hw1⟩ : ∃ w1, w1 = w.alloc (.cells #[.int .u8 t.kind, .string t.name, .slice ao n cap] 31) := ⟨_, rfl⟩
  have bx : Below w.heap.size w w1 := by rw [hw1]; exact new_only _ _
  have hz : w.heap.size < w1.heap.size := by rw [hw1]; simp
  have x0 : w1.cell? ⟨w.heap.size, 0, none⟩ = some (.int .u8 t.kind) := by rw [hw1]; go_simp
  have x1 : w1.cell? ⟨w.heap.size, 1, none⟩ = some (.string t.name) := by rw [hw1]; go_simp
  have x2 : w1.cell? ⟨w.heap.size, 2, none⟩ = some (.slice ao n cap) := by rw [hw1]; go_simp
  have C1 := Lib.hid (hq w1 bx)
  have HW := Lib.hid hW
  have HT := Lib.hid ht
  have HTy := Lib.hid hT
  have HL := Lib.hid hL
  have H0 := Lib.hid h0
  clear hq hW ht hT hL h0
  go_enter Tryz.func64, Tryz.ntmps64
  go_upto_region 1 with (fail)
  rw [← hw1]
  clear hw1
  cases q with
  | false =>
    go_wp2_with fail
    (with_reducible refine (C1.out).mono ?_)
    rintro e w2 ⟨rfl, bq⟩
    have B2 := Lib.hid (bx.trans (bq.mono (by omega)))
    clear bq
    go_wp2
    go_ret
    exact ⟨rfl, B2.out⟩
  | true =>
    go_wp2_with fail
    (with_reducible refine (C1.out).mono ?_)
    rintro e w2 ⟨rfl, bq⟩
    have B2 := Lib.hid (bx.trans (bq.mono (by omega)))
    have b2 := bq
    have z2 := bq.size
    have y0 := (b2.cell (p := ⟨w.heap.size, 0, none⟩) hz).trans x0
    have y1 := (b2.cell (p := ⟨w.heap.size, 1, none⟩) hz).trans x1
    have y2 := (b2.cell (p := ⟨w.heap.size, 2, none⟩) hz).trans x2
    have A0 := Lib.hid (AtW.new w2)
    obtain ⟨w3, hw3⟩ : ∃ w3, w3 = w2.alloc (.cells #[.pointer none, .slice none 0 0, .string ⟨#[]⟩] 140) := ⟨_, rfl⟩
    have b3 : Below w2.heap.size w2 w3 := by rw [hw3]; exact new_only _ _
    rw [← hw3] at A0
    have C2 := Lib.hid (HTy.out trivial w2.heap.size w2.heap.size [] [] [] (.slice ao n cap) w3 b3.size (((HW.out.below (B2.out.mono hB)).wider (by omega)).below b3) A0.out (PT.In.below b3 (PT.In.wider (by omega) (PT.In.below (B2.out.mono hB) HT.out))) (HL.out trivial))
    have v0 := (b3.cell (p := ⟨w.heap.size, 0, none⟩) (show w.heap.size < w2.heap.size by omega)).trans y0
    have v1 := (b3.cell (p := ⟨w.heap.size, 1, none⟩) (show w.heap.size < w2.heap.size by omega)).trans y1
    have v2 := (b3.cell (p := ⟨w.heap.size, 2, none⟩) (show w.heap.size < w2.heap.size by omega)).trans y2
    have B3 := Lib.hid (B2.out.trans (b3.mono (by omega)))
    have Z3 := b3.size
    clear bq b2 b3 C1 x0 x1 x2 y0 y1 y2
    go_upto_region 4 with (fail)
    rw [← hw3]
    clear hw3
    go_wp2_with fail
    refine (C2.out).mono ?_
    rintro e w4 ⟨rfl, h4, b4⟩
    have B4 := Lib.hid (B3.out.trans (b4.bel.mono (by omega)))
    have C3 := Lib.hid (all_row _ _ _ _ _ w4 h4 (H0.out trivial))
    clear h4 b4 C2
    go_wp2_with (go_at_call 87; refine (C3.out).mono ?_; rintro e w5 ⟨rfl, b5⟩; have B5 := Lib.hid (B4.out.trans (b5.mono (by omega))); clear b5)
    go_ret
    exact ⟨rfl, B5.out⟩
set_option maxRecDepth 100000 in
set_option maxHeartbeats 4000000 in
theorem shownP_calls (B : Nat) (t : PP) (q : Bool) (v : Value) (w : World) (hB : B ≤ w.heap.size) (ht : t.In B w v)
    (hq : ∀ W, Below w.heap.size w W → Calls Tryz.prog 71 #[.agg #[.string t.name, v]] W fun e w' => e = .returned (.bool q) ∧ Below W.heap.size W w')
    (hL : q = true → (lineT (tokP t)).length ≤ 1000000000) (h0 : q = true → lineT (tokP t) ≠ []) :
    Calls Tryz.prog 70 #[.agg #[.string t.name, v], .func (.func 71) #[] #[], .func (.func 72) #[] #[]] w fun e w' => e = .returned (.string ⟨(if q then lineT (tokP t) else []).toArray⟩) ∧ Below w.heap.size w w' := by
  obtain ⟨ao, n, cap, rfl⟩ := ht.2.shape
  obtain ⟨w1, hw1⟩ : ∃ w1, w1 = w.alloc (.cells #[.string t.name, .slice ao n cap] 34) := ⟨_, rfl⟩
  have bx : Below w.heap.size w w1 := by rw [hw1]; exact new_only _ _
  have hz : w.heap.size < w1.heap.size := by rw [hw1]; simp
  have x0 : w1.cell? ⟨w.heap.size, 0, none⟩ = some (.string t.name) := by rw [hw1]; go_simp
  have x1 : w1.cell? ⟨w.heap.size, 1, none⟩ = some (.slice ao n cap) := by rw [hw1]; go_simp
  have C1 := Lib.hid (hq w1 bx)
  have HT := Lib.hid ht
  have HL := Lib.hid hL
  have H0 := Lib.hid h0
  clear hq ht hL h0
  go_enter Tryz.func70, Tryz.ntmps70
  go_upto_region 1 with (fail)
  rw [← hw1]
  clear hw1
  cases q with
  | false =>
    go_wp2_with fail
    (with_reducible refine (C1.out).mono ?_)
    rintro e w2 ⟨rfl, bq⟩
    have B2 := Lib.hid (bx.trans (bq.mono (by omega)))
    clear bq
    go_wp2
    go_ret
    exact ⟨rfl, B2.out⟩
  | true =>
    go_wp2_with fail
    (with_reducible refine (C1.out).mono ?_)
    rintro e w2 ⟨rfl, bq⟩
    have B2 := Lib.hid (bx.trans (bq.mono (by omega)))
    have b2 := bq
    have z2 := bq.size
    have y0 := (b2.cell (p := ⟨w.heap.size, 0, none⟩) hz).trans x0
    have y1 := (b2.cell (p := ⟨w.heap.size, 1, none⟩) hz).trans x1
    have A0 := Lib.hid (AtW.new w2)
    obtain ⟨w3, hw3⟩ : ∃ w3, w3 = w2.alloc (.cells #[.pointer none, .slice none 0 0, .string ⟨#[]⟩] 140) := ⟨_, rfl⟩
    have b3 : Below w2.heap.size w2 w3 := by rw [hw3]; exact new_only _ _
    rw [← hw3] at A0
    have C2 := Lib.hid (place_calls w2.heap.size w2.heap.size t [] [] [] (.slice ao n cap) w3 b3.size A0.out (PP.In.below (PP.In.wider (by omega) (PP.In.below HT.out (B2.out.mono hB))) b3) (HL.out trivial))
    have v0 := (b3.cell (p := ⟨w.heap.size, 0, none⟩) (show w.heap.size < w2.heap.size by omega)).trans y0
    have v1 := (b3.cell (p := ⟨w.heap.size, 1, none⟩) (show w.heap.size < w2.heap.size by omega)).trans y1
    have B3 := Lib.hid (B2.out.trans (b3.mono (by omega)))
    have Z3 := b3.size
    clear bq b2 b3 C1 x0 x1 y0 y1
    go_upto_region 4 with (fail)
    rw [← hw3]
    clear hw3
    go_wp2_with fail
    refine (C2.out).mono ?_
    rintro e w4 ⟨rfl, h4, b4⟩
    have B4 := Lib.hid (B3.out.trans (b4.bel.mono (by omega)))
    have C3 := Lib.hid (all_row _ _ _ _ _ w4 h4 (H0.out trivial))
    clear h4 b4 C2
    go_wp2_with (go_at_call 87; refine (C3.out).mono ?_; rintro e w5 ⟨rfl, b5⟩; have B5 := Lib.hid (B4.out.trans (b5.mono (by omega))); clear b5)
    go_ret
    exact ⟨rfl, B5.out⟩
end Go.Proofs.YthilicmhdkmipaaGreatDoor
/- The document's lists of tokens, joined; what stands beside a sign. -/
namespace Go.Proofs.YthilicmhdkmipaaGreatDoor
open Go.RowKit
set_option linter.unusedVariables false

/-- a row of rows of tokens -/
def TssIn (B : Nat) (w : World) (tss : List (List TkB)) (v : Value) : Prop := ∃ b o, SlV B v tss.length b o ∧ ∀ (j : Nat) ts, tss[j]? = some ts → ∃ u, w.cell? ⟨b, o + j, none⟩ = some u ∧ TokIn B w ts u
theorem TokIn.shape {B : Nat} {w : World} {ts : List TkB} {v : Value} (h : TokIn B w ts v) : ∃ ao cap, v = .slice ao ts.length cap := by
  obtain ⟨b, o, ⟨_, ao, cap, h, _⟩, _⟩ := h
  exact ⟨ao, cap, by rw [h, List.length_map]⟩
theorem joinT_len_take (l : List (List TkB)) (k : Nat) : (joinT (l.take k)).length ≤ (joinT l).length := by
  cases k with
  | zero => simp [joinT]
  | succ k =>
    rw [joinT_split l k, List.length_append]; omega
set_option maxRecDepth 100000 in
set_option maxHeartbeats 4000000 in
theorem docJoin_calls (B : Nat) (tss : List (List TkB)) (v : Value) (w : World) (hB : B ≤ w.heap.size) (h : TssIn B w tss v) (hlen : (joinT tss).length ≤ 100000) (hok : okTk (joinT tss)) :
    Calls Tryz.prog 97 #[v] w fun e w' => ∃ u, e = .returned u ∧ TokIn w'.heap.size w' (joinT tss) u ∧ Below w.heap.size w w' := by
  obtain ⟨b, o, ⟨hm, ao, cap, rfl, k1⟩, r1⟩ := h
  obtain ⟨n, hx⟩ : ∃ n, n = tss.length := ⟨_, rfl⟩
  rw [← hx] at hm k1 ⊢
  have hn : n ≤ 9223372036854775807 := by unfold maxLen at hm; omega
  have Hx := Lib.hid hx
  have HR := Lib.hid r1
  have HLN := Lib.hid hlen
  have HOK := Lib.hid hok
  have HK := Lib.hid k1
  have H0 : Hid (TokOwn w.heap.size w [] (.slice none 0 0)) := Lib.hid (TokOwn.nil _ _)
  clear hx r1 hlen k1 hok
  go_enter Tryz.func97, Tryz.ntmps97
  go_wp2_with fail
  go_loopw [3, 4] (fun u i wr => ∃ k : Nat, k ≤ n ∧ i = .int .i64 k ∧ Hid (TokOwn w.heap.size wr (joinT (tss.take k)) u) ∧ Hid (Below w.heap.size w wr))
    (fun _ i _ => n - (intOf i).toNat)
  case atStart => exact ⟨0, by omega, rfl, Lib.hid (by simpa [joinT] using H0.out), Lib.hid (Below.refl _ _)⟩
  case round =>
    obtain ⟨k, hk, rfl, Hw, Hb⟩ := hrel
    have hsr : w.heap.size ≤ wr.heap.size := Hb.out.size
    by_cases hlt : k < n
    · obtain ⟨t, ht⟩ := (⟨tss[k]'(by rw [← Hx.out]; exact hlt), List.getElem?_eq_getElem _⟩ : ∃ t, tss[k]? = some t)
      obtain ⟨rfl, hbB⟩ := HK.out.resolve_left (by omega)
      obtain ⟨u, cu, iu⟩ := HR.out k t ht
      have c0 : wr.cell? ⟨b, o + k, none⟩ = some u := ((Hb.out.mono hB).cell (p := ⟨b, o + k, none⟩) hbB).trans cu
      have hbr : b < wr.heap.size := by omega
      obtain ⟨a2, cp2, rfl⟩ := iu.shape
      have HI := Lib.hid iu
      have hl1 := Nat.le_trans (joinT_len_take tss (k + 1)) HLN.out
      by_cases hk0 : k = 0
      · subst hk0
        have hj := joinT_take0 tss t ht
        have HJ := Lib.hid hj
        rw [hj] at hl1
        have e0 : joinT (tss.take 0) = [] := by simp [joinT]
        rw [e0] at Hw
        have c0' : wr.cell? ⟨b, o, none⟩ = some (.slice a2 t.length cp2) := by simpa using c0
        clear cu iu ht hj e0 c0
        go_wp2_with (at_builtin; refine wpList_appT rfl _ _ rfl w.heap.size _ [] rfl Hw.out t _ rfl B (by omega) (HI.out.below (Hb.out.mono hB)) (by simp; omega) hsr ?_)
        intro v9 w9 hown hg
        have S9 := Lib.hid (below_app Hb.out hg hsr Hw.out (Nat.le_refl _))
        have HO9 := Lib.hid hown
        clear hown hg Hw c0'
        go_wp2
        go_roundw
        case rel => exact ⟨1, by omega, by go_num, Lib.hid (by rw [HJ.out]; simpa using HO9.out), S9⟩
        case measure => simp [intOf]; omega
      · have hj := joinT_take tss k t (by omega) ht
        have HJ := Lib.hid hj
        rw [hj, List.length_append, List.length_append] at hl1
        simp only [List.length_cons, List.length_nil] at hl1
        have HL1 := Lib.hid hl1
        have kk : (0 : Int) < (k : Int) := by omega
        have HC := Lib.hid c0
        clear cu iu ht hj hl1 c0
        go_wp2_with (at_builtin; refine wpList_appT rfl _ _ rfl w.heap.size _ (joinT (tss.take k)) rfl (Hw.out.stays (new_onlyR wr _)) [wComma] _ rfl _ (Nat.le_refl _) (TokIn.lit1 wComma ⟨#[44]⟩ rfl (by decide)) (by have := HL1.out; simp; omega) (by simp; omega) ?_)
        intro v8 w8 hown hg
        have S8 := Lib.hid (below_app ((Hb.out).alloc hsr _) hg (by simp; omega) (Hw.out.stays (new_onlyR wr _)) (Nat.le_refl _))
        have hs8 : w.heap.size ≤ w8.heap.size := S8.out.size
        have HO8 := Lib.hid hown
        have c8 : w8.cell? ⟨b, o + k, none⟩ = some (.slice a2 t.length cp2) := by
          have h1 := (S8.out.mono hB).cell (p := ⟨b, o + k, none⟩) hbB
          have h2 := (Hb.out.mono hB).cell (p := ⟨b, o + k, none⟩) hbB
          exact h1.trans (h2.symm.trans HC.out)
        have hb8 : b < w8.heap.size := by omega
        clear hown hg Hw
        go_wp2_with (at_builtin; refine wpList_appT rfl _ _ rfl w.heap.size _ (joinT (tss.take k) ++ [wComma]) rfl HO8.out t _ rfl B (by omega) (HI.out.below (S8.out.mono hB)) (by have := HL1.out; simp; omega) hs8 ?_)
        intro v9 w9 hown hg
        have S9 := Lib.hid (below_app S8.out hg hs8 HO8.out (Nat.le_refl _))
        have HO9 := Lib.hid hown
        clear hown hg HO8 c8
        go_wp2
        go_roundw
        case rel => exact ⟨k + 1, by omega, by go_num, Lib.hid (by rw [HJ.out, List.append_assoc]; exact HO9.out), S9⟩
        case measure => simp [intOf]; omega
    · obtain rfl : k = n := by omega
      have hall : tss.take k = tss := List.take_of_length_le (by rw [Hx.out]; exact Nat.le_refl _)
      rw [hall] at Hw
      obtain ⟨au, cu, rfl⟩ := TokOwn.shape Hw.out
      go_wp2
      go_ret
      exact ⟨_, rfl, Hw.out.row HOK.out (by have := HLN.out; omega), Hb.out⟩
end Go.Proofs.YthilicmhdkmipaaGreatDoor
/- Rows of rows of tokens of one's own; the document's args. -/
namespace Go.Proofs.YthilicmhdkmipaaGreatDoor
open Go.RowKit
set_option linter.unusedVariables false

theorem infoSls : (Tryz.prog.info? 32).map (fun i => (i.zero, i.size, i.bytes)) = some (some (.slice none 0 0), 1, 24) := by kernel_rfl
/-- v is a row of one's own of rows of tokens that lie elsewhere -/
def TssOwn (base : Nat) (w : World) (tss : List (List TkB)) (v : Value) : Prop := ∃ vs : List Value, vs.length = tss.length ∧ w.ownsRow base 32 1 v tss.length vs ∧
  ∀ (j : Nat) ts u, tss[j]? = some ts → vs[j]? = some u → ∃ b o, SlV w.heap.size u (ts.map bT).length b o ∧ NRow w b o (ts.map bT) ∧ (ts.length = 0 ∨ v.ownBlock ≠ some b)
theorem TssOwn.nil (w : World) (base : Nat) : TssOwn base w [] (.slice none 0 0) := ⟨[], rfl, World.ownsRow_nil _ _ _ _, fun j ts u h => by simp at h⟩
theorem SlV.wider' {B B' : Nat} {v : Value} {n b o : Nat} (h : SlV B v n b o) (hb : B ≤ B') : SlV B' v n b o := by
  obtain ⟨h1, ao, cap, h2, h3⟩ := h
  exact ⟨h1, ao, cap, h2, h3.imp id fun h => ⟨h.1, by omega⟩⟩
theorem NRow.belowS {B : Nat} {w w' : World} (k : Below B w w') {v : Value} {l : List ByteArray} {b o : Nat} (hs : SlV B v l.length b o) (h : NRow w b o l) : NRow w' b o l := by
  cases l with
  | nil => trivial
  | cons a l => exact NRow.below (hs.lt (by simp)) k h
theorem TssOwn.stays {base : Nat} {w w' : World} {tss : List (List TkB)} {v : Value} (h : TssOwn base w tss v) (k : Below w.heap.size w w') : TssOwn base w' tss v := by
  obtain ⟨vs, h1, h2, h3⟩ := h
  refine ⟨vs, h1, World.ownsRow.kept (row := none) h2 ⟨k.os, k.tape, k.output, k.size, fun j hj _ => k.block j hj⟩ ?_, fun j ts u ht hu => ?_⟩
  · cases v.ownBlock with
    | none => exact .inl rfl
    | some x => exact .inr (by simp)
  · obtain ⟨b, o, g1, g2, g3⟩ := h3 j ts u ht hu
    exact ⟨b, o, g1.wider' k.size, NRow.belowS k g1 g2, g3⟩
theorem TssOwn.shape {base : Nat} {w : World} {tss : List (List TkB)} {v : Value} (h : TssOwn base w tss v) : ∃ ao cap, v = .slice ao tss.length cap := by
  obtain ⟨vs, _, h, _⟩ := h
  rcases h.2 with ⟨hv, h0⟩ | ⟨g, cap, cur, hv, r⟩
  · exact ⟨none, 0, by rw [h0]; exact hv⟩
  · exact ⟨_, _, hv⟩
theorem TssOwn.lt {base : Nat} {w : World} {tss : List (List TkB)} {v : Value} (h : TssOwn base w tss v) : ∀ k, v.ownBlock = some k → base ≤ k ∧ k < w.heap.size := by
  obtain ⟨vs, _, h, _⟩ := h
  exact World.ownsRow.lt h
theorem TssOwn.row {base : Nat} {w : World} {tss : List (List TkB)} {v : Value} (h : TssOwn base w tss v) (hm : tss.length ≤ 1000000) : TssIn w.heap.size w tss v := by
  obtain ⟨vs, h1, h2, h3⟩ := h
  rcases h2.2 with ⟨hv, h0⟩ | ⟨g, cap, cur, hv, r⟩
  · have : tss = [] := List.length_eq_zero_iff.1 h0
    subst this
    exact ⟨0, 0, ⟨by simp, none, 0, hv, .inl rfl⟩, fun j ts h => by simp at h⟩
  · have hc := World.ownsRow.cells h2 (g := g) (by rw [hv]; rfl)
    have hlt := (World.ownsRow.lt h2 g (by rw [hv]; rfl))
    refine ⟨g, 0, ⟨by unfold maxLen; omega, some ⟨g, 0, none⟩, cap, hv, .inr ⟨rfl, hlt.2⟩⟩, fun j ts hj => ?_⟩
    have hjl : j < vs.length := by rw [h1]; exact (List.getElem?_eq_some_iff.1 hj).1
    have hu : vs[j]? = some vs[j] := List.getElem?_eq_getElem hjl
    obtain ⟨b, o, g1, g2, _⟩ := h3 j ts _ hj hu
    refine ⟨vs[j], ?_, ⟨b, o, g1, g2⟩⟩
    have := hc j _ hu
    rwa [show (⟨g, 0, none⟩ : Addr).add j = ⟨g, 0 + j, none⟩ from by unfold Addr.add; split <;> simp_all] at this
/-- one row more: it was made by a call from w0 to w, while v was held -/
theorem wpList_appTss {ops : Array Oper} {rest : List Oper} {o : Oper} {a : Act} {Q : Exit → Act → World → Prop} {w0 w : World} (hgd : o.guard = none) (s x : Operand)
    (ho : o.op = .call { callee := .builtin .append, args := #[s, x], argTypes := #[150, 150] })
    (base : Nat) (v : Value) (tss : List (List TkB)) (hs : a.eval s = v) (h0 : TssOwn base w0 tss v) (k : Below w0.heap.size w0 w) (ts : List TkB) (u : Value) (hu : TokNew w0.heap.size w ts u)
    (hx : a.eval x = .slice (some ⟨w.heap.size, 0, none⟩) 1 1) (hl : tss.length ≤ 1000000) (hbase : base ≤ w.heap.size)
    (h : ∀ v' w', TssOwn base w' (tss ++ [ts]) v' → w.grownBy w' v.ownBlock → wpList Tryz.prog ops Q rest (a.put o.dst v') w') : wpList Tryz.prog ops Q (o :: rest) a (w.alloc (.cells #[u] 32)) := by
  obtain ⟨i0, hi, hz0, hz1, hz2⟩ := info_parts infoSls
  have hown := h0.stays k
  have hlt0 := h0.lt
  obtain ⟨vs, e1, e2, e3⟩ := hown
  obtain ⟨b, o', g1, g2, g3⟩ := hu
  obtain ⟨_, ao, cap, rfl, _⟩ := g1
  refine wpList_append_lies _ hgd s x 150 ho base 32 i0 _ 1 24 Tryz.underlying150 hi hz0 hz1 hz2 rfl (by decide) v tss.length vs hs (e2.alloc _) ⟨w.heap.size, 0, none⟩ 1 1 [.slice ao (ts.map bT).length cap] hx rfl (one_cellL _ _ _) (fun y hy => by simp at hy; subst hy; rfl) (by decide) (by unfold maxLen; omega) (by omega) (by simp; omega) (w.heap.size + 1) (by simp) ?_
  intro g cap2 w' hown' hg hat hlt
  have hg' : w.grownBy w' v.ownBlock := by
    refine ⟨hg.os, hg.tape, hg.output, by have := hg.size; simp at this; omega, fun j hj hne => ?_⟩
    exact (hg.block j (by simp; omega) hne).trans (Below.heap_alloc _ _ _ hj)
  refine h _ w' ⟨vs ++ [.slice ao (ts.map bT).length cap], by simp [e1], by rw [List.length_append]; exact hown', fun j t y ht hy => ?_⟩ hg'
  have hsz := hg'.size
  have hgne : ∀ bb, bb < w.heap.size → v.ownBlock ≠ some bb → (Value.slice (some ⟨g, 0, none⟩) (tss.length + 1) cap2).ownBlock ≠ some bb := by
    intro bb h1 h2 h3
    simp [Value.ownBlock] at h3
    subst h3
    rcases hat with h | h
    · exact h2 h
    · omega
  have keep : ∀ (bb oo : Nat) (l : List ByteArray) (y : Value) (n : Nat), SlV w.heap.size y l.length bb oo → NRow w bb oo l → (l.length = 0 ∨ v.ownBlock ≠ some bb) → NRow w' bb oo l := by
    intro bb oo l y n q1 q2 q3
    cases l with
    | nil => trivial
    | cons c l =>
      have hblt := q1.lt (by simp)
      have hne := q3.resolve_left (by simp)
      refine NRow.of fun j s hj => ?_
      obtain ⟨r1, r2⟩ := NRow.get q2 hj
      refine ⟨r1, ?_⟩
      have hb := hg'.block bb hblt (fun e => hne e.symm)
      have hcell : w'.cell? ⟨bb, oo + j, none⟩ = w.cell? ⟨bb, oo + j, none⟩ := World.cell?_of_block hb
      rw [hcell]
      have := r2 0 _ rfl
      simpa using this
  by_cases hj : j < tss.length
  · rw [List.getElem?_append_left hj] at ht
    rw [List.getElem?_append_left (by omega)] at hy
    obtain ⟨bb, oo, q1, q2, q3⟩ := e3 j t y ht hy
    refine ⟨bb, oo, q1.wider' hsz, keep bb oo _ y 0 q1 q2 (q3.imp (fun h => by simpa using h) id), ?_⟩
    rcases q3 with h | h
    · exact .inl h
    · by_cases ht0 : t.length = 0
      · exact .inl ht0
      · exact .inr (hgne bb (q1.lt (by simpa using ht0)) h)
  · have hjl : j < (tss ++ [ts]).length := (List.getElem?_eq_some_iff.1 ht).1
    simp at hjl
    obtain rfl : j = tss.length := by omega
    obtain rfl : ts = t := by simpa using ht
    obtain rfl : Value.slice ao (ts.map bT).length cap = y := by
      rw [List.getElem?_append_right (by omega), e1] at hy
      simpa using hy
    have hne : ts.length = 0 ∨ v.ownBlock ≠ some b := g3.imp id fun hb e => by
      have := (hlt0 b e).2
      omega
    refine ⟨b, o', ⟨by assumption, ao, cap, rfl, by rename_i z; exact z.imp id fun z => ⟨z.1, by omega⟩⟩, ?_, ?_⟩
    · exact keep b o' _ (.slice ao (ts.map bT).length cap) 0 ⟨by assumption, ao, cap, rfl, by assumption⟩ g2 (hne.imp (fun h => by simpa using h) id)
    · rcases hne with h | h
      · exact .inl h
      · by_cases ht0 : ts.length = 0
        · exact .inl ht0
        · refine .inr (hgne b ?_ h)
          have q : SlV w.heap.size (.slice ao (ts.map bT).length cap) (ts.map bT).length b o' := ⟨by assumption, ao, cap, rfl, by assumption⟩
          exact q.lt (by simpa using ht0)
end Go.Proofs.YthilicmhdkmipaaGreatDoor
