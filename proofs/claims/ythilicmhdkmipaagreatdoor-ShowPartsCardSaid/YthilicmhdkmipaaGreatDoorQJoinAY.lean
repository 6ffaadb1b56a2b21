/- How strongly something holds together. -/
import Derived.Test.YthilicmhdkmipaaGreatDoorQJoinAW
import Derived.Test.YthilicmhdkmipaaGreatDoorQShowRefS
import Derived.Test.YthilicmhdkmipaaGreatDoorQJoinAX
import Derived.Lib.ItoaLen
namespace Go.Proofs.YthilicmhdkmipaaGreatDoor
open Go.RowKit
set_option linter.unusedVariables false

set_option maxRecDepth 100000 in
set_option maxHeartbeats 2000000 in
theorem strong_calls (op : Int) (w : World) : Calls Tryz.prog 105 #[.int .u8 op] w fun e w' => e = .returned (.int .u8 (strongB op)) ∧ w' = w := by
  by_cases h : 7 ≤ op ∧ op ≤ 17
  · rcases (by omega : op = 7 ∨ op = 8 ∨ op = 9 ∨ op = 10 ∨ op = 11 ∨ op = 12 ∨ op = 13 ∨ op = 14 ∨ op = 15 ∨ op = 16 ∨ op = 17) with rfl | rfl | rfl | rfl | rfl | rfl | rfl | rfl | rfl | rfl | rfl
    all_goals
      go_enter Tryz.func105, Tryz.ntmps105
      go_wp2
      go_ret
      exact ⟨rfl, rfl⟩
  · have hs : strongB op = 7 := by
      unfold strongB
      rw [if_neg (by omega), if_neg (by omega), if_neg (by omega), if_neg (by omega), if_neg (by omega), if_neg (by omega), if_neg (by omega)]
    rw [hs]
    have n7 : op ≠ 7 := by omega
    have n8 : op ≠ 8 := by omega
    have n9 : op ≠ 9 := by omega
    have n10 : op ≠ 10 := by omega
    have n11 : op ≠ 11 := by omega
    have n12 : op ≠ 12 := by omega
    have n13 : op ≠ 13 := by omega
    have n14 : op ≠ 14 := by omega
    have n15 : op ≠ 15 := by omega
    have n16 : op ≠ 16 := by omega
    have n17 : op ≠ 17 := by omega
    clear h hs
    go_enter Tryz.func105, Tryz.ntmps105
    go_wp2
    go_ret
    exact ⟨rfl, rfl⟩
end Go.Proofs.YthilicmhdkmipaaGreatDoor
/- What stands beside a sign. -/
namespace Go.Proofs.YthilicmhdkmipaaGreatDoor
open Go.RowKit
set_option linter.unusedVariables false

/-- the contract of expr -/
def ExprAt (B R : Nat) (x : PE) : Prop := ∀ (T0 G0 : TkB) (ts : List TkB) (v : VE) (w : World), B ≤ w.heap.size → Words B w → AtW B R T0 G0 ts w → x.In B w v → Lim T0 G0 (ts ++ tokE x) →
  Calls Tryz.prog 69 #[.pointer (some ⟨R, 0, none⟩), .agg (x.cells v).toArray] w fun e w' => e = .returned (.tuple #[]) ∧ AtW B R T0 G0 (ts ++ tokE x) w' ∧ WBut B R w w'
theorem cells_made {w : World} {S : Nat} {cs : List Value} {t : TypeId} {fr : Nat × Nat} (h : w.heap[S]? = some (.cells cs.toArray t fr)) : CellsAt w S 0 cs := fun i v hi => by
  rw [cell_of_row _ _ (0 + i) _ _ _ h]; simpa using hi
theorem neEB : (37 : TypeId) ≠ 5 := by decide
set_option maxRecDepth 100000 in
set_option maxHeartbeats 4000000 in
theorem sideW_calls (B R : Nat) (x : PE) (IH : ExprAt B R x) (k : Nat) (hk : k ≤ 8) (T0 G0 : TkB) (ts : List TkB) (v : VE) (w : World) (hB : B ≤ w.heap.size) (hW : Words B w) (hA : AtW B R T0 G0 ts w) (hx : x.In B w v) (hL : Lim T0 G0 (ts ++ sideT k x.op (tokE x))) :
    Calls Tryz.prog 104 #[.pointer (some ⟨R, 0, none⟩), .agg (x.cells v).toArray, .int .u8 k] w fun e w' => e = .returned (.tuple #[]) ∧ AtW B R T0 G0 (ts ++ sideT k x.op (tokE x)) w' ∧ WBut B R w w' := by
  obtain ⟨p1, n1, c1, p2, n2, c2, rfl⟩ := hx.shape
  obtain ⟨w1, hw1⟩ : ∃ w1, w1 = w.alloc (.cells (x.cells ⟨.slice p1 n1 c1, .slice p2 n2 c2⟩).toArray 37) := ⟨_, rfl⟩
  have bx : Below w.heap.size w w1 := by rw [hw1]; exact new_only _ _
  have hRR : R < w.heap.size := hA.lt
  have hz : w.heap.size < w1.heap.size := by rw [hw1]; simp
  have SG : Safe R w1 w.heap.size := Safe.made (by rw [hw1]; exact heap_alloc_new w _) neEB hRR
  have HC : CellsAt w1 w.heap.size 0 (x.cells ⟨.slice p1 n1 c1, .slice p2 n2 c2⟩) := by rw [hw1]; exact cells_made (heap_alloc_new w _)
  have BX := Lib.hid (WBut.of bx hB (R := R))
  have HS := Lib.hid fun (W : World) => strong_calls x.op W
  have HI := Lib.hid IH
  have HW := Lib.hid (hW.below (bx.mono hB))
  have HX := Lib.hid (PE.In.below (bx.mono hB) hx)
  have HA := Lib.hid (hA.stays bx)
  have HL := Lib.hid hL
  clear hW hx hA hL IH
  have x0 : w1.cell? ⟨w.heap.size, 0, none⟩ = some (.int .u8 x.op) := by simpa using HC 0 _ rfl
  have x1 : w1.cell? ⟨w.heap.size, 1, none⟩ = some (.int .i64 x.int) := by simpa using HC 1 _ rfl
  have x2 : w1.cell? ⟨w.heap.size, 2, none⟩ = some (.string x.name) := by simpa using HC 2 _ rfl
  have x3 : w1.cell? ⟨w.heap.size, 3, none⟩ = some (.string x.second) := by simpa using HC 3 _ rfl
  have x4 : w1.cell? ⟨w.heap.size, 4, none⟩ = some (.string x.place.name) := by simpa using HC 4 _ rfl
  have x5 : w1.cell? ⟨w.heap.size, 5, none⟩ = some (.slice p1 n1 c1) := by simpa using HC 5 _ rfl
  have x6 : w1.cell? ⟨w.heap.size, 6, none⟩ = some (.slice p2 n2 c2) := by simpa using HC 6 _ rfl
  have x7 : w1.cell? ⟨w.heap.size, 7, none⟩ = some (.int .i64 x.pos) := by simpa using HC 7 _ rfl
  have hs8 : strongB x.op ≤ 7 := by unfold strongB; repeat (split <;> first | omega | skip)
  show Calls Tryz.prog 104 #[.pointer (some ⟨R, 0, none⟩), .agg #[.int .u8 x.op, .int .i64 x.int, .string x.name, .string x.second, .string x.place.name, .slice p1 n1 c1, .slice p2 n2 c2, .int .i64 x.pos], .int .u8 k] w _
  have hw1' : w1 = w.alloc (.cells #[.int .u8 x.op, .int .i64 x.int, .string x.name, .string x.second, .string x.place.name, .slice p1 n1 c1, .slice p2 n2 c2, .int .i64 x.pos] 37) := hw1
  clear hw1 HC
  by_cases hs : k ≤ strongB x.op
  · have es : sideT k x.op (tokE x) = tokE x := by unfold sideT; rw [if_pos hs]
    rw [es] at HL ⊢
    have C := Lib.hid (HI.out T0 G0 ts _ w1 (by omega) HW.out HA.out HX.out HL.out)
    have C' : Hid (Calls Tryz.prog 69 #[.pointer (some ⟨R, 0, none⟩), .agg #[.int .u8 x.op, .int .i64 x.int, .string x.name, .string x.second, .string x.place.name, .slice p1 n1 c1, .slice p2 n2 c2, .int .i64 x.pos]] w1 fun e w' => e = .returned (.tuple #[]) ∧ AtW B R T0 G0 (ts ++ tokE x) w' ∧ WBut B R w1 w') := Lib.hid C.out
    have hs' : (k : Int) ≤ (strongB x.op : Int) := by omega
    clear es C hs
    generalize tokE x = tx at *
    go_enter Tryz.func104, Tryz.ntmps104
    go_upto_region 1 with (fail)
    rw [← hw1']
    clear hw1'
    go_wp2_with fail
    (with_reducible refine (HS.out _).mono ?_)
    rintro e w2 ⟨rfl, rfl⟩
    go_wp2_with fail
    (with_reducible refine (C'.out).mono ?_)
    rintro e w3 ⟨rfl, h3, b3⟩
    have H3 := Lib.hid h3
    have B3 := Lib.hid (BX.out.trans b3)
    clear h3 b3
    go_wp2
    (try simp only [Exit.inBlock, Exit.then])
    refine bodyPost_ret (results_none rfl _ _ _) rfl ?_
    exact ⟨rfl, H3.out, B3.out⟩
  · have es : sideT k x.op (tokE x) = wOpen :: (tokE x ++ [wEnd]) := by unfold sideT; rw [if_neg hs]
    rw [es] at HL ⊢
    have e1 : ts ++ wOpen :: (tokE x ++ [wEnd]) = ((ts ++ [wOpen]) ++ tokE x) ++ [wEnd] := by simp
    rw [e1] at HL ⊢
    have hs' : (strongB x.op : Int) < (k : Int) := by omega
    have P1 := Lib.hid (put1_calls B R ⟨#[40]⟩ T0 G0 ts _ w1 (new_only w1 (.cells #[.string ⟨#[40]⟩] 9)) (heap_alloc_new w1 _) (by omega) HA.out (by decide) HL.out.less.less)
    clear es hs e1
    go_enter Tryz.func104, Tryz.ntmps104
    go_upto_region 1 with (fail)
    rw [← hw1']
    clear hw1'
    go_wp2_with fail
    (with_reducible refine (HS.out _).mono ?_)
    rintro e w2 ⟨rfl, rfl⟩
    go_wp2_with fail
    refine (P1.out).mono ?_
    rintro e w3 ⟨rfl, h3, b3⟩
    have B3 := Lib.hid (BX.out.trans b3)
    have y0 := (SG.cell b3 0).trans x0
    have y1 := (SG.cell b3 1).trans x1
    have y2 := (SG.cell b3 2).trans x2
    have y3 := (SG.cell b3 3).trans x3
    have y4 := (SG.cell b3 4).trans x4
    have y5 := (SG.cell b3 5).trans x5
    have y6 := (SG.cell b3 6).trans x6
    have y7 := (SG.cell b3 7).trans x7
    have hz3 : w.heap.size < w3.heap.size := Nat.lt_of_lt_of_le hz b3.size
    have C := Lib.hid (HI.out T0 G0 (ts ++ [wOpen]) _ w3 (by omega) (HW.out.below b3.bel) h3 (PE.In.below b3.bel HX.out) HL.out.less)
    have C' : Hid (Calls Tryz.prog 69 #[.pointer (some ⟨R, 0, none⟩), .agg #[.int .u8 x.op, .int .i64 x.int, .string x.name, .string x.second, .string x.place.name, .slice p1 n1 c1, .slice p2 n2 c2, .int .i64 x.pos]] w3 fun e w' => e = .returned (.tuple #[]) ∧ AtW B R T0 G0 (ts ++ [wOpen] ++ tokE x) w' ∧ WBut B R w3 w') := Lib.hid C.out
    clear h3 b3 P1 C x0 x1 x2 x3 x4 x5 x6 x7
    go_wp2_with fail
    (with_reducible refine (C'.out).mono ?_)
    rintro e w4 ⟨rfl, h4, b4⟩
    have B4 := Lib.hid (B3.out.trans b4)
    have P4 := Lib.hid (put1_calls B R ⟨#[41]⟩ T0 G0 (ts ++ [wOpen] ++ tokE x) _ w4 (new_only w4 (.cells #[.string ⟨#[41]⟩] 9)) (heap_alloc_new w4 _) (Nat.le_trans hB B4.out.size) h4 (by decide) HL.out)
    clear h4 b4 C' y0 y1 y2 y3 y4 y5 y6 y7
    go_wp2_with fail
    refine (P4.out).mono ?_
    rintro e w5 ⟨rfl, h5, b5⟩
    have H5 := Lib.hid h5
    have B5 := Lib.hid (B4.out.trans b5)
    clear h5 b5
    go_wp2
    go_end0
    exact ⟨rfl, H5.out, B5.out⟩
end Go.Proofs.YthilicmhdkmipaaGreatDoor
/- The document's names, and what they are given. -/
namespace Go.Proofs.YthilicmhdkmipaaGreatDoor
open Go.RowKit
set_option linter.unusedVariables false

/-- what a row of one's own looks like -/
theorem TokOwn.shape3 {base : Nat} {w : World} {ts : List TkB} {v : Value} (h : TokOwn base w ts v) : ∃ ao m cap, v = .slice ao m cap := by
  obtain ⟨ao, cap, h⟩ := h.shape
  exact ⟨ao, _, cap, h⟩
theorem pairsT_take : ∀ (ns : List ByteArray) (l : List PE) (k : Nat) (nm : ByteArray) (x : PE), ns[k]? = some nm → l[k]? = some x → (pairsT ns (tokEs l))[k]? = some (kT nm :: wGives :: tokE x)
  | [], _, k, nm, x, h, _ => by simp at h
  | _ :: _, [], k, nm, x, _, h => by simp at h
  | n :: ns, y :: l, 0, nm, x, h1, h2 => by
    obtain rfl : n = nm := by simpa using h1
    obtain rfl : y = x := by simpa using h2
    rw [tokEs, pairsT]; rfl
  | n :: ns, y :: l, k + 1, nm, x, h1, h2 => by
    rw [tokEs, pairsT]
    simpa using pairsT_take ns l k nm x (by simpa using h1) (by simpa using h2)
theorem pairsT_lenR : ∀ (ns : List ByteArray) (l : List PE), ns.length = l.length → (pairsT ns (tokEs l)).length = l.length
  | [], [], _ => rfl
  | [], _ :: _, h => by simp at h
  | _ :: _, [], h => by simp at h
  | n :: ns, x :: l, h => by rw [tokEs, pairsT, List.length_cons, pairsT_lenR ns l (by simpa using h)]; rfl
set_option maxRecDepth 100000 in
set_option maxHeartbeats 4000000 in
theorem docGiven_calls (B : Nat) (ns : List ByteArray) (l : List PE) (hlen : ns.length = l.length) (IH : ∀ x ∈ l, DocEAt B x) (vn v : Value) (b o b' o' : Nat) (w : World) (hB : B ≤ w.heap.size) (hsn : SlV B vn ns.length b o) (hrn : NRow w b o ns) (hs : SlV B v l.length b' o') (hr : PE.Row B w b' o' l) (hlt : (joinT (pairsT ns (tokEs l))).length ≤ 100000) (hok : okTk (joinT (pairsT ns (tokEs l)))) :
    Calls Tryz.prog 61 #[vn, v] w fun e w' => ∃ u, e = .returned u ∧ TokNew w.heap.size w' (joinT (pairsT ns (tokEs l))) u ∧ Below w.heap.size w w' := by
  obtain ⟨hmn, an, capn, rfl, kn⟩ := hsn
  obtain ⟨hm, ao, cap, rfl, k1⟩ := hs
  rw [hlen] at hmn kn ⊢
  obtain ⟨n, hx⟩ : ∃ n, n = l.length := ⟨_, rfl⟩
  obtain ⟨P, hP⟩ : ∃ P, P = pairsT ns (tokEs l) := ⟨_, rfl⟩
  have hPl : P.length = n := by rw [hP, hx]; exact pairsT_lenR ns l hlen
  have HG : Hid (∀ (k : Nat) nm x, ns[k]? = some nm → l[k]? = some x → P[k]? = some (kT nm :: wGives :: tokE x)) := Lib.hid fun k nm x h1 h2 => by rw [hP]; exact pairsT_take ns l k nm x h1 h2
  rw [← hP] at hlt hok ⊢
  rw [← hx] at hm k1 hmn kn ⊢
  have hn : n ≤ 9223372036854775807 := by unfold maxLen at hm; omega
  have Hx := Lib.hid hx
  have Hns := Lib.hid hlen
  have HR := Lib.hid hr
  have HRN := Lib.hid hrn
  have HLN := Lib.hid hlt
  have HOK := Lib.hid hok
  have HK := Lib.hid k1
  have HKN := Lib.hid kn
  have HIH := Lib.hid IH
  have HPL := Lib.hid hPl
  have H0 : Hid (TokOwn w.heap.size w [] (.slice none 0 0)) := Lib.hid (TokOwn.nil _ _)
  clear hx hr hrn hlt k1 kn hok IH hP hPl hlen
  go_enter Tryz.func61, Tryz.ntmps61
  go_wp2_with fail
  go_loopw [5, 6] (fun u i wr => ∃ k : Nat, k ≤ n ∧ i = .int .i64 k ∧ Hid (TokOwn w.heap.size wr (joinT (P.take k)) u) ∧ Hid (Below w.heap.size w wr))
    (fun _ i _ => n - (intOf i).toNat)
  case atStart => exact ⟨0, by omega, rfl, Lib.hid (by simpa [joinT] using H0.out), Lib.hid (Below.refl _ _)⟩
  case round =>
    obtain ⟨k, hk, rfl, Hw, Hb⟩ := hrel
    have hsr : w.heap.size ≤ wr.heap.size := Hb.out.size
    obtain ⟨au, mau, cpu, rfl⟩ := TokOwn.shape3 Hw.out
    by_cases hlt : k < n
    · obtain ⟨a, ha, ham⟩ := (⟨l[k]'(by rw [← Hx.out]; exact hlt), List.getElem?_eq_getElem _, List.getElem_mem _⟩ : ∃ a, l[k]? = some a ∧ a ∈ l)
      obtain ⟨nm, hnm⟩ := (⟨ns[k]'(by rw [Hns.out, ← Hx.out]; exact hlt), List.getElem?_eq_getElem _⟩ : ∃ nm, ns[k]? = some nm)
      have hPk := HG.out k nm a hnm ha
      obtain ⟨rfl, hbB'⟩ := HK.out.resolve_left (by omega)
      obtain ⟨rfl, hbB⟩ := HKN.out.resolve_left (by omega)
      obtain ⟨va, ca, ia⟩ := PE.Row.get HR.out ha
      obtain ⟨q1, m1, d1, q2, m2, d2, rfl⟩ := ia.shape
      obtain ⟨hsa, cn⟩ := NRow.get HRN.out hnm
      have hb1 : b < w.heap.size := by omega
      have hb2 : b' < w.heap.size := by omega
      have HCA := Lib.hid ca
      have HIA := Lib.hid ia
      have HCN : Hid (w.cell? ⟨b, o + k, none⟩ = some (.string nm)) := Lib.hid (by
        have := cn 0 _ rfl
        simpa using this)
      have hl1 := Nat.le_trans (joinT_len_take P (k + 1)) HLN.out
      have hmem : (kT nm :: wGives :: tokE a) ∈ P := List.mem_of_getElem? hPk
      have HAM := Lib.hid ham
      have HMEM := Lib.hid hmem
      have HPK := Lib.hid hPk
      clear ca ia cn hnm ha ham hmem hPk
      by_cases hk0 : k = 0
      · subst hk0
        have hj := joinT_take0 P _ HPK.out
        have HJ := Lib.hid hj
        rw [hj] at hl1
        simp only [List.length_cons] at hl1
        have HL1 := Lib.hid hl1
        have e0 : joinT (P.take 0) = [] := by simp [joinT]
        rw [e0] at Hw
        have c0 : wr.cell? ⟨b, o, none⟩ = some (.string nm) := by
          have := (Hb.out.cell (p := ⟨b, o + 0, none⟩) hb1).trans HCN.out
          simpa using this
        have hbr : b < wr.heap.size := by omega
        clear hj e0 hl1
        go_wp2_with (at_builtin; refine wpList_appT rfl _ _ rfl w.heap.size _ [] rfl (Hw.out.stays (new_onlyR wr _)) [kT nm, wGives] _ rfl _ (Nat.le_refl _) (TokIn.lit2 (kT nm) wGives nm ⟨#[61]⟩ (bT_kT nm).symm rfl hsa (by decide)) (by simp) (by simp; omega) ?_)
        intro v8 w8 hown hg
        have S8 := Lib.hid (below_app ((Hb.out).alloc hsr _) hg (by simp; omega) (Hw.out.stays (new_onlyR wr _)) (Nat.le_refl _))
        have hs8 : w.heap.size ≤ w8.heap.size := S8.out.size
        have HO8 := Lib.hid hown
        obtain ⟨a8, ma8, cp8, rfl⟩ := TokOwn.shape3 hown
        clear hown hg Hw c0
        have cw := HCA.out.below hb2 S8.out
        have u0 : w8.cell? ⟨b', o', none⟩ = some (.int .u8 a.op) := by simpa using cw 0 _ rfl
        have u1 : w8.cell? ⟨b', o' + 1, none⟩ = some (.int .i64 a.int) := by simpa using cw 1 _ rfl
        have u2 : w8.cell? ⟨b', o' + 2, none⟩ = some (.string a.name) := by simpa using cw 2 _ rfl
        have u3 : w8.cell? ⟨b', o' + 3, none⟩ = some (.string a.second) := by simpa using cw 3 _ rfl
        have u4 : w8.cell? ⟨b', o' + 4, none⟩ = some (.string a.place.name) := by simpa using cw 4 _ rfl
        have u5 : w8.cell? ⟨b', o' + 5, none⟩ = some (.slice q1 m1 d1) := by simpa using cw 5 _ rfl
        have u6 : w8.cell? ⟨b', o' + 6, none⟩ = some (.slice q2 m2 d2) := by simpa using cw 6 _ rfl
        have u7 : w8.cell? ⟨b', o' + 7, none⟩ = some (.int .i64 a.pos) := by simpa using cw 7 _ rfl
        have hb8 : b' < w8.heap.size := by omega
        have C0 := Lib.hid (HIH.out a HAM.out ⟨.slice q1 m1 d1, .slice q2 m2 d2⟩ w8 (by omega) (PE.In.below (S8.out.mono hB) HIA.out) (by have := HL1.out; omega) (fun t ht => HOK.out t (joinT_mem HMEM.out (by simp [ht]))))
        have C : Hid (Calls Tryz.prog 22 #[.agg #[.int .u8 a.op, .int .i64 a.int, .string a.name, .string a.second, .string a.place.name, .slice q1 m1 d1, .slice q2 m2 d2, .int .i64 a.pos]] w8 fun e w' => ∃ u, e = .returned u ∧ TokNew w8.heap.size w' (tokE a) u ∧ Below w8.heap.size w8 w') := Lib.hid C0.out
        clear C0 cw
        go_wp2_with fail
        (with_reducible refine (C.out).mono ?_)
        rintro e w3 ⟨u, rfl, h3, b3⟩
        have H3 := Lib.hid h3.row
        have HO3 := Lib.hid (HO8.out.stays b3)
        have S3 := Lib.hid (S8.out.trans (b3.mono hs8))
        have hs3 : w.heap.size ≤ w3.heap.size := S3.out.size
        clear h3 b3 C HO8 u0 u1 u2 u3 u4 u5 u6 u7
        go_wp2_with (at_builtin; refine wpList_appT rfl _ _ rfl w.heap.size _ ([] ++ [kT nm, wGives]) rfl HO3.out (tokE a) u rfl w3.heap.size (Nat.le_refl _) H3.out (by have := HL1.out; simp; omega) hs3 ?_)
        intro v4 w4 hown hg
        have S4 := Lib.hid (below_app S3.out hg hs3 HO3.out (Nat.le_refl _))
        have HO4 := Lib.hid hown
        clear hown hg HO3 H3
        go_wp2
        go_roundw
        case rel => exact ⟨1, by omega, by go_num, Lib.hid (by rw [HJ.out]; exact HO4.out), S4⟩
        case measure => simp [intOf]; omega
      · have hj := joinT_take P k _ (by omega) HPK.out
        have HJ := Lib.hid hj
        rw [hj] at hl1
        simp only [List.length_append, List.length_cons, List.length_nil] at hl1
        have HL1 := Lib.hid hl1
        have kk : (0 : Int) < (k : Int) := by omega
        clear hj hl1
        go_wp2_with (at_builtin; refine wpList_appT rfl _ _ rfl w.heap.size _ (joinT (P.take k)) rfl (Hw.out.stays (new_onlyR wr _)) [wComma] _ rfl _ (Nat.le_refl _) (TokIn.lit1 wComma ⟨#[44]⟩ rfl (by decide)) (by have := HL1.out; simp; omega) (by simp; omega) ?_)
        intro v7 w7 hown hg
        have S7 := Lib.hid (below_app ((Hb.out).alloc hsr _) hg (by simp; omega) (Hw.out.stays (new_onlyR wr _)) (Nat.le_refl _))
        have hs7 : w.heap.size ≤ w7.heap.size := S7.out.size
        have HO7 := Lib.hid hown
        obtain ⟨a7, ma7, cp7, rfl⟩ := TokOwn.shape3 hown
        clear hown hg Hw
        have c0 : w7.cell? ⟨b, o + k, none⟩ = some (.string nm) := (S7.out.cell (p := ⟨b, o + k, none⟩) hb1).trans HCN.out
        have hbr : b < w7.heap.size := by omega
        go_wp2_with (at_builtin; refine wpList_appT rfl _ _ rfl w.heap.size _ (joinT (P.take k) ++ [wComma]) rfl (HO7.out.stays (new_onlyR w7 _)) [kT nm, wGives] _ rfl _ (Nat.le_refl _) (TokIn.lit2 (kT nm) wGives nm ⟨#[61]⟩ (bT_kT nm).symm rfl hsa (by decide)) (by have := HL1.out; simp; omega) (by simp; omega) ?_)
        intro v8 w8 hown hg
        have S8 := Lib.hid (below_app ((S7.out).alloc hs7 _) hg (by simp; omega) (HO7.out.stays (new_onlyR w7 _)) (Nat.le_refl _))
        have hs8 : w.heap.size ≤ w8.heap.size := S8.out.size
        have HO8 := Lib.hid hown
        obtain ⟨a8, ma8, cp8, rfl⟩ := TokOwn.shape3 hown
        clear hown hg HO7 c0
        have cw := HCA.out.below hb2 S8.out
        have u0 : w8.cell? ⟨b', o' + k * 8, none⟩ = some (.int .u8 a.op) := by simpa using cw 0 _ rfl
        have u1 : w8.cell? ⟨b', o' + k * 8 + 1, none⟩ = some (.int .i64 a.int) := cw 1 _ rfl
        have u2 : w8.cell? ⟨b', o' + k * 8 + 2, none⟩ = some (.string a.name) := cw 2 _ rfl
        have u3 : w8.cell? ⟨b', o' + k * 8 + 3, none⟩ = some (.string a.second) := cw 3 _ rfl
        have u4 : w8.cell? ⟨b', o' + k * 8 + 4, none⟩ = some (.string a.place.name) := cw 4 _ rfl
        have u5 : w8.cell? ⟨b', o' + k * 8 + 5, none⟩ = some (.slice q1 m1 d1) := cw 5 _ rfl
        have u6 : w8.cell? ⟨b', o' + k * 8 + 6, none⟩ = some (.slice q2 m2 d2) := cw 6 _ rfl
        have u7 : w8.cell? ⟨b', o' + k * 8 + 7, none⟩ = some (.int .i64 a.pos) := cw 7 _ rfl
        have hb8 : b' < w8.heap.size := by omega
        have C0 := Lib.hid (HIH.out a HAM.out ⟨.slice q1 m1 d1, .slice q2 m2 d2⟩ w8 (by omega) (PE.In.below (S8.out.mono hB) HIA.out) (by have := HL1.out; omega) (fun t ht => HOK.out t (joinT_mem HMEM.out (by simp [ht]))))
        have C : Hid (Calls Tryz.prog 22 #[.agg #[.int .u8 a.op, .int .i64 a.int, .string a.name, .string a.second, .string a.place.name, .slice q1 m1 d1, .slice q2 m2 d2, .int .i64 a.pos]] w8 fun e w' => ∃ u, e = .returned u ∧ TokNew w8.heap.size w' (tokE a) u ∧ Below w8.heap.size w8 w') := Lib.hid C0.out
        clear C0 cw
        go_wp2_with fail
        (with_reducible refine (C.out).mono ?_)
        rintro e w3 ⟨u, rfl, h3, b3⟩
        have H3 := Lib.hid h3.row
        have HO3 := Lib.hid (HO8.out.stays b3)
        have S3 := Lib.hid (S8.out.trans (b3.mono hs8))
        have hs3 : w.heap.size ≤ w3.heap.size := S3.out.size
        clear h3 b3 C HO8 u0 u1 u2 u3 u4 u5 u6 u7
        go_wp2_with (at_builtin; refine wpList_appT rfl _ _ rfl w.heap.size _ (joinT (P.take k) ++ [wComma, kT nm, wGives]) rfl HO3.out (tokE a) u rfl w3.heap.size (Nat.le_refl _) H3.out (by have := HL1.out; simp; omega) hs3 ?_)
        intro v4 w4 hown hg
        have S4 := Lib.hid (below_app S3.out hg hs3 HO3.out (Nat.le_refl _))
        have HO4 := Lib.hid hown
        clear hown hg HO3 H3
        go_wp2
        go_roundw
        case rel => exact ⟨k + 1, by omega, by go_num, Lib.hid (by rw [HJ.out]; simpa using HO4.out), S4⟩
        case measure => simp [intOf]; omega
    · obtain rfl : k = n := by omega
      have hall : P.take k = P := List.take_of_length_le (by rw [HPL.out]; exact Nat.le_refl _)
      have HA : Hid (TokOwn w.heap.size wr (joinT P) (.slice au mau cpu)) := Lib.hid (by have := Hw.out; rw [hall] at this; exact this)
      clear Hw hall
      go_wp2
      go_ret
      exact ⟨_, rfl, HA.out.rowN HOK.out (by have := HLN.out; omega), Hb.out⟩
end Go.Proofs.YthilicmhdkmipaaGreatDoor
/- What the document's Expr leans on. -/
namespace Go.Proofs.YthilicmhdkmipaaGreatDoor
open Go.RowKit
set_option linter.unusedVariables false

theorem i64_geR {x : Int} (h : I64 x) : -9223372036854775808 ≤ x := by
  unfold I64 at h
  simp only [Lit.wf, Bool.and_eq_true, decide_eq_true_eq] at h
  have b : IntKind.i64.min = -9223372036854775808 := by decide
  omega
theorem PE.In.partsR {B : Nat} {w : World} {op i : Int} {n s : ByteArray} {p : PP} {l : List PE} {pos : Int} {v : VE} (h : (PE.mk op i n s p l pos).In B w v) :
    ∃ p1 n1 c1 ao cap b o, v = ⟨.slice p1 n1 c1, .slice ao l.length cap⟩ ∧ (U8 op ∧ I64 i ∧ n.size ≤ maxLen ∧ s.size ≤ maxLen) ∧ p.In B w (.slice p1 n1 c1) ∧ l.length ≤ maxLen ∧ (l.length = 0 ∨ (ao = some ⟨b, o, none⟩ ∧ b < B)) ∧ PE.Row B w b o l := by
  obtain ⟨p1, n1, c1, p2, n2, c2, rfl⟩ := h.shape
  obtain ⟨⟨hu, hi, _, h1, h2⟩, h3, b, o, ⟨h4, ao, cap, he, h5⟩, h6⟩ := h
  obtain ⟨rfl, rfl, rfl⟩ := Value.slice.inj he
  exact ⟨p1, n1, c1, p2, c2, b, o, rfl, ⟨hu, hi, h1, h2⟩, h3, h4, h5, h6⟩
theorem TokOwn.lit3 {w : World} (base : Nat) (t u x : TkB) (a b c : ByteArray) (ha : a = bT t) (hb' : b = bT u) (hc : c = bT x) (hb : base ≤ w.heap.size) : TokOwn base (w.alloc (.cells #[.string a, .string b, .string c] 9)) [t, u, x] (.slice (some ⟨w.heap.size, 0, none⟩) 3 3) := by
  subst ha; subst hb'; subst hc
  exact World.ownsRow_lit (e := 9) (size := 1) w #[.string (bT t), .string (bT u), .string (bT x)] 3 hb (by unfold maxLen; omega) rfl
theorem TokIn.lit3 {w : World} (t u x : TkB) (a b c : ByteArray) (ha : a = bT t) (hb : b = bT u) (hc : c = bT x) (hl : t.length ≤ maxLen) (hl2 : u.length ≤ maxLen) (hl3 : x.length ≤ maxLen) : TokIn (w.alloc (.cells #[.string a, .string b, .string c] 9)).heap.size (w.alloc (.cells #[.string a, .string b, .string c] 9)) [t, u, x] (.slice (some ⟨w.heap.size, 0, none⟩) 3 3) :=
  (TokOwn.lit3 (w := w) w.heap.size t u x a b c ha hb hc (Nat.le_refl _)).row (fun y hy => by
    simp at hy
    rcases hy with rfl | rfl | rfl
    · exact hl
    · exact hl2
    · exact hl3) (by simp)
end Go.Proofs.YthilicmhdkmipaaGreatDoor
