/- The document's own way of saying what statements are whole: what they have as labels. -/
import Derived.Test.YtojeijeimpffgaaGreatRTreeRefS1
import Derived.Test.YtojeijeimpffgaaGreatRTreeRefW3
import Derived.Deep.CutRange
namespace Go.Proofs.YtojeijeimpffgaaGreat
open Go.RowKit
set_option linter.unusedVariables false

/-- a name or a type's name or none, as two letters ask for it -/
def labT (a b : Bool) (s : ByteArray) : Bool := (!a || nmB s) && ((!b || tyB s) && (a || (b || noB s)))
def labN (a : Bool) (ns : List ByteArray) : Bool := (a || decide (ns.length = 0)) && (decide (ns.length ≤ 6) && ns.all nmB)
def labQ (a : Bool) (m : Nat) (ty : PT) (iv : Int) : Bool := if a then decide (1 ≤ iv) && (decide (iv ≤ 8) && rT m ty) else decide (iv = 0) && zT ty
def labP (a : Bool) (pl : PP) : Bool := if a then plB pl else noB pl.name && decide (pl.path.length = 0)
def labB (hn ht hs hy hN hT hp : Bool) (m : Nat) (nm sc : ByteArray) (ns : List ByteArray) (ty : PT) (iv : Int) (pl : PP) : Bool :=
  labT hn ht nm && (labT hs hy sc && (labN hN ns && (labQ hT m ty iv && labP hp pl)))
theorem is_noB (s : ByteArray) : (s.toList == []) = noB s := by
  rw [noB_toList]
  cases h : s.toList <;> rfl
theorem lab_cases (a n b t o : Bool) : (a = true ∧ n = false) ∨ (a = true ∧ n = true ∧ b = true ∧ t = false) ∨ (a = true ∧ n = true ∧ b = true ∧ t = true) ∨ (a = true ∧ n = true ∧ b = false) ∨ (a = false ∧ b = true ∧ t = false) ∨ (a = false ∧ b = true ∧ t = true) ∨ (a = false ∧ b = false ∧ o = true) ∨ (a = false ∧ b = false ∧ o = false) := by
  cases a <;> cases n <;> cases b <;> cases t <;> cases o <;> simp
set_option maxRecDepth 100000 in
set_option maxHeartbeats 8000000 in
theorem labels_calls (f : ByteArray) (hn ht hs hy hN hT hp : Bool) (m : Nat) (hm : m ≤ 1000) (B : Nat) (op : Int) (nm sc : ByteArray) (ns : List ByteArray) (ty : PT) (iv : Int) (pl : PP) (es : List PE) (bo el : List PS) (ar : List PA) (ps : Int)
    (pa0 : Option Addr) (na0 qa0 : Nat) (pa1 : Option Addr) (na1 qa1 : Nat) (pa2 : Option Addr) (na2 qa2 : Nat) (pa3 : Option Addr) (na3 qa3 : Nat) (pa4 : Option Addr) (na4 qa4 : Nat) (pa5 : Option Addr) (na5 qa5 : Nat) (pa6 : Option Addr) (na6 qa6 : Nat) (w : World) (hB : B ≤ w.heap.size)
    (hin : PS.In B w (.mk op nm sc ns ty iv pl es bo el ar ps) ⟨.slice pa0 na0 qa0, .slice pa1 na1 qa1, .slice pa2 na2 qa2, .slice pa3 na3 qa3, .slice pa4 na4 qa4, .slice pa5 na5 qa5, .slice pa6 na6 qa6⟩)
    (Hn : Hid (∀ w, Calls Tryz.prog 90 #[.string f, .int .u8 110] w fun e w' => e = .returned (.bool hn) ∧ w = w'))
    (Ht : Hid (∀ w, Calls Tryz.prog 90 #[.string f, .int .u8 116] w fun e w' => e = .returned (.bool ht) ∧ w = w'))
    (Hs : Hid (∀ w, Calls Tryz.prog 90 #[.string f, .int .u8 115] w fun e w' => e = .returned (.bool hs) ∧ w = w'))
    (Hy : Hid (∀ w, Calls Tryz.prog 90 #[.string f, .int .u8 121] w fun e w' => e = .returned (.bool hy) ∧ w = w'))
    (HN : Hid (∀ w, Calls Tryz.prog 90 #[.string f, .int .u8 78] w fun e w' => e = .returned (.bool hN) ∧ w = w'))
    (HT : Hid (∀ w, Calls Tryz.prog 90 #[.string f, .int .u8 84] w fun e w' => e = .returned (.bool hT) ∧ w = w'))
    (Hp : Hid (∀ w, Calls Tryz.prog 90 #[.string f, .int .u8 112] w fun e w' => e = .returned (.bool hp) ∧ w = w')) :
    Calls Tryz.prog 107 #[.agg #[.int .u8 op, .string nm, .string sc, .slice pa0 na0 qa0, .int .u8 ty.kind, .string ty.name, .slice pa1 na1 qa1, .int .i64 iv, .string pl.name, .slice pa2 na2 qa2, .slice pa3 na3 qa3, .slice pa4 na4 qa4, .slice pa5 na5 qa5, .slice pa6 na6 qa6, .int .i64 ps], .string f, .int .i64 ((m : Int) + 1)] w fun e w' => e = .returned (.bool (labB hn ht hs hy hN hT hp m nm sc ns ty iv pl)) ∧ Below w.heap.size w w' := by
  obtain ⟨⟨_, _, _, zn, zs⟩, ⟨b1, o1, ⟨hnn, ao, cap, hv, k1⟩, r1⟩, hty, hpl, _⟩ := hin
  simp only [Value.slice.injEq] at hv
  obtain ⟨rfl, hlen, rfl⟩ := hv
  unfold maxLen at hnn
  rw [← hlen] at hnn k1
  have hlp : na2 = pl.path.length := by
    obtain ⟨_, b', o', ⟨_, ao, cap, h, _⟩, _⟩ := hpl
    injection h
  have hlt1 : na1 = ty.args.length := by
    obtain ⟨kd, n', l'⟩ := ty
    obtain ⟨_, b', o', ⟨_, ao, cap, h, _⟩, _⟩ := hty
    injection h
  have NM : Hid (∀ (s : ByteArray), s.size ≤ maxLen → ∀ w, Calls Tryz.prog 56 #[.string s] w fun e w' => e = .returned (.bool (nmB s)) ∧ Below w.heap.size w w') := Lib.hid fun s h w => refName_calls s h w
  have N1 := Lib.hid (NM.out nm zn)
  have N2 := Lib.hid (NM.out sc zs)
  have T1 : Hid (∀ w, Calls Tryz.prog 53 #[.string nm] w fun e w' => e = .returned (.bool (tyB nm)) ∧ Below w.heap.size w w') := Lib.hid fun w => refType_calls nm zn w
  have T2 : Hid (∀ w, Calls Tryz.prog 53 #[.string sc] w fun e w' => e = .returned (.bool (tyB sc)) ∧ Below w.heap.size w w') := Lib.hid fun w => refType_calls sc zs w
  have Hx := Lib.hid hlen
  have Hp2 := Lib.hid hlp
  have K1 := Lib.hid k1
  have R1 := Lib.hid r1
  have TY := Lib.hid hty
  have PL := Lib.hid hpl
  have HL1 := Lib.hid hlt1
  have hres : labB hn ht hs hy hN hT hp m nm sc ns ty iv pl = (((!hn || nmB nm) && ((!ht || tyB nm) && (hn || (ht || noB nm)))) && (((!hs || nmB sc) && ((!hy || tyB sc) && (hs || (hy || noB sc)))) && ((((hN || decide (na0 = 0)) && decide (na0 ≤ 6)) && ns.all nmB) && (labQ hT m ty iv && labP hp pl)))) := by
    rw [hlen]; unfold labB labN labT; simp only [Bool.and_assoc]
  rw [hres]
  have o1' := is_noB nm
  have o2' := is_noB sc
  clear hres zn zs hlen hlp hlt1 k1 r1 hty hpl
  generalize nmB nm = qn at *
  generalize tyB nm = qt at *
  generalize noB nm = qo at *
  generalize nmB sc = rn at *
  generalize tyB sc = rt at *
  generalize noB sc = ro at *
  go_enter Tryz.func107, Tryz.ntmps107
  go_upto_region 1 with (fail)
  obtain ⟨W0, hW0⟩ : ∃ W0, W0 = w.alloc (.cells #[.int .u8 op, .string nm, .string sc, .slice pa0 na0 qa0, .int .u8 ty.kind, .string ty.name, .slice pa1 na1 qa1, .int .i64 iv, .string pl.name, .slice pa2 na2 qa2, .slice pa3 na3 qa3, .slice pa4 na4 qa4, .slice pa5 na5 qa5, .slice pa6 na6 qa6, .int .i64 ps] 92) := ⟨_, rfl⟩
  rw [← hW0]
  obtain ⟨G, hG⟩ : ∃ G, G = w.heap.size := ⟨_, rfl⟩
  have hz0 : G < W0.heap.size := by rw [hW0, hG]; simp
  have x1 : W0.cell? ⟨G, 1, none⟩ = some (.string nm) := by rw [hW0, hG]; go_simp
  have x2 : W0.cell? ⟨G, 2, none⟩ = some (.string sc) := by rw [hW0, hG]; go_simp
  have x3 : W0.cell? ⟨G, 3, none⟩ = some (.slice pa0 na0 qa0) := by rw [hW0, hG]; go_simp
  have x4 : W0.cell? ⟨G, 4, none⟩ = some (.int .u8 ty.kind) := by rw [hW0, hG]; go_simp
  have x5 : W0.cell? ⟨G, 5, none⟩ = some (.string ty.name) := by rw [hW0, hG]; go_simp
  have x6 : W0.cell? ⟨G, 6, none⟩ = some (.slice pa1 na1 qa1) := by rw [hW0, hG]; go_simp
  have x7 : W0.cell? ⟨G, 7, none⟩ = some (.int .i64 iv) := by rw [hW0, hG]; go_simp
  have x8 : W0.cell? ⟨G, 8, none⟩ = some (.string pl.name) := by rw [hW0, hG]; go_simp
  have x9 : W0.cell? ⟨G, 9, none⟩ = some (.slice pa2 na2 qa2) := by rw [hW0, hG]; go_simp
  have BW : Below w.heap.size w W0 := by rw [hW0]; exact (Below.refl _ w).alloc (Nat.le_refl _) _
  have B0 := Lib.hid BW
  have hB0 : B ≤ W0.heap.size := by have := BW.size; omega
  rw [← hG]
  clear hG hW0 BW
  go_cut [40] from 8 to 40 (fun c wx => c = .bool (!((!hn || qn) && ((!ht || qt) && (hn || (ht || qo))))) ∧ Hid (Below W0.heap.size W0 wx))
  case first =>
    have HB : Hid (Below W0.heap.size W0 W0) := Lib.hid (Below.refl _ _)
    have hzc := hz0
    have xc := x1
    clear x1 x2 x3 x4 x5 x6 x7 x8 x9
    rcases lab_cases hn qn ht qt qo with ⟨rfl, rfl⟩ | ⟨rfl, rfl, rfl, rfl⟩ | ⟨rfl, rfl, rfl, rfl⟩ | ⟨rfl, rfl, rfl⟩ | ⟨rfl, rfl, rfl⟩ | ⟨rfl, rfl, rfl⟩ | ⟨rfl, rfl, rfl⟩ | ⟨rfl, rfl, rfl⟩
    all_goals
      as_aux_lemma =>
        go_wp2_with (first
        | (go_at_call 90; (with_reducible refine (Hn.out _).mono ?_); rintro e v1 ⟨rfl, rfl⟩)
        | (go_at_call 90; (with_reducible refine (Ht.out _).mono ?_); rintro e v1 ⟨rfl, rfl⟩)
        | (go_at_call 56; (with_reducible refine (N1.out _).mono ?_); rintro e v1 ⟨rfl, bj⟩
           have zj := Nat.lt_of_lt_of_le hzc bj.size
           have xj := (bj.cell (p := ⟨G, 1, none⟩) hzc).trans xc
           have HB := Lib.hid (HB.out.trans (bj.mono HB.out.size))
           clear bj hzc xc
           have hzc := zj
           have xc := xj
           clear zj xj)
        | (go_at_call 53; (with_reducible refine (T1.out _).mono ?_); rintro e v1 ⟨rfl, bj⟩
           have zj := Nat.lt_of_lt_of_le hzc bj.size
           have xj := (bj.cell (p := ⟨G, 1, none⟩) hzc).trans xc
           have HB := Lib.hid (HB.out.trans (bj.mono HB.out.size))
           clear bj hzc xc
           have hzc := zj
           have xc := xj
           clear zj xj))
        go_meet
        case rel => exact ⟨rfl, HB⟩
  case rest =>
    obtain ⟨rfl, HB1⟩ := hcut
    have hzn := Nat.lt_of_lt_of_le hz0 HB1.out.size
    replace x2 := (HB1.out.cell (p := ⟨G, 2, none⟩) hz0).trans x2
    replace x3 := (HB1.out.cell (p := ⟨G, 3, none⟩) hz0).trans x3
    replace x4 := (HB1.out.cell (p := ⟨G, 4, none⟩) hz0).trans x4
    replace x5 := (HB1.out.cell (p := ⟨G, 5, none⟩) hz0).trans x5
    replace x6 := (HB1.out.cell (p := ⟨G, 6, none⟩) hz0).trans x6
    replace x7 := (HB1.out.cell (p := ⟨G, 7, none⟩) hz0).trans x7
    replace x8 := (HB1.out.cell (p := ⟨G, 8, none⟩) hz0).trans x8
    replace x9 := (HB1.out.cell (p := ⟨G, 9, none⟩) hz0).trans x9
    have BN : Hid (Below w.heap.size w wc) := Lib.hid (B0.out.trans (HB1.out.mono B0.out.size))
    have hBn : B ≤ wc.heap.size := Nat.le_trans hB0 HB1.out.size
    clear hz0 B0 hB0 HB1 x1 o1' N1 T1 Hn Ht
    have hz0 := hzn
    have B0 := BN
    have hB0 := hBn
    clear hzn BN hBn
    generalize wc = W1 at *
    generalize hcnd : ((!hn || qn) && ((!ht || qt) && (hn || (ht || qo)))) = cnd
    have HC1 := Lib.hid hcnd
    clear hcnd
    cases cnd
    · go_wp2_with fail
      go_ret
      exact ⟨ret_bool (by rw [HC1.out]; rfl), B0.out⟩
    · go_upto_region 3 with (fail)
      go_cut [73] from 41 to 73 (fun c wx => c = .bool (!((!hs || rn) && ((!hy || rt) && (hs || (hy || ro))))) ∧ Hid (Below W1.heap.size W1 wx))
      case first =>
        have HB : Hid (Below W1.heap.size W1 W1) := Lib.hid (Below.refl _ _)
        have hzc := hz0
        have xc := x2
        clear x2 x3 x4 x5 x6 x7 x8 x9
        rcases lab_cases hs rn hy rt ro with ⟨rfl, rfl⟩ | ⟨rfl, rfl, rfl, rfl⟩ | ⟨rfl, rfl, rfl, rfl⟩ | ⟨rfl, rfl, rfl⟩ | ⟨rfl, rfl, rfl⟩ | ⟨rfl, rfl, rfl⟩ | ⟨rfl, rfl, rfl⟩ | ⟨rfl, rfl, rfl⟩
        all_goals
          as_aux_lemma =>
            go_wp2_with (first
            | (go_at_call 90; (with_reducible refine (Hs.out _).mono ?_); rintro e v1 ⟨rfl, rfl⟩)
            | (go_at_call 90; (with_reducible refine (Hy.out _).mono ?_); rintro e v1 ⟨rfl, rfl⟩)
            | (go_at_call 56; (with_reducible refine (N2.out _).mono ?_); rintro e v1 ⟨rfl, bj⟩
               have zj := Nat.lt_of_lt_of_le hzc bj.size
               have xj := (bj.cell (p := ⟨G, 2, none⟩) hzc).trans xc
               have HB := Lib.hid (HB.out.trans (bj.mono HB.out.size))
               clear bj hzc xc
               have hzc := zj
               have xc := xj
               clear zj xj)
            | (go_at_call 53; (with_reducible refine (T2.out _).mono ?_); rintro e v1 ⟨rfl, bj⟩
               have zj := Nat.lt_of_lt_of_le hzc bj.size
               have xj := (bj.cell (p := ⟨G, 2, none⟩) hzc).trans xc
               have HB := Lib.hid (HB.out.trans (bj.mono HB.out.size))
               clear bj hzc xc
               have hzc := zj
               have xc := xj
               clear zj xj))
            go_meet
            case rel => exact ⟨rfl, HB⟩
      case rest =>
        obtain ⟨rfl, HB1⟩ := hcut
        have hzn := Nat.lt_of_lt_of_le hz0 HB1.out.size
        replace x3 := (HB1.out.cell (p := ⟨G, 3, none⟩) hz0).trans x3
        replace x4 := (HB1.out.cell (p := ⟨G, 4, none⟩) hz0).trans x4
        replace x5 := (HB1.out.cell (p := ⟨G, 5, none⟩) hz0).trans x5
        replace x6 := (HB1.out.cell (p := ⟨G, 6, none⟩) hz0).trans x6
        replace x7 := (HB1.out.cell (p := ⟨G, 7, none⟩) hz0).trans x7
        replace x8 := (HB1.out.cell (p := ⟨G, 8, none⟩) hz0).trans x8
        replace x9 := (HB1.out.cell (p := ⟨G, 9, none⟩) hz0).trans x9
        have BN : Hid (Below w.heap.size w wc) := Lib.hid (B0.out.trans (HB1.out.mono B0.out.size))
        have hBn : B ≤ wc.heap.size := Nat.le_trans hB0 HB1.out.size
        clear hz0 B0 hB0 HB1 x2 o2' N2 T2 Hs Hy
        have hz0 := hzn
        have B0 := BN
        have hB0 := hBn
        clear hzn BN hBn
        generalize wc = W2 at *
        generalize hcnd : ((!hs || rn) && ((!hy || rt) && (hs || (hy || ro)))) = cnd
        have HC2 := Lib.hid hcnd
        clear hcnd
        cases cnd
        · go_wp2_with fail
          go_ret
          exact ⟨ret_bool (by rw [HC1.out, HC2.out]; rfl), B0.out⟩
        · go_upto_region 5 with (fail)
          go_cut [88] from 74 to 88 (fun c wx => c = .bool (!((hN || decide (na0 = 0)) && decide (na0 ≤ 6))) ∧ Hid (Below W2.heap.size W2 wx))
          case first =>
            have HB : Hid (Below W2.heap.size W2 W2) := Lib.hid (Below.refl _ _)
            clear x4 x5 x6 x7 x8 x9
            cases hN
            · by_cases h0 : na0 = 0
              · subst h0
                go_wp2_with (go_at_call 90; (with_reducible refine (HN.out _).mono ?_); rintro e v1 ⟨rfl, rfl⟩)
                go_meet
                case rel => exact ⟨rfl, HB⟩
              · have e1 : (0 : Int) < (na0 : Int) := by omega
                have D0 := Lib.hid (decide_eq_false h0)
                have D1 := Lib.hid (decide_eq_true e1)
                clear h0
                go_wp2_with (go_at_call 90; (with_reducible refine (HN.out _).mono ?_); rintro e v1 ⟨rfl, rfl⟩)
                go_meet
                case rel => exact ⟨congrArg Value.bool (by first | (rw [D0.out]; rfl) | (rw [D0.out, D1.out]; rfl)), HB⟩
            · by_cases h6 : na0 ≤ 6
              · have e1 : ¬ (6 : Int) < (na0 : Int) := by omega
                have D0 := Lib.hid (decide_eq_true h6)
                have D1 := Lib.hid (decide_eq_false e1)
                clear h6
                go_wp2_with (go_at_call 90; (with_reducible refine (HN.out _).mono ?_); rintro e v1 ⟨rfl, rfl⟩)
                go_meet
                case rel => exact ⟨congrArg Value.bool (by first | (rw [D0.out]; rfl) | (rw [D0.out, D1.out]; rfl)), HB⟩
              · have e1 : (6 : Int) < (na0 : Int) := by omega
                have D0 := Lib.hid (decide_eq_false h6)
                have D1 := Lib.hid (decide_eq_true e1)
                clear h6
                go_wp2_with (go_at_call 90; (with_reducible refine (HN.out _).mono ?_); rintro e v1 ⟨rfl, rfl⟩)
                go_meet
                case rel => exact ⟨congrArg Value.bool (by first | (rw [D0.out]; rfl) | (rw [D0.out, D1.out]; rfl)), HB⟩
          case rest =>
            obtain ⟨rfl, HB1⟩ := hcut
            have hzn := Nat.lt_of_lt_of_le hz0 HB1.out.size
            replace x3 := (HB1.out.cell (p := ⟨G, 3, none⟩) hz0).trans x3
            replace x4 := (HB1.out.cell (p := ⟨G, 4, none⟩) hz0).trans x4
            replace x5 := (HB1.out.cell (p := ⟨G, 5, none⟩) hz0).trans x5
            replace x6 := (HB1.out.cell (p := ⟨G, 6, none⟩) hz0).trans x6
            replace x7 := (HB1.out.cell (p := ⟨G, 7, none⟩) hz0).trans x7
            replace x8 := (HB1.out.cell (p := ⟨G, 8, none⟩) hz0).trans x8
            replace x9 := (HB1.out.cell (p := ⟨G, 9, none⟩) hz0).trans x9
            have BN : Hid (Below w.heap.size w wc) := Lib.hid (B0.out.trans (HB1.out.mono B0.out.size))
            have hBn : B ≤ wc.heap.size := Nat.le_trans hB0 HB1.out.size
            clear hz0 B0 hB0 HB1 HN
            have hz0 := hzn
            have B0 := BN
            have hB0 := hBn
            clear hzn BN hBn
            generalize wc = W3 at *
            generalize hcnd : ((hN || decide (na0 = 0)) && decide (na0 ≤ 6)) = cnd
            have HC3 := Lib.hid hcnd
            clear hcnd
            cases cnd
            · go_wp2_with fail
              go_ret
              exact ⟨ret_bool (by rw [HC1.out, HC2.out, HC3.out]; rfl), B0.out⟩
            · go_wp2_with fail
              go_loopw [7] (fun i wr => ∃ k : Nat, k ≤ na0 ∧ i = .int .i64 k ∧ Hid (Below W3.heap.size W3 wr) ∧ Hid (∀ (j : Nat) x, j < k → ns[j]? = some x → nmB x = true))
                (fun i _ => na0 - (intOf i).toNat)
              case atStart => exact ⟨0, by omega, rfl, Lib.hid (Below.refl _ _), Lib.hid fun j x hj => by omega⟩
              case round =>
                obtain ⟨k, hk, rfl, Hw, HK⟩ := hrel
                have hsw := Hw.out.size
                have hzr : G < wr.heap.size := Nat.lt_of_lt_of_le hz0 hsw
                replace x3 := (Hw.out.cell (p := ⟨G, 3, none⟩) hz0).trans x3
                have BR : Hid (Below w.heap.size w wr) := Lib.hid (B0.out.trans (Hw.out.mono B0.out.size))
                by_cases hlt : k < na0
                · obtain ⟨a, ha, hin⟩ := get_at (l := ns) (k := k) (by rw [← Hx.out]; exact hlt)
                  obtain ⟨rfl, hb1⟩ := K1.out.resolve_left (by omega)
                  obtain ⟨hsa, ca⟩ := NRow.get (NRow.below hb1 (BR.out.mono hB) R1.out) ha
                  have c0 : wr.cell? ⟨b1, o1 + k * 1, none⟩ = some (.string a) := ca 0 _ rfl
                  rw [Nat.mul_one] at c0
                  have g1 : b1 < wr.heap.size := by omega
                  have C := Lib.hid (NM.out a hsa wr)
                  have Ha := Lib.hid ha
                  generalize hq : nmB a = q at *
                  have Hs' := Lib.hid hq
                  clear ha ca hin hsa hq x4 x5 x6 x7 x8 x9
                  go_wp2_with fail
                  refine C.out.mono ?_; rintro e w2 ⟨rfl, b2⟩
                  have HW2 := Lib.hid (Hw.out.trans (b2.mono hsw))
                  have BR2 := Lib.hid (BR.out.trans (b2.mono BR.out.size))
                  clear b2 c0 C
                  cases q
                  · have hres := Lib.hid (all_not2 (p := nmB) Ha.out Hs'.out)
                    go_wp2_with fail
                    go_ret
                    exact ⟨ret_bool (by rw [HC1.out, HC2.out, HC3.out, hres.out]; rfl), BR2.out⟩
                  · have HK2 : Hid (∀ (j : Nat) x, j < k + 1 → ns[j]? = some x → nmB x = true) := Lib.hid fun j x hj hx => by
                      by_cases e : j = k
                      · subst e
                        rw [Ha.out] at hx
                        cases hx
                        exact Hs'.out
                      · exact HK.out j x (by omega) hx
                    go_wp2_with fail
                    go_roundw
                    case rel => exact ⟨k + 1, by omega, by go_num, HW2, HK2⟩
                    case measure => simp [intOf]; omega
                · obtain rfl : k = na0 := by omega
                  have hall := Lib.hid (all_yes2 (p := nmB) (l := ns) fun j x hx => HK.out j x (by rw [Hx.out]; exact (List.getElem?_eq_some_iff.1 hx).1) hx)
                  replace x4 := (Hw.out.cell (p := ⟨G, 4, none⟩) hz0).trans x4
                  replace x5 := (Hw.out.cell (p := ⟨G, 5, none⟩) hz0).trans x5
                  replace x6 := (Hw.out.cell (p := ⟨G, 6, none⟩) hz0).trans x6
                  replace x7 := (Hw.out.cell (p := ⟨G, 7, none⟩) hz0).trans x7
                  replace x8 := (Hw.out.cell (p := ⟨G, 8, none⟩) hz0).trans x8
                  replace x9 := (Hw.out.cell (p := ⟨G, 9, none⟩) hz0).trans x9
                  have hBr : B ≤ wr.heap.size := Nat.le_trans hB0 hsw
                  have TYr := PT.In.below (BR.out.mono hB) TY.out
                  have PLr := PL.out.below (BR.out.mono hB)
                  clear hz0 HK Hw K1 R1 NM hsw B0 hB0 TY PL
                  cases hT
                  · by_cases h0 : iv = 0
                    · subst h0
                      have C := Lib.hid (refZeroT_calls ty pa1 na1 qa1 wr HL1.out)
                      have PLC0 := Lib.hid (fun (W : World) (h : Below wr.heap.size wr W) => refPlace_calls B pl (.slice pa2 na2 qa2) W (Nat.le_trans hBr h.size) (PLr.below (h.mono hBr)))
                      clear TYr PLr
                      generalize hqz : zT ty = qz at C
                      have FQ : Hid (labQ false m ty 0 = qz) := Lib.hid hqz
                      clear hqz
                      go_wp2_with (go_at_call 90; (with_reducible refine (HT.out _).mono ?_); rintro e v1 ⟨rfl, rfl⟩)
                      refine C.out.mono ?_; rintro e w2 ⟨rfl, b2⟩
                      have y8 := (b2.cell (p := ⟨G, 8, none⟩) hzr).trans x8
                      have y9 := (b2.cell (p := ⟨G, 9, none⟩) hzr).trans x9
                      have hz2 := Nat.lt_of_lt_of_le hzr b2.size
                      have BQ := Lib.hid (BR.out.trans (b2.mono BR.out.size))
                      have PLC := Lib.hid (PLC0.out w2 b2)
                      clear b2 C x3 x4 x5 x6 x7 x8 x9 hzr BR PLC0 HT
                      cases qz
                      · go_wp2_with fail
                        go_ret
                        exact ⟨ret_bool (by rw [HC1.out, HC2.out, HC3.out, hall.out, FQ.out]; rfl), BQ.out⟩
                      · cases hp
                        · by_cases h3 : noB pl.name = true
                          · have o3 : (pl.name.toList == []) = true := (is_noB _).trans h3
                            by_cases h0 : na2 = 0
                            · subst h0
                              have FP : Hid (labP false pl = true) := Lib.hid (by show (noB pl.name && decide (pl.path.length = 0)) = true; rw [h3, ← Hp2.out]; rfl)
                              clear h3
                              go_wp2_with (go_at_call 90; (with_reducible refine (Hp.out _).mono ?_); rintro e v1 ⟨rfl, rfl⟩)
                              go_ret
                              exact ⟨ret_bool (by rw [HC1.out, HC2.out, HC3.out, hall.out, FQ.out, FP.out]; rfl), BQ.out⟩
                            · have e1 : ((na2 : Int) == 0) = false := is_no' (by omega)
                              have FP : Hid (labP false pl = false) := Lib.hid (by show (noB pl.name && decide (pl.path.length = 0)) = false; rw [h3, ← Hp2.out, decide_eq_false h0]; rfl)
                              clear h0 h3
                              go_wp2_with (go_at_call 90; (with_reducible refine (Hp.out _).mono ?_); rintro e v1 ⟨rfl, rfl⟩)
                              go_ret
                              exact ⟨ret_bool (by rw [HC1.out, HC2.out, HC3.out, hall.out, FQ.out, FP.out]; rfl), BQ.out⟩
                          · have h4 : noB pl.name = false := by simpa using h3
                            have o3 : (pl.name.toList == []) = false := (is_noB _).trans h4
                            have FP : Hid (labP false pl = false) := Lib.hid (by show (noB pl.name && decide (pl.path.length = 0)) = false; rw [h4]; rfl)
                            clear h3 h4
                            go_wp2_with (go_at_call 90; (with_reducible refine (Hp.out _).mono ?_); rintro e v1 ⟨rfl, rfl⟩)
                            go_ret
                            exact ⟨ret_bool (by rw [HC1.out, HC2.out, HC3.out, hall.out, FQ.out, FP.out]; rfl), BQ.out⟩
                        · generalize hqp : plB pl = qp at PLC
                          have FP : Hid (labP true pl = qp) := Lib.hid hqp
                          clear hqp
                          go_wp2_with (first
                            | (go_at_call 90; (with_reducible refine (Hp.out _).mono ?_); rintro e v1 ⟨rfl, rfl⟩)
                            | (go_at_call 91; (with_reducible refine (PLC.out).mono ?_); rintro e v1 ⟨rfl, bj⟩
                               have BR := Lib.hid (BQ.out.trans (bj.mono BQ.out.size))
                               clear bj))
                          go_ret
                          exact ⟨ret_bool (by rw [HC1.out, HC2.out, HC3.out, hall.out, FQ.out, FP.out]; simp), BR.out⟩

                    · have e0 : (iv == 0) = false := is_no' h0
                      have e0' : (iv != 0) = true := by rw [bne, e0]; rfl
                      have FQ : Hid (labQ false m ty iv = false) := Lib.hid (by show (decide (iv = 0) && zT ty) = false; rw [decide_eq_false h0]; rfl)
                      clear TYr PLr h0 x4 x5 x6 x8 x9
                      go_wp2_with (go_at_call 90; (with_reducible refine (HT.out _).mono ?_); rintro e v1 ⟨rfl, rfl⟩)
                      go_ret
                      exact ⟨ret_bool (by rw [HC1.out, HC2.out, HC3.out, hall.out, FQ.out]; rfl), BR.out⟩
                  · by_cases h1 : iv < 1
                    · have FQ : Hid (labQ true m ty iv = false) := Lib.hid (by show (decide (1 ≤ iv) && (decide (iv ≤ 8) && rT m ty)) = false; rw [decide_eq_false (show ¬ 1 ≤ iv by omega)]; rfl)
                      clear TYr PLr x4 x5 x6 x8 x9
                      go_wp2_with (go_at_call 90; (with_reducible refine (HT.out _).mono ?_); rintro e v1 ⟨rfl, rfl⟩)
                      go_ret
                      exact ⟨ret_bool (by rw [HC1.out, HC2.out, HC3.out, hall.out, FQ.out]; rfl), BR.out⟩
                    · by_cases h8 : 8 < iv
                      · have FQ : Hid (labQ true m ty iv = false) := Lib.hid (by show (decide (1 ≤ iv) && (decide (iv ≤ 8) && rT m ty)) = false; rw [decide_eq_false (show ¬ iv ≤ 8 by omega), Bool.false_and, Bool.and_false])
                        clear TYr PLr x4 x5 x6 x8 x9
                        go_wp2_with (go_at_call 90; (with_reducible refine (HT.out _).mono ?_); rintro e v1 ⟨rfl, rfl⟩)
                        go_ret
                        exact ⟨ret_bool (by rw [HC1.out, HC2.out, HC3.out, hall.out, FQ.out]; rfl), BR.out⟩
                      · have C := Lib.hid (refWT_calls m hm B ty (.slice pa1 na1 qa1) wr hBr TYr)
                        have PLC0 := Lib.hid (fun (W : World) (h : Below wr.heap.size wr W) => refPlace_calls B pl (.slice pa2 na2 qa2) W (Nat.le_trans hBr h.size) (PLr.below (h.mono hBr)))
                        clear TYr PLr
                        generalize hqz : rT m ty = qz at C
                        have FQ : Hid (labQ true m ty iv = qz) := Lib.hid (by show (decide (1 ≤ iv) && (decide (iv ≤ 8) && rT m ty)) = qz; rw [decide_eq_true (show 1 ≤ iv by omega), decide_eq_true (show iv ≤ 8 by omega), hqz]; rfl)
                        clear hqz
                        go_wp2_with (go_at_call 90; (with_reducible refine (HT.out _).mono ?_); rintro e v1 ⟨rfl, rfl⟩)
                        refine C.out.mono ?_; rintro e w2 ⟨rfl, b2⟩
                        have y8 := (b2.cell (p := ⟨G, 8, none⟩) hzr).trans x8
                        have y9 := (b2.cell (p := ⟨G, 9, none⟩) hzr).trans x9
                        have hz2 := Nat.lt_of_lt_of_le hzr b2.size
                        have BQ := Lib.hid (BR.out.trans (b2.mono BR.out.size))
                        have PLC := Lib.hid (PLC0.out w2 b2)
                        clear b2 C x3 x4 x5 x6 x7 x8 x9 hzr BR PLC0 HT
                        cases qz
                        · go_wp2_with fail
                          go_ret
                          exact ⟨ret_bool (by rw [HC1.out, HC2.out, HC3.out, hall.out, FQ.out]; rfl), BQ.out⟩
                        · cases hp
                          · by_cases h3 : noB pl.name = true
                            · have o3 : (pl.name.toList == []) = true := (is_noB _).trans h3
                              by_cases h0 : na2 = 0
                              · subst h0
                                have FP : Hid (labP false pl = true) := Lib.hid (by show (noB pl.name && decide (pl.path.length = 0)) = true; rw [h3, ← Hp2.out]; rfl)
                                clear h3
                                go_wp2_with (go_at_call 90; (with_reducible refine (Hp.out _).mono ?_); rintro e v1 ⟨rfl, rfl⟩)
                                go_ret
                                exact ⟨ret_bool (by rw [HC1.out, HC2.out, HC3.out, hall.out, FQ.out, FP.out]; rfl), BQ.out⟩
                              · have e1 : ((na2 : Int) == 0) = false := is_no' (by omega)
                                have FP : Hid (labP false pl = false) := Lib.hid (by show (noB pl.name && decide (pl.path.length = 0)) = false; rw [h3, ← Hp2.out, decide_eq_false h0]; rfl)
                                clear h0 h3
                                go_wp2_with (go_at_call 90; (with_reducible refine (Hp.out _).mono ?_); rintro e v1 ⟨rfl, rfl⟩)
                                go_ret
                                exact ⟨ret_bool (by rw [HC1.out, HC2.out, HC3.out, hall.out, FQ.out, FP.out]; rfl), BQ.out⟩
                            · have h4 : noB pl.name = false := by simpa using h3
                              have o3 : (pl.name.toList == []) = false := (is_noB _).trans h4
                              have FP : Hid (labP false pl = false) := Lib.hid (by show (noB pl.name && decide (pl.path.length = 0)) = false; rw [h4]; rfl)
                              clear h3 h4
                              go_wp2_with (go_at_call 90; (with_reducible refine (Hp.out _).mono ?_); rintro e v1 ⟨rfl, rfl⟩)
                              go_ret
                              exact ⟨ret_bool (by rw [HC1.out, HC2.out, HC3.out, hall.out, FQ.out, FP.out]; rfl), BQ.out⟩
                          · generalize hqp : plB pl = qp at PLC
                            have FP : Hid (labP true pl = qp) := Lib.hid hqp
                            clear hqp
                            go_wp2_with (first
                              | (go_at_call 90; (with_reducible refine (Hp.out _).mono ?_); rintro e v1 ⟨rfl, rfl⟩)
                              | (go_at_call 91; (with_reducible refine (PLC.out).mono ?_); rintro e v1 ⟨rfl, bj⟩
                                 have BR := Lib.hid (BQ.out.trans (bj.mono BQ.out.size))
                                 clear bj))
                            go_ret
                            exact ⟨ret_bool (by rw [HC1.out, HC2.out, HC3.out, hall.out, FQ.out, FP.out]; simp), BR.out⟩

end Go.Proofs.YtojeijeimpffgaaGreat

