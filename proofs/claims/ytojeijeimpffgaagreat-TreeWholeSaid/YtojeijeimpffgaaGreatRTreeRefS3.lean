/- The document's own way of saying what statements are whole. -/
import Derived.Test.YtojeijeimpffgaaGreatRTreeRefS2
import Derived.Test.YtojeijeimpffgaaGreatRTreeRefW4
import Derived.Deep.Cut
import Derived.Deep.CutRange
namespace Go.Proofs.YtojeijeimpffgaaGreat
open Go.RowKit
set_option linter.unusedVariables false

def cntB (he hl hx : Bool) (n : Nat) : Nat := if he || hl then 1 else if hx then n else 0
def okArg (he : Bool) (m : Nat) (a : PE) : Bool := (!lentB a || !he) && rE m a
def listsB (hB hE hA : Bool) (c : Nat) (es : List PE) (bo el : List PS) (ar : List PA) : Bool :=
  decide (es.length = c) && ((hB || decide (bo.length = 0)) && ((hE || decide (el.length = 0)) && ((hA || decide (ar.length = 0)) && decide (ar.length ≤ 6))))
def labsF (F : ByteArray) (m : Nat) (nm sc : ByteArray) (ns : List ByteArray) (ty : PT) (iv : Int) (pl : PP) : Bool :=
  labB (hasB F 110) (hasB F 116) (hasB F 115) (hasB F 121) (hasB F 78) (hasB F 84) (hasB F 112) m nm sc ns ty iv pl
def rS : Nat → PS → Bool
  | 0, _ => false
  | m + 1, .mk op nm sc ns ty iv pl es bo el ar _ => !(sformL op).isEmpty && (labsF (bs (sformL op)) m nm sc ns ty iv pl &&
      (listsB (hasB (bs (sformL op)) 66) (hasB (bs (sformL op)) 69) (hasB (bs (sformL op)) 65) (cntB (hasB (bs (sformL op)) 101) (hasB (bs (sformL op)) 108) (hasB (bs (sformL op)) 120) ns.length) es bo el ar &&
        (es.all (okArg (hasB (bs (sformL op)) 101) m) && (ar.all (fun a => tyB a.variant && ((noB a.name || nmB a.name) && a.body.all (rS m))) && (bo.all (rS m) && el.all (rS m))))))
def okArm (m : Nat) (a : PA) : Bool := tyB a.variant && ((noB a.name || nmB a.name) && a.body.all (rS m))
def RefWSAt (n : Nat) : Prop := ∀ (B : Nat) (s : PS) (v : VS) (w : World), B ≤ w.heap.size → s.In B w v →
  Calls Tryz.prog 93 #[.agg (s.cells v).toArray, .int .i64 n] w fun r w' => r = .returned (.bool (rS n s)) ∧ Below w.heap.size w w'
def RefWLAt (n : Nat) : Prop := ∀ (B : Nat) (l : List PS) (v : Value) (b o : Nat) (w : World), B ≤ w.heap.size → SlV B v l.length b o → PS.Row B w b o l →
  Calls Tryz.prog 60 #[v, .int .i64 n] w fun r w' => r = .returned (.bool (l.all (rS n))) ∧ Below w.heap.size w w'
theorem arm_cases (a o n : Bool) : a = false ∨ (a = true ∧ o = true) ∨ (a = true ∧ o = false ∧ n = true) ∨ (a = true ∧ o = false ∧ n = false) := by
  cases a <;> cases o <;> cases n <;> simp
set_option maxRecDepth 100000 in
set_option maxHeartbeats 16000000 in
theorem stmt_main (F : ByteArray) (hF : (F.toList == []) = false) (he hl hx hB' hE hA lab : Bool) (m : Nat) (hm : m ≤ 1000) (B : Nat) (op : Int) (nm sc : ByteArray) (ns : List ByteArray) (ty : PT) (iv : Int) (pl : PP) (es : List PE) (bo el : List PS) (ar : List PA) (ps : Int)
    (pa0 : Option Addr) (na0 qa0 : Nat) (pa1 : Option Addr) (na1 qa1 : Nat) (pa2 : Option Addr) (na2 qa2 : Nat) (pa3 : Option Addr) (na3 qa3 : Nat) (pa4 : Option Addr) (na4 qa4 : Nat) (pa5 : Option Addr) (na5 qa5 : Nat) (pa6 : Option Addr) (na6 qa6 : Nat) (w : World) (hB : B ≤ w.heap.size)
    (hin : PS.In B w (.mk op nm sc ns ty iv pl es bo el ar ps) ⟨.slice pa0 na0 qa0, .slice pa1 na1 qa1, .slice pa2 na2 qa2, .slice pa3 na3 qa3, .slice pa4 na4 qa4, .slice pa5 na5 qa5, .slice pa6 na6 qa6⟩)
    (hform : Hid (∀ w, Calls Tryz.prog 106 #[.int .u8 op] w fun e w' => e = .returned (.string F) ∧ Below w.heap.size w w'))
    (LB : Hid (∀ W, Below w.heap.size w W → Calls Tryz.prog 107 #[.agg #[.int .u8 op, .string nm, .string sc, .slice pa0 na0 qa0, .int .u8 ty.kind, .string ty.name, .slice pa1 na1 qa1, .int .i64 iv, .string pl.name, .slice pa2 na2 qa2, .slice pa3 na3 qa3, .slice pa4 na4 qa4, .slice pa5 na5 qa5, .slice pa6 na6 qa6, .int .i64 ps], .string F, .int .i64 ((m : Int) + 1)] W fun e w' => e = .returned (.bool lab) ∧ Below W.heap.size W w'))
    (He : Hid (∀ w, Calls Tryz.prog 90 #[.string F, .int .u8 101] w fun e w' => e = .returned (.bool he) ∧ w = w'))
    (Hl : Hid (∀ w, Calls Tryz.prog 90 #[.string F, .int .u8 108] w fun e w' => e = .returned (.bool hl) ∧ w = w'))
    (Hx : Hid (∀ w, Calls Tryz.prog 90 #[.string F, .int .u8 120] w fun e w' => e = .returned (.bool hx) ∧ w = w'))
    (HB : Hid (∀ w, Calls Tryz.prog 90 #[.string F, .int .u8 66] w fun e w' => e = .returned (.bool hB') ∧ w = w'))
    (HE : Hid (∀ w, Calls Tryz.prog 90 #[.string F, .int .u8 69] w fun e w' => e = .returned (.bool hE) ∧ w = w'))
    (HA : Hid (∀ w, Calls Tryz.prog 90 #[.string F, .int .u8 65] w fun e w' => e = .returned (.bool hA) ∧ w = w'))
    (ihL : RefWLAt m) :
    Calls Tryz.prog 93 #[.agg #[.int .u8 op, .string nm, .string sc, .slice pa0 na0 qa0, .int .u8 ty.kind, .string ty.name, .slice pa1 na1 qa1, .int .i64 iv, .string pl.name, .slice pa2 na2 qa2, .slice pa3 na3 qa3, .slice pa4 na4 qa4, .slice pa5 na5 qa5, .slice pa6 na6 qa6, .int .i64 ps], .int .i64 ((m : Int) + 1)] w fun e w' => e = .returned (.bool (lab && (listsB hB' hE hA (cntB he hl hx ns.length) es bo el ar && (es.all (okArg he m) && (ar.all (okArm m) && (bo.all (rS m) && el.all (rS m))))))) ∧ Below w.heap.size w w' := by
  obtain ⟨_, hns, _, _, ⟨be, oe, ⟨hne, aoe, cape, hve, ke⟩, re⟩, ⟨bb, ob, sb, rb⟩, ⟨bl, ol, sl, rl⟩, bm, om, ⟨hnm, aom, capm, hvm, km⟩, rm⟩ := hin
  simp only [Value.slice.injEq] at hve hvm
  obtain ⟨rfl, hn3, rfl⟩ := hve
  obtain ⟨rfl, hn6, rfl⟩ := hvm
  unfold maxLen at hne hnm
  rw [← hn3] at hne ke
  rw [← hn6] at hnm km
  have hn0 : na0 = ns.length := by
    obtain ⟨b', o', ⟨_, ao, cap, h, _⟩, _⟩ := hns
    injection h
  have hn4 : na4 = bo.length := by obtain ⟨_, ao, cap, h, _⟩ := sb; injection h
  have hn5 : na5 = el.length := by obtain ⟨_, ao, cap, h, _⟩ := sl; injection h
  have hX : listsB hB' hE hA (cntB he hl hx ns.length) es bo el ar = (decide (na3 = cntB he hl hx na0) && ((hB' || decide (na4 = 0)) && ((hE || decide (na5 = 0)) && ((hA || decide (na6 = 0)) && decide (na6 ≤ 6))))) := by
    rw [hn0, hn3, hn4, hn5, hn6]; rfl
  have HN3 := Lib.hid hn3
  have HN6 := Lib.hid hn6
  have Ke := Lib.hid ke
  have Km := Lib.hid km
  have Re := Lib.hid re
  have Rm := Lib.hid rm
  have Sb := Lib.hid sb
  have Rb := Lib.hid rb
  have Sl := Lib.hid sl
  have Rl := Lib.hid rl
  have HX := Lib.hid hX
  have hd : ¬ ((m : Int) + 1 < 1) := by omega
  have em : (m : Int) + 1 - 1 = (m : Int) := by omega
  clear hn3 hn6 hn0 hn4 hn5 ke km re rm sb rb sl rl hX hns
  go_enter Tryz.func93, Tryz.ntmps93
  go_upto_region 1 with (fail)
  obtain ⟨W0, hW0⟩ : ∃ W0, W0 = w.alloc (.cells #[.int .u8 op, .string nm, .string sc, .slice pa0 na0 qa0, .int .u8 ty.kind, .string ty.name, .slice pa1 na1 qa1, .int .i64 iv, .string pl.name, .slice pa2 na2 qa2, .slice pa3 na3 qa3, .slice pa4 na4 qa4, .slice pa5 na5 qa5, .slice pa6 na6 qa6, .int .i64 ps] 92) := ⟨_, rfl⟩
  rw [← hW0]
  obtain ⟨G, hG⟩ : ∃ G, G = w.heap.size := ⟨_, rfl⟩
  have hz0 : G < W0.heap.size := by rw [hW0, hG]; simp
  have x0 : W0.cell? ⟨G, 0, none⟩ = some (.int .u8 op) := by rw [hW0, hG]; go_simp
  have x1 : W0.cell? ⟨G, 1, none⟩ = some (.string nm) := by rw [hW0, hG]; go_simp
  have x2 : W0.cell? ⟨G, 2, none⟩ = some (.string sc) := by rw [hW0, hG]; go_simp
  have x3 : W0.cell? ⟨G, 3, none⟩ = some (.slice pa0 na0 qa0) := by rw [hW0, hG]; go_simp
  have x4 : W0.cell? ⟨G, 4, none⟩ = some (.int .u8 ty.kind) := by rw [hW0, hG]; go_simp
  have x5 : W0.cell? ⟨G, 5, none⟩ = some (.string ty.name) := by rw [hW0, hG]; go_simp
  have x6 : W0.cell? ⟨G, 6, none⟩ = some (.slice pa1 na1 qa1) := by rw [hW0, hG]; go_simp
  have x7 : W0.cell? ⟨G, 7, none⟩ = some (.int .i64 iv) := by rw [hW0, hG]; go_simp
  have x8 : W0.cell? ⟨G, 8, none⟩ = some (.string pl.name) := by rw [hW0, hG]; go_simp
  have x9 : W0.cell? ⟨G, 9, none⟩ = some (.slice pa2 na2 qa2) := by rw [hW0, hG]; go_simp
  have x10 : W0.cell? ⟨G, 10, none⟩ = some (.slice pa3 na3 qa3) := by rw [hW0, hG]; go_simp
  have x11 : W0.cell? ⟨G, 11, none⟩ = some (.slice pa4 na4 qa4) := by rw [hW0, hG]; go_simp
  have x12 : W0.cell? ⟨G, 12, none⟩ = some (.slice pa5 na5 qa5) := by rw [hW0, hG]; go_simp
  have x13 : W0.cell? ⟨G, 13, none⟩ = some (.slice pa6 na6 qa6) := by rw [hW0, hG]; go_simp
  have x14 : W0.cell? ⟨G, 14, none⟩ = some (.int .i64 ps) := by rw [hW0, hG]; go_simp
  have BW : Below w.heap.size w W0 := by rw [hW0]; exact (Below.refl _ w).alloc (Nat.le_refl _) _
  have B0 := Lib.hid BW
  rw [← hG]
  clear hG hW0 BW
  go_wp2_with fail
  refine (hform.out _).mono ?_; rintro e W1 ⟨rfl, b1⟩
  replace x0 := (b1.cell (p := ⟨G, 0, none⟩) hz0).trans x0
  replace x1 := (b1.cell (p := ⟨G, 1, none⟩) hz0).trans x1
  replace x2 := (b1.cell (p := ⟨G, 2, none⟩) hz0).trans x2
  replace x3 := (b1.cell (p := ⟨G, 3, none⟩) hz0).trans x3
  replace x4 := (b1.cell (p := ⟨G, 4, none⟩) hz0).trans x4
  replace x5 := (b1.cell (p := ⟨G, 5, none⟩) hz0).trans x5
  replace x6 := (b1.cell (p := ⟨G, 6, none⟩) hz0).trans x6
  replace x7 := (b1.cell (p := ⟨G, 7, none⟩) hz0).trans x7
  replace x8 := (b1.cell (p := ⟨G, 8, none⟩) hz0).trans x8
  replace x9 := (b1.cell (p := ⟨G, 9, none⟩) hz0).trans x9
  replace x10 := (b1.cell (p := ⟨G, 10, none⟩) hz0).trans x10
  replace x11 := (b1.cell (p := ⟨G, 11, none⟩) hz0).trans x11
  replace x12 := (b1.cell (p := ⟨G, 12, none⟩) hz0).trans x12
  replace x13 := (b1.cell (p := ⟨G, 13, none⟩) hz0).trans x13
  replace x14 := (b1.cell (p := ⟨G, 14, none⟩) hz0).trans x14
  have hz1 := Nat.lt_of_lt_of_le hz0 b1.size
  have B1 := Lib.hid (B0.out.trans (b1.mono B0.out.size))
  clear b1 hform B0 hz0
  go_wp2_with fail
  refine (LB.out _ B1.out).mono ?_; rintro e W2 ⟨rfl, b2⟩
  replace x3 := (b2.cell (p := ⟨G, 3, none⟩) hz1).trans x3
  replace x10 := (b2.cell (p := ⟨G, 10, none⟩) hz1).trans x10
  replace x11 := (b2.cell (p := ⟨G, 11, none⟩) hz1).trans x11
  replace x12 := (b2.cell (p := ⟨G, 12, none⟩) hz1).trans x12
  replace x13 := (b2.cell (p := ⟨G, 13, none⟩) hz1).trans x13
  have hz0 := Nat.lt_of_lt_of_le hz1 b2.size
  have B0 := Lib.hid (B1.out.trans (b2.mono B1.out.size))
  have hB0 : B ≤ W2.heap.size := Nat.le_trans hB B0.out.size
  clear b2 LB B1 hz1 x0 x1 x2 x4 x5 x6 x7 x8 x9 x14
  cases lab
  · go_wp2_with fail
    go_ret
    exact ⟨ret_bool rfl, B0.out⟩
  · go_upto_region 5 with (fail)
    go_cut [31] from 10 to 31 (fun c wx => c = .bool (he || hl) ∧ wx = W2)
    case first =>
      clear x3 x10 x11 x12 x13
      cases he
      · cases hl
        · go_wp2_with (first | (go_at_call 90; (with_reducible refine (He.out _).mono ?_); rintro e v1 ⟨rfl, rfl⟩) | (go_at_call 90; (with_reducible refine (Hl.out _).mono ?_); rintro e v1 ⟨rfl, rfl⟩))
          go_meet
          case rel => exact ⟨rfl, rfl⟩
        · go_wp2_with (first | (go_at_call 90; (with_reducible refine (He.out _).mono ?_); rintro e v1 ⟨rfl, rfl⟩) | (go_at_call 90; (with_reducible refine (Hl.out _).mono ?_); rintro e v1 ⟨rfl, rfl⟩))
          go_meet
          case rel => exact ⟨rfl, rfl⟩
      · go_wp2_with (first | (go_at_call 90; (with_reducible refine (He.out _).mono ?_); rintro e v1 ⟨rfl, rfl⟩) | (go_at_call 90; (with_reducible refine (Hl.out _).mono ?_); rintro e v1 ⟨rfl, rfl⟩))
        go_meet
        case rel => exact ⟨rfl, rfl⟩
    case rest =>
      obtain ⟨rfl, rfl⟩ := hcut
      go_upto_if 31 with (fail)
      go_cut [6] from 31 to 36 (fun c wx => c = .int .i64 ((cntB he hl hx na0 : Nat) : Int) ∧ wx = wc)
      case first =>
        clear x10 x11 x12 x13
        cases hel : (he || hl)
        · cases hx
          · have hc : cntB he hl false na0 = 0 := by unfold cntB; rw [hel]; rfl
            have HC := Lib.hid hc
            clear hc hel
            go_wp2_with (first | (go_at_call 90; (with_reducible refine (Hx.out _).mono ?_); rintro e v1 ⟨rfl, rfl⟩))
            go_meet
            case rel => exact ⟨by rw [HC.out]; rfl, rfl⟩
          · have hc : cntB he hl true na0 = na0 := by unfold cntB; rw [hel]; rfl
            have HC := Lib.hid hc
            clear hc hel
            go_wp2_with (first | (go_at_call 90; (with_reducible refine (Hx.out _).mono ?_); rintro e v1 ⟨rfl, rfl⟩))
            go_meet
            case rel => exact ⟨by rw [HC.out], rfl⟩
        · have hc : cntB he hl hx na0 = 1 := by unfold cntB; rw [hel]; rfl
          have HC := Lib.hid hc
          clear hc hel
          go_wp2_with fail
          go_meet
          case rel => exact ⟨by rw [HC.out]; rfl, rfl⟩
      case rest =>
        obtain ⟨rfl, rfl⟩ := hcut
        obtain ⟨c, hc⟩ : ∃ c, c = cntB he hl hx na0 := ⟨_, rfl⟩
        rw [← hc]
        have HCN := Lib.hid hc
        clear hc x3 Hl Hx
        go_upto_region 9 with (fail)
        generalize wc = W3 at *
        go_cut [80] from 37 to 80 (fun c' wx => c' = .bool (!(decide (na3 = c) && ((hB' || decide (na4 = 0)) && ((hE || decide (na5 = 0)) && ((hA || decide (na6 = 0)) && decide (na6 ≤ 6)))))) ∧ wx = W3)
        case first =>
          by_cases h3 : na3 = c
          · subst h3
            have D3 := Lib.hid (show decide (na3 = na3) = true from decide_eq_true rfl)
            cases hB'
            · by_cases h4 : na4 = 0
              · subst h4
                cases hE
                · by_cases h5 : na5 = 0
                  · subst h5
                    cases hA
                    · by_cases h6 : na6 = 0
                      · subst h6
                        as_aux_lemma =>
                          go_wp2_with (first | (go_at_call 90; (with_reducible refine (HB.out _).mono ?_); rintro e v1 ⟨rfl, rfl⟩) | (go_at_call 90; (with_reducible refine (HE.out _).mono ?_); rintro e v1 ⟨rfl, rfl⟩) | (go_at_call 90; (with_reducible refine (HA.out _).mono ?_); rintro e v1 ⟨rfl, rfl⟩))
                          go_meet
                          case rel => exact ⟨congrArg Value.bool (by (repeat (first | rw [D3.out])); rfl), rfl⟩
                      · have D6 := Lib.hid (decide_eq_false h6)
                        have e6 : (0 : Int) < (na6 : Int) := by omega
                        have E6 := Lib.hid (decide_eq_true e6)
                        clear h6
                        as_aux_lemma =>
                          go_wp2_with (first | (go_at_call 90; (with_reducible refine (HB.out _).mono ?_); rintro e v1 ⟨rfl, rfl⟩) | (go_at_call 90; (with_reducible refine (HE.out _).mono ?_); rintro e v1 ⟨rfl, rfl⟩) | (go_at_call 90; (with_reducible refine (HA.out _).mono ?_); rintro e v1 ⟨rfl, rfl⟩))
                          go_meet
                          case rel => exact ⟨congrArg Value.bool (by (repeat (first | rw [D3.out] | rw [D6.out] | rw [E6.out])); rfl), rfl⟩
                    · by_cases h6 : na6 ≤ 6
                      · have D6 := Lib.hid (decide_eq_true h6)
                        have e6 : ¬ (6 : Int) < (na6 : Int) := by omega
                        have E6 := Lib.hid (decide_eq_false e6)
                        clear h6
                        as_aux_lemma =>
                          go_wp2_with (first | (go_at_call 90; (with_reducible refine (HB.out _).mono ?_); rintro e v1 ⟨rfl, rfl⟩) | (go_at_call 90; (with_reducible refine (HE.out _).mono ?_); rintro e v1 ⟨rfl, rfl⟩) | (go_at_call 90; (with_reducible refine (HA.out _).mono ?_); rintro e v1 ⟨rfl, rfl⟩))
                          go_meet
                          case rel => exact ⟨congrArg Value.bool (by (repeat (first | rw [D3.out] | rw [D6.out] | rw [E6.out])); rfl), rfl⟩
                      · have D6 := Lib.hid (decide_eq_false h6)
                        have e6 : (6 : Int) < (na6 : Int) := by omega
                        have E6 := Lib.hid (decide_eq_true e6)
                        clear h6
                        as_aux_lemma =>
                          go_wp2_with (first | (go_at_call 90; (with_reducible refine (HB.out _).mono ?_); rintro e v1 ⟨rfl, rfl⟩) | (go_at_call 90; (with_reducible refine (HE.out _).mono ?_); rintro e v1 ⟨rfl, rfl⟩) | (go_at_call 90; (with_reducible refine (HA.out _).mono ?_); rintro e v1 ⟨rfl, rfl⟩))
                          go_meet
                          case rel => exact ⟨congrArg Value.bool (by (repeat (first | rw [D3.out] | rw [D6.out] | rw [E6.out])); rfl), rfl⟩
                  · have D5 := Lib.hid (decide_eq_false h5)
                    have e5 : (0 : Int) < (na5 : Int) := by omega
                    have E5 := Lib.hid (decide_eq_true e5)
                    clear h5
                    as_aux_lemma =>
                      go_wp2_with (first | (go_at_call 90; (with_reducible refine (HB.out _).mono ?_); rintro e v1 ⟨rfl, rfl⟩) | (go_at_call 90; (with_reducible refine (HE.out _).mono ?_); rintro e v1 ⟨rfl, rfl⟩) | (go_at_call 90; (with_reducible refine (HA.out _).mono ?_); rintro e v1 ⟨rfl, rfl⟩))
                      go_meet
                      case rel => exact ⟨congrArg Value.bool (by (repeat (first | rw [D3.out] | rw [D5.out] | rw [E5.out])); rfl), rfl⟩
                · skip
                  cases hA
                  · by_cases h6 : na6 = 0
                    · subst h6
                      as_aux_lemma =>
                        go_wp2_with (first | (go_at_call 90; (with_reducible refine (HB.out _).mono ?_); rintro e v1 ⟨rfl, rfl⟩) | (go_at_call 90; (with_reducible refine (HE.out _).mono ?_); rintro e v1 ⟨rfl, rfl⟩) | (go_at_call 90; (with_reducible refine (HA.out _).mono ?_); rintro e v1 ⟨rfl, rfl⟩))
                        go_meet
                        case rel => exact ⟨congrArg Value.bool (by (repeat (first | rw [D3.out])); rfl), rfl⟩
                    · have D6 := Lib.hid (decide_eq_false h6)
                      have e6 : (0 : Int) < (na6 : Int) := by omega
                      have E6 := Lib.hid (decide_eq_true e6)
                      clear h6
                      as_aux_lemma =>
                        go_wp2_with (first | (go_at_call 90; (with_reducible refine (HB.out _).mono ?_); rintro e v1 ⟨rfl, rfl⟩) | (go_at_call 90; (with_reducible refine (HE.out _).mono ?_); rintro e v1 ⟨rfl, rfl⟩) | (go_at_call 90; (with_reducible refine (HA.out _).mono ?_); rintro e v1 ⟨rfl, rfl⟩))
                        go_meet
                        case rel => exact ⟨congrArg Value.bool (by (repeat (first | rw [D3.out] | rw [D6.out] | rw [E6.out])); rfl), rfl⟩
                  · by_cases h6 : na6 ≤ 6
                    · have D6 := Lib.hid (decide_eq_true h6)
                      have e6 : ¬ (6 : Int) < (na6 : Int) := by omega
                      have E6 := Lib.hid (decide_eq_false e6)
                      clear h6
                      as_aux_lemma =>
                        go_wp2_with (first | (go_at_call 90; (with_reducible refine (HB.out _).mono ?_); rintro e v1 ⟨rfl, rfl⟩) | (go_at_call 90; (with_reducible refine (HE.out _).mono ?_); rintro e v1 ⟨rfl, rfl⟩) | (go_at_call 90; (with_reducible refine (HA.out _).mono ?_); rintro e v1 ⟨rfl, rfl⟩))
                        go_meet
                        case rel => exact ⟨congrArg Value.bool (by (repeat (first | rw [D3.out] | rw [D6.out] | rw [E6.out])); rfl), rfl⟩
                    · have D6 := Lib.hid (decide_eq_false h6)
                      have e6 : (6 : Int) < (na6 : Int) := by omega
                      have E6 := Lib.hid (decide_eq_true e6)
                      clear h6
                      as_aux_lemma =>
                        go_wp2_with (first | (go_at_call 90; (with_reducible refine (HB.out _).mono ?_); rintro e v1 ⟨rfl, rfl⟩) | (go_at_call 90; (with_reducible refine (HE.out _).mono ?_); rintro e v1 ⟨rfl, rfl⟩) | (go_at_call 90; (with_reducible refine (HA.out _).mono ?_); rintro e v1 ⟨rfl, rfl⟩))
                        go_meet
                        case rel => exact ⟨congrArg Value.bool (by (repeat (first | rw [D3.out] | rw [D6.out] | rw [E6.out])); rfl), rfl⟩
              · have D4 := Lib.hid (decide_eq_false h4)
                have e4 : (0 : Int) < (na4 : Int) := by omega
                have E4 := Lib.hid (decide_eq_true e4)
                clear h4
                as_aux_lemma =>
                  go_wp2_with (first | (go_at_call 90; (with_reducible refine (HB.out _).mono ?_); rintro e v1 ⟨rfl, rfl⟩) | (go_at_call 90; (with_reducible refine (HE.out _).mono ?_); rintro e v1 ⟨rfl, rfl⟩) | (go_at_call 90; (with_reducible refine (HA.out _).mono ?_); rintro e v1 ⟨rfl, rfl⟩))
                  go_meet
                  case rel => exact ⟨congrArg Value.bool (by (repeat (first | rw [D3.out] | rw [D4.out] | rw [E4.out])); rfl), rfl⟩
            · skip
              cases hE
              · by_cases h5 : na5 = 0
                · subst h5
                  cases hA
                  · by_cases h6 : na6 = 0
                    · subst h6
                      as_aux_lemma =>
                        go_wp2_with (first | (go_at_call 90; (with_reducible refine (HB.out _).mono ?_); rintro e v1 ⟨rfl, rfl⟩) | (go_at_call 90; (with_reducible refine (HE.out _).mono ?_); rintro e v1 ⟨rfl, rfl⟩) | (go_at_call 90; (with_reducible refine (HA.out _).mono ?_); rintro e v1 ⟨rfl, rfl⟩))
                        go_meet
                        case rel => exact ⟨congrArg Value.bool (by (repeat (first | rw [D3.out])); rfl), rfl⟩
                    · have D6 := Lib.hid (decide_eq_false h6)
                      have e6 : (0 : Int) < (na6 : Int) := by omega
                      have E6 := Lib.hid (decide_eq_true e6)
                      clear h6
                      as_aux_lemma =>
                        go_wp2_with (first | (go_at_call 90; (with_reducible refine (HB.out _).mono ?_); rintro e v1 ⟨rfl, rfl⟩) | (go_at_call 90; (with_reducible refine (HE.out _).mono ?_); rintro e v1 ⟨rfl, rfl⟩) | (go_at_call 90; (with_reducible refine (HA.out _).mono ?_); rintro e v1 ⟨rfl, rfl⟩))
                        go_meet
                        case rel => exact ⟨congrArg Value.bool (by (repeat (first | rw [D3.out] | rw [D6.out] | rw [E6.out])); rfl), rfl⟩
                  · by_cases h6 : na6 ≤ 6
                    · have D6 := Lib.hid (decide_eq_true h6)
                      have e6 : ¬ (6 : Int) < (na6 : Int) := by omega
                      have E6 := Lib.hid (decide_eq_false e6)
                      clear h6
                      as_aux_lemma =>
                        go_wp2_with (first | (go_at_call 90; (with_reducible refine (HB.out _).mono ?_); rintro e v1 ⟨rfl, rfl⟩) | (go_at_call 90; (with_reducible refine (HE.out _).mono ?_); rintro e v1 ⟨rfl, rfl⟩) | (go_at_call 90; (with_reducible refine (HA.out _).mono ?_); rintro e v1 ⟨rfl, rfl⟩))
                        go_meet
                        case rel => exact ⟨congrArg Value.bool (by (repeat (first | rw [D3.out] | rw [D6.out] | rw [E6.out])); rfl), rfl⟩
                    · have D6 := Lib.hid (decide_eq_false h6)
                      have e6 : (6 : Int) < (na6 : Int) := by omega
                      have E6 := Lib.hid (decide_eq_true e6)
                      clear h6
                      as_aux_lemma =>
                        go_wp2_with (first | (go_at_call 90; (with_reducible refine (HB.out _).mono ?_); rintro e v1 ⟨rfl, rfl⟩) | (go_at_call 90; (with_reducible refine (HE.out _).mono ?_); rintro e v1 ⟨rfl, rfl⟩) | (go_at_call 90; (with_reducible refine (HA.out _).mono ?_); rintro e v1 ⟨rfl, rfl⟩))
                        go_meet
                        case rel => exact ⟨congrArg Value.bool (by (repeat (first | rw [D3.out] | rw [D6.out] | rw [E6.out])); rfl), rfl⟩
                · have D5 := Lib.hid (decide_eq_false h5)
                  have e5 : (0 : Int) < (na5 : Int) := by omega
                  have E5 := Lib.hid (decide_eq_true e5)
                  clear h5
                  as_aux_lemma =>
                    go_wp2_with (first | (go_at_call 90; (with_reducible refine (HB.out _).mono ?_); rintro e v1 ⟨rfl, rfl⟩) | (go_at_call 90; (with_reducible refine (HE.out _).mono ?_); rintro e v1 ⟨rfl, rfl⟩) | (go_at_call 90; (with_reducible refine (HA.out _).mono ?_); rintro e v1 ⟨rfl, rfl⟩))
                    go_meet
                    case rel => exact ⟨congrArg Value.bool (by (repeat (first | rw [D3.out] | rw [D5.out] | rw [E5.out])); rfl), rfl⟩
              · skip
                cases hA
                · by_cases h6 : na6 = 0
                  · subst h6
                    as_aux_lemma =>
                      go_wp2_with (first | (go_at_call 90; (with_reducible refine (HB.out _).mono ?_); rintro e v1 ⟨rfl, rfl⟩) | (go_at_call 90; (with_reducible refine (HE.out _).mono ?_); rintro e v1 ⟨rfl, rfl⟩) | (go_at_call 90; (with_reducible refine (HA.out _).mono ?_); rintro e v1 ⟨rfl, rfl⟩))
                      go_meet
                      case rel => exact ⟨congrArg Value.bool (by (repeat (first | rw [D3.out])); rfl), rfl⟩
                  · have D6 := Lib.hid (decide_eq_false h6)
                    have e6 : (0 : Int) < (na6 : Int) := by omega
                    have E6 := Lib.hid (decide_eq_true e6)
                    clear h6
                    as_aux_lemma =>
                      go_wp2_with (first | (go_at_call 90; (with_reducible refine (HB.out _).mono ?_); rintro e v1 ⟨rfl, rfl⟩) | (go_at_call 90; (with_reducible refine (HE.out _).mono ?_); rintro e v1 ⟨rfl, rfl⟩) | (go_at_call 90; (with_reducible refine (HA.out _).mono ?_); rintro e v1 ⟨rfl, rfl⟩))
                      go_meet
                      case rel => exact ⟨congrArg Value.bool (by (repeat (first | rw [D3.out] | rw [D6.out] | rw [E6.out])); rfl), rfl⟩
                · by_cases h6 : na6 ≤ 6
                  · have D6 := Lib.hid (decide_eq_true h6)
                    have e6 : ¬ (6 : Int) < (na6 : Int) := by omega
                    have E6 := Lib.hid (decide_eq_false e6)
                    clear h6
                    as_aux_lemma =>
                      go_wp2_with (first | (go_at_call 90; (with_reducible refine (HB.out _).mono ?_); rintro e v1 ⟨rfl, rfl⟩) | (go_at_call 90; (with_reducible refine (HE.out _).mono ?_); rintro e v1 ⟨rfl, rfl⟩) | (go_at_call 90; (with_reducible refine (HA.out _).mono ?_); rintro e v1 ⟨rfl, rfl⟩))
                      go_meet
                      case rel => exact ⟨congrArg Value.bool (by (repeat (first | rw [D3.out] | rw [D6.out] | rw [E6.out])); rfl), rfl⟩
                  · have D6 := Lib.hid (decide_eq_false h6)
                    have e6 : (6 : Int) < (na6 : Int) := by omega
                    have E6 := Lib.hid (decide_eq_true e6)
                    clear h6
                    as_aux_lemma =>
                      go_wp2_with (first | (go_at_call 90; (with_reducible refine (HB.out _).mono ?_); rintro e v1 ⟨rfl, rfl⟩) | (go_at_call 90; (with_reducible refine (HE.out _).mono ?_); rintro e v1 ⟨rfl, rfl⟩) | (go_at_call 90; (with_reducible refine (HA.out _).mono ?_); rintro e v1 ⟨rfl, rfl⟩))
                      go_meet
                      case rel => exact ⟨congrArg Value.bool (by (repeat (first | rw [D3.out] | rw [D6.out] | rw [E6.out])); rfl), rfl⟩
          · have D3 := Lib.hid (decide_eq_false h3)
            have e3 : ((na3 : Int) == (c : Int)) = false := is_no' (by omega)
            have e3' : ((na3 : Int) != (c : Int)) = true := by rw [bne, e3]; rfl
            clear h3
            as_aux_lemma =>
              go_wp2_with (first | (go_at_call 90; (with_reducible refine (HB.out _).mono ?_); rintro e v1 ⟨rfl, rfl⟩) | (go_at_call 90; (with_reducible refine (HE.out _).mono ?_); rintro e v1 ⟨rfl, rfl⟩) | (go_at_call 90; (with_reducible refine (HA.out _).mono ?_); rintro e v1 ⟨rfl, rfl⟩))
              go_meet
              case rel => exact ⟨congrArg Value.bool (by (repeat (first | rw [D3.out])); rfl), rfl⟩
        case rest =>
          obtain ⟨rfl, rfl⟩ := hcut
          generalize hcnd : (decide (na3 = c) && ((hB' || decide (na4 = 0)) && ((hE || decide (na5 = 0)) && ((hA || decide (na6 = 0)) && decide (na6 ≤ 6))))) = cnd
          have HC9 := Lib.hid hcnd
          clear hcnd
          clear HB HE HA
          cases cnd
          · go_wp2_with fail
            go_ret
            exact ⟨ret_bool (by rw [HX.out, ← HCN.out, HC9.out]; rfl), B0.out⟩
          · generalize wc = W4 at *
            go_wp2_with fail
            go_loopw [7] (fun i wr => ∃ k : Nat, k ≤ na3 ∧ i = .int .i64 k ∧ Hid (Below W4.heap.size W4 wr) ∧ Hid (∀ (j : Nat) x, j < k → es[j]? = some x → okArg he m x = true))
              (fun i _ => na3 - (intOf i).toNat)
            case atStart => exact ⟨0, by omega, rfl, Lib.hid (Below.refl _ _), Lib.hid fun j x hj => by omega⟩
            case round =>
              obtain ⟨k, hk, rfl, Hw, HK⟩ := hrel
              have hsw := Hw.out.size
              have hzr : G < wr.heap.size := Nat.lt_of_lt_of_le hz0 hsw
              have y10 := (Hw.out.cell (p := ⟨G, 10, none⟩) hz0).trans x10
              have BR : Hid (Below w.heap.size w wr) := Lib.hid (B0.out.trans (Hw.out.mono B0.out.size))
              have hBr : B ≤ wr.heap.size := Nat.le_trans hB0 hsw
              by_cases hlt : k < na3
              · obtain ⟨a, ha, hin⟩ := get_at (l := es) (k := k) (by rw [← HN3.out]; exact hlt)
                obtain ⟨rfl, hb1⟩ := Ke.out.resolve_left (by omega)
                obtain ⟨va, ca, ia⟩ := PE.Row.get (PE.Row.below (BR.out.mono hB) hb1 Re.out) ha
                obtain ⟨pb0, nb0, qb0, pb1, nb1, qb1, rfl⟩ := ia.shape
                obtain ⟨opa, iva, nma, sca, pla, esa, ata⟩ := a
                have g1 : be < wr.heap.size := by omega
                have c0 : wr.cell? ⟨be, oe + k * 8, none⟩ = some (.int .u8 opa) := ca 0 _ rfl
                have c1 : wr.cell? ⟨be, oe + k * 8 + 1, none⟩ = some (.int .i64 iva) := ca 1 _ rfl
                have c2 : wr.cell? ⟨be, oe + k * 8 + 2, none⟩ = some (.string nma) := ca 2 _ rfl
                have c3 : wr.cell? ⟨be, oe + k * 8 + 3, none⟩ = some (.string sca) := ca 3 _ rfl
                have c4 : wr.cell? ⟨be, oe + k * 8 + 4, none⟩ = some (.string pla.name) := ca 4 _ rfl
                have c5 : wr.cell? ⟨be, oe + k * 8 + 5, none⟩ = some (.slice pb0 nb0 qb0) := ca 5 _ rfl
                have c6 : wr.cell? ⟨be, oe + k * 8 + 6, none⟩ = some (.slice pb1 nb1 qb1) := ca 6 _ rfl
                have c7 : wr.cell? ⟨be, oe + k * 8 + 7, none⟩ = some (.int .i64 ata) := ca 7 _ rfl
                have CL := Lib.hid (refLent_calls opa iva nma sca pla esa ata pb0 nb0 qb0 pb1 nb1 qb1 wr)
                have CE : Hid (∀ w', Below wr.heap.size wr w' → Calls Tryz.prog 59 #[.agg #[.int .u8 opa, .int .i64 iva, .string nma, .string sca, .string pla.name, .slice pb0 nb0 qb0, .slice pb1 nb1 qb1, .int .i64 ata], .int .i64 (m : Int)] w' fun e w'' => e = .returned (.bool (rE m (.mk opa iva nma sca pla esa ata))) ∧ Below w'.heap.size w' w'') :=
                  Lib.hid fun w' hw => refWE_calls m hm B (.mk opa iva nma sca pla esa ata) ⟨.slice pb0 nb0 qb0, .slice pb1 nb1 qb1⟩ w' (Nat.le_trans hBr hw.size) (PE.In.below (hw.mono hBr) ia)
                have Ha := Lib.hid ha
                generalize hq : lentB (.mk opa iva nma sca pla esa ata) = q at CL
                generalize hr : rE m (.mk opa iva nma sca pla esa ata) = r at CE
                have Hq := Lib.hid hq
                have Hr2 := Lib.hid hr
                clear ha hin ca ia hq hr
                go_wp2_with fail
                refine CL.out.mono ?_; rintro e wl ⟨rfl, bl⟩
                have hcl := old_cells bl
                have hzl : G < wl.heap.size := Nat.lt_of_lt_of_le hzr bl.size
                have bell := Lib.hid (BR.out.trans (bl.mono BR.out.size))
                have Hl2 := Lib.hid (Hw.out.trans (bl.mono hsw))
                have Bl := Lib.hid bl
                have y10' := (bl.cell (p := ⟨G, 10, none⟩) hzr).trans y10
                have gl : be < wl.heap.size := Nat.lt_of_lt_of_le g1 bl.size
                replace c0 := (hcl _ _ g1).trans c0
                replace c1 := (hcl _ _ g1).trans c1
                replace c2 := (hcl _ _ g1).trans c2
                replace c3 := (hcl _ _ g1).trans c3
                replace c4 := (hcl _ _ g1).trans c4
                replace c5 := (hcl _ _ g1).trans c5
                replace c6 := (hcl _ _ g1).trans c6
                replace c7 := (hcl _ _ g1).trans c7
                clear bl CL hcl y10
                by_cases hqe : (q && he) = true
                · obtain ⟨rfl, rfl⟩ : q = true ∧ he = true := by simpa using hqe
                  have hres := Lib.hid (all_not2 (p := okArg true m) Ha.out (by unfold okArg; rw [Hq.out]; rfl))
                  clear hqe
                  go_wp2_with (go_at_call 90; (with_reducible refine (He.out _).mono ?_); rintro e v1 ⟨rfl, rfl⟩)
                  go_ret
                  exact ⟨ret_bool (by rw [hres.out, HX.out, ← HCN.out, HC9.out]; rfl), bell.out⟩
                · have hok : ∀ r', r' = rE m (.mk opa iva nma sca pla esa ata) → okArg he m (.mk opa iva nma sca pla esa ata) = r' := fun r' h => by
                    unfold okArg; rw [Hq.out, ← h]
                    cases q
                    · rfl
                    · cases he
                      · rfl
                      · exact absurd rfl hqe
                  have Hok := Lib.hid (hok r Hr2.out.symm)
                  have hkeep : Hid (∀ W2, Below wl.heap.size wl W2 → W2.cell? ⟨G, 10, none⟩ = some (.slice (some ⟨be, oe, none⟩) na3 qa3)) := Lib.hid fun W2 h => (h.cell (p := ⟨G, 10, none⟩) hzl).trans y10'
                  clear hok
                  have hqd : q = false ∨ (q = true ∧ he = false) := by
                    cases q
                    · exact .inl rfl
                    · cases he
                      · exact .inr ⟨rfl, rfl⟩
                      · exact absurd rfl hqe
                  clear hqe
                  cases r
                  · have hres := Lib.hid (all_not2 (p := okArg he m) Ha.out Hok.out)
                    rcases hqd with rfl | ⟨rfl, rfl⟩
                    · go_wp2_with (go_at_call 90; (with_reducible refine (He.out _).mono ?_); rintro e v1 ⟨rfl, rfl⟩)
                      refine (CE.out _ Bl.out).mono ?_; rintro e wx ⟨rfl, bx⟩
                      have belx := Lib.hid (bell.out.trans (bx.mono bell.out.size))
                      clear bx
                      go_wp2_with fail
                      go_ret
                      exact ⟨ret_bool (by rw [hres.out, HX.out, ← HCN.out, HC9.out]; rfl), belx.out⟩
                    · go_wp2_with (go_at_call 90; (with_reducible refine (He.out _).mono ?_); rintro e v1 ⟨rfl, rfl⟩)
                      refine (CE.out _ Bl.out).mono ?_; rintro e wx ⟨rfl, bx⟩
                      have belx := Lib.hid (bell.out.trans (bx.mono bell.out.size))
                      clear bx
                      go_wp2_with fail
                      go_ret
                      exact ⟨ret_bool (by rw [hres.out, HX.out, ← HCN.out, HC9.out]; rfl), belx.out⟩
                  · have HK2 : Hid (∀ (j : Nat) x, j < k + 1 → es[j]? = some x → okArg he m x = true) := Lib.hid fun j x hj hx => by
                      by_cases e : j = k
                      · subst e
                        rw [Ha.out] at hx
                        cases hx
                        exact Hok.out
                      · exact HK.out j x (by omega) hx
                    rcases hqd with rfl | ⟨rfl, rfl⟩
                    · go_wp2_with (go_at_call 90; (with_reducible refine (He.out _).mono ?_); rintro e v1 ⟨rfl, rfl⟩)
                      refine (CE.out _ Bl.out).mono ?_; rintro e wx ⟨rfl, bx⟩
                      have Hx2 := Lib.hid (Hl2.out.trans (bx.mono Hl2.out.size))
                      clear bx
                      go_wp2_with fail
                      go_roundw
                      case rel => (repeat apply Exists.intro); exact ⟨⟨k + 1, by omega, by go_num, Hx2, HK2⟩, rfl⟩
                      case measure => simp [intOf]; omega
                    · go_wp2_with (go_at_call 90; (with_reducible refine (He.out _).mono ?_); rintro e v1 ⟨rfl, rfl⟩)
                      refine (CE.out _ Bl.out).mono ?_; rintro e wx ⟨rfl, bx⟩
                      have Hx2 := Lib.hid (Hl2.out.trans (bx.mono Hl2.out.size))
                      clear bx
                      go_wp2_with fail
                      go_roundw
                      case rel => (repeat apply Exists.intro); exact ⟨⟨k + 1, by omega, by go_num, Hx2, HK2⟩, rfl⟩
                      case measure => simp [intOf]; omega
              · obtain rfl : k = na3 := by omega
                have hall := Lib.hid (all_yes2 (p := okArg he m) (l := es) fun j x hx => HK.out j x (by rw [HN3.out]; exact (List.getElem?_eq_some_iff.1 hx).1) hx)
                have z11 := (Hw.out.cell (p := ⟨G, 11, none⟩) hz0).trans x11
                have z12 := (Hw.out.cell (p := ⟨G, 12, none⟩) hz0).trans x12
                have z13 := (Hw.out.cell (p := ⟨G, 13, none⟩) hz0).trans x13
                clear HK Hw Ke Re He x10 x11 x12 x13 hz0 hB0 B0 hsw
                generalize wr = W5 at *
                go_wp2_with fail
                go_loopw [8] (fun i wr => ∃ k2 : Nat, k2 ≤ na6 ∧ i = .int .i64 k2 ∧ Hid (Below W5.heap.size W5 wr) ∧ Hid (∀ (j : Nat) x, j < k2 → ar[j]? = some x → okArm m x = true))
                  (fun i _ => na6 - (intOf i).toNat)
                case atStart => exact ⟨0, by omega, rfl, Lib.hid (Below.refl _ _), Lib.hid fun j x hj => by omega⟩
                case round =>
                  clear y10
                  obtain ⟨k2, hk2, rfl, Hw, HK⟩ := hrel
                  have hsw := Hw.out.size
                  have hzs : G < wr.heap.size := Nat.lt_of_lt_of_le hzr hsw
                  have y13 := (Hw.out.cell (p := ⟨G, 13, none⟩) hzr).trans z13
                  have BS : Hid (Below w.heap.size w wr) := Lib.hid (BR.out.trans (Hw.out.mono BR.out.size))
                  have hBs : B ≤ wr.heap.size := Nat.le_trans hBr hsw
                  by_cases hlt2 : k2 < na6
                  · obtain ⟨a, ha, hin⟩ := get_at (l := ar) (k := k2) (by rw [← HN6.out]; exact hlt2)
                    obtain ⟨rfl, hbm⟩ := Km.out.resolve_left (by omega)
                    have g2 : bm < wr.heap.size := by omega
                    obtain ⟨vm, cm, im⟩ := PA.Row.get (PA.Row.below (BS.out.mono hB) (fun _ => hbm) Rm.out) ha
                    obtain ⟨p7, n7, q7, rfl⟩ := im.shape
                    obtain ⟨xv, xn, xbo⟩ := a
                    have c0 : wr.cell? ⟨bm, om + k2 * 3, none⟩ = some (.string xv) := cm 0 _ rfl
                    have c1 : wr.cell? ⟨bm, om + k2 * 3 + 1, none⟩ = some (.string xn) := cm 1 _ rfl
                    have c2 : wr.cell? ⟨bm, om + k2 * 3 + 2, none⟩ = some (.slice p7 n7 q7) := cm 2 _ rfl
                    obtain ⟨⟨hxv, hxn⟩, b7, o7, s7, r7⟩ := im
                    have CT : Hid (∀ W, Calls Tryz.prog 53 #[.string xv] W fun e w' => e = .returned (.bool (tyB xv)) ∧ Below W.heap.size W w') := Lib.hid fun W => refType_calls xv hxv W
                    have CN : Hid (∀ W, Calls Tryz.prog 56 #[.string xn] W fun e w' => e = .returned (.bool (nmB xn)) ∧ Below W.heap.size W w') := Lib.hid fun W => refName_calls xn hxn W
                    have CS : Hid (∀ W, Below wr.heap.size wr W → Calls Tryz.prog 60 #[.slice p7 n7 q7, .int .i64 (m : Int)] W fun e w' => e = .returned (.bool (xbo.all (rS m))) ∧ Below W.heap.size W w') := Lib.hid fun W h => ihL B xbo _ b7 o7 W (Nat.le_trans hBs h.size) s7 (PS.Row.below' (h.mono hBs) s7 r7)
                    have Ha := Lib.hid ha
                    have hok : okArm m (.mk xv xn xbo) = (tyB xv && ((noB xn || nmB xn) && xbo.all (rS m))) := rfl
                    have o2 := is_noB xn
                    generalize hq1 : tyB xv = q1 at CT
                    generalize hq2 : nmB xn = q2 at CN
                    generalize hq3 : noB xn = q3 at o2
                    generalize hq4 : xbo.all (rS m) = q4 at CS
                    rw [hq1, hq2, hq3, hq4] at hok
                    have Hok := Lib.hid hok
                    clear ha hin cm s7 r7 hok hq1 hq2 hq3 hq4 hxv hxn
                    go_upto_region 20 with (fail)
                    obtain ⟨wz, hwz⟩ : ∃ wz, wz = wr.alloc (.cells #[.string xv, .string xn, .slice p7 n7 q7] 96) := ⟨_, rfl⟩
                    rw [← hwz]
                    obtain ⟨S, hS⟩ : ∃ S, S = wr.heap.size := ⟨_, rfl⟩
                    have d0 : wz.cell? ⟨S, 0, none⟩ = some (.string xv) := by rw [hwz, hS]; go_simp
                    have d1 : wz.cell? ⟨S, 1, none⟩ = some (.string xn) := by rw [hwz, hS]; go_simp
                    have d2 : wz.cell? ⟨S, 2, none⟩ = some (.slice p7 n7 q7) := by rw [hwz, hS]; go_simp
                    have hzS : S < wz.heap.size := by rw [hwz, hS]; simp
                    have bz : Below wr.heap.size wr wz := by rw [hwz]; exact (Below.refl _ wr).alloc (Nat.le_refl _) _
                    have Bz := Lib.hid bz
                    have Zw := Lib.hid (Hw.out.trans (bz.mono hsw))
                    have Zb := Lib.hid (BS.out.trans (bz.mono BS.out.size))
                    rw [← hS]
                    clear hS hwz bz c0 c1 c2 y13
                    rcases arm_cases q1 q3 q2 with rfl | ⟨rfl, rfl⟩ | ⟨rfl, rfl, rfl⟩ | ⟨rfl, rfl, rfl⟩
                    · have hres := Lib.hid (all_not2 (p := okArm m) Ha.out Hok.out)
                      go_wp2_with fail
                      refine (CT.out _).mono ?_; rintro e u1 ⟨rfl, c1⟩
                      have BU := Lib.hid (Zb.out.trans (c1.mono Zb.out.size))
                      clear c1
                      go_wp2_with fail
                      go_ret
                      exact ⟨ret_bool (by rw [hres.out, hall.out, HX.out, ← HCN.out, HC9.out]; rfl), BU.out⟩
                    · go_wp2_with fail
                      refine (CT.out _).mono ?_; rintro e u1 ⟨rfl, c1⟩
                      have e1 := (c1.cell (p := ⟨S, 1, none⟩) hzS).trans d1
                      have e2 := (c1.cell (p := ⟨S, 2, none⟩) hzS).trans d2
                      have hzU := Nat.lt_of_lt_of_le hzS c1.size
                      have BU := Lib.hid (Zb.out.trans (c1.mono Zb.out.size))
                      have ZU := Lib.hid (Zw.out.trans (c1.mono Zw.out.size))
                      have CS2 := Lib.hid (CS.out u1 (Bz.out.trans (c1.mono Bz.out.size)))
                      clear c1 d0 d1 d2
                      go_wp2_with fail
                      refine (CS2.out).mono ?_; rintro e u2 ⟨rfl, c2⟩
                      have BV := Lib.hid (BU.out.trans (c2.mono BU.out.size))
                      have ZV := Lib.hid (ZU.out.trans (c2.mono ZU.out.size))
                      clear c2
                      cases q4
                      · have hres := Lib.hid (all_not2 (p := okArm m) Ha.out Hok.out)
                        go_wp2_with fail
                        go_ret
                        exact ⟨ret_bool (by rw [hres.out, hall.out, HX.out, ← HCN.out, HC9.out]; rfl), BV.out⟩
                      · have HK2 : Hid (∀ (j : Nat) x, j < k2 + 1 → ar[j]? = some x → okArm m x = true) := Lib.hid fun j x hj hx => by
                          by_cases e : j = k2
                          · subst e
                            rw [Ha.out] at hx
                            cases hx
                            exact Hok.out
                          · exact HK.out j x (by omega) hx
                        go_wp2_with fail
                        go_roundw
                        case rel => (repeat apply Exists.intro); exact ⟨⟨k2 + 1, by omega, by go_num, ZV, HK2⟩, rfl⟩
                        case measure => simp [intOf]; omega
                    · go_wp2_with fail
                      refine (CT.out _).mono ?_; rintro e u1 ⟨rfl, c1⟩
                      have e1 := (c1.cell (p := ⟨S, 1, none⟩) hzS).trans d1
                      have e2 := (c1.cell (p := ⟨S, 2, none⟩) hzS).trans d2
                      have hzU := Nat.lt_of_lt_of_le hzS c1.size
                      have BU := Lib.hid (Zb.out.trans (c1.mono Zb.out.size))
                      have ZU := Lib.hid (Zw.out.trans (c1.mono Zw.out.size))
                      have BB := Lib.hid (Bz.out.trans (c1.mono Bz.out.size))
                      clear c1 d0 d1 d2
                      go_wp2_with fail
                      refine (CN.out _).mono ?_; rintro e u2 ⟨rfl, c2⟩
                      have f2 := (c2.cell (p := ⟨S, 2, none⟩) hzU).trans e2
                      have hzV := Nat.lt_of_lt_of_le hzU c2.size
                      have BV := Lib.hid (BU.out.trans (c2.mono BU.out.size))
                      have ZV := Lib.hid (ZU.out.trans (c2.mono ZU.out.size))
                      have CS2 := Lib.hid (CS.out u2 (BB.out.trans (c2.mono BB.out.size)))
                      clear c2 e1 e2
                      go_wp2_with fail
                      refine (CS2.out).mono ?_; rintro e u3 ⟨rfl, c3⟩
                      have BV3 := Lib.hid (BV.out.trans (c3.mono BV.out.size))
                      have ZV3 := Lib.hid (ZV.out.trans (c3.mono ZV.out.size))
                      clear c3
                      cases q4
                      · have hres := Lib.hid (all_not2 (p := okArm m) Ha.out Hok.out)
                        go_wp2_with fail
                        go_ret
                        exact ⟨ret_bool (by rw [hres.out, hall.out, HX.out, ← HCN.out, HC9.out]; rfl), BV3.out⟩
                      · have HK2 : Hid (∀ (j : Nat) x, j < k2 + 1 → ar[j]? = some x → okArm m x = true) := Lib.hid fun j x hj hx => by
                          by_cases e : j = k2
                          · subst e
                            rw [Ha.out] at hx
                            cases hx
                            exact Hok.out
                          · exact HK.out j x (by omega) hx
                        go_wp2_with fail
                        go_roundw
                        case rel => (repeat apply Exists.intro); exact ⟨⟨k2 + 1, by omega, by go_num, ZV3, HK2⟩, rfl⟩
                        case measure => simp [intOf]; omega
                    · have hres := Lib.hid (all_not2 (p := okArm m) Ha.out Hok.out)
                      go_wp2_with fail
                      refine (CT.out _).mono ?_; rintro e u1 ⟨rfl, c1⟩
                      have e1 := (c1.cell (p := ⟨S, 1, none⟩) hzS).trans d1
                      have hzU := Nat.lt_of_lt_of_le hzS c1.size
                      have BU := Lib.hid (Zb.out.trans (c1.mono Zb.out.size))
                      clear c1 d0 d1 d2
                      go_wp2_with fail
                      refine (CN.out _).mono ?_; rintro e u2 ⟨rfl, c2⟩
                      have BV := Lib.hid (BU.out.trans (c2.mono BU.out.size))
                      clear c2
                      go_wp2_with fail
                      go_ret
                      exact ⟨ret_bool (by rw [hres.out, hall.out, HX.out, ← HCN.out, HC9.out]; rfl), BV.out⟩
                  · obtain rfl : k2 = na6 := by omega
                    have hall2 := Lib.hid (all_yes2 (p := okArm m) (l := ar) fun j x hx => HK.out j x (by rw [HN6.out]; exact (List.getElem?_eq_some_iff.1 hx).1) hx)
                    have y11 := (Hw.out.cell (p := ⟨G, 11, none⟩) hzr).trans z11
                    have y12 := (Hw.out.cell (p := ⟨G, 12, none⟩) hzr).trans z12
                    have CB := Lib.hid (ihL B bo _ bb ob wr hBs Sb.out (PS.Row.below' (BS.out.mono hB) Sb.out Rb.out))
                    have CL : Hid (∀ W, Below wr.heap.size wr W → Calls Tryz.prog 60 #[.slice pa5 na5 qa5, .int .i64 (m : Int)] W fun e w' => e = .returned (.bool (el.all (rS m))) ∧ Below W.heap.size W w') := Lib.hid fun W h => ihL B el _ bl ol W (Nat.le_trans hBs h.size) Sl.out (PS.Row.below' ((BS.out.trans (h.mono BS.out.size)).mono hB) Sl.out Rl.out)
                    generalize hq1 : bo.all (rS m) = q1 at CB
                    generalize hq2 : el.all (rS m) = q2 at CL
                    have Hq1 := Lib.hid hq1
                    have Hq2 := Lib.hid hq2
                    clear hq1 hq2 z11 z12 z13 HK Km Rm Sb Rb Sl Rl ihL
                    go_wp2_with fail
                    refine (CB.out).mono ?_; rintro e u1 ⟨rfl, c1⟩
                    have f12 := (c1.cell (p := ⟨G, 12, none⟩) hzs).trans y12
                    have hzU := Nat.lt_of_lt_of_le hzs c1.size
                    have BU := Lib.hid (BS.out.trans (c1.mono BS.out.size))
                    have CL2 := Lib.hid (CL.out u1 c1)
                    clear c1 CB y11 y12 y13
                    cases q1
                    · go_wp2_with fail
                      go_ret
                      exact ⟨ret_bool (by rw [hall.out, hall2.out, Hq1.out, HX.out, ← HCN.out, HC9.out]; rfl), BU.out⟩
                    · go_wp2_with fail
                      refine (CL2.out).mono ?_; rintro e u2 ⟨rfl, c2⟩
                      have BV := Lib.hid (BU.out.trans (c2.mono BU.out.size))
                      clear c2
                      go_wp2_with fail
                      go_ret
                      exact ⟨ret_bool (by rw [hall.out, hall2.out, Hq1.out, Hq2.out, HX.out, ← HCN.out, HC9.out]; simp), BV.out⟩
end Go.Proofs.YtojeijeimpffgaaGreat

