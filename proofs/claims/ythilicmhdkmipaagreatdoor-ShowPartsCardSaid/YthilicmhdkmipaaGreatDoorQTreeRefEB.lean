/- The document's own way of saying what is whole: expressions whose operator has one of some forms (first: p0) (made by gen_refWE.py). -/
import Derived.Test.YthilicmhdkmipaaGreatDoorQJoinAH
namespace Go.Proofs.YthilicmhdkmipaaGreatDoor
open Go.RowKit
set_option linter.unusedVariables false

set_option maxRecDepth 100000 in
set_option maxHeartbeats 8000000 in
theorem refExpr_p0 (m : Nat) (hm : m ≤ 1000) (ih : RefWEAt m) (B : Nat) (op iv : Int) (nm sc : ByteArray) (pl : PP) (es : List PE) (ps : Int) (p0 : Option Addr) (n0 q0 : Nat) (p1 : Option Addr) (n1 q1 : Nat) (w : World) (hB : B ≤ w.heap.size)
    (he : PE.In B w (.mk op iv nm sc pl es ps) ⟨.slice p0 n0 q0, .slice p1 n1 q1⟩) (h18 : (op == 18) = false)
    (hform : Hid (∀ w, Calls Tryz.prog 53 #[.int .u8 op] w fun e w' => e = .returned (.string ⟨#[112, 48]⟩) ∧ Below w.heap.size w w')) :
    Calls Tryz.prog 21 #[.agg #[.int .u8 op, .int .i64 iv, .string nm, .string sc, .string pl.name, .slice p0 n0 q0, .slice p1 n1 q1, .int .i64 ps], .int .i64 ((m : Int) + 1)] w fun r w' => r = .returned (.bool (rShF [112, 48] (.mk op iv nm sc pl es ps) && es.all (fun a => (!lentB a || false) && rE m a))) ∧ Below w.heap.size w w' := by
  have Hm : Hid (∀ (n : Nat) w, Calls Tryz.prog 54 #[.string ⟨#[112, 48]⟩, .int .i64 n] w fun e w' => e = .returned (.bool (manyL [112, 48] n)) ∧ w = w') := Lib.hid fun n w => many_p0 n w
  have Hh : Hid (∀ c w, Calls Tryz.prog 55 #[.string ⟨#[112, 48]⟩, .int .u8 c] w fun e w' => e = .returned (.bool (hasB ⟨#[112, 48]⟩ c)) ∧ w = w') := Lib.hid fun c w => refHas_calls ⟨#[112, 48]⟩ (by decide) c w
  have ei : hasB ⟨#[112, 48]⟩ 105 = false := by decide
  have eb : hasB ⟨#[112, 48]⟩ 98 = false := by decide
  have ep : hasB ⟨#[112, 48]⟩ 112 = true := by decide
  have ef : hasB ⟨#[112, 48]⟩ 102 = false := by decide
  have en : hasB ⟨#[112, 48]⟩ 110 = false := by decide
  have et : hasB ⟨#[112, 48]⟩ 116 = false := by decide
  have ev : hasB ⟨#[112, 48]⟩ 118 = false := by decide
  have Ie := Lib.hid he
  obtain ⟨⟨_, _, _, hz1, hz2⟩, hpl, b1, o1, ⟨m1, ao, cap, hv, h1⟩, r1⟩ := he
  injection hv with a1 a2 a3
  subst a1 a2 a3
  unfold maxLen at m1
  have CP : Hid (∀ w', Below w.heap.size w w' → Calls Tryz.prog 23 #[.agg #[.string pl.name, .slice p0 n0 q0]] w' fun e w'' => e = .returned (.bool (plB pl)) ∧ Below w'.heap.size w' w'') := Lib.hid fun w' hw => refPlace_calls B pl _ w' (by have := hw.size; omega) (hpl.below (hw.mono hB))
  have hpn : n0 = pl.path.length := by
    obtain ⟨_, b', o', ⟨_, ao, cap, h, _⟩, _⟩ := hpl
    injection h
  obtain ⟨n1, hn1⟩ : ∃ n1, n1 = es.length := ⟨_, rfl⟩
  have hres : rShF [112, 48] (.mk op iv nm sc pl es ps) = (manyL [112, 48] n1 && (decide (iv = 0) && (plB pl && (nm.toList.isEmpty && (sc.toList.isEmpty))))) := by
    rw [hn1]
    unfold rShF rInt rPlace rName rSecond
    simp only [show ([112, 48] : List UInt8).contains 105 = false from rfl, show ([112, 48] : List UInt8).contains 98 = false from rfl, show ([112, 48] : List UInt8).contains 112 = true from rfl, show ([112, 48] : List UInt8).contains 102 = false from rfl, show ([112, 48] : List UInt8).contains 110 = false from rfl, show ([112, 48] : List UInt8).contains 116 = false from rfl, show ([112, 48] : List UInt8).contains 118 = false from rfl, if_true, if_false, Bool.false_eq_true, PE.args, PE.int, PE.place, PE.name, PE.second, noB_toList]
    try rfl
  rw [hres]
  rw [← hn1] at m1 h1 Ie ⊢
  have Hm1 := Lib.hid (Hm.out n1)
  clear Hm
  have Hall := Lib.hid hn1
  have H1 := Lib.hid h1
  have Hr := Lib.hid r1
  clear hres hpn hpl hz1 hz2 h1 r1 hn1
  generalize manyL [112, 48] n1 = xm at *
  generalize plB pl = xp at *
  generalize hR : es.all (fun a => (!lentB a || false) && rE m a) = R
  have HR := Lib.hid hR
  clear hR
  have ec : ¬ ((m : Int) + 1 < 1) := by omega
  have em : (m : Int) + 1 - 1 = (m : Int) := by omega
  go_enter Tryz.func21, Tryz.ntmps21
  go_wp2_with fail
  refine (hform.out _).mono ?_; rintro e w1 ⟨rfl, b1'⟩
  have hc1 := old_cells b1'
  have bel1 := Lib.hid (up_tr (box1 _ _) b1')
  have hz1 : w.heap.size < w1.heap.size := by have := b1'.size; simp at this; omega
  cases xm
  · skip
    go_wp2_with (first | (go_at_call 55; refine (Hh.out _ _).mono ?_; rintro _ _ ⟨rfl, rfl⟩) | (go_at_call 54; refine (Hm1.out _).mono ?_; rintro _ _ ⟨rfl, rfl⟩))
    go_ret
    exact ⟨ret_bool (by simp), bel1.out⟩
  · skip
    by_cases hi : iv = 0
    · subst hi
      go_wp2_with (first | (go_at_call 55; refine (Hh.out _ _).mono ?_; rintro _ _ ⟨rfl, rfl⟩) | (go_at_call 54; refine (Hm1.out _).mono ?_; rintro _ _ ⟨rfl, rfl⟩))
      refine (CP.out _ bel1.out).mono ?_; rintro e w2 ⟨rfl, b2⟩
      have bel2 := Lib.hid (up_tr bel1.out b2)
      have hz2 : w.heap.size < w2.heap.size := by have := b2.size; omega
      have b2' := up_tr b1' b2
      have hc2 := old_cells b2'
      clear hc1 b2 b1' CP
      cases xp
      · skip
        go_wp2_with (first | (go_at_call 55; refine (Hh.out _ _).mono ?_; rintro _ _ ⟨rfl, rfl⟩) | (go_at_call 54; refine (Hm1.out _).mono ?_; rintro _ _ ⟨rfl, rfl⟩))
        go_ret
        exact ⟨ret_bool (by simp), bel2.out⟩
      · skip
        by_cases hnn : nm.toList = []
        · have enn1 : nm.toList.isEmpty = true := by rw [hnn]; rfl
          have enn2 : (nm.toList == []) = true := by rw [hnn]; rfl
          clear hnn
          by_cases hns : sc.toList = []
          · have ens1 : sc.toList.isEmpty = true := by rw [hns]; rfl
            have ens2 : (sc.toList == []) = true := by rw [hns]; rfl
            clear hns
            go_wp2_with (first | (go_at_call 55; refine (Hh.out _ _).mono ?_; rintro _ _ ⟨rfl, rfl⟩) | (go_at_call 54; refine (Hm1.out _).mono ?_; rintro _ _ ⟨rfl, rfl⟩))
            have d0 : w2.cell? ⟨w.heap.size, 0, none⟩ = some (.int .u8 op) := by go_simp
            have d6 : w2.cell? ⟨w.heap.size, 6, none⟩ = some (.slice p1 n1 q1) := by go_simp
            clear hc2 b2' Hh Hm1 hform
            have h18' : (op != 18) = !false := by rw [bne, h18]
            go_loopw [6] (fun i wr => ∃ k : Nat, k ≤ n1 ∧ i = .int .i64 k ∧ w.heap.size < wr.heap.size ∧ wr.cell? ⟨w.heap.size, 0, none⟩ = some (.int .u8 op) ∧ wr.cell? ⟨w.heap.size, 6, none⟩ = some (.slice p1 n1 q1) ∧ Hid (Below w.heap.size w wr) ∧ Hid (∀ (j : Nat) a, j < k → es[j]? = some a → ((!lentB a || false) && rE m a) = true))
              (fun i _ => n1 - (intOf i).toNat)
            case atStart => exact ⟨0, by omega, rfl, hz2, d0, d6, bel2, Lib.hid fun j x hj => by omega⟩
            case round =>
              obtain ⟨k, hk, rfl, hz, g0, g6, hbel, HK⟩ := hrel
              by_cases hlt : k < n1
              · obtain ⟨a, ha, hin⟩ := get_at (l := es) (k := k) (by rw [← Hall.out]; exact hlt)
                obtain ⟨rfl, hb1⟩ := H1.out.resolve_left (by omega)
                obtain ⟨va, ca, ia⟩ := PE.Row.get (PE.Row.below (hbel.out.mono hB) hb1 Hr.out) ha
                obtain ⟨pa0, na0, qa0, pa1, na1, qa1, rfl⟩ := ia.shape
                obtain ⟨opa, iva, nma, sca, pla, esa, ata⟩ := a
                have g1 : b1 < wr.heap.size := by omega
                have c0 : wr.cell? ⟨b1, o1 + k * 8, none⟩ = some (.int .u8 opa) := ca 0 _ rfl
                have c1 : wr.cell? ⟨b1, o1 + k * 8 + 1, none⟩ = some (.int .i64 iva) := ca 1 _ rfl
                have c2 : wr.cell? ⟨b1, o1 + k * 8 + 2, none⟩ = some (.string nma) := ca 2 _ rfl
                have c3 : wr.cell? ⟨b1, o1 + k * 8 + 3, none⟩ = some (.string sca) := ca 3 _ rfl
                have c4 : wr.cell? ⟨b1, o1 + k * 8 + 4, none⟩ = some (.string pla.name) := ca 4 _ rfl
                have c5 : wr.cell? ⟨b1, o1 + k * 8 + 5, none⟩ = some (.slice pa0 na0 qa0) := ca 5 _ rfl
                have c6 : wr.cell? ⟨b1, o1 + k * 8 + 6, none⟩ = some (.slice pa1 na1 qa1) := ca 6 _ rfl
                have c7 : wr.cell? ⟨b1, o1 + k * 8 + 7, none⟩ = some (.int .i64 ata) := ca 7 _ rfl
                have CL := Lib.hid (refLent_calls opa iva nma sca pla esa ata pa0 na0 qa0 pa1 na1 qa1 wr)
                have CE : Hid (∀ w', Below wr.heap.size wr w' → Calls Tryz.prog 21 #[.agg #[.int .u8 opa, .int .i64 iva, .string nma, .string sca, .string pla.name, .slice pa0 na0 qa0, .slice pa1 na1 qa1, .int .i64 ata], .int .i64 m] w' fun r w'' => r = .returned (.bool (rE m (.mk opa iva nma sca pla esa ata))) ∧ Below w'.heap.size w' w'') :=
                  Lib.hid fun w' hw => ih B (.mk opa iva nma sca pla esa ata) ⟨.slice pa0 na0 qa0, .slice pa1 na1 qa1⟩ w' (by have := hw.size; have := hbel.out.size; omega) (PE.In.below (hw.mono (by have := hbel.out.size; omega)) ia)
                have Ha := Lib.hid ha
                generalize hq : lentB (.mk opa iva nma sca pla esa ata) = q at *
                generalize hr : rE m (.mk opa iva nma sca pla esa ata) = r at *
                have Hq := Lib.hid hq
                have Hr2 := Lib.hid hr
                clear ha hin ca ia hq hr
                go_wp2_with fail
                refine CL.out.mono ?_; rintro e wl ⟨rfl, bl⟩
                have hcl := old_cells bl
                have hzl : w.heap.size < wl.heap.size := by have := bl.size; omega
                have bell := Lib.hid (hbel.out.trans (bl.mono (by omega)))
                have Bl := Lib.hid bl
                clear bl CL
                cases q
                · go_wp2_with fail
                  refine (CE.out _ Bl.out).mono ?_; rintro e wx ⟨rfl, bx⟩
                  have x0 : wx.cell? ⟨w.heap.size, 0, none⟩ = some (.int .u8 op) := (bx.cell (p := ⟨w.heap.size, 0, none⟩) hzl).trans ((hcl _ _ hz).trans g0)
                  have x6 : wx.cell? ⟨w.heap.size, 6, none⟩ = some (.slice (some ⟨b1, o1, none⟩) n1 q1) := (bx.cell (p := ⟨w.heap.size, 6, none⟩) hzl).trans ((hcl _ _ hz).trans g6)
                  have hzx : w.heap.size < wx.heap.size := by have := bx.size; omega
                  have belx := Lib.hid (bell.out.trans (bx.mono (by omega)))
                  clear bx hcl g0 g6 c0 c1 c2 c3 c4 c5 c6 c7 CE
                  cases r
                  · have hres := HR.out.symm.trans (all_not2 (p := fun a => ((!lentB a || false) && rE m a)) Ha.out (by rw [Hr2.out, Bool.and_false]))
                    go_wp2_with fail
                    go_ret
                    exact ⟨ret_bool (by simp [*]), belx.out⟩
                  · have HK2 : Hid (∀ (j : Nat) a, j < k + 1 → es[j]? = some a → ((!lentB a || false) && rE m a) = true) := Lib.hid fun j a hj hx => by
                      by_cases e : j = k
                      · subst e
                        rw [Ha.out] at hx
                        cases hx
                        rw [Hq.out, Hr2.out]; rfl
                      · exact HK.out j a (by omega) hx
                    go_wp2_with fail
                    go_roundw
                    case rel => exact ⟨k + 1, by omega, by go_num, hzx, x0, x6, belx, HK2⟩
                    case measure => simp [intOf]; omega
                · have hres := HR.out.symm.trans (all_not2 (p := fun a => ((!lentB a || false) && rE m a)) Ha.out (by rw [Hq.out]; rfl))
                  go_wp2_with fail
                  go_ret
                  exact ⟨ret_bool (by simp [*]), bell.out⟩
              · obtain rfl : k = n1 := by omega
                have hres := HR.out.symm.trans (all_yes2 (p := fun a => ((!lentB a || false) && rE m a)) (l := es) fun j a hx => HK.out j a (by rw [Hall.out]; exact (List.getElem?_eq_some_iff.1 hx).1) hx)
                go_wp2_with fail
                go_ret
                exact ⟨ret_bool (by simp [*]), hbel.out⟩
          · have ens2 : (sc.toList == []) = false := beq_eq_false_iff_ne.2 hns
            have ens1 : sc.toList.isEmpty = false := by cases h : sc.toList with | nil => exact absurd h hns | cons a r => rfl
            clear hns
            go_wp2_with (first | (go_at_call 55; refine (Hh.out _ _).mono ?_; rintro _ _ ⟨rfl, rfl⟩) | (go_at_call 54; refine (Hm1.out _).mono ?_; rintro _ _ ⟨rfl, rfl⟩))
            go_ret
            exact ⟨ret_bool (by simp [*]), bel2.out⟩
        · have enn2 : (nm.toList == []) = false := beq_eq_false_iff_ne.2 hnn
          have enn1 : nm.toList.isEmpty = false := by cases h : nm.toList with | nil => exact absurd h hnn | cons a r => rfl
          clear hnn
          go_wp2_with (first | (go_at_call 55; refine (Hh.out _ _).mono ?_; rintro _ _ ⟨rfl, rfl⟩) | (go_at_call 54; refine (Hm1.out _).mono ?_; rintro _ _ ⟨rfl, rfl⟩))
          go_ret
          exact ⟨ret_bool (by simp [*]), bel2.out⟩
    · have hi2 : (iv == 0) = false := is_no' hi
      go_wp2_with (first | (go_at_call 55; refine (Hh.out _ _).mono ?_; rintro _ _ ⟨rfl, rfl⟩) | (go_at_call 54; refine (Hm1.out _).mono ?_; rintro _ _ ⟨rfl, rfl⟩))
      go_ret
      exact ⟨ret_bool (by simp [*]), bel1.out⟩
set_option maxRecDepth 100000 in
set_option maxHeartbeats 8000000 in
theorem refExpr_w1 (m : Nat) (hm : m ≤ 1000) (ih : RefWEAt m) (B : Nat) (op iv : Int) (nm sc : ByteArray) (pl : PP) (es : List PE) (ps : Int) (p0 : Option Addr) (n0 q0 : Nat) (p1 : Option Addr) (n1 q1 : Nat) (w : World) (hB : B ≤ w.heap.size)
    (he : PE.In B w (.mk op iv nm sc pl es ps) ⟨.slice p0 n0 q0, .slice p1 n1 q1⟩) (h18 : (op == 18) = false)
    (hform : Hid (∀ w, Calls Tryz.prog 53 #[.int .u8 op] w fun e w' => e = .returned (.string ⟨#[49]⟩) ∧ Below w.heap.size w w')) :
    Calls Tryz.prog 21 #[.agg #[.int .u8 op, .int .i64 iv, .string nm, .string sc, .string pl.name, .slice p0 n0 q0, .slice p1 n1 q1, .int .i64 ps], .int .i64 ((m : Int) + 1)] w fun r w' => r = .returned (.bool (rShF [49] (.mk op iv nm sc pl es ps) && es.all (fun a => (!lentB a || false) && rE m a))) ∧ Below w.heap.size w w' := by
  have Hm : Hid (∀ (n : Nat) w, Calls Tryz.prog 54 #[.string ⟨#[49]⟩, .int .i64 n] w fun e w' => e = .returned (.bool (manyL [49] n)) ∧ w = w') := Lib.hid fun n w => many_w1 n w
  have Hh : Hid (∀ c w, Calls Tryz.prog 55 #[.string ⟨#[49]⟩, .int .u8 c] w fun e w' => e = .returned (.bool (hasB ⟨#[49]⟩ c)) ∧ w = w') := Lib.hid fun c w => refHas_calls ⟨#[49]⟩ (by decide) c w
  have ei : hasB ⟨#[49]⟩ 105 = false := by decide
  have eb : hasB ⟨#[49]⟩ 98 = false := by decide
  have ep : hasB ⟨#[49]⟩ 112 = false := by decide
  have ef : hasB ⟨#[49]⟩ 102 = false := by decide
  have en : hasB ⟨#[49]⟩ 110 = false := by decide
  have et : hasB ⟨#[49]⟩ 116 = false := by decide
  have ev : hasB ⟨#[49]⟩ 118 = false := by decide
  have Ie := Lib.hid he
  obtain ⟨⟨_, _, _, hz1, hz2⟩, hpl, b1, o1, ⟨m1, ao, cap, hv, h1⟩, r1⟩ := he
  injection hv with a1 a2 a3
  subst a1 a2 a3
  unfold maxLen at m1
  have hpn : n0 = pl.path.length := by
    obtain ⟨_, b', o', ⟨_, ao, cap, h, _⟩, _⟩ := hpl
    injection h
  obtain ⟨n1, hn1⟩ : ∃ n1, n1 = es.length := ⟨_, rfl⟩
  have hres : rShF [49] (.mk op iv nm sc pl es ps) = (manyL [49] n1 && (decide (iv = 0) && ((pl.name.toList.isEmpty && decide (n0 = 0)) && (nm.toList.isEmpty && (sc.toList.isEmpty))))) := by
    rw [hn1]
    unfold rShF rInt rPlace rName rSecond
    simp only [show ([49] : List UInt8).contains 105 = false from rfl, show ([49] : List UInt8).contains 98 = false from rfl, show ([49] : List UInt8).contains 112 = false from rfl, show ([49] : List UInt8).contains 102 = false from rfl, show ([49] : List UInt8).contains 110 = false from rfl, show ([49] : List UInt8).contains 116 = false from rfl, show ([49] : List UInt8).contains 118 = false from rfl, if_false, Bool.false_eq_true, PE.args, PE.int, PE.place, PE.name, PE.second, hpn, noB_toList]
    try rfl
  rw [hres]
  rw [← hn1] at m1 h1 Ie ⊢
  have Hm1 := Lib.hid (Hm.out n1)
  clear Hm
  have Hall := Lib.hid hn1
  have H1 := Lib.hid h1
  have Hr := Lib.hid r1
  clear hres hpn hpl hz1 hz2 h1 r1 hn1
  generalize manyL [49] n1 = xm at *
  generalize hR : es.all (fun a => (!lentB a || false) && rE m a) = R
  have HR := Lib.hid hR
  clear hR
  have ec : ¬ ((m : Int) + 1 < 1) := by omega
  have em : (m : Int) + 1 - 1 = (m : Int) := by omega
  go_enter Tryz.func21, Tryz.ntmps21
  go_wp2_with fail
  refine (hform.out _).mono ?_; rintro e w1 ⟨rfl, b1'⟩
  have hc1 := old_cells b1'
  have bel1 := Lib.hid (up_tr (box1 _ _) b1')
  have hz1 : w.heap.size < w1.heap.size := by have := b1'.size; simp at this; omega
  cases xm
  · skip
    go_wp2_with (first | (go_at_call 55; refine (Hh.out _ _).mono ?_; rintro _ _ ⟨rfl, rfl⟩) | (go_at_call 54; refine (Hm1.out _).mono ?_; rintro _ _ ⟨rfl, rfl⟩))
    go_ret
    exact ⟨ret_bool (by simp), bel1.out⟩
  · skip
    by_cases hi : iv = 0
    · subst hi
      by_cases hnp : pl.name.toList = []
      · have enp1 : pl.name.toList.isEmpty = true := by rw [hnp]; rfl
        have enp2 : (pl.name.toList == []) = true := by rw [hnp]; rfl
        clear hnp
        by_cases hn0 : n0 = 0
        · subst hn0
          by_cases hnn : nm.toList = []
          · have enn1 : nm.toList.isEmpty = true := by rw [hnn]; rfl
            have enn2 : (nm.toList == []) = true := by rw [hnn]; rfl
            clear hnn
            by_cases hns : sc.toList = []
            · have ens1 : sc.toList.isEmpty = true := by rw [hns]; rfl
              have ens2 : (sc.toList == []) = true := by rw [hns]; rfl
              clear hns
              go_wp2_with (first | (go_at_call 55; refine (Hh.out _ _).mono ?_; rintro _ _ ⟨rfl, rfl⟩) | (go_at_call 54; refine (Hm1.out _).mono ?_; rintro _ _ ⟨rfl, rfl⟩))
              have d0 : w1.cell? ⟨w.heap.size, 0, none⟩ = some (.int .u8 op) := by go_simp
              have d6 : w1.cell? ⟨w.heap.size, 6, none⟩ = some (.slice p1 n1 q1) := by go_simp
              clear hc1 b1' Hh Hm1 hform
              have h18' : (op != 18) = !false := by rw [bne, h18]
              go_loopw [6] (fun i wr => ∃ k : Nat, k ≤ n1 ∧ i = .int .i64 k ∧ w.heap.size < wr.heap.size ∧ wr.cell? ⟨w.heap.size, 0, none⟩ = some (.int .u8 op) ∧ wr.cell? ⟨w.heap.size, 6, none⟩ = some (.slice p1 n1 q1) ∧ Hid (Below w.heap.size w wr) ∧ Hid (∀ (j : Nat) a, j < k → es[j]? = some a → ((!lentB a || false) && rE m a) = true))
                (fun i _ => n1 - (intOf i).toNat)
              case atStart => exact ⟨0, by omega, rfl, hz1, d0, d6, bel1, Lib.hid fun j x hj => by omega⟩
              case round =>
                obtain ⟨k, hk, rfl, hz, g0, g6, hbel, HK⟩ := hrel
                by_cases hlt : k < n1
                · obtain ⟨a, ha, hin⟩ := get_at (l := es) (k := k) (by rw [← Hall.out]; exact hlt)
                  obtain ⟨rfl, hb1⟩ := H1.out.resolve_left (by omega)
                  obtain ⟨va, ca, ia⟩ := PE.Row.get (PE.Row.below (hbel.out.mono hB) hb1 Hr.out) ha
                  obtain ⟨pa0, na0, qa0, pa1, na1, qa1, rfl⟩ := ia.shape
                  obtain ⟨opa, iva, nma, sca, pla, esa, ata⟩ := a
                  have g1 : b1 < wr.heap.size := by omega
                  have c0 : wr.cell? ⟨b1, o1 + k * 8, none⟩ = some (.int .u8 opa) := ca 0 _ rfl
                  have c1 : wr.cell? ⟨b1, o1 + k * 8 + 1, none⟩ = some (.int .i64 iva) := ca 1 _ rfl
                  have c2 : wr.cell? ⟨b1, o1 + k * 8 + 2, none⟩ = some (.string nma) := ca 2 _ rfl
                  have c3 : wr.cell? ⟨b1, o1 + k * 8 + 3, none⟩ = some (.string sca) := ca 3 _ rfl
                  have c4 : wr.cell? ⟨b1, o1 + k * 8 + 4, none⟩ = some (.string pla.name) := ca 4 _ rfl
                  have c5 : wr.cell? ⟨b1, o1 + k * 8 + 5, none⟩ = some (.slice pa0 na0 qa0) := ca 5 _ rfl
                  have c6 : wr.cell? ⟨b1, o1 + k * 8 + 6, none⟩ = some (.slice pa1 na1 qa1) := ca 6 _ rfl
                  have c7 : wr.cell? ⟨b1, o1 + k * 8 + 7, none⟩ = some (.int .i64 ata) := ca 7 _ rfl
                  have CL := Lib.hid (refLent_calls opa iva nma sca pla esa ata pa0 na0 qa0 pa1 na1 qa1 wr)
                  have CE : Hid (∀ w', Below wr.heap.size wr w' → Calls Tryz.prog 21 #[.agg #[.int .u8 opa, .int .i64 iva, .string nma, .string sca, .string pla.name, .slice pa0 na0 qa0, .slice pa1 na1 qa1, .int .i64 ata], .int .i64 m] w' fun r w'' => r = .returned (.bool (rE m (.mk opa iva nma sca pla esa ata))) ∧ Below w'.heap.size w' w'') :=
                    Lib.hid fun w' hw => ih B (.mk opa iva nma sca pla esa ata) ⟨.slice pa0 na0 qa0, .slice pa1 na1 qa1⟩ w' (by have := hw.size; have := hbel.out.size; omega) (PE.In.below (hw.mono (by have := hbel.out.size; omega)) ia)
                  have Ha := Lib.hid ha
                  generalize hq : lentB (.mk opa iva nma sca pla esa ata) = q at *
                  generalize hr : rE m (.mk opa iva nma sca pla esa ata) = r at *
                  have Hq := Lib.hid hq
                  have Hr2 := Lib.hid hr
                  clear ha hin ca ia hq hr
                  go_wp2_with fail
                  refine CL.out.mono ?_; rintro e wl ⟨rfl, bl⟩
                  have hcl := old_cells bl
                  have hzl : w.heap.size < wl.heap.size := by have := bl.size; omega
                  have bell := Lib.hid (hbel.out.trans (bl.mono (by omega)))
                  have Bl := Lib.hid bl
                  clear bl CL
                  cases q
                  · go_wp2_with fail
                    refine (CE.out _ Bl.out).mono ?_; rintro e wx ⟨rfl, bx⟩
                    have x0 : wx.cell? ⟨w.heap.size, 0, none⟩ = some (.int .u8 op) := (bx.cell (p := ⟨w.heap.size, 0, none⟩) hzl).trans ((hcl _ _ hz).trans g0)
                    have x6 : wx.cell? ⟨w.heap.size, 6, none⟩ = some (.slice (some ⟨b1, o1, none⟩) n1 q1) := (bx.cell (p := ⟨w.heap.size, 6, none⟩) hzl).trans ((hcl _ _ hz).trans g6)
                    have hzx : w.heap.size < wx.heap.size := by have := bx.size; omega
                    have belx := Lib.hid (bell.out.trans (bx.mono (by omega)))
                    clear bx hcl g0 g6 c0 c1 c2 c3 c4 c5 c6 c7 CE
                    cases r
                    · have hres := HR.out.symm.trans (all_not2 (p := fun a => ((!lentB a || false) && rE m a)) Ha.out (by rw [Hr2.out, Bool.and_false]))
                      go_wp2_with fail
                      go_ret
                      exact ⟨ret_bool (by simp [*]), belx.out⟩
                    · have HK2 : Hid (∀ (j : Nat) a, j < k + 1 → es[j]? = some a → ((!lentB a || false) && rE m a) = true) := Lib.hid fun j a hj hx => by
                        by_cases e : j = k
                        · subst e
                          rw [Ha.out] at hx
                          cases hx
                          rw [Hq.out, Hr2.out]; rfl
                        · exact HK.out j a (by omega) hx
                      go_wp2_with fail
                      go_roundw
                      case rel => exact ⟨k + 1, by omega, by go_num, hzx, x0, x6, belx, HK2⟩
                      case measure => simp [intOf]; omega
                  · have hres := HR.out.symm.trans (all_not2 (p := fun a => ((!lentB a || false) && rE m a)) Ha.out (by rw [Hq.out]; rfl))
                    go_wp2_with fail
                    go_ret
                    exact ⟨ret_bool (by simp [*]), bell.out⟩
                · obtain rfl : k = n1 := by omega
                  have hres := HR.out.symm.trans (all_yes2 (p := fun a => ((!lentB a || false) && rE m a)) (l := es) fun j a hx => HK.out j a (by rw [Hall.out]; exact (List.getElem?_eq_some_iff.1 hx).1) hx)
                  go_wp2_with fail
                  go_ret
                  exact ⟨ret_bool (by simp [*]), hbel.out⟩
            · have ens2 : (sc.toList == []) = false := beq_eq_false_iff_ne.2 hns
              have ens1 : sc.toList.isEmpty = false := by cases h : sc.toList with | nil => exact absurd h hns | cons a r => rfl
              clear hns
              go_wp2_with (first | (go_at_call 55; refine (Hh.out _ _).mono ?_; rintro _ _ ⟨rfl, rfl⟩) | (go_at_call 54; refine (Hm1.out _).mono ?_; rintro _ _ ⟨rfl, rfl⟩))
              go_ret
              exact ⟨ret_bool (by simp [*]), bel1.out⟩
          · have enn2 : (nm.toList == []) = false := beq_eq_false_iff_ne.2 hnn
            have enn1 : nm.toList.isEmpty = false := by cases h : nm.toList with | nil => exact absurd h hnn | cons a r => rfl
            clear hnn
            go_wp2_with (first | (go_at_call 55; refine (Hh.out _ _).mono ?_; rintro _ _ ⟨rfl, rfl⟩) | (go_at_call 54; refine (Hm1.out _).mono ?_; rintro _ _ ⟨rfl, rfl⟩))
            go_ret
            exact ⟨ret_bool (by simp [*]), bel1.out⟩
        · have en0 : 0 < (n0 : Int) := by omega
          go_wp2_with (first | (go_at_call 55; refine (Hh.out _ _).mono ?_; rintro _ _ ⟨rfl, rfl⟩) | (go_at_call 54; refine (Hm1.out _).mono ?_; rintro _ _ ⟨rfl, rfl⟩))
          go_ret
          exact ⟨ret_bool (by simp [*]), bel1.out⟩
      · have enp2 : (pl.name.toList == []) = false := beq_eq_false_iff_ne.2 hnp
        have enp1 : pl.name.toList.isEmpty = false := by cases h : pl.name.toList with | nil => exact absurd h hnp | cons a r => rfl
        clear hnp
        go_wp2_with (first | (go_at_call 55; refine (Hh.out _ _).mono ?_; rintro _ _ ⟨rfl, rfl⟩) | (go_at_call 54; refine (Hm1.out _).mono ?_; rintro _ _ ⟨rfl, rfl⟩))
        go_ret
        exact ⟨ret_bool (by simp [*]), bel1.out⟩
    · have hi2 : (iv == 0) = false := is_no' hi
      go_wp2_with (first | (go_at_call 55; refine (Hh.out _ _).mono ?_; rintro _ _ ⟨rfl, rfl⟩) | (go_at_call 54; refine (Hm1.out _).mono ?_; rintro _ _ ⟨rfl, rfl⟩))
      go_ret
      exact ⟨ret_bool (by simp [*]), bel1.out⟩
set_option maxRecDepth 100000 in
set_option maxHeartbeats 8000000 in
theorem refExpr_w2 (m : Nat) (hm : m ≤ 1000) (ih : RefWEAt m) (B : Nat) (op iv : Int) (nm sc : ByteArray) (pl : PP) (es : List PE) (ps : Int) (p0 : Option Addr) (n0 q0 : Nat) (p1 : Option Addr) (n1 q1 : Nat) (w : World) (hB : B ≤ w.heap.size)
    (he : PE.In B w (.mk op iv nm sc pl es ps) ⟨.slice p0 n0 q0, .slice p1 n1 q1⟩) (h18 : (op == 18) = false)
    (hform : Hid (∀ w, Calls Tryz.prog 53 #[.int .u8 op] w fun e w' => e = .returned (.string ⟨#[50]⟩) ∧ Below w.heap.size w w')) :
    Calls Tryz.prog 21 #[.agg #[.int .u8 op, .int .i64 iv, .string nm, .string sc, .string pl.name, .slice p0 n0 q0, .slice p1 n1 q1, .int .i64 ps], .int .i64 ((m : Int) + 1)] w fun r w' => r = .returned (.bool (rShF [50] (.mk op iv nm sc pl es ps) && es.all (fun a => (!lentB a || false) && rE m a))) ∧ Below w.heap.size w w' := by
  have Hm : Hid (∀ (n : Nat) w, Calls Tryz.prog 54 #[.string ⟨#[50]⟩, .int .i64 n] w fun e w' => e = .returned (.bool (manyL [50] n)) ∧ w = w') := Lib.hid fun n w => many_w2 n w
  have Hh : Hid (∀ c w, Calls Tryz.prog 55 #[.string ⟨#[50]⟩, .int .u8 c] w fun e w' => e = .returned (.bool (hasB ⟨#[50]⟩ c)) ∧ w = w') := Lib.hid fun c w => refHas_calls ⟨#[50]⟩ (by decide) c w
  have ei : hasB ⟨#[50]⟩ 105 = false := by decide
  have eb : hasB ⟨#[50]⟩ 98 = false := by decide
  have ep : hasB ⟨#[50]⟩ 112 = false := by decide
  have ef : hasB ⟨#[50]⟩ 102 = false := by decide
  have en : hasB ⟨#[50]⟩ 110 = false := by decide
  have et : hasB ⟨#[50]⟩ 116 = false := by decide
  have ev : hasB ⟨#[50]⟩ 118 = false := by decide
  have Ie := Lib.hid he
  obtain ⟨⟨_, _, _, hz1, hz2⟩, hpl, b1, o1, ⟨m1, ao, cap, hv, h1⟩, r1⟩ := he
  injection hv with a1 a2 a3
  subst a1 a2 a3
  unfold maxLen at m1
  have hpn : n0 = pl.path.length := by
    obtain ⟨_, b', o', ⟨_, ao, cap, h, _⟩, _⟩ := hpl
    injection h
  obtain ⟨n1, hn1⟩ : ∃ n1, n1 = es.length := ⟨_, rfl⟩
  have hres : rShF [50] (.mk op iv nm sc pl es ps) = (manyL [50] n1 && (decide (iv = 0) && ((pl.name.toList.isEmpty && decide (n0 = 0)) && (nm.toList.isEmpty && (sc.toList.isEmpty))))) := by
    rw [hn1]
    unfold rShF rInt rPlace rName rSecond
    simp only [show ([50] : List UInt8).contains 105 = false from rfl, show ([50] : List UInt8).contains 98 = false from rfl, show ([50] : List UInt8).contains 112 = false from rfl, show ([50] : List UInt8).contains 102 = false from rfl, show ([50] : List UInt8).contains 110 = false from rfl, show ([50] : List UInt8).contains 116 = false from rfl, show ([50] : List UInt8).contains 118 = false from rfl, if_false, Bool.false_eq_true, PE.args, PE.int, PE.place, PE.name, PE.second, hpn, noB_toList]
    try rfl
  rw [hres]
  rw [← hn1] at m1 h1 Ie ⊢
  have Hm1 := Lib.hid (Hm.out n1)
  clear Hm
  have Hall := Lib.hid hn1
  have H1 := Lib.hid h1
  have Hr := Lib.hid r1
  clear hres hpn hpl hz1 hz2 h1 r1 hn1
  generalize manyL [50] n1 = xm at *
  generalize hR : es.all (fun a => (!lentB a || false) && rE m a) = R
  have HR := Lib.hid hR
  clear hR
  have ec : ¬ ((m : Int) + 1 < 1) := by omega
  have em : (m : Int) + 1 - 1 = (m : Int) := by omega
  go_enter Tryz.func21, Tryz.ntmps21
  go_wp2_with fail
  refine (hform.out _).mono ?_; rintro e w1 ⟨rfl, b1'⟩
  have hc1 := old_cells b1'
  have bel1 := Lib.hid (up_tr (box1 _ _) b1')
  have hz1 : w.heap.size < w1.heap.size := by have := b1'.size; simp at this; omega
  cases xm
  · skip
    go_wp2_with (first | (go_at_call 55; refine (Hh.out _ _).mono ?_; rintro _ _ ⟨rfl, rfl⟩) | (go_at_call 54; refine (Hm1.out _).mono ?_; rintro _ _ ⟨rfl, rfl⟩))
    go_ret
    exact ⟨ret_bool (by simp), bel1.out⟩
  · skip
    by_cases hi : iv = 0
    · subst hi
      by_cases hnp : pl.name.toList = []
      · have enp1 : pl.name.toList.isEmpty = true := by rw [hnp]; rfl
        have enp2 : (pl.name.toList == []) = true := by rw [hnp]; rfl
        clear hnp
        by_cases hn0 : n0 = 0
        · subst hn0
          by_cases hnn : nm.toList = []
          · have enn1 : nm.toList.isEmpty = true := by rw [hnn]; rfl
            have enn2 : (nm.toList == []) = true := by rw [hnn]; rfl
            clear hnn
            by_cases hns : sc.toList = []
            · have ens1 : sc.toList.isEmpty = true := by rw [hns]; rfl
              have ens2 : (sc.toList == []) = true := by rw [hns]; rfl
              clear hns
              go_wp2_with (first | (go_at_call 55; refine (Hh.out _ _).mono ?_; rintro _ _ ⟨rfl, rfl⟩) | (go_at_call 54; refine (Hm1.out _).mono ?_; rintro _ _ ⟨rfl, rfl⟩))
              have d0 : w1.cell? ⟨w.heap.size, 0, none⟩ = some (.int .u8 op) := by go_simp
              have d6 : w1.cell? ⟨w.heap.size, 6, none⟩ = some (.slice p1 n1 q1) := by go_simp
              clear hc1 b1' Hh Hm1 hform
              have h18' : (op != 18) = !false := by rw [bne, h18]
              go_loopw [6] (fun i wr => ∃ k : Nat, k ≤ n1 ∧ i = .int .i64 k ∧ w.heap.size < wr.heap.size ∧ wr.cell? ⟨w.heap.size, 0, none⟩ = some (.int .u8 op) ∧ wr.cell? ⟨w.heap.size, 6, none⟩ = some (.slice p1 n1 q1) ∧ Hid (Below w.heap.size w wr) ∧ Hid (∀ (j : Nat) a, j < k → es[j]? = some a → ((!lentB a || false) && rE m a) = true))
                (fun i _ => n1 - (intOf i).toNat)
              case atStart => exact ⟨0, by omega, rfl, hz1, d0, d6, bel1, Lib.hid fun j x hj => by omega⟩
              case round =>
                obtain ⟨k, hk, rfl, hz, g0, g6, hbel, HK⟩ := hrel
                by_cases hlt : k < n1
                · obtain ⟨a, ha, hin⟩ := get_at (l := es) (k := k) (by rw [← Hall.out]; exact hlt)
                  obtain ⟨rfl, hb1⟩ := H1.out.resolve_left (by omega)
                  obtain ⟨va, ca, ia⟩ := PE.Row.get (PE.Row.below (hbel.out.mono hB) hb1 Hr.out) ha
                  obtain ⟨pa0, na0, qa0, pa1, na1, qa1, rfl⟩ := ia.shape
                  obtain ⟨opa, iva, nma, sca, pla, esa, ata⟩ := a
                  have g1 : b1 < wr.heap.size := by omega
                  have c0 : wr.cell? ⟨b1, o1 + k * 8, none⟩ = some (.int .u8 opa) := ca 0 _ rfl
                  have c1 : wr.cell? ⟨b1, o1 + k * 8 + 1, none⟩ = some (.int .i64 iva) := ca 1 _ rfl
                  have c2 : wr.cell? ⟨b1, o1 + k * 8 + 2, none⟩ = some (.string nma) := ca 2 _ rfl
                  have c3 : wr.cell? ⟨b1, o1 + k * 8 + 3, none⟩ = some (.string sca) := ca 3 _ rfl
                  have c4 : wr.cell? ⟨b1, o1 + k * 8 + 4, none⟩ = some (.string pla.name) := ca 4 _ rfl
                  have c5 : wr.cell? ⟨b1, o1 + k * 8 + 5, none⟩ = some (.slice pa0 na0 qa0) := ca 5 _ rfl
                  have c6 : wr.cell? ⟨b1, o1 + k * 8 + 6, none⟩ = some (.slice pa1 na1 qa1) := ca 6 _ rfl
                  have c7 : wr.cell? ⟨b1, o1 + k * 8 + 7, none⟩ = some (.int .i64 ata) := ca 7 _ rfl
                  have CL := Lib.hid (refLent_calls opa iva nma sca pla esa ata pa0 na0 qa0 pa1 na1 qa1 wr)
                  have CE : Hid (∀ w', Below wr.heap.size wr w' → Calls Tryz.prog 21 #[.agg #[.int .u8 opa, .int .i64 iva, .string nma, .string sca, .string pla.name, .slice pa0 na0 qa0, .slice pa1 na1 qa1, .int .i64 ata], .int .i64 m] w' fun r w'' => r = .returned (.bool (rE m (.mk opa iva nma sca pla esa ata))) ∧ Below w'.heap.size w' w'') :=
                    Lib.hid fun w' hw => ih B (.mk opa iva nma sca pla esa ata) ⟨.slice pa0 na0 qa0, .slice pa1 na1 qa1⟩ w' (by have := hw.size; have := hbel.out.size; omega) (PE.In.below (hw.mono (by have := hbel.out.size; omega)) ia)
                  have Ha := Lib.hid ha
                  generalize hq : lentB (.mk opa iva nma sca pla esa ata) = q at *
                  generalize hr : rE m (.mk opa iva nma sca pla esa ata) = r at *
                  have Hq := Lib.hid hq
                  have Hr2 := Lib.hid hr
                  clear ha hin ca ia hq hr
                  go_wp2_with fail
                  refine CL.out.mono ?_; rintro e wl ⟨rfl, bl⟩
                  have hcl := old_cells bl
                  have hzl : w.heap.size < wl.heap.size := by have := bl.size; omega
                  have bell := Lib.hid (hbel.out.trans (bl.mono (by omega)))
                  have Bl := Lib.hid bl
                  clear bl CL
                  cases q
                  · go_wp2_with fail
                    refine (CE.out _ Bl.out).mono ?_; rintro e wx ⟨rfl, bx⟩
                    have x0 : wx.cell? ⟨w.heap.size, 0, none⟩ = some (.int .u8 op) := (bx.cell (p := ⟨w.heap.size, 0, none⟩) hzl).trans ((hcl _ _ hz).trans g0)
                    have x6 : wx.cell? ⟨w.heap.size, 6, none⟩ = some (.slice (some ⟨b1, o1, none⟩) n1 q1) := (bx.cell (p := ⟨w.heap.size, 6, none⟩) hzl).trans ((hcl _ _ hz).trans g6)
                    have hzx : w.heap.size < wx.heap.size := by have := bx.size; omega
                    have belx := Lib.hid (bell.out.trans (bx.mono (by omega)))
                    clear bx hcl g0 g6 c0 c1 c2 c3 c4 c5 c6 c7 CE
                    cases r
                    · have hres := HR.out.symm.trans (all_not2 (p := fun a => ((!lentB a || false) && rE m a)) Ha.out (by rw [Hr2.out, Bool.and_false]))
                      go_wp2_with fail
                      go_ret
                      exact ⟨ret_bool (by simp [*]), belx.out⟩
                    · have HK2 : Hid (∀ (j : Nat) a, j < k + 1 → es[j]? = some a → ((!lentB a || false) && rE m a) = true) := Lib.hid fun j a hj hx => by
                        by_cases e : j = k
                        · subst e
                          rw [Ha.out] at hx
                          cases hx
                          rw [Hq.out, Hr2.out]; rfl
                        · exact HK.out j a (by omega) hx
                      go_wp2_with fail
                      go_roundw
                      case rel => exact ⟨k + 1, by omega, by go_num, hzx, x0, x6, belx, HK2⟩
                      case measure => simp [intOf]; omega
                  · have hres := HR.out.symm.trans (all_not2 (p := fun a => ((!lentB a || false) && rE m a)) Ha.out (by rw [Hq.out]; rfl))
                    go_wp2_with fail
                    go_ret
                    exact ⟨ret_bool (by simp [*]), bell.out⟩
                · obtain rfl : k = n1 := by omega
                  have hres := HR.out.symm.trans (all_yes2 (p := fun a => ((!lentB a || false) && rE m a)) (l := es) fun j a hx => HK.out j a (by rw [Hall.out]; exact (List.getElem?_eq_some_iff.1 hx).1) hx)
                  go_wp2_with fail
                  go_ret
                  exact ⟨ret_bool (by simp [*]), hbel.out⟩
            · have ens2 : (sc.toList == []) = false := beq_eq_false_iff_ne.2 hns
              have ens1 : sc.toList.isEmpty = false := by cases h : sc.toList with | nil => exact absurd h hns | cons a r => rfl
              clear hns
              go_wp2_with (first | (go_at_call 55; refine (Hh.out _ _).mono ?_; rintro _ _ ⟨rfl, rfl⟩) | (go_at_call 54; refine (Hm1.out _).mono ?_; rintro _ _ ⟨rfl, rfl⟩))
              go_ret
              exact ⟨ret_bool (by simp [*]), bel1.out⟩
          · have enn2 : (nm.toList == []) = false := beq_eq_false_iff_ne.2 hnn
            have enn1 : nm.toList.isEmpty = false := by cases h : nm.toList with | nil => exact absurd h hnn | cons a r => rfl
            clear hnn
            go_wp2_with (first | (go_at_call 55; refine (Hh.out _ _).mono ?_; rintro _ _ ⟨rfl, rfl⟩) | (go_at_call 54; refine (Hm1.out _).mono ?_; rintro _ _ ⟨rfl, rfl⟩))
            go_ret
            exact ⟨ret_bool (by simp [*]), bel1.out⟩
        · have en0 : 0 < (n0 : Int) := by omega
          go_wp2_with (first | (go_at_call 55; refine (Hh.out _ _).mono ?_; rintro _ _ ⟨rfl, rfl⟩) | (go_at_call 54; refine (Hm1.out _).mono ?_; rintro _ _ ⟨rfl, rfl⟩))
          go_ret
          exact ⟨ret_bool (by simp [*]), bel1.out⟩
      · have enp2 : (pl.name.toList == []) = false := beq_eq_false_iff_ne.2 hnp
        have enp1 : pl.name.toList.isEmpty = false := by cases h : pl.name.toList with | nil => exact absurd h hnp | cons a r => rfl
        clear hnp
        go_wp2_with (first | (go_at_call 55; refine (Hh.out _ _).mono ?_; rintro _ _ ⟨rfl, rfl⟩) | (go_at_call 54; refine (Hm1.out _).mono ?_; rintro _ _ ⟨rfl, rfl⟩))
        go_ret
        exact ⟨ret_bool (by simp [*]), bel1.out⟩
    · have hi2 : (iv == 0) = false := is_no' hi
      go_wp2_with (first | (go_at_call 55; refine (Hh.out _ _).mono ?_; rintro _ _ ⟨rfl, rfl⟩) | (go_at_call 54; refine (Hm1.out _).mono ?_; rintro _ _ ⟨rfl, rfl⟩))
      go_ret
      exact ⟨ret_bool (by simp [*]), bel1.out⟩
set_option maxRecDepth 100000 in
set_option maxHeartbeats 8000000 in
theorem refExpr_p1 (m : Nat) (hm : m ≤ 1000) (ih : RefWEAt m) (B : Nat) (op iv : Int) (nm sc : ByteArray) (pl : PP) (es : List PE) (ps : Int) (p0 : Option Addr) (n0 q0 : Nat) (p1 : Option Addr) (n1 q1 : Nat) (w : World) (hB : B ≤ w.heap.size)
    (he : PE.In B w (.mk op iv nm sc pl es ps) ⟨.slice p0 n0 q0, .slice p1 n1 q1⟩) (h18 : (op == 18) = false)
    (hform : Hid (∀ w, Calls Tryz.prog 53 #[.int .u8 op] w fun e w' => e = .returned (.string ⟨#[112, 49]⟩) ∧ Below w.heap.size w w')) :
    Calls Tryz.prog 21 #[.agg #[.int .u8 op, .int .i64 iv, .string nm, .string sc, .string pl.name, .slice p0 n0 q0, .slice p1 n1 q1, .int .i64 ps], .int .i64 ((m : Int) + 1)] w fun r w' => r = .returned (.bool (rShF [112, 49] (.mk op iv nm sc pl es ps) && es.all (fun a => (!lentB a || false) && rE m a))) ∧ Below w.heap.size w w' := by
  have Hm : Hid (∀ (n : Nat) w, Calls Tryz.prog 54 #[.string ⟨#[112, 49]⟩, .int .i64 n] w fun e w' => e = .returned (.bool (manyL [112, 49] n)) ∧ w = w') := Lib.hid fun n w => many_p1 n w
  have Hh : Hid (∀ c w, Calls Tryz.prog 55 #[.string ⟨#[112, 49]⟩, .int .u8 c] w fun e w' => e = .returned (.bool (hasB ⟨#[112, 49]⟩ c)) ∧ w = w') := Lib.hid fun c w => refHas_calls ⟨#[112, 49]⟩ (by decide) c w
  have ei : hasB ⟨#[112, 49]⟩ 105 = false := by decide
  have eb : hasB ⟨#[112, 49]⟩ 98 = false := by decide
  have ep : hasB ⟨#[112, 49]⟩ 112 = true := by decide
  have ef : hasB ⟨#[112, 49]⟩ 102 = false := by decide
  have en : hasB ⟨#[112, 49]⟩ 110 = false := by decide
  have et : hasB ⟨#[112, 49]⟩ 116 = false := by decide
  have ev : hasB ⟨#[112, 49]⟩ 118 = false := by decide
  have Ie := Lib.hid he
  obtain ⟨⟨_, _, _, hz1, hz2⟩, hpl, b1, o1, ⟨m1, ao, cap, hv, h1⟩, r1⟩ := he
  injection hv with a1 a2 a3
  subst a1 a2 a3
  unfold maxLen at m1
  have CP : Hid (∀ w', Below w.heap.size w w' → Calls Tryz.prog 23 #[.agg #[.string pl.name, .slice p0 n0 q0]] w' fun e w'' => e = .returned (.bool (plB pl)) ∧ Below w'.heap.size w' w'') := Lib.hid fun w' hw => refPlace_calls B pl _ w' (by have := hw.size; omega) (hpl.below (hw.mono hB))
  have hpn : n0 = pl.path.length := by
    obtain ⟨_, b', o', ⟨_, ao, cap, h, _⟩, _⟩ := hpl
    injection h
  obtain ⟨n1, hn1⟩ : ∃ n1, n1 = es.length := ⟨_, rfl⟩
  have hres : rShF [112, 49] (.mk op iv nm sc pl es ps) = (manyL [112, 49] n1 && (decide (iv = 0) && (plB pl && (nm.toList.isEmpty && (sc.toList.isEmpty))))) := by
    rw [hn1]
    unfold rShF rInt rPlace rName rSecond
    simp only [show ([112, 49] : List UInt8).contains 105 = false from rfl, show ([112, 49] : List UInt8).contains 98 = false from rfl, show ([112, 49] : List UInt8).contains 112 = true from rfl, show ([112, 49] : List UInt8).contains 102 = false from rfl, show ([112, 49] : List UInt8).contains 110 = false from rfl, show ([112, 49] : List UInt8).contains 116 = false from rfl, show ([112, 49] : List UInt8).contains 118 = false from rfl, if_true, if_false, Bool.false_eq_true, PE.args, PE.int, PE.place, PE.name, PE.second, noB_toList]
    try rfl
  rw [hres]
  rw [← hn1] at m1 h1 Ie ⊢
  have Hm1 := Lib.hid (Hm.out n1)
  clear Hm
  have Hall := Lib.hid hn1
  have H1 := Lib.hid h1
  have Hr := Lib.hid r1
  clear hres hpn hpl hz1 hz2 h1 r1 hn1
  generalize manyL [112, 49] n1 = xm at *
  generalize plB pl = xp at *
  generalize hR : es.all (fun a => (!lentB a || false) && rE m a) = R
  have HR := Lib.hid hR
  clear hR
  have ec : ¬ ((m : Int) + 1 < 1) := by omega
  have em : (m : Int) + 1 - 1 = (m : Int) := by omega
  go_enter Tryz.func21, Tryz.ntmps21
  go_wp2_with fail
  refine (hform.out _).mono ?_; rintro e w1 ⟨rfl, b1'⟩
  have hc1 := old_cells b1'
  have bel1 := Lib.hid (up_tr (box1 _ _) b1')
  have hz1 : w.heap.size < w1.heap.size := by have := b1'.size; simp at this; omega
  cases xm
  · skip
    go_wp2_with (first | (go_at_call 55; refine (Hh.out _ _).mono ?_; rintro _ _ ⟨rfl, rfl⟩) | (go_at_call 54; refine (Hm1.out _).mono ?_; rintro _ _ ⟨rfl, rfl⟩))
    go_ret
    exact ⟨ret_bool (by simp), bel1.out⟩
  · skip
    by_cases hi : iv = 0
    · subst hi
      go_wp2_with (first | (go_at_call 55; refine (Hh.out _ _).mono ?_; rintro _ _ ⟨rfl, rfl⟩) | (go_at_call 54; refine (Hm1.out _).mono ?_; rintro _ _ ⟨rfl, rfl⟩))
      refine (CP.out _ bel1.out).mono ?_; rintro e w2 ⟨rfl, b2⟩
      have bel2 := Lib.hid (up_tr bel1.out b2)
      have hz2 : w.heap.size < w2.heap.size := by have := b2.size; omega
      have b2' := up_tr b1' b2
      have hc2 := old_cells b2'
      clear hc1 b2 b1' CP
      cases xp
      · skip
        go_wp2_with (first | (go_at_call 55; refine (Hh.out _ _).mono ?_; rintro _ _ ⟨rfl, rfl⟩) | (go_at_call 54; refine (Hm1.out _).mono ?_; rintro _ _ ⟨rfl, rfl⟩))
        go_ret
        exact ⟨ret_bool (by simp), bel2.out⟩
      · skip
        by_cases hnn : nm.toList = []
        · have enn1 : nm.toList.isEmpty = true := by rw [hnn]; rfl
          have enn2 : (nm.toList == []) = true := by rw [hnn]; rfl
          clear hnn
          by_cases hns : sc.toList = []
          · have ens1 : sc.toList.isEmpty = true := by rw [hns]; rfl
            have ens2 : (sc.toList == []) = true := by rw [hns]; rfl
            clear hns
            go_wp2_with (first | (go_at_call 55; refine (Hh.out _ _).mono ?_; rintro _ _ ⟨rfl, rfl⟩) | (go_at_call 54; refine (Hm1.out _).mono ?_; rintro _ _ ⟨rfl, rfl⟩))
            have d0 : w2.cell? ⟨w.heap.size, 0, none⟩ = some (.int .u8 op) := by go_simp
            have d6 : w2.cell? ⟨w.heap.size, 6, none⟩ = some (.slice p1 n1 q1) := by go_simp
            clear hc2 b2' Hh Hm1 hform
            have h18' : (op != 18) = !false := by rw [bne, h18]
            go_loopw [6] (fun i wr => ∃ k : Nat, k ≤ n1 ∧ i = .int .i64 k ∧ w.heap.size < wr.heap.size ∧ wr.cell? ⟨w.heap.size, 0, none⟩ = some (.int .u8 op) ∧ wr.cell? ⟨w.heap.size, 6, none⟩ = some (.slice p1 n1 q1) ∧ Hid (Below w.heap.size w wr) ∧ Hid (∀ (j : Nat) a, j < k → es[j]? = some a → ((!lentB a || false) && rE m a) = true))
              (fun i _ => n1 - (intOf i).toNat)
            case atStart => exact ⟨0, by omega, rfl, hz2, d0, d6, bel2, Lib.hid fun j x hj => by omega⟩
            case round =>
              obtain ⟨k, hk, rfl, hz, g0, g6, hbel, HK⟩ := hrel
              by_cases hlt : k < n1
              · obtain ⟨a, ha, hin⟩ := get_at (l := es) (k := k) (by rw [← Hall.out]; exact hlt)
                obtain ⟨rfl, hb1⟩ := H1.out.resolve_left (by omega)
                obtain ⟨va, ca, ia⟩ := PE.Row.get (PE.Row.below (hbel.out.mono hB) hb1 Hr.out) ha
                obtain ⟨pa0, na0, qa0, pa1, na1, qa1, rfl⟩ := ia.shape
                obtain ⟨opa, iva, nma, sca, pla, esa, ata⟩ := a
                have g1 : b1 < wr.heap.size := by omega
                have c0 : wr.cell? ⟨b1, o1 + k * 8, none⟩ = some (.int .u8 opa) := ca 0 _ rfl
                have c1 : wr.cell? ⟨b1, o1 + k * 8 + 1, none⟩ = some (.int .i64 iva) := ca 1 _ rfl
                have c2 : wr.cell? ⟨b1, o1 + k * 8 + 2, none⟩ = some (.string nma) := ca 2 _ rfl
                have c3 : wr.cell? ⟨b1, o1 + k * 8 + 3, none⟩ = some (.string sca) := ca 3 _ rfl
                have c4 : wr.cell? ⟨b1, o1 + k * 8 + 4, none⟩ = some (.string pla.name) := ca 4 _ rfl
                have c5 : wr.cell? ⟨b1, o1 + k * 8 + 5, none⟩ = some (.slice pa0 na0 qa0) := ca 5 _ rfl
                have c6 : wr.cell? ⟨b1, o1 + k * 8 + 6, none⟩ = some (.slice pa1 na1 qa1) := ca 6 _ rfl
                have c7 : wr.cell? ⟨b1, o1 + k * 8 + 7, none⟩ = some (.int .i64 ata) := ca 7 _ rfl
                have CL := Lib.hid (refLent_calls opa iva nma sca pla esa ata pa0 na0 qa0 pa1 na1 qa1 wr)
                have CE : Hid (∀ w', Below wr.heap.size wr w' → Calls Tryz.prog 21 #[.agg #[.int .u8 opa, .int .i64 iva, .string nma, .string sca, .string pla.name, .slice pa0 na0 qa0, .slice pa1 na1 qa1, .int .i64 ata], .int .i64 m] w' fun r w'' => r = .returned (.bool (rE m (.mk opa iva nma sca pla esa ata))) ∧ Below w'.heap.size w' w'') :=
                  Lib.hid fun w' hw => ih B (.mk opa iva nma sca pla esa ata) ⟨.slice pa0 na0 qa0, .slice pa1 na1 qa1⟩ w' (by have := hw.size; have := hbel.out.size; omega) (PE.In.below (hw.mono (by have := hbel.out.size; omega)) ia)
                have Ha := Lib.hid ha
                generalize hq : lentB (.mk opa iva nma sca pla esa ata) = q at *
                generalize hr : rE m (.mk opa iva nma sca pla esa ata) = r at *
                have Hq := Lib.hid hq
                have Hr2 := Lib.hid hr
                clear ha hin ca ia hq hr
                go_wp2_with fail
                refine CL.out.mono ?_; rintro e wl ⟨rfl, bl⟩
                have hcl := old_cells bl
                have hzl : w.heap.size < wl.heap.size := by have := bl.size; omega
                have bell := Lib.hid (hbel.out.trans (bl.mono (by omega)))
                have Bl := Lib.hid bl
                clear bl CL
                cases q
                · go_wp2_with fail
                  refine (CE.out _ Bl.out).mono ?_; rintro e wx ⟨rfl, bx⟩
                  have x0 : wx.cell? ⟨w.heap.size, 0, none⟩ = some (.int .u8 op) := (bx.cell (p := ⟨w.heap.size, 0, none⟩) hzl).trans ((hcl _ _ hz).trans g0)
                  have x6 : wx.cell? ⟨w.heap.size, 6, none⟩ = some (.slice (some ⟨b1, o1, none⟩) n1 q1) := (bx.cell (p := ⟨w.heap.size, 6, none⟩) hzl).trans ((hcl _ _ hz).trans g6)
                  have hzx : w.heap.size < wx.heap.size := by have := bx.size; omega
                  have belx := Lib.hid (bell.out.trans (bx.mono (by omega)))
                  clear bx hcl g0 g6 c0 c1 c2 c3 c4 c5 c6 c7 CE
                  cases r
                  · have hres := HR.out.symm.trans (all_not2 (p := fun a => ((!lentB a || false) && rE m a)) Ha.out (by rw [Hr2.out, Bool.and_false]))
                    go_wp2_with fail
                    go_ret
                    exact ⟨ret_bool (by simp [*]), belx.out⟩
                  · have HK2 : Hid (∀ (j : Nat) a, j < k + 1 → es[j]? = some a → ((!lentB a || false) && rE m a) = true) := Lib.hid fun j a hj hx => by
                      by_cases e : j = k
                      · subst e
                        rw [Ha.out] at hx
                        cases hx
                        rw [Hq.out, Hr2.out]; rfl
                      · exact HK.out j a (by omega) hx
                    go_wp2_with fail
                    go_roundw
                    case rel => exact ⟨k + 1, by omega, by go_num, hzx, x0, x6, belx, HK2⟩
                    case measure => simp [intOf]; omega
                · have hres := HR.out.symm.trans (all_not2 (p := fun a => ((!lentB a || false) && rE m a)) Ha.out (by rw [Hq.out]; rfl))
                  go_wp2_with fail
                  go_ret
                  exact ⟨ret_bool (by simp [*]), bell.out⟩
              · obtain rfl : k = n1 := by omega
                have hres := HR.out.symm.trans (all_yes2 (p := fun a => ((!lentB a || false) && rE m a)) (l := es) fun j a hx => HK.out j a (by rw [Hall.out]; exact (List.getElem?_eq_some_iff.1 hx).1) hx)
                go_wp2_with fail
                go_ret
                exact ⟨ret_bool (by simp [*]), hbel.out⟩
          · have ens2 : (sc.toList == []) = false := beq_eq_false_iff_ne.2 hns
            have ens1 : sc.toList.isEmpty = false := by cases h : sc.toList with | nil => exact absurd h hns | cons a r => rfl
            clear hns
            go_wp2_with (first | (go_at_call 55; refine (Hh.out _ _).mono ?_; rintro _ _ ⟨rfl, rfl⟩) | (go_at_call 54; refine (Hm1.out _).mono ?_; rintro _ _ ⟨rfl, rfl⟩))
            go_ret
            exact ⟨ret_bool (by simp [*]), bel2.out⟩
        · have enn2 : (nm.toList == []) = false := beq_eq_false_iff_ne.2 hnn
          have enn1 : nm.toList.isEmpty = false := by cases h : nm.toList with | nil => exact absurd h hnn | cons a r => rfl
          clear hnn
          go_wp2_with (first | (go_at_call 55; refine (Hh.out _ _).mono ?_; rintro _ _ ⟨rfl, rfl⟩) | (go_at_call 54; refine (Hm1.out _).mono ?_; rintro _ _ ⟨rfl, rfl⟩))
          go_ret
          exact ⟨ret_bool (by simp [*]), bel2.out⟩
    · have hi2 : (iv == 0) = false := is_no' hi
      go_wp2_with (first | (go_at_call 55; refine (Hh.out _ _).mono ?_; rintro _ _ ⟨rfl, rfl⟩) | (go_at_call 54; refine (Hm1.out _).mono ?_; rintro _ _ ⟨rfl, rfl⟩))
      go_ret
      exact ⟨ret_bool (by simp [*]), bel1.out⟩
end Go.Proofs.YthilicmhdkmipaaGreatDoor
