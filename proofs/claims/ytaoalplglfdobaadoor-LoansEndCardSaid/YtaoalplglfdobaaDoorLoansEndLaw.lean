/- LoansEnd: what ends at a depth. -/
import Derived.Test.YtaoalplglfdobaaDoorLoansKit
import Derived.IntWalk
namespace Go.Proofs.YtaoalplglfdobaaDoor
open Go.RowKit
set_option linter.unusedVariables false

theorem endB_len (l : List LN) (d : Int) : (endB l d).length ≤ l.length := List.length_filter_le _ _
theorem endB_fit {l : List LN} {d : Int} (h : Fit l) : Fit (endB l d) :=
  ⟨Nat.le_trans (endB_len l d) h.len, fun x hx => h.fair x (List.mem_filter.1 hx).1, fun x hx => h.short x (List.mem_filter.1 hx).1⟩
theorem endB_twice (l : List LN) (a b : Int) : endB (endB l a) b = endB l (if b < a then b else a) := by
  unfold endB
  rw [List.filter_filter]
  congr 1
  funext x
  by_cases h : b < a
  · rw [if_pos h]
    by_cases h2 : x.till < b
    · have h3 : x.till < a := by omega
      simp [h2, h3]
    · simp [h2]
  · rw [if_neg h]
    by_cases h2 : x.till < a
    · have h3 : x.till < b := by omega
      simp [h2, h3]
    · simp [h2]
/-- how many hold till less -/
def cntB (l : List LN) (d : Int) : Nat := (endB l d).length
theorem cntB_take {l : List LN} {d : Int} {x : LN} {k : Nat} (h : l[k]? = some x) : cntB (l.take (k + 1)) d = cntB (l.take k) d + if x.till < d then 1 else 0 := by
  unfold cntB endB
  rw [List.take_add_one, h, List.filter_append, List.length_append]
  by_cases h2 : x.till < d <;> simp [h2]
theorem endN_calls (W : World) (l : List LN) (v : Value) (d : Int) (B : Nat) (hB : B ≤ W.heap.size) (h : NIn B W l v) (hf : Fit l) :
    Calls Tryd.prog 17 #[v, .int .i64 d] W fun e w' => ∃ a c, e = .returned (.slice a (endB l d).length c) ∧ Hid (NIn w'.heap.size w' (endB l d) (.slice a (endB l d).length c)) ∧ Below W.heap.size W w' := by
  refine (end_calls B l v d W hB h hf).mono ?_
  rintro e w' ⟨Z, v', rfl, hz, ho, hbb⟩
  have hzl : Z.length ≤ 400 := by rw [← List.length_map (f := Prod.fst), hz]; exact (endB_fit hf).len
  have hin := ho.in (by omega)
  rw [hz] at hin
  obtain ⟨ao, cap, rfl⟩ := hin.shape
  exact ⟨ao, cap, rfl, Lib.hid hin, hbb⟩

set_option maxRecDepth 100000 in
set_option maxHeartbeats 4000000 in
theorem loansEnd_walk (w : World) (l : List LN) (va : Value) (ha : NIn w.heap.size w l va ∧ ∀ x ∈ l, (Lit.int .i64 x.till).wf = true) (d0 : Int) (hd0 : -9223372036854775808 ≤ d0 ∧ d0 ≤ 9223372036854775807) (d1 : Int) (hd1 : -9223372036854775808 ≤ d1 ∧ d1 ≤ 9223372036854775807) (hT : Tb w.heap.size w) :
    Calls Tryd.prog 9 #[va, .int .i64 d0, .int .i64 d1] w fun e w' => e = .returned (.bool true) ∧ Below w.heap.size w w' := by
  have HT := Lib.hid hT
  have AW : Hid (∀ W, Hid (Below w.heap.size w W) → _) := Lib.hid fun W (h : Hid (Below w.heap.size w W)) => awake_up HT h
  have M1 : Hid (∀ W, Hid (Below w.heap.size w W) → _) := Lib.hid fun W (h : Hid (Below w.heap.size w W)) => manyB_calls w.heap.size l va W h.out.size (ha.1.below h.out)
  have hm1 := fun h => fit_of (l := l) h ha.2
  have hm2 := fun h => fewB_of (L := l) h
  have H0 : Hid (Below w.heap.size w w) := Lib.hid (Below.refl _ _)
  generalize manyB l = m1 at *
  obtain ⟨aa, ca, rfl⟩ := ha.1.shape
  cases m1 with
  | true =>
    clear hm1 hm2 ha hT
    go_enter Tryd.func9, Tryd.ntmps9
    go_wp2_with fail
    (with_reducible refine (M1.out _ H0).mono ?_)
    rintro e w1 ⟨rfl, b1⟩
    have H1 := hid_up H0 b1
    clear b1
    go_wp2_with fail
    (with_reducible refine (AW.out _ H1).mono ?_)
    rintro e w2 ⟨rfl, b2⟩
    have H2 := hid_up H1 b2
    clear b2
    go_wp2_with fail
    go_ret
    exact ⟨rfl, H2.out⟩
  | false =>
    have fa := hm1 rfl
    have la := (hm2 rfl).1
    obtain ⟨ds, hds⟩ : ∃ d : Int, d = if d1 < d0 then d1 else d0 := ⟨_, rfl⟩
    have HE2 : Hid (endB (endB l d0) d1 = endB l ds) := Lib.hid (by rw [hds]; exact endB_twice l d0 d1)
    have E1 : Hid (∀ W, Hid (Below w.heap.size w W) → _) := Lib.hid fun W (h : Hid (Below w.heap.size w W)) => endN_calls W l _ d0 w.heap.size h.out.size (ha.1.below h.out) fa
    have E2 : Hid (∀ (W : World) v, NIn W.heap.size W (endB l d0) v → _) := Lib.hid fun (W : World) v (h : NIn W.heap.size W (endB l d0) v) => endN_calls W (endB l d0) v d1 W.heap.size (Nat.le_refl _) h (endB_fit fa)
    have E3 : Hid (∀ W, Hid (Below w.heap.size w W) → _) := Lib.hid fun W (h : Hid (Below w.heap.size w W)) => endN_calls W l _ ds w.heap.size h.out.size (ha.1.below h.out) fa
    have S1 : Hid (∀ (W : World) v1 v2, NIn W.heap.size W (endB l ds) v1 → NIn W.heap.size W (endB l ds) v2 → Hid (Below w.heap.size w W) → _) := Lib.hid fun (W : World) v1 v2 (h1 : NIn W.heap.size W (endB l ds) v1) (h2 : NIn W.heap.size W (endB l ds) v2) (h : Hid (Below w.heap.size w W)) => sameL_calls W.heap.size (endB l ds) (endB l ds) v1 v2 W (Nat.le_refl _) h1 h2 ((hT.below h.out).mono h.out.size) (endB_fit fa) (endB_fit fa)
    rw [show sameB (endB l ds) (endB l ds) = true from sameB_iff.2 fun _ => Iff.rfl] at S1
    rw [HE2.out] at E2
    have hle := endB_len l ds
    have HLN := Lib.hid (show ∀ (j : Nat) x, (endB l ds)[j]? = some x → x.till < ds from fun j x hx => of_decide_eq_true (List.mem_filter.1 (List.mem_of_getElem? hx)).2)
    obtain ⟨n, hn⟩ : ∃ n, n = l.length := ⟨_, rfl⟩
    obtain ⟨m, hm⟩ : ∃ m, m = (endB l ds).length := ⟨_, rfl⟩
    have HM : Hid (cntB (l.take n) ds = m) := Lib.hid (by rw [hm, hn, List.take_length]; rfl)
    have HCT := Lib.hid fun k x (h : l[k]? = some x) => cntB_take (d := ds) h
    have HCL := Lib.hid fun k => (show cntB (l.take k) ds ≤ k from Nat.le_trans (endB_len _ _) (List.length_take_le k l))
    rw [← hn] at la hle ha ⊢
    rw [← hm] at E2 E3 hle
    rw [← hn] at E1 E3 M1
    obtain ⟨hmm, bb, oo, h1, r1⟩ := ha.1.at
    unfold maxLen at hmm
    have Hr := Lib.hid r1
    have Hq := Lib.hid h1
    have Hn := Lib.hid hn
    have Hm := Lib.hid hm
    generalize hEl0 : endB l ds = R at *
    have hEl := Lib.hid hEl0
    clear hm1 hm2 ha hT fa h1 r1 hn hm hEl0 HE2
    by_cases hlt : d1 < d0
    · rw [if_pos hlt] at hds
      subst hds
      generalize (endB l d0).length = n0 at *
      go_enter Tryd.func9, Tryd.ntmps9
      go_wp2_with fail
      (with_reducible refine (M1.out _ H0).mono ?_)
      rintro e w1 ⟨rfl, b1⟩
      have H1 := hid_up H0 b1
      clear b1
      go_wp2_with fail
      (with_reducible refine (E1.out _ H1).mono ?_)
      rintro e w2 ⟨a2, c2, rfl, N2, b2⟩
      have H2 := hid_up H1 b2
      clear b2 H1 E1 M1
      go_wp2_with fail
      (with_reducible refine (E2.out _ _ N2.out).mono ?_)
      rintro e w3 ⟨a3, c3, rfl, N3, b3⟩
      have H3 := hid_up H2 b3
      clear b3 H2 N2 E2
      go_wp2_with fail
      (with_reducible refine (E3.out _ H3).mono ?_)
      rintro e w4 ⟨a4, c4, rfl, N4, b4⟩
      have H4 := hid_up H3 b4
      have N3 := Lib.hid ((N3.out.below b4).mono b4.size)
      clear b4 H3 E3
      obtain ⟨hm4, b4, o4, g4, s4⟩ := N4.out.at
      unfold maxLen at hm4
      have G4 := Lib.hid g4
      have S4 := Lib.hid s4
      clear g4 s4
      go_wp2_with fail
      go_loop [10] (fun i => ∃ k : Nat, k ≤ m ∧ i = .int .i64 k)
        (fun i => m - (intOf i).toNat)
      case atStart => exact ⟨0, by omega, rfl⟩
      case round =>
        obtain ⟨k, hk, rfl⟩ := hrel
        have hk0 : 0 ≤ (k : Int) := by omega
        by_cases hlt2 : k < m
        · obtain ⟨y, hy, hym⟩ := get_at (l := R) (k := k) (by rw [← Hm.out]; exact hlt2)
          obtain ⟨rfl, hbb⟩ := G4.out (by omega)
          have hk1 : (k : Int) < (m : Int) := by omega
          obtain ⟨vy, cc, yi⟩ := S4.out k y hy
          have y3 := cc.2.2.2
          have hty := HLN.out k y hy
          generalize y.till = yt at *
          clear hy hym cc yi
          go_wp2_with fail
          go_round
          case rel => exact ⟨k + 1, by omega, by go_num⟩
          case measure => simp [intOf]; omega
        · obtain rfl : m = k := by omega
          go_wp2_with fail
          go_loop [11, 12] (fun c i => ∃ k : Nat, k ≤ n ∧ i = .int .i64 k ∧ c = .int .i64 (cntB (l.take k) ds : Nat))
            (fun _ i => n - (intOf i).toNat)
          case atStart => exact ⟨0, by omega, rfl, rfl⟩
          case round =>
            obtain ⟨k, hk, rfl, rfl⟩ := hrel
            have hk0 : 0 ≤ (k : Int) := by omega
            have hck := HCL.out k
            by_cases hlt3 : k < n
            · obtain ⟨y, hy, hym⟩ := get_at (l := l) (k := k) (by rw [← Hn.out]; exact hlt3)
              obtain ⟨rfl, hbb⟩ := Hq.out (by omega)
              have hk1 : (k : Int) < (n : Int) := by omega
              obtain ⟨vy, cc, yi⟩ := Hr.out k y hy
              have y3 := (H4.out.cell (p := ⟨bb, oo + k * 4 + 3, none⟩) hbb).trans cc.2.2.2
              have HS := Lib.hid (HCT.out k y hy)
              generalize y.till = yt at *
              generalize hcc : cntB (l.take k) ds = cn at *
              clear hy hym cc yi
              by_cases hty : yt < ds
              · have HS2 : Hid (cntB (l.take (k + 1)) ds = cn + 1) := Lib.hid (by rw [HS.out, if_pos hty])
                clear HS hcc
                go_wp2_with fail
                go_round
                case rel => exact ⟨k + 1, by omega, by go_num, by rw [HS2.out]; go_num⟩
                case measure => simp [intOf]; omega
              · have HS2 : Hid (cntB (l.take (k + 1)) ds = cn) := Lib.hid (by rw [HS.out, if_neg hty]; rfl)
                clear HS hcc
                go_wp2_with fail
                go_round
                case rel => exact ⟨k + 1, by omega, by go_num, by rw [HS2.out]⟩
                case measure => simp [intOf]; omega
            · obtain rfl : n = k := by omega
              have e1 : cntB (l.take n) ds = m := HM.out
              rw [e1]
              have em : ((m : Int) == (m : Int)) = true := by simp
              clear e1
              go_wp2_with fail
              (with_reducible refine (S1.out _ _ _ N3.out N4.out H4).mono ?_)
              rintro e w5 ⟨rfl, b5⟩
              have H5 := hid_up H4 b5
              clear b5 H4
              go_wp2_with fail
              (with_reducible refine (AW.out _ H5).mono ?_)
              rintro e w6 ⟨rfl, b6⟩
              have H6 := hid_up H5 b6
              clear b6 H5
              go_wp2_with fail
              go_ret
              exact ⟨rfl, H6.out⟩
    · rw [if_neg hlt] at hds
      subst hds
      have N0 : Hid ((endB l ds).length = m) := Lib.hid (by rw [Hm.out, hEl.out])
      rw [N0.out] at E1
      go_enter Tryd.func9, Tryd.ntmps9
      go_wp2_with fail
      (with_reducible refine (M1.out _ H0).mono ?_)
      rintro e w1 ⟨rfl, b1⟩
      have H1 := hid_up H0 b1
      clear b1
      go_wp2_with fail
      (with_reducible refine (E1.out _ H1).mono ?_)
      rintro e w2 ⟨a2, c2, rfl, N2, b2⟩
      have H2 := hid_up H1 b2
      clear b2 H1 E1 M1
      go_wp2_with fail
      (with_reducible refine (E2.out _ _ N2.out).mono ?_)
      rintro e w3 ⟨a3, c3, rfl, N3, b3⟩
      have H3 := hid_up H2 b3
      clear b3 H2 N2 E2
      go_wp2_with fail
      (with_reducible refine (E3.out _ H3).mono ?_)
      rintro e w4 ⟨a4, c4, rfl, N4, b4⟩
      have H4 := hid_up H3 b4
      have N3 := Lib.hid ((N3.out.below b4).mono b4.size)
      clear b4 H3 E3
      obtain ⟨hm4, b4, o4, g4, s4⟩ := N4.out.at
      unfold maxLen at hm4
      have G4 := Lib.hid g4
      have S4 := Lib.hid s4
      clear g4 s4
      go_wp2_with fail
      go_loop [10] (fun i => ∃ k : Nat, k ≤ m ∧ i = .int .i64 k)
        (fun i => m - (intOf i).toNat)
      case atStart => exact ⟨0, by omega, rfl⟩
      case round =>
        obtain ⟨k, hk, rfl⟩ := hrel
        have hk0 : 0 ≤ (k : Int) := by omega
        by_cases hlt2 : k < m
        · obtain ⟨y, hy, hym⟩ := get_at (l := R) (k := k) (by rw [← Hm.out]; exact hlt2)
          obtain ⟨rfl, hbb⟩ := G4.out (by omega)
          have hk1 : (k : Int) < (m : Int) := by omega
          obtain ⟨vy, cc, yi⟩ := S4.out k y hy
          have y3 := cc.2.2.2
          have hty := HLN.out k y hy
          generalize y.till = yt at *
          clear hy hym cc yi
          go_wp2_with fail
          go_round
          case rel => exact ⟨k + 1, by omega, by go_num⟩
          case measure => simp [intOf]; omega
        · obtain rfl : m = k := by omega
          go_wp2_with fail
          go_loop [11, 12] (fun c i => ∃ k : Nat, k ≤ n ∧ i = .int .i64 k ∧ c = .int .i64 (cntB (l.take k) ds : Nat))
            (fun _ i => n - (intOf i).toNat)
          case atStart => exact ⟨0, by omega, rfl, rfl⟩
          case round =>
            obtain ⟨k, hk, rfl, rfl⟩ := hrel
            have hk0 : 0 ≤ (k : Int) := by omega
            have hck := HCL.out k
            by_cases hlt3 : k < n
            · obtain ⟨y, hy, hym⟩ := get_at (l := l) (k := k) (by rw [← Hn.out]; exact hlt3)
              obtain ⟨rfl, hbb⟩ := Hq.out (by omega)
              have hk1 : (k : Int) < (n : Int) := by omega
              obtain ⟨vy, cc, yi⟩ := Hr.out k y hy
              have y3 := (H4.out.cell (p := ⟨bb, oo + k * 4 + 3, none⟩) hbb).trans cc.2.2.2
              have HS := Lib.hid (HCT.out k y hy)
              generalize y.till = yt at *
              generalize hcc : cntB (l.take k) ds = cn at *
              clear hy hym cc yi
              by_cases hty : yt < ds
              · have HS2 : Hid (cntB (l.take (k + 1)) ds = cn + 1) := Lib.hid (by rw [HS.out, if_pos hty])
                clear HS hcc
                go_wp2_with fail
                go_round
                case rel => exact ⟨k + 1, by omega, by go_num, by rw [HS2.out]; go_num⟩
                case measure => simp [intOf]; omega
              · have HS2 : Hid (cntB (l.take (k + 1)) ds = cn) := Lib.hid (by rw [HS.out, if_neg hty]; rfl)
                clear HS hcc
                go_wp2_with fail
                go_round
                case rel => exact ⟨k + 1, by omega, by go_num, by rw [HS2.out]⟩
                case measure => simp [intOf]; omega
            · obtain rfl : n = k := by omega
              have e1 : cntB (l.take n) ds = m := HM.out
              rw [e1]
              have em : ((m : Int) == (m : Int)) = true := by simp
              clear e1
              go_wp2_with fail
              (with_reducible refine (S1.out _ _ _ N3.out N4.out H4).mono ?_)
              rintro e w5 ⟨rfl, b5⟩
              have H5 := hid_up H4 b5
              clear b5 H4
              go_wp2_with fail
              (with_reducible refine (AW.out _ H5).mono ?_)
              rintro e w6 ⟨rfl, b6⟩
              have H6 := hid_up H5 b6
              clear b6 H5
              go_wp2_with fail
              go_ret
              exact ⟨rfl, H6.out⟩
end Go.Proofs.YtaoalplglfdobaaDoor
