/- LoansKept: a book that was kept has none alone that meets another one. -/
import Derived.Test.YtaoalplglfdobaaDoorLoansKit
import Derived.IntWalk
namespace Go.Proofs.YtaoalplglfdobaaDoor
open Go.RowKit
set_option linter.unusedVariables false

def useN (x : LN) : Int := if x.alone then 3 else 2
def stepN (bk : List LN) (x : LN) : List LN := if mayB bk x.place (useN x) = 0 then addB bk x else bk
def bookN (l : List LN) : List LN := l.foldl stepN []
theorem bookN_take {l : List LN} {x : LN} {k : Nat} (h : l[k]? = some x) : bookN (l.take (k + 1)) = stepN (bookN (l.take k)) x := by
  unfold bookN
  rw [List.take_add_one, h, List.foldl_append]
  rfl
theorem stepN_len (bk : List LN) (x : LN) : (stepN bk x).length ≤ bk.length + 1 := by
  unfold stepN
  split
  · exact addB_len _ _
  · omega
theorem stepN_mem {bk : List LN} {x y : LN} (h : y ∈ stepN bk x) : y ∈ bk ∨ y = x := by
  unfold stepN at h
  split at h
  · exact addB_mem.1 h
  · exact .inl h
theorem bookN_all (l : List LN) : (bookN l).length ≤ l.length ∧ ∀ y ∈ bookN l, y ∈ l := by
  have key : ∀ (l bk : List LN), (l.foldl stepN bk).length ≤ bk.length + l.length ∧ ∀ y ∈ l.foldl stepN bk, y ∈ bk ∨ y ∈ l := by
    intro l
    induction l with
    | nil => intro bk; exact ⟨by simp, fun y hy => .inl hy⟩
    | cons x l ih =>
      intro bk
      obtain ⟨h1, h2⟩ := ih (stepN bk x)
      have h3 := stepN_len bk x
      refine ⟨by rw [List.foldl_cons, List.length_cons]; omega, fun y hy => ?_⟩
      rcases h2 y hy with h4 | h4
      · rcases stepN_mem h4 with h5 | h5
        · exact .inl h5
        · exact .inr (by simp [h5])
      · exact .inr (by simp [h4])
  obtain ⟨h1, h2⟩ := key l []
  exact ⟨by simpa [bookN] using h1, fun y hy => by simpa using h2 y hy⟩
/-- of two that meet none is alone -/
def KeptN (bk : List LN) : Prop := ∀ (i k : Nat) x y, k < i → bk[i]? = some x → bk[k]? = some y → meetP x.place y.place = true → x.alone = false ∧ y.alone = false
theorem meetP_comm (a b : PP) : meetP a b = meetP b a := by unfold meetP; exact Bool.or_comm _ _
theorem KeptN.step {bk : List LN} (h : KeptN bk) (x : LN) : KeptN (stepN bk x) := by
  unfold stepN
  split
  · rename_i hm
    unfold addB
    split
    · exact h
    · intro i k y z hk hy hz hmeet
      by_cases hi : i < bk.length
      · rw [List.getElem?_append_left hi] at hy
        rw [List.getElem?_append_left (by omega)] at hz
        exact h i k y z hk hy hz hmeet
      · have hi2 : i = bk.length := by
          have := some_lt hy
          rw [List.length_append, List.length_singleton] at this
          omega
        subst hi2
        have hy2 : y = x := by simpa using hy.symm
        subst hy2
        rw [List.getElem?_append_left hk] at hz
        unfold mayB useN at hm
        have hbad : ∀ u : Int, (u = 3 ∨ u = 2) → (if u < 1 ∨ 6 < u then (2 : Int) else if bk.any (badB y.place u) then 141 else 0) = 0 → badB y.place u z = false := by
          intro u hu h1
          rw [if_neg (by omega)] at h1
          cases h2 : bk.any (badB y.place u)
          · rw [List.any_eq_false] at h2
            simpa using h2 z (List.mem_of_getElem? hz)
          · rw [h2] at h1; cases h1
        cases ha : y.alone
        · rw [ha] at hm
          have h1 := hbad 2 (.inr rfl) (by simpa using hm)
          unfold badB at h1
          rw [meetP_comm, hmeet] at h1
          refine ⟨rfl, ?_⟩
          cases hz2 : z.alone
          · rfl
          · rw [hz2] at h1; cases h1
        · rw [ha] at hm
          have h1 := hbad 3 (.inl rfl) (by simpa using hm)
          unfold badB at h1
          rw [meetP_comm, hmeet] at h1
          simp at h1
  · exact h
theorem keptN_all (l : List LN) : KeptN (bookN l) := by
  have key : ∀ (l bk : List LN), KeptN bk → KeptN (l.foldl stepN bk) := by
    intro l
    induction l with
    | nil => exact fun bk h => h
    | cons x l ih => exact fun bk h => ih _ (h.step x)
  exact key l [] (fun i k x y _ hx => by cases hx)
theorem mayB_two' (l : List LN) (p : PP) (u : Int) (h1 : 1 ≤ u) (h2 : u ≤ 6) : mayB l p u = 0 ∨ mayB l p u = 141 := by
  unfold mayB
  rw [if_neg (by omega)]
  split
  · exact .inr rfl
  · exact .inl rfl
theorem addN_calls (W : World) (xs : List LN) (x : LN) (v1 v : Value) (B : Nat) (hB : B ≤ W.heap.size) (h1 : NIn B W xs v1) (hx : x.place.In B W v) (hT : Tb B W) (f1 : Fit xs) (f2 : x.Fair) (f3 : x.place.path.length ≤ 1000) :
    Calls Tryd.prog 16 #[v1, .agg #[.string x.place.name, v, .bool x.alone, .int .i64 x.till]] W fun e w' => ∃ a c, e = .returned (.slice a (addB xs x).length c) ∧ Hid (NIn w'.heap.size w' (addB xs x) (.slice a (addB xs x).length c)) ∧ Below W.heap.size W w' := by
  refine (add_calls B xs x v1 v W hB h1 hx hT f1 f2 f3).mono ?_
  rintro e w' ⟨Z, v', rfl, hz, ho, hbb⟩
  have hzl : Z.length ≤ 401 := by
    rw [← List.length_map (f := Prod.fst), hz]
    have := addB_len xs x
    have := f1.len
    omega
  have hin := ho.in (by omega)
  rw [hz] at hin
  obtain ⟨ao, cap, rfl⟩ := hin.shape
  exact ⟨ao, cap, rfl, Lib.hid hin, hbb⟩

set_option maxRecDepth 100000 in
set_option maxHeartbeats 4000000 in
theorem loansKept_walk (w : World) (l : List LN) (va : Value) (ha : NIn w.heap.size w l va ∧ ∀ x ∈ l, (Lit.int .i64 x.till).wf = true) (hT : Tb w.heap.size w) :
    Calls Tryd.prog 8 #[va] w fun e w' => e = .returned (.bool true) ∧ Below w.heap.size w w' := by
  have HT := Lib.hid hT
  have AW : Hid (∀ W, Hid (Below w.heap.size w W) → _) := Lib.hid fun W (h : Hid (Below w.heap.size w W)) => awake_up HT h
  have M1 : Hid (∀ W, Hid (Below w.heap.size w W) → _) := Lib.hid fun W (h : Hid (Below w.heap.size w W)) => manyB_calls w.heap.size l va W h.out.size (ha.1.below h.out)
  have hm1 := fun h => fit_of (l := l) h ha.2
  have hm2 := fun h => fewB_of (L := l) h
  have H0 : Hid (Below w.heap.size w w) := Lib.hid (Below.refl _ _)
  generalize manyB l = m1 at *
  obtain ⟨aa, ca, rfl⟩ := ha.1.shape
  cases m1 with
  | true =>
    clear hm1 hm2 ha hT
    go_enter Tryd.func8, Tryd.ntmps8
    go_wp2_with fail
    (with_reducible refine (M1.out _ H0).mono ?_)
    rintro e w1 ⟨rfl, b1⟩
    have H1 := hid_up H0 b1
    clear b1
    go_wp2_with fail
    (with_reducible refine (AW.out _ H1).mono ?_)
    rintro e w2 ⟨rfl, b2⟩
    have H2 := hid_up H1 b2
    clear b2
    go_wp2_with fail
    go_ret
    exact ⟨rfl, H2.out⟩
  | false =>
    have fa := hm1 rfl
    have la := (hm2 rfl).1
    obtain ⟨n, hn⟩ : ∃ n, n = l.length := ⟨_, rfl⟩
    have HF : Hid (∀ k, Fit (bookN (l.take k))) := Lib.hid fun k => by
      obtain ⟨h1, h2⟩ := bookN_all (l.take k)
      have h3 := List.length_take_le k l
      have h4 : (l.take k).length ≤ l.length := by rw [List.length_take]; omega
      exact ⟨by omega, fun x hx => fa.fair x (List.mem_of_mem_take (h2 x hx)), fun x hx => fa.short x (List.mem_of_mem_take (h2 x hx))⟩
    have HK := Lib.hid (keptN_all l)
    have HA : Hid (l.take n = l) := Lib.hid (by rw [hn]; exact List.take_length)
    have HBT := Lib.hid fun k x (h : l[k]? = some x) => bookN_take h
    have HFL := Lib.hid fa
    have HTT := Lib.hid hT
    have HLA := Lib.hid ha.1
    have h := ha.1
    rw [← hn] at h la M1 ⊢
    obtain ⟨hmm, bb, oo, h1, r1⟩ := h.at
    unfold maxLen at hmm
    have Hr := Lib.hid r1
    have Hq := Lib.hid h1
    have Hn := Lib.hid hn
    clear hm1 hm2 ha hT fa h1 r1 hn h
    go_enter Tryd.func8, Tryd.ntmps8
    go_wp2_with fail
    (with_reducible refine (M1.out _ H0).mono ?_)
    rintro e w1 ⟨rfl, b1⟩
    have H1 := hid_up H0 b1
    clear b1 M1
    go_wp2_with fail
    go_loopw [3, 4] (fun s i wr => ∃ k : Nat, k ≤ n ∧ i = .int .i64 k ∧ ∃ a c, s = .slice a (bookN (l.take k)).length c ∧ Hid (NIn wr.heap.size wr (bookN (l.take k)) (.slice a (bookN (l.take k)).length c)) ∧ Hid (Below w.heap.size w wr))
      (fun _ i _ => n - (intOf i).toNat)
    case atStart => exact ⟨0, by omega, rfl, none, 0, rfl, Lib.hid (NIn.nil _ _), H1⟩
    case round =>
      obtain ⟨k, hk, rfl, ab, cb, rfl, HN, HB⟩ := hrel
      have hk0 : 0 ≤ (k : Int) := by omega
      by_cases hlt : k < n
      · obtain ⟨y, hy, hym⟩ := get_at (l := l) (k := k) (by rw [← Hn.out]; exact hlt)
        obtain ⟨rfl, hbb⟩ := Hq.out (by omega)
        have hk1 : (k : Int) < (n : Int) := by omega
        obtain ⟨vy, cc, yi⟩ := Hr.out k y hy
        have yi2 := (yi.below HB.out).mono HB.out.size
        obtain ⟨y0, y1, y2, y3⟩ := cc.below hbb HB.out
        have hf := HF.out k
        have hfl := hf.len
        have HS := Lib.hid (HBT.out k y hy)
        have hu := mayB_two' (bookN (l.take k)) y.place (useN y) (by unfold useN; split <;> omega) (by unfold useN; split <;> omega)
        have HY := Lib.hid (fun (u : Int) (hu0 : 0 ≤ u) (hu1 : u ≤ 255) => may_calls wr.heap.size (bookN (l.take k)) y.place u hu0 hu1 _ vy (by omega) wr (Nat.le_refl _) HN.out yi2)
        have HAd := Lib.hid (fun (W : World) (hb : Below wr.heap.size wr W) => addN_calls W (bookN (l.take k)) y _ vy wr.heap.size hb.size (HN.out.below hb) (yi2.below hb) ((HTT.out.below (HB.out.trans (hb.mono HB.out.size))).mono HB.out.size) hf (HFL.out.fair y hym) (HFL.out.short y hym))
        have zb : bb < wr.heap.size := Nat.lt_of_lt_of_le hbb HB.out.size
        unfold stepN at HS
        obtain ⟨ay, cy, rfl⟩ := yi.shape
        unfold useN at HS hu
        generalize hbk : bookN (l.take k) = bk at *
        generalize hyl : bookN (l.take (k + 1)) = bk1 at *
        have Hyl := Lib.hid hyl
        clear hyl
        generalize hya : y.alone = ya at *
        generalize y.place.path.length = ny at *
        obtain ⟨sy, hsy⟩ : ∃ s, s = y.place.name := ⟨_, rfl⟩
        rw [← hsy] at y0
        rw [← hsy] at HY HAd
        have Hsy := Lib.hid hsy
        clear hsy
        generalize y.till = yt at *
        clear hy hym cc yi yi2 hf hfl
        cases ya
        · rw [show (if false = true then (3 : Int) else 2) = 2 from rfl] at HS hu
          have HY := Lib.hid (HY.out 2 (by decide) (by decide))
          generalize hrm : mayB bk y.place 2 = rm at *
          clear hrm hya
          rcases hu with rfl | rfl
          · have HS9 : Hid (bk1 = addB bk y) := Lib.hid (by rw [HS.out, if_pos rfl])
            clear HS
            go_wp2_with fail
            (with_reducible refine HY.out.mono ?_)
            rintro e w2 ⟨rfl, b2⟩
            have y0 := (b2.cell (p := ⟨bb, oo + k * 4, none⟩) zb).trans y0
            have y1 := (b2.cell (p := ⟨bb, oo + k * 4 + 1, none⟩) zb).trans y1
            have y2 := (b2.cell (p := ⟨bb, oo + k * 4 + 2, none⟩) zb).trans y2
            have y3 := (b2.cell (p := ⟨bb, oo + k * 4 + 3, none⟩) zb).trans y3
            have HD := Lib.hid (HAd.out w2 b2)
            have H2 := hid_up HB b2
            clear b2 HY HAd HB HN
            go_wp2_with fail
            (with_reducible refine HD.out.mono ?_)
            rintro e w3 ⟨a3, c3, rfl, N3, b3⟩
            have H3 := hid_up H2 b3
            clear b3 H2 HD
            rw [← HS9.out] at N3 ⊢
            rw [← Hyl.out] at N3 ⊢
            go_wp2_with fail
            go_roundw
            case rel => exact ⟨k + 1, by omega, by go_num, _, _, rfl, N3, H3⟩
            case measure => simp [intOf]; omega
          · have HS9 : Hid (bk1 = bk) := Lib.hid (by rw [HS.out, if_neg (by decide)])
            clear HS
            go_wp2_with fail
            (with_reducible refine HY.out.mono ?_)
            rintro e w2 ⟨rfl, b2⟩
            have H2 := hid_up HB b2
            have N2 := Lib.hid ((HN.out.below b2).mono b2.size)
            clear b2 HY HAd HB HN
            rw [← HS9.out] at N2 ⊢
            rw [← Hyl.out] at N2 ⊢
            go_wp2_with fail
            go_roundw
            case rel => exact ⟨k + 1, by omega, by go_num, _, _, rfl, N2, H2⟩
            case measure => simp [intOf]; omega
        · rw [show (if true = true then (3 : Int) else 2) = 3 from rfl] at HS hu
          have HY := Lib.hid (HY.out 3 (by decide) (by decide))
          generalize hrm : mayB bk y.place 3 = rm at *
          clear hrm hya
          rcases hu with rfl | rfl
          · have HS9 : Hid (bk1 = addB bk y) := Lib.hid (by rw [HS.out, if_pos rfl])
            clear HS
            go_wp2_with fail
            (with_reducible refine HY.out.mono ?_)
            rintro e w2 ⟨rfl, b2⟩
            have y0 := (b2.cell (p := ⟨bb, oo + k * 4, none⟩) zb).trans y0
            have y1 := (b2.cell (p := ⟨bb, oo + k * 4 + 1, none⟩) zb).trans y1
            have y2 := (b2.cell (p := ⟨bb, oo + k * 4 + 2, none⟩) zb).trans y2
            have y3 := (b2.cell (p := ⟨bb, oo + k * 4 + 3, none⟩) zb).trans y3
            have HD := Lib.hid (HAd.out w2 b2)
            have H2 := hid_up HB b2
            clear b2 HY HAd HB HN
            go_wp2_with fail
            (with_reducible refine HD.out.mono ?_)
            rintro e w3 ⟨a3, c3, rfl, N3, b3⟩
            have H3 := hid_up H2 b3
            clear b3 H2 HD
            rw [← HS9.out] at N3 ⊢
            rw [← Hyl.out] at N3 ⊢
            go_wp2_with fail
            go_roundw
            case rel => exact ⟨k + 1, by omega, by go_num, _, _, rfl, N3, H3⟩
            case measure => simp [intOf]; omega
          · have HS9 : Hid (bk1 = bk) := Lib.hid (by rw [HS.out, if_neg (by decide)])
            clear HS
            go_wp2_with fail
            (with_reducible refine HY.out.mono ?_)
            rintro e w2 ⟨rfl, b2⟩
            have H2 := hid_up HB b2
            have N2 := Lib.hid ((HN.out.below b2).mono b2.size)
            clear b2 HY HAd HB HN
            rw [← HS9.out] at N2 ⊢
            rw [← Hyl.out] at N2 ⊢
            go_wp2_with fail
            go_roundw
            case rel => exact ⟨k + 1, by omega, by go_num, _, _, rfl, N2, H2⟩
            case measure => simp [intOf]; omega
      · obtain rfl : n = k := by omega
        rw [HA.out] at HN ⊢
        have hrl : (bookN l).length ≤ 400 := by have := (HF.out n).len; rwa [HA.out] at this
        generalize bookN l = R at *
        obtain ⟨m, hm⟩ : ∃ m, m = R.length := ⟨_, rfl⟩
        rw [← hm] at HN hrl ⊢
        have hNb := HN.out
        obtain ⟨hm4, b4, o4, g4, s4⟩ := hNb.at
        have G4 := Lib.hid g4
        have S4 := Lib.hid s4
        have Hm := Lib.hid hm
        obtain ⟨w5, hw5⟩ : ∃ W, W = wr := ⟨_, rfl⟩
        rw [← hw5] at HN HB S4 G4
        rw [← hw5]
        clear g4 s4 hNb hm4 hm hw5 HF HA HBT HFL HTT HLA Hr Hq Hn
        go_wp2_with fail
        go_loopw [6] (fun i wr => ∃ j : Nat, j ≤ m ∧ i = .int .i64 j ∧ Hid (Below w5.heap.size w5 wr))
          (fun i _ => m - (intOf i).toNat)
        case atStart => exact ⟨0, by omega, rfl, Lib.hid (Below.refl _ _)⟩
        case round =>
          obtain ⟨j, hj, rfl, hbel⟩ := hrel
          have hj0 : 0 ≤ (j : Int) := by omega
          obtain ⟨w6, hw6⟩ : ∃ W, W = wr := ⟨_, rfl⟩
          rw [← hw6] at hbel
          rw [← hw6]
          clear hw6
          by_cases hlt : j < m
          · obtain ⟨x, hx, _⟩ := get_at (l := R) (k := j) (by rw [← Hm.out]; exact hlt)
            obtain ⟨rfl, hbb⟩ := G4.out (by omega)
            have hj1 : (j : Int) < (m : Int) := by omega
            obtain ⟨vx, cx, xi⟩ := S4.out j x hx
            have Hx := Lib.hid hx
            have Cx := Lib.hid cx
            have Ix := Lib.hid xi
            clear hx cx xi
            go_wp2_with fail
            go_loopw [7] (fun i wr => ∃ k : Nat, k ≤ j ∧ i = .int .i64 k ∧ Hid (Below w5.heap.size w5 wr))
              (fun i _ => j - (intOf i).toNat)
            case atStart => exact ⟨0, by omega, rfl, hbel⟩
            case round =>
              obtain ⟨k, hk, rfl, hbel2⟩ := hrel
              have hk0 : 0 ≤ (k : Int) := by omega
              by_cases hlt2 : k < j
              · obtain ⟨y, hy, _⟩ := get_at (l := R) (k := k) (by rw [← Hm.out]; omega)
                have hk1 : (k : Int) < (j : Int) := by omega
                have hk2 : (k : Int) < (m : Int) := by omega
                obtain ⟨vy, cy, yi⟩ := S4.out k y hy
                have hmt := HK.out j k x y hlt2 Hx.out hy
                obtain ⟨x0, x1, x2, x3⟩ := Cx.out.below hbb hbel2.out
                obtain ⟨y0, y1, y2, y3⟩ := cy.below hbb hbel2.out
                have zb : b4 < wr.heap.size := Nat.lt_of_lt_of_le hbb hbel2.out.size
                have X0 : ∀ m : Over wr, m.w.cell? ⟨b4, o4 + j * 4, none⟩ = some (.string x.place.name) := fun m => (m.cells _ _ zb).trans x0
                have X1 : ∀ m : Over wr, m.w.cell? ⟨b4, o4 + j * 4 + 1, none⟩ = some vx := fun m => (m.cells _ _ zb).trans x1
                have X2 : ∀ m : Over wr, m.w.cell? ⟨b4, o4 + j * 4 + 2, none⟩ = some (.bool x.alone) := fun m => (m.cells _ _ zb).trans x2
                have Y0 : ∀ m : Over wr, m.w.cell? ⟨b4, o4 + k * 4, none⟩ = some (.string y.place.name) := fun m => (m.cells _ _ zb).trans y0
                have Y1 : ∀ m : Over wr, m.w.cell? ⟨b4, o4 + k * 4 + 1, none⟩ = some vy := fun m => (m.cells _ _ zb).trans y1
                have Y2 : ∀ m : Over wr, m.w.cell? ⟨b4, o4 + k * 4 + 2, none⟩ = some (.bool y.alone) := fun m => (m.cells _ _ zb).trans y2
                have A1 := Lib.hid fun m : Over wr => over_calls (meets_calls wr.heap.size x.place y.place vx vy m.w m.h.size (((Ix.out.below hbel2.out).mono hbel2.out.size).below m.h) (((yi.below hbel2.out).mono hbel2.out.size).below m.h))
                generalize meetP x.place y.place = mt at *
                generalize x.place.name = sx at *
                generalize y.place.name = sy at *
                generalize hxa : x.alone = xa at *
                generalize hya : y.alone = ya at *
                clear x0 x1 x2 x3 y0 y1 y2 y3 hy cy yi hxa hya
                cases mt
                · clear hmt
                  go_wp2_with fail
                  refine wp_region_over (by kernel_rfl) (by kernel_rfl) ?_
                  repeat (go_big_quiet_step ((go_at_call 28; exact A1.out _)))
                  refine wpQuiet_nil ?_
                  rintro _ ⟨mm, rfl⟩
                  have HB2 := Lib.hid (hbel2.out.trans (mm.h.mono hbel2.out.size))
                  clear X0 X1 X2 Y0 Y1 Y2 A1
                  generalize mm.w = w8 at *
                  go_wp2_with fail
                  go_roundw
                  case rel => exact ⟨k + 1, by omega, by go_num, HB2⟩
                  case measure => simp [intOf]; omega
                · obtain ⟨rfl, rfl⟩ := hmt rfl
                  clear hmt
                  go_wp2_with fail
                  refine wp_region_over (by kernel_rfl) (by kernel_rfl) ?_
                  repeat (go_big_quiet_step ((go_at_call 28; exact A1.out _)))
                  refine wpQuiet_nil ?_
                  rintro _ ⟨mm, rfl⟩
                  have HB2 := Lib.hid (hbel2.out.trans (mm.h.mono hbel2.out.size))
                  clear X0 X1 X2 Y0 Y1 Y2 A1
                  generalize mm.w = w8 at *
                  go_wp2_with fail
                  go_roundw
                  case rel => exact ⟨k + 1, by omega, by go_num, HB2⟩
                  case measure => simp [intOf]; omega
              · obtain rfl : j = k := by omega
                go_wp2_with fail
                go_roundw
                case rel => exact ⟨j + 1, by omega, by go_num, hbel2⟩
                case measure => simp [intOf]; omega
          · obtain rfl : m = j := by omega
            have H6 := Lib.hid (HB.out.trans (hbel.out.mono HB.out.size))
            go_wp2_with fail
            (with_reducible refine (AW.out _ H6).mono ?_)
            rintro e w9 ⟨rfl, b9⟩
            have H9 := hid_up H6 b9
            clear b9
            go_wp2_with fail
            go_ret
            exact ⟨rfl, H9.out⟩
end Go.Proofs.YtaoalplglfdobaaDoor
