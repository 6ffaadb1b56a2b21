/- LoansOne: a use conflicts with a book just if it conflicts with one of its loans. -/
import Derived.Test.YtaoalplglfdobaaDoorLoansKit
import Derived.IntWalk
import Derived.Deep.RegionHeld3
namespace Go.Proofs.YtaoalplglfdobaaDoor
open Go.RowKit
set_option linter.unusedVariables false

def badU (u : Int) (p : PP) (x : LN) : Bool := decide (mayB [x] p u = 141)
theorem mayB_one (x : LN) (p : PP) (u : Int) : badU u p x = (decide (1 ≤ u ∧ u ≤ 6) && badB p u x) := by
  unfold badU mayB
  by_cases h : u < 1 ∨ 6 < u
  · rw [if_pos h]
    have : ¬ (1 ≤ u ∧ u ≤ 6) := by omega
    simp [this]
  · rw [if_neg h]
    have : 1 ≤ u ∧ u ≤ 6 := by omega
    cases h2 : badB p u x <;> simp [this, h2]
theorem mayB_any (l : List LN) (p : PP) (u : Int) : decide (mayB l p u = 141) = l.any (badU u p) := by
  have e : badU u p = fun x => decide (1 ≤ u ∧ u ≤ 6) && badB p u x := funext fun x => mayB_one x p u
  rw [e]
  unfold mayB
  by_cases h : u < 1 ∨ 6 < u
  · rw [if_pos h]
    have : decide (1 ≤ u ∧ u ≤ 6) = false := decide_eq_false (by omega)
    rw [this]
    simp
  · rw [if_neg h]
    have : decide (1 ≤ u ∧ u ≤ 6) = true := decide_eq_true (by omega)
    rw [this]
    cases h2 : l.any (badB p u) <;> simp [h2]
theorem mayB_vals (l : List LN) (p : PP) (u : Int) : mayB l p u = 2 ∧ (u < 1 ∨ 6 < u) ∨ mayB l p u = 0 ∧ 1 ≤ u ∧ u ≤ 6 ∨ mayB l p u = 141 ∧ 1 ≤ u ∧ u ≤ 6 := by
  unfold mayB
  by_cases h : u < 1 ∨ 6 < u
  · rw [if_pos h]; exact .inl ⟨rfl, h⟩
  · rw [if_neg h]
    have : 1 ≤ u ∧ u ≤ 6 := by omega
    cases l.any (badB p u)
    · exact .inr (.inl ⟨rfl, this⟩)
    · exact .inr (.inr ⟨rfl, this⟩)
theorem mayB_part {l r : List LN} {p : PP} {u : Int} (h : mayB r p u = 0) (hs : ∀ x, x ∈ l → x ∈ r) : mayB l p u = 0 := by
  unfold mayB at *
  by_cases h1 : u < 1 ∨ 6 < u
  · rw [if_pos h1] at h; cases h
  · rw [if_neg h1] at h ⊢
    have h3 : r.any (badB p u) = false := by
      cases h4 : r.any (badB p u)
      · rfl
      · rw [h4] at h; cases h
    have h5 : l.any (badB p u) = false := by
      rw [List.any_eq_false] at h3 ⊢
      exact fun x hx => h3 x (hs x hx)
    rw [h5]; rfl
theorem any_takeU {l : List LN} {u : Int} {p : PP} {x : LN} {k : Nat} (hx : l[k]? = some x) : (l.take (k + 1)).any (badU u p) = ((l.take k).any (badU u p) || badU u p x) := any_takeB hx
theorem unionN_calls (W : World) (xs ys : List LN) (v1 v2 : Value) (B : Nat) (hB : B ≤ W.heap.size) (h1 : NIn B W xs v1) (h2 : NIn B W ys v2) (hT : Tb B W) (f1 : Fit xs) (f2 : Fit ys) :
    Calls Tryd.prog 18 #[v1, v2] W fun e w' => ∃ a c, e = .returned (.slice a (unionB xs ys).length c) ∧ Hid (NIn w'.heap.size w' (unionB xs ys) (.slice a (unionB xs ys).length c)) ∧ Below W.heap.size W w' := by
  refine (union_calls B xs ys v1 v2 W hB h1 h2 hT f1 f2).mono ?_
  rintro e w' ⟨Z, v', rfl, hz, ho, hbb⟩
  have hzl : Z.length ≤ 800 := by
    rw [← List.length_map (f := Prod.fst), hz]
    have := unionB_len xs ys
    have := f1.len
    have := f2.len
    omega
  have hin := ho.in (by omega)
  rw [hz] at hin
  obtain ⟨ao, cap, rfl⟩ := hin.shape
  exact ⟨ao, cap, rfl, Lib.hid hin, hbb⟩

theorem box_of (x : LN) (v : Value) (wr W : World) (h : Hid (Below (wr.alloc (.cells #[.string x.place.name, v, .bool x.alone, .int .i64 x.till] 36)).heap.size (wr.alloc (.cells #[.string x.place.name, v, .bool x.alone, .int .i64 x.till] 36)) W)) (hx : x.place.In wr.heap.size wr v) :
    NIn W.heap.size W [x] (.slice (some ⟨wr.heap.size, 0, none⟩) 1 1) := by
  have hs := h.out.size
  simp at hs
  have c : ∀ j u, (wr.alloc (.cells #[.string x.place.name, v, .bool x.alone, .int .i64 x.till] 36)).cell? ⟨wr.heap.size, j, none⟩ = some u → W.cell? ⟨wr.heap.size, j, none⟩ = some u := fun j u hu => (h.out.cell (p := ⟨wr.heap.size, j, none⟩) (by simp)).trans hu
  have bx := box1 wr (.cells #[.string x.place.name, v, .bool x.alone, .int .i64 x.till] 36)
  exact box_N (w := wr) (o := 0) (B := W.heap.size) (by omega) ⟨c 0 _ (by go_simp), c 1 _ (by go_simp), c 2 _ (by go_simp), c 3 _ (by go_simp)⟩ ((hx.below (up_tr bx h.out)).mono (by omega))

set_option maxRecDepth 100000 in
set_option maxHeartbeats 4000000 in
theorem loansOne_walk (w : World) (a : List LN) (va : Value) (ha : NIn w.heap.size w a va ∧ ∀ x ∈ a, (Lit.int .i64 x.till).wf = true) (b : List LN) (vb : Value) (hb : NIn w.heap.size w b vb ∧ ∀ x ∈ b, (Lit.int .i64 x.till).wf = true) (q : PP) (vq : Value) (hq : q.In w.heap.size w vq) (u : Int) (hu : 0 ≤ u ∧ u ≤ 255) (hT : Tb w.heap.size w) :
    Calls Tryd.prog 6 #[va, vb, .agg #[.string q.name, vq], .int .u8 u] w fun e w' => e = .returned (.bool true) ∧ Below w.heap.size w w' := by
  obtain ⟨hu0, hu1⟩ := hu
  have HT := Lib.hid hT
  have AW : Hid (∀ W, Hid (Below w.heap.size w W) → _) := Lib.hid fun W (h : Hid (Below w.heap.size w W)) => awake_up HT h
  have M1 : Hid (∀ W, Hid (Below w.heap.size w W) → _) := Lib.hid fun W (h : Hid (Below w.heap.size w W)) => manyB_calls w.heap.size a va W h.out.size (ha.1.below h.out)
  have M2 : Hid (∀ W, Hid (Below w.heap.size w W) → _) := Lib.hid fun W (h : Hid (Below w.heap.size w W)) => manyB_calls w.heap.size b vb W h.out.size (hb.1.below h.out)
  have L1 : Hid (∀ W, Hid (Below w.heap.size w W) → _) := Lib.hid fun W (h : Hid (Below w.heap.size w W)) => long_calls q w.heap.size vq W h.out.size (hq.below h.out)
  have hm1 := fun h => fit_of (l := a) h ha.2
  have hm2 := fun h => fit_of (l := b) h hb.2
  generalize manyB a = m1 at *
  generalize manyB b = m2 at *
  generalize longP q = m3 at *
  obtain ⟨aa, ca, rfl⟩ := ha.1.shape
  obtain ⟨ab, cb, rfl⟩ := hb.1.shape
  obtain ⟨aq, cq, rfl⟩ := hq.shape
  obtain ⟨sq, hsq⟩ : ∃ s, s = q.name := ⟨_, rfl⟩
  rw [← hsq] at L1 ⊢
  have mB : Hid (Below w.heap.size w (w.alloc (.cells #[.string sq, .slice aq q.path.length cq] 25))) := Lib.hid (box1 _ _)
  cases m1 with
  | true =>
    clear L1 M2 hm1 hm2 ha hb hq hT hsq
    go_enter Tryd.func6, Tryd.ntmps6
    go_wp2_with fail
    (with_reducible refine (M1.out _ mB).mono ?_)
    rintro e w1 ⟨rfl, b1⟩
    have H1 := hid_up mB b1
    clear b1
    go_wp2_with fail
    (with_reducible refine (AW.out _ H1).mono ?_)
    rintro e w9 ⟨rfl, b9⟩
    have H9 := hid_up H1 b9
    clear b9
    go_wp2_with fail
    go_ret
    exact ⟨rfl, H9.out⟩
  | false =>
    cases m2 with
    | true =>
      clear L1 hm1 hm2 ha hb hq hT hsq
      go_enter Tryd.func6, Tryd.ntmps6
      go_wp2_with fail
      (with_reducible refine (M1.out _ mB).mono ?_)
      rintro e w1 ⟨rfl, b1⟩
      have H1 := hid_up mB b1
      clear b1
      go_wp2_with fail
      (with_reducible refine (M2.out _ H1).mono ?_)
      rintro e w2 ⟨rfl, b2⟩
      have H2 := hid_up H1 b2
      clear b2
      go_wp2_with fail
      (with_reducible refine (AW.out _ H2).mono ?_)
      rintro e w9 ⟨rfl, b9⟩
      have H9 := hid_up H2 b9
      clear b9
      go_wp2_with fail
      go_ret
      exact ⟨rfl, H9.out⟩
    | false =>
      cases m3 with
      | true =>
        generalize q.path.length = nq at *
        clear hm1 hm2 ha hb hq hT hsq
        go_enter Tryd.func6, Tryd.ntmps6
        go_wp2_with fail
        (with_reducible refine (M1.out _ mB).mono ?_)
        rintro e w1 ⟨rfl, b1⟩
        have f0 := (b1.cell (p := ⟨w.heap.size, 0, none⟩) (by simp)).trans (show _ = some (Value.string sq) by go_simp)
        have f1 := (b1.cell (p := ⟨w.heap.size, 1, none⟩) (by simp)).trans (show _ = some (Value.slice aq nq cq) by go_simp)
        have z1 : w.heap.size < w1.heap.size := Nat.lt_of_lt_of_le (by simp) b1.size
        have H1 := hid_up mB b1
        clear b1
        go_wp2_with fail
        (with_reducible refine (M2.out _ H1).mono ?_)
        rintro e w2 ⟨rfl, b2⟩
        have f0 := (b2.cell (p := ⟨w.heap.size, 0, none⟩) z1).trans f0
        have f1 := (b2.cell (p := ⟨w.heap.size, 1, none⟩) z1).trans f1
        have H2 := hid_up H1 b2
        clear b2
        go_wp2_with fail
        (with_reducible refine (L1.out _ H2).mono ?_)
        rintro e w3 ⟨rfl, b3⟩
        have H3 := hid_up H2 b3
        clear b3
        go_wp2_with fail
        (with_reducible refine (AW.out _ H3).mono ?_)
        rintro e w9 ⟨rfl, b9⟩
        have H9 := hid_up H3 b9
        clear b9
        go_wp2_with fail
        go_ret
        exact ⟨rfl, H9.out⟩
      | false =>
        have fa := hm1 rfl
        have fb := hm2 rfl
        have la := fa.len
        have lb := fb.len
        have U1 : Hid (∀ W, Hid (Below w.heap.size w W) → _) := Lib.hid fun W (h : Hid (Below w.heap.size w W)) => unionN_calls W a b _ _ w.heap.size h.out.size (ha.1.below h.out) (hb.1.below h.out) (hT.below h.out) fa fb
        have YA : Hid (∀ W, Hid (Below w.heap.size w W) → _) := Lib.hid fun W (h : Hid (Below w.heap.size w W)) => may_calls w.heap.size a q u hu0 hu1 _ _ (by omega) W h.out.size (ha.1.below h.out) (hq.below h.out)
        have YB : Hid (∀ W, Hid (Below w.heap.size w W) → _) := Lib.hid fun W (h : Hid (Below w.heap.size w W)) => may_calls w.heap.size b q u hu0 hu1 _ _ (by omega) W h.out.size (hb.1.below h.out) (hq.below h.out)
        have hlu : (unionB a b).length ≤ 1000 := by have := unionB_len a b; omega
        have YU : Hid (∀ (W : World) v, NIn W.heap.size W (unionB a b) v → Hid (Below w.heap.size w W) → _) := Lib.hid fun (W : World) v (h1 : NIn W.heap.size W (unionB a b) v) (h : Hid (Below w.heap.size w W)) => may_calls W.heap.size (unionB a b) q u hu0 hu1 v _ hlu W (Nat.le_refl _) h1 ((hq.below h.out).mono h.out.size)
        have YO : Hid (∀ (W : World) v (y : LN), NIn W.heap.size W [y] v → Hid (Below w.heap.size w W) → _) := Lib.hid fun (W : World) v y (h1 : NIn W.heap.size W [y] v) (h : Hid (Below w.heap.size w W)) => may_calls W.heap.size [y] q u hu0 hu1 v _ (by simp) W (Nat.le_refl _) h1 ((hq.below h.out).mono h.out.size)
        have HPA := Lib.hid (fun h => mayB_part (l := a) (r := unionB a b) (p := q) (u := u) h fun x hx => unionB_mem.2 (.inl hx))
        have HPB := Lib.hid (fun h => mayB_part (l := b) (r := unionB a b) (p := q) (u := u) h fun x hx => unionB_mem.2 (.inr hx))
        have HAN := Lib.hid (mayB_any (unionB a b) q u)
        have HV := Lib.hid (mayB_vals (unionB a b) q u)
        rw [← hsq] at YA YB YU YO
        generalize unionB a b = R at *
        generalize mayB a q u = ra at *
        generalize mayB b q u = rb at *
        generalize hre : mayB R q u = re at *
        obtain ⟨m, hm⟩ : ∃ m, m = R.length := ⟨_, rfl⟩
        rw [← hm] at U1 hlu
        have Hm := Lib.hid hm
        have HZ : Hid (([] : List LN).any (badU u q) = false) := Lib.hid rfl
        have HTK : Hid (R.take m = R) := Lib.hid (by rw [hm]; exact List.take_length)
        generalize q.path.length = nq at *
        generalize a.length = na at *
        generalize b.length = nb at *
        clear hm1 hm2 ha hb hq hT hsq fa fb la lb hre hm
        go_enter Tryd.func6, Tryd.ntmps6
        go_wp2_with fail
        (with_reducible refine (M1.out _ mB).mono ?_)
        rintro e w1 ⟨rfl, b1⟩
        have f0 := (b1.cell (p := ⟨w.heap.size, 0, none⟩) (by simp)).trans (show _ = some (Value.string sq) by go_simp)
        have f1 := (b1.cell (p := ⟨w.heap.size, 1, none⟩) (by simp)).trans (show _ = some (Value.slice aq nq cq) by go_simp)
        have z1 : w.heap.size < w1.heap.size := Nat.lt_of_lt_of_le (by simp) b1.size
        have H1 := hid_up mB b1
        clear b1 mB
        go_wp2_with fail
        (with_reducible refine (M2.out _ H1).mono ?_)
        rintro e w2 ⟨rfl, b2⟩
        have f0 := (b2.cell (p := ⟨w.heap.size, 0, none⟩) z1).trans f0
        have f1 := (b2.cell (p := ⟨w.heap.size, 1, none⟩) z1).trans f1
        have z2 : w.heap.size < w2.heap.size := Nat.lt_of_lt_of_le z1 b2.size
        have H2 := hid_up H1 b2
        clear b2 H1 z1
        go_wp2_with fail
        (with_reducible refine (L1.out _ H2).mono ?_)
        rintro e w3 ⟨rfl, b3⟩
        have f0 := (b3.cell (p := ⟨w.heap.size, 0, none⟩) z2).trans f0
        have f1 := (b3.cell (p := ⟨w.heap.size, 1, none⟩) z2).trans f1
        have z3 : w.heap.size < w3.heap.size := Nat.lt_of_lt_of_le z2 b3.size
        have H3 := hid_up H2 b3
        clear b3 H2 z2 M1 M2 L1
        go_wp2_with fail
        (with_reducible refine (U1.out _ H3).mono ?_)
        rintro e w4 ⟨ar, cr, rfl, N4, b4⟩
        have f0 := (b4.cell (p := ⟨w.heap.size, 0, none⟩) z3).trans f0
        have f1 := (b4.cell (p := ⟨w.heap.size, 1, none⟩) z3).trans f1
        have z4 : w.heap.size < w4.heap.size := Nat.lt_of_lt_of_le z3 b4.size
        have H4 := hid_up H3 b4
        clear b4 H3 z3 U1
        have hN4 := N4.out
        obtain ⟨hm4, b4, o4, g4, s4⟩ := hN4.at
        have G4 := Lib.hid g4
        have S4 := Lib.hid s4
        clear g4 s4 hN4 hm4
        go_wp2_with fail
        go_loopw [10, 11] (fun c i wr => ∃ k : Nat, k ≤ m ∧ i = .int .i64 k ∧ c = .bool ((R.take k).any (badU u q)) ∧ Hid (Below w4.heap.size w4 wr))
          (fun _ i _ => m - (intOf i).toNat)
        case atStart => exact ⟨0, by omega, rfl, rfl, Lib.hid (Below.refl _ _)⟩
        case round =>
          obtain ⟨k, hk, rfl, rfl, hbel⟩ := hrel
          have hk0 : 0 ≤ (k : Int) := by omega
          have f0 := (hbel.out.cell (p := ⟨w.heap.size, 0, none⟩) z4).trans f0
          have f1 := (hbel.out.cell (p := ⟨w.heap.size, 1, none⟩) z4).trans f1
          have zr : w.heap.size < wr.heap.size := Nat.lt_of_lt_of_le z4 hbel.out.size
          by_cases hlt : k < m
          · obtain ⟨y, hy, hym⟩ := get_at (l := R) (k := k) (by rw [← Hm.out]; exact hlt)
            obtain ⟨rfl, hbb⟩ := G4.out (by omega)
            have hk1 : (k : Int) < (m : Int) := by omega
            obtain ⟨vy, cc, yi⟩ := S4.out k y hy
            obtain ⟨y0, y1, y2, y3⟩ := cc.below hbb hbel.out
            have zb : b4 < wr.heap.size := Nat.lt_of_lt_of_le hbb hbel.out.size
            have HS := Lib.hid (any_takeU (u := u) (p := q) hy)
            have HB1 := Lib.hid (show badU u q y = decide (mayB [y] q u = 141) from rfl)
            have HX := Lib.hid ((yi.below hbel.out).mono hbel.out.size)
            have HYO := Lib.hid fun (W : World) (h : Hid (Below (wr.alloc (.cells #[.string y.place.name, vy, .bool y.alone, .int .i64 y.till] 36)).heap.size (wr.alloc (.cells #[.string y.place.name, vy, .bool y.alone, .int .i64 y.till] 36)) W)) => YO.out W _ y (box_of y vy wr W h HX.out) (Lib.hid ((H4.out.trans (hbel.out.mono H4.out.size)).trans ((up_tr (box1 wr _) h.out).mono (Nat.le_of_lt zr))))
            rw [HB1.out] at HS
            obtain ⟨ay, cy, rfl⟩ := yi.shape
            generalize hr1 : mayB [y] q u = r1 at *
            generalize y.place.path.length = ny at *
            generalize y.place.name = sy at *
            generalize y.alone = ya at *
            generalize y.till = yt at *
            have e1 : (r1 == 141) = decide (r1 = 141) := rfl
            generalize decide (r1 = 141) = bd at *
            generalize hbt : (R.take k).any (badU u q) = bt at *
            clear hy hym cc yi HX HB1 hbt hr1
            cases bt
            · have HS2 : Hid ((R.take (k + 1)).any (badU u q) = bd) := Lib.hid (by rw [HS.out]; rfl)
              clear HS
              have K4 := Lib.hid fun (W W' : World) (h : Hid (Below wr.heap.size wr W)) (b : Below W.heap.size W W') => row_next' wr W W' h b
              go_wp2_with fail
              go_region_held3 (fun w' => (∀ b o, b < wr.heap.size → w'.cell? ⟨b, o, none⟩ = wr.cell? ⟨b, o, none⟩) ∧ Hid (Below wr.heap.size wr w')) ((first | exact XB | (refine S_of _ _ ?_; ((repeat (first | exact row_refl' _ | assumption | refine hup ?_ (row_box _ _) | refine hup ?_ (row_dr _))); done))))
                (first
                  | (go_at_call 12; (with_reducible refine (HYO.out _ ?hb).mono ?_); (case hb => ((repeat (first | exact row_refl' _ | refine hup ?_ (row_dr _) | refine hup ?_ (row_box _ _))); done)); rintro e wn ⟨rfl, bn⟩; have XB := K4.out _ _ (by ((repeat (first | exact row_refl' _ | assumption | refine hup ?_ (row_box _ _) | refine hup ?_ (row_dr _))); done)) bn; clear bn))
              have HB := Lib.hid (hbel.out.trans (XB.2.out.mono hbel.out.size))
              go_wp2_with fail
              go_roundw
              case rel => exact ⟨k + 1, by omega, by go_num, by rw [HS2.out], HB⟩
              case measure => simp [intOf]; omega
            · have HS2 : Hid ((R.take (k + 1)).any (badU u q) = true) := Lib.hid (by rw [HS.out]; rfl)
              clear HS
              go_wp2_with fail
              refine wp_region_over (by kernel_rfl) (by kernel_rfl) ?_
              repeat (go_big_quiet_step (fail))
              refine wpQuiet_nil ?_
              rintro _ ⟨mm, rfl⟩
              have HB := Lib.hid (hbel.out.trans (mm.h.mono hbel.out.size))
              generalize mm.w = w8 at *
              go_wp2_with fail
              go_roundw
              case rel => exact ⟨k + 1, by omega, by go_num, by rw [HS2.out], HB⟩
              case measure => simp [intOf]; omega
          · obtain rfl : m = k := by omega
            have H5 := Lib.hid (H4.out.trans (hbel.out.mono H4.out.size))
            have N5 := Lib.hid ((N4.out.below hbel.out).mono hbel.out.size)
            rw [HTK.out, ← HAN.out]
            have HYU := Lib.hid (YU.out wr _ N5.out H5)
            clear hbel H4 N4 HTK HAN YO YU HZ
            rcases HV.out with ⟨rfl, hv⟩ | ⟨rfl, hv1, hv2⟩ | ⟨rfl, hv1, hv2⟩
            · have hv0 : u = 0 ∨ 6 < u := by omega
              clear HPA HPB YA YB HV hv
              rcases hv0 with rfl | hv0
              all_goals
                try (have hu6 := decide_eq_false (p := u ≤ 6) (by omega))
                go_wp2_with fail
                (with_reducible refine HYU.out.mono ?_)
                rintro e w6 ⟨rfl, b6⟩
                have H6 := hid_up H5 b6
                clear b6 H5 HYU
                go_wp2_with fail
                (with_reducible refine (AW.out _ H6).mono ?_)
                rintro e w9 ⟨rfl, b9⟩
                have H9 := hid_up H6 b9
                clear b9
                go_wp2_with fail
                go_ret
                exact ⟨rfl, H9.out⟩
            · have hra : ra = 0 := HPA.out rfl
              have hrb : rb = 0 := HPB.out rfl
              subst hra hrb
              clear HPA HPB HV
              go_wp2_with fail
              (with_reducible refine HYU.out.mono ?_)
              rintro e w6 ⟨rfl, b6⟩
              have f0 := (b6.cell (p := ⟨w.heap.size, 0, none⟩) zr).trans f0
              have f1 := (b6.cell (p := ⟨w.heap.size, 1, none⟩) zr).trans f1
              have z6 : w.heap.size < w6.heap.size := Nat.lt_of_lt_of_le zr b6.size
              have H6 := hid_up H5 b6
              clear b6 H5 HYU
              go_wp2_with fail
              (with_reducible refine (YA.out _ H6).mono ?_)
              rintro e w7 ⟨rfl, b7⟩
              have f0 := (b7.cell (p := ⟨w.heap.size, 0, none⟩) z6).trans f0
              have f1 := (b7.cell (p := ⟨w.heap.size, 1, none⟩) z6).trans f1
              have H7 := hid_up H6 b7
              clear b7 H6 YA
              go_wp2_with fail
              (with_reducible refine (YB.out _ H7).mono ?_)
              rintro e w8 ⟨rfl, b8⟩
              have H8 := hid_up H7 b8
              clear b8 H7 YB
              go_wp2_with fail
              (with_reducible refine (AW.out _ H8).mono ?_)
              rintro e w9 ⟨rfl, b9⟩
              have H9 := hid_up H8 b9
              clear b9
              go_wp2_with fail
              go_ret
              exact ⟨rfl, H9.out⟩
            · clear HPA HPB YA YB HV
              go_wp2_with fail
              (with_reducible refine HYU.out.mono ?_)
              rintro e w6 ⟨rfl, b6⟩
              have H6 := hid_up H5 b6
              clear b6 H5 HYU
              go_wp2_with fail
              (with_reducible refine (AW.out _ H6).mono ?_)
              rintro e w9 ⟨rfl, b9⟩
              have H9 := hid_up H6 b9
              clear b9
              go_wp2_with fail
              go_ret
              exact ⟨rfl, H9.out⟩
end Go.Proofs.YtaoalplglfdobaaDoor
