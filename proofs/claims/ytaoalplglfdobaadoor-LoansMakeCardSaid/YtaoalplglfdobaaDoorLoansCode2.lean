/- loans.Add, End, Of, Same, May. -/
import Derived.Test.YtaoalplglfdobaaDoorLoansCode
namespace Go.Proofs.YtaoalplglfdobaaDoor
open Go.RowKit
set_option linter.unusedVariables false

theorem Fit.one {x : LN} (h : x.Fair) (h2 : x.place.path.length ≤ 1000) : Fit [x] := ⟨by simp, fun y hy => by rw [List.mem_singleton] at hy; subst hy; exact h, fun y hy => by rw [List.mem_singleton] at hy; subst hy; exact h2⟩
theorem box_N {B : Nat} {w : World} {x : LN} {v : Value} {o : Nat} {W : World} {g : Nat} (hg : g < B) (h : CellN W g 0 x v) (hx : x.place.In B W v) : NIn B W [x] (.slice (some ⟨g, 0, none⟩) 1 1) := by
  refine ⟨g, 0, ⟨by unfold maxLen; simp, _, 1, rfl, by simp, .inr ⟨rfl, hg⟩⟩, fun j y hj => ?_⟩
  match j, hj with
  | 0, hj => cases hj; exact ⟨v, h, hx⟩

set_option maxRecDepth 100000 in
set_option maxHeartbeats 2000000 in
theorem add_calls (B : Nat) (xs : List LN) (x : LN) (v1 v : Value) (w : World) (hB : B ≤ w.heap.size) (h1 : NIn B w xs v1) (hx : x.place.In B w v) (hT : Tb B w) (f1 : Fit xs) (f2 : x.Fair) (f3 : x.place.path.length ≤ 1000) :
    Calls Tryd.prog 16 #[v1, .agg #[.string x.place.name, v, .bool x.alone, .int .i64 x.till]] w fun e w' => ∃ Z v', e = .returned v' ∧ Z.map Prod.fst = addB xs x ∧ OwnZ w.heap.size Z v' w' ∧ Below w.heap.size w w' := by
  have HC := Lib.hid fun (W : World) (hb : Below w.heap.size w W) (v2 : Value) (h2 : NIn W.heap.size W [x] v2) => union_calls W.heap.size xs [x] v1 v2 W (Nat.le_refl _) ((h1.below (hb.mono hB)).mono (Nat.le_trans hB hb.size)) h2 ((hT.below (hb.mono hB)).mono (Nat.le_trans hB hb.size)) f1 (Fit.one f2 f3)
  have HX := Lib.hid hx
  obtain ⟨a1, c1, rfl⟩ := h1.shape
  obtain ⟨av, cv, rfl⟩ := hx.shape
  have HU : Hid (unionB xs [x] = addB xs x) := Lib.hid rfl
  have hHN := fun (W : World) (hb : Below w.heap.size w W) (g : Nat) (hg : g < W.heap.size) (h : CellN W g 0 x (.slice av x.place.path.length cv)) => box_N (B := W.heap.size) (w := w) (o := 0) hg h ((hx.below (hb.mono hB)).mono (Nat.le_trans hB hb.size))
  have HN := Lib.hid hHN
  generalize addB xs x = R at *
  generalize hny : x.place.path.length = ny at *
  obtain ⟨sx, hsx⟩ : ∃ s, s = x.place.name := ⟨_, rfl⟩
  obtain ⟨xa, hxa⟩ : ∃ s, s = x.alone := ⟨_, rfl⟩
  obtain ⟨xt, hxt⟩ : ∃ s, s = x.till := ⟨_, rfl⟩
  rw [← hsx, ← hxa, ← hxt]
  have HS := Lib.hid (show sx = x.place.name ∧ xa = x.alone ∧ xt = x.till from ⟨hsx, hxa, hxt⟩)
  clear h1 hx hT f1 f2 f3 hny hsx hxa hxt hHN
  go_enter Tryd.func16, Tryd.ntmps16
  go_wp2_with fail
  have b0 := box2 w (.cells #[.string sx, .slice av ny cv, .bool xa, .int .i64 xt] 36) (.cells #[.string sx, .slice av ny cv, .bool xa, .int .i64 xt] 36)
  have hNIn := HN.out _ b0 (w.heap.size + 1) (by simp) (by
    unfold CellN
    rw [← HS.out.1, ← HS.out.2.1, ← HS.out.2.2]
    exact ⟨by go_simp, by go_simp, by go_simp, by go_simp⟩)
  (with_reducible refine (HC.out _ b0 _ hNIn).mono ?_)
  rintro e w1 ⟨Z, u, rfl, hz, ho, hb⟩
  have HE := Lib.hid (show Z.map Prod.fst = R ∧ OwnZ w.heap.size Z u w1 ∧ Below w.heap.size w w1 from ⟨by rw [hz, HU.out], ho.mono b0.size, b0.trans (hb.mono b0.size)⟩)
  clear b0 hNIn hz ho hb HC
  go_wp2_with fail
  go_ret
  exact ⟨_, _, rfl, HE.out⟩

set_option maxRecDepth 100000 in
set_option maxHeartbeats 2000000 in
theorem end_calls (B : Nat) (xs : List LN) (v1 : Value) (d : Int) (w : World) (hB : B ≤ w.heap.size) (h1 : NIn B w xs v1) (f1 : Fit xs) :
    Calls Tryd.prog 17 #[v1, .int .i64 d] w fun e w' => ∃ Z v', e = .returned v' ∧ Z.map Prod.fst = endB xs d ∧ OwnZ w.heap.size Z v' w' ∧ Below w.heap.size w w' := by
  have HC := Lib.hid fun (W : World) (hb : Below w.heap.size w W) (g : Nat) (hg : W.cell? ⟨g, 0, none⟩ = some (.int .i64 d)) => kept_calls (end_asks B g d) xs v1 (by have := f1.len; omega) (fun _ _ => trivial) f1.short W (Nat.le_trans hB hb.size) (h1.below (hb.mono hB)) hg
  obtain ⟨a1, c1, rfl⟩ := h1.shape
  generalize xs.length = n at *
  clear h1 f1
  go_enter Tryd.func17, Tryd.ntmps17
  go_wp2_with fail
  have b0 := box1 w (.cells #[.int .i64 d] 3)
  (with_reducible refine (HC.out _ b0 w.heap.size (by go_simp)).mono ?_)
  rintro e w1 ⟨Z, u, rfl, hz, ho, ht⟩
  have HE := Lib.hid (show Z.map Prod.fst = endB xs d ∧ OwnZ w.heap.size Z u w1 ∧ Below w.heap.size w w1 from ⟨by rw [hz, keptA_plain (fun x => decide (x.till < d))]; rfl, ho.mono b0.size, b0.trans (ht.below (by simp) (fun _ h => h.elim))⟩)
  clear b0 hz ho ht HC
  go_wp2_with fail
  go_ret
  exact ⟨_, _, rfl, HE.out⟩
def ofB (l : List LN) (s : ByteArray) : List LN := l.filter fun x => decide (keyS x.place.name = keyS s)
set_option maxRecDepth 100000 in
set_option maxHeartbeats 2000000 in
theorem of_calls (B : Nat) (xs : List LN) (v1 : Value) (s : ByteArray) (w : World) (hB : B ≤ w.heap.size) (h1 : NIn B w xs v1) (f1 : Fit xs) :
    Calls Tryd.prog 19 #[v1, .string s] w fun e w' => ∃ Z v', e = .returned v' ∧ Z.map Prod.fst = ofB xs s ∧ OwnZ w.heap.size Z v' w' ∧ Below w.heap.size w w' := by
  have HC := Lib.hid fun (W : World) (hb : Below w.heap.size w W) (g : Nat) (hg : W.cell? ⟨g, 0, none⟩ = some (.string s)) => kept_calls (of_asks B g s) xs v1 (by have := f1.len; omega) (fun _ _ => trivial) f1.short W (Nat.le_trans hB hb.size) (h1.below (hb.mono hB)) hg
  obtain ⟨a1, c1, rfl⟩ := h1.shape
  generalize xs.length = n at *
  clear h1 f1
  go_enter Tryd.func19, Tryd.ntmps19
  go_wp2_with fail
  have b0 := box1 w (.cells #[.string s] 9)
  (with_reducible refine (HC.out _ b0 w.heap.size (by go_simp)).mono ?_)
  rintro e w1 ⟨Z, u, rfl, hz, ho, ht⟩
  have HE := Lib.hid (show Z.map Prod.fst = ofB xs s ∧ OwnZ w.heap.size Z u w1 ∧ Below w.heap.size w w1 from ⟨by rw [hz, keptA_plain (fun x => decide (keyS x.place.name = keyS s))]; rfl, ho.mono b0.size, b0.trans (ht.below (by simp) (fun _ h => h.elim))⟩)
  clear b0 hz ho ht HC
  go_wp2_with fail
  go_ret
  exact ⟨_, _, rfl, HE.out⟩

/-! ### Same -/
theorem any_besides (a b : List LN) : anyA (fun acc x => !hasB (b ++ acc) x) [] a = !(a.all (hasB b)) := by
  cases h : a.all (hasB b)
  · rw [Bool.not_false]
    cases h2 : anyA (fun acc x => !hasB (b ++ acc) x) [] a
    · exfalso
      have h3 := anyA_from.1 h2
      have key : ∀ n, ∀ x ∈ a.take n, hasB b x = true := by
        intro n
        induction n with
        | zero => intro x hx; simp at hx
        | succ n ih =>
          intro x hx
          rw [List.take_add_one] at hx
          rcases List.mem_append.1 hx with hx | hx
          · exact ih x hx
          · rw [Option.mem_toList] at hx
            have h4 := h3 n x hx
            rw [List.nil_append, Bool.not_eq_false', hasB_iff, List.mem_append] at h4
            rcases h4 with h4 | h4
            · exact hasB_iff.2 h4
            · exact ih x h4
      have h5 := key a.length
      rw [List.take_length] at h5
      rw [List.all_eq_true.2 h5] at h
      cases h
    · rfl
  · rw [Bool.not_true]
    rw [List.all_eq_true] at h
    refine anyA_from.2 fun j x hx => ?_
    rw [List.nil_append, Bool.not_eq_false', hasB_iff, List.mem_append]
    exact .inl (hasB_iff.1 (h x (List.mem_of_getElem? hx)))
set_option maxRecDepth 100000 in
set_option maxHeartbeats 2000000 in
theorem sameL_calls (B : Nat) (xs ys : List LN) (v1 v2 : Value) (w : World) (hB : B ≤ w.heap.size) (h1 : NIn B w xs v1) (h2 : NIn B w ys v2) (hT : Tb B w) (f1 : Fit xs) (f2 : Fit ys) :
    Calls Tryd.prog 25 #[v1, v2] w fun e w' => e = .returned (.bool (sameB xs ys)) ∧ Below w.heap.size w w' := by
  have go : ∀ (xs ys : List LN) (v1 v2 : Value), NIn B w xs v1 → NIn B w ys v2 → Fit xs → Fit ys → ∀ (W W2 : World) (hb : Below w.heap.size w W) (hb2 : Below W.heap.size W W2) (hI : Bes (W.heap.size + 1) W.heap.size ys.length ys W2),
      Calls Tryd.prog 30 #[v1, .func (.func 45) #[] #[.pointer (some ⟨W.heap.size + 1, 0, none⟩)]] W2 fun e w' => e = .returned (.bool (!(xs.all (hasB ys)))) ∧ Below w.heap.size w w' := by
    intro xs ys v1 v2 h1 h2 f1 f2 W W2 hb hb2 hI
    rw [← any_besides]
    refine (contains_calls (beside_asks B (W.heap.size + 1) W.heap.size ys (by have := f2.len; omega) (by have := hb.size; omega) (Nat.le_trans hB hb.size)) xs v1 (by have := f1.len; omega) f1.fair W2 (Nat.le_trans (Nat.le_trans hB hb.size) hb2.size)
      (h1.below ((hb.trans (hb2.mono hb.size)).mono hB)) ⟨by simpa using hI, hT.below ((hb.trans (hb2.mono hb.size)).mono hB)⟩).mono ?_
    rintro e w' ⟨he, ht⟩
    exact ⟨he, (hb.trans (hb2.mono hb.size)).trans (ht.below (Nat.le_trans hb.size hb2.size) (fun k h => by have := hb.size; omega))⟩
  have HB1 := Lib.hid fun (W : World) (hb : Below w.heap.size w W) => beside_calls B ys v2 (by have := f2.len; omega) W (Nat.le_trans hB hb.size) (h2.below (hb.mono hB)) (hT.below (hb.mono hB)) f2.fair
  have HB2 := Lib.hid fun (W : World) (hb : Below w.heap.size w W) => beside_calls B xs v1 (by have := f1.len; omega) W (Nat.le_trans hB hb.size) (h1.below (hb.mono hB)) (hT.below (hb.mono hB)) f1.fair
  have HC1 := Lib.hid (go xs ys v1 v2 h1 h2 f1 f2)
  have HC2 := Lib.hid (go ys xs v2 v1 h2 h1 f2 f1)
  obtain ⟨a1, c1, rfl⟩ := h1.shape
  obtain ⟨a2, c2, rfl⟩ := h2.shape
  unfold sameB
  generalize xs.all (hasB ys) = r1 at *
  generalize ys.all (hasB xs) = r2 at *
  clear h1 h2 hT f1 f2 go
  cases r1
  · go_enter Tryd.func25, Tryd.ntmps25
    go_wp2_with fail
    (with_reducible refine (HB1.out w (Below.refl _ _)).mono ?_)
    rintro e w1 ⟨rfl, hbes, b1⟩
    have HC := Lib.hid (HC1.out w w1 (Below.refl _ _) b1 hbes)
    clear hbes b1 HC1 HC2 HB1 HB2
    go_wp2_with fail
    (with_reducible refine HC.out.mono ?_)
    rintro e w2 ⟨rfl, b2⟩
    have Hb := Lib.hid b2
    clear b2 HC
    go_wp2_with fail
    go_ret
    exact ⟨rfl, Hb.out⟩
  · go_enter Tryd.func25, Tryd.ntmps25
    go_wp2_with fail
    (with_reducible refine (HB1.out w (Below.refl _ _)).mono ?_)
    rintro e w1 ⟨rfl, hbes, b1⟩
    have HC := Lib.hid (HC1.out w w1 (Below.refl _ _) b1 hbes)
    clear hbes b1 HC1 HB1
    go_wp2_with fail
    (with_reducible refine HC.out.mono ?_)
    rintro e w2 ⟨rfl, b2⟩
    have Hb := Lib.hid b2
    clear b2 HC
    go_wp2_with fail
    (with_reducible refine (HB2.out w2 Hb.out).mono ?_)
    rintro e w3 ⟨rfl, hbes, b3⟩
    have HC := Lib.hid (HC2.out w2 w3 Hb.out b3 hbes)
    clear hbes b3 HC2 HB2
    go_wp2_with fail
    (with_reducible refine HC.out.mono ?_)
    rintro e w4 ⟨rfl, b4⟩
    have Hb4 := Lib.hid b4
    clear b4 HC
    cases r2
    · go_wp2_with fail
      go_ret
      exact ⟨rfl, Hb4.out⟩
    · go_wp2_with fail
      go_ret
      exact ⟨rfl, Hb4.out⟩

/-! ### May -/
def isShare (u : Int) : Bool := decide (u = 1) || decide (u = 2)
theorem mayB_share (l : List LN) (p : PP) (u : Int) : mayB l p u = if u < 1 ∨ 6 < u then 2 else if l.any (badS p (isShare u)) then 141 else 0 := by
  have e : badB p u = badS p (isShare u) := by
    funext x
    unfold badB badS isShare
    by_cases h1 : u = 1 <;> by_cases h2 : u = 2 <;> simp [h1, h2]
  unfold mayB
  rw [e]
set_option maxRecDepth 100000 in
set_option maxHeartbeats 2000000 in
theorem may_calls (B : Nat) (l : List LN) (q : PP) (u : Int) (hu0 : 0 ≤ u) (hu1 : u ≤ 255) (v qv : Value) (hl : l.length ≤ 1000) (w : World) (hB : B ≤ w.heap.size) (h : NIn B w l v) (hq : q.In B w qv) :
    Calls Tryd.prog 12 #[v, .agg #[.string q.name, qv], .int .u8 u] w fun e w' => e = .returned (.int .i64 (mayB l q u)) ∧ Below w.heap.size w w' := by
  have HC := Lib.hid fun (sh : Bool) (W : World) (gp gs : Nat) (hb : Below w.heap.size w W) (h0 : W.cell? ⟨gp, 0, none⟩ = some (.string q.name)) (h1 : W.cell? ⟨gp, 1, none⟩ = some qv) (h2 : W.cell? ⟨gs, 0, none⟩ = some (.bool sh)) =>
    anyA_plain (badS q sh) [] l ▸ contains_calls (may_asks B gp gs q qv sh) l v hl (fun _ _ => trivial) W (Nat.le_trans hB hb.size) (h.below (hb.mono hB)) ⟨⟨h0, h1, h2⟩, hq.below (hb.mono hB)⟩
  rw [mayB_share]
  obtain ⟨aq, cq, rfl⟩ := hq.shape
  obtain ⟨al, cl, rfl⟩ := h.shape
  obtain ⟨sq, hsq⟩ : ∃ s, s = q.name := ⟨_, rfl⟩
  rw [← hsq] at HC ⊢
  generalize q.path.length = nq at *
  generalize l.length = nl at *
  clear h hq hsq
  by_cases h1 : u < 1
  · rw [if_pos (Or.inl h1)]
    go_enter Tryd.func12, Tryd.ntmps12
    go_wp2_with fail
    go_ret
    exact ⟨rfl, box1 _ _⟩
  by_cases h2 : 6 < u
  · rw [if_pos (Or.inr h2)]
    go_enter Tryd.func12, Tryd.ntmps12
    go_wp2_with fail
    go_ret
    exact ⟨rfl, box1 _ _⟩
  rw [if_neg (by omega)]
  rcases (show u = 1 ∨ u = 2 ∨ 3 ≤ u by omega) with rfl | rfl | h3
  · rw [show isShare 1 = true from rfl]
    clear h1 h2 hu0 hu1
    have HD := HC.out true
    generalize l.any (badS q true) = r at *
    have HC := Lib.hid HD
    clear HD
    go_enter Tryd.func12, Tryd.ntmps12
    go_wp2_with fail
    have b0 := box2 w (.cells #[.string sq, .slice aq nq cq] 25) (.cells #[.bool true] 4)
    (with_reducible refine (HC.out _ w.heap.size (w.heap.size + 1) b0 (by go_simp) (by go_simp) (by go_simp)).mono ?_)
    rintro e w1 ⟨rfl, ht⟩
    have Hb := Lib.hid (b0.trans (ht.below b0.size (fun _ h => h.elim)))
    clear b0 ht HC
    cases r
    · go_wp2_with fail
      go_ret
      exact ⟨rfl, Hb.out⟩
    · go_wp2_with fail
      go_ret
      exact ⟨rfl, Hb.out⟩
  · rw [show isShare 2 = true from rfl]
    clear h1 h2 hu0 hu1
    have HD := HC.out true
    generalize l.any (badS q true) = r at *
    have HC := Lib.hid HD
    clear HD
    go_enter Tryd.func12, Tryd.ntmps12
    go_wp2_with fail
    have b0 := box2 w (.cells #[.string sq, .slice aq nq cq] 25) (.cells #[.bool true] 4)
    (with_reducible refine (HC.out _ w.heap.size (w.heap.size + 1) b0 (by go_simp) (by go_simp) (by go_simp)).mono ?_)
    rintro e w1 ⟨rfl, ht⟩
    have Hb := Lib.hid (b0.trans (ht.below b0.size (fun _ h => h.elim)))
    clear b0 ht HC
    cases r
    · go_wp2_with fail
      go_ret
      exact ⟨rfl, Hb.out⟩
    · go_wp2_with fail
      go_ret
      exact ⟨rfl, Hb.out⟩
  · have e1 : decide (u = 1) = false := decide_eq_false (by omega)
    have e2 : decide (u = 2) = false := decide_eq_false (by omega)
    rw [show isShare u = false from by unfold isShare; rw [e1, e2]; rfl]
    have g1 : (u == 1) = false := beq_eq_false_iff_ne.2 (by omega)
    have g2 : (u == 2) = false := beq_eq_false_iff_ne.2 (by omega)
    have HD := HC.out false
    generalize l.any (badS q false) = r at *
    have HC := Lib.hid HD
    clear HD
    go_enter Tryd.func12, Tryd.ntmps12
    go_wp2_with fail
    have b0 := box2 w (.cells #[.string sq, .slice aq nq cq] 25) (.cells #[.bool false] 4)
    (with_reducible refine (HC.out _ w.heap.size (w.heap.size + 1) b0 (by go_simp) (by go_simp) (by go_simp)).mono ?_)
    rintro e w1 ⟨rfl, ht⟩
    have Hb := Lib.hid (b0.trans (ht.below b0.size (fun _ h => h.elim)))
    clear b0 ht HC
    cases r
    · go_wp2_with fail
      go_ret
      exact ⟨rfl, Hb.out⟩
    · go_wp2_with fail
      go_ret
      exact ⟨rfl, Hb.out⟩
end Go.Proofs.YtaoalplglfdobaaDoor
