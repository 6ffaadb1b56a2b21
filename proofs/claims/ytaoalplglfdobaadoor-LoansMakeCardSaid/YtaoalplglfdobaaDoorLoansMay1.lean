/- May's closure; slices.IndexFunc, ContainsFunc of a closure that is asked of loans. -/
import Derived.Test.YtaoalplglfdobaaDoorLoansAsks
namespace Go.Proofs.YtaoalplglfdobaaDoor
open Go.RowKit
set_option linter.unusedVariables false

/-- a use conflicts with a loan; sh: is it one that only shares? -/
def badS (q : PP) (sh : Bool) (x : LN) : Bool := meetP x.place q && (x.alone || !sh)
set_option maxRecDepth 100000 in
set_option maxHeartbeats 1000000 in
theorem may1_calls (B : Nat) (x : LN) (v : Value) (q : PP) (qv : Value) (sh : Bool) (gp gs : Nat) (w : World) (hB : B ≤ w.heap.size) (hx : x.place.In B w v) (hq : q.In B w qv)
    (h0 : w.cell? ⟨gp, 0, none⟩ = some (.string q.name)) (h1 : w.cell? ⟨gp, 1, none⟩ = some qv) (h2 : w.cell? ⟨gs, 0, none⟩ = some (.bool sh)) :
    Calls Tryd.prog 29 #[.agg #[.string x.place.name, v, .bool x.alone, .int .i64 x.till], .pointer (some ⟨gp, 0, none⟩), .pointer (some ⟨gs, 0, none⟩)] w fun e w' => e = .returned (.bool (badS q sh x)) ∧ Below w.heap.size w w' := by
  have HC := Lib.hid fun (W : World) (hb : Below w.heap.size w W) => meets_calls B x.place q v qv W (Nat.le_trans hB hb.size) (hx.below (hb.mono hB)) (hq.below (hb.mono hB))
  have l0 := World.block_lt_of_cell? w _ h0
  have l2 := World.block_lt_of_cell? w _ h2
  simp only at l0 l2
  obtain ⟨av, cv, rfl⟩ := hx.shape
  obtain ⟨aq, cq, rfl⟩ := hq.shape
  unfold badS
  generalize meetP x.place q = r at *
  generalize x.place.path.length = nx at *
  generalize q.path.length = nq at *
  generalize x.place.name = sx at *
  generalize q.name = sq at *
  generalize x.alone = xa at *
  generalize x.till = xt at *
  clear hx hq
  go_enter Tryd.func29, Tryd.ntmps29
  have b0 := box1 w (.cells #[.string sx, .slice av nx cv, .bool xa, .int .i64 xt] 36)
  have fin : ∀ (W : World), Below w.heap.size (w.alloc (.cells #[.string sx, .slice av nx cv, .bool xa, .int .i64 xt] 36)) W → True := fun _ _ => trivial
  cases r
  · go_wp2_with (go_at_call 28; refine (HC.out _ b0).mono ?_; rintro e w1 ⟨rfl, b1⟩; have Hb := Lib.hid (up_tr b0 b1); clear b1)
    go_ret
    exact ⟨rfl, Hb.out⟩
  · cases xa
    · cases sh
      · go_wp2_with (go_at_call 28; refine (HC.out _ b0).mono ?_; rintro e w1 ⟨rfl, b1⟩; have Hb := Lib.hid (up_tr b0 b1); have f1 := (b1.cell (p := ⟨w.heap.size, 2, none⟩) (by simp)).trans (show _ = some (Value.bool false) by go_simp); have f2 := cell_up h2 (up_tr b0 b1); clear b1)
        go_ret
        exact ⟨rfl, Hb.out⟩
      · go_wp2_with (go_at_call 28; refine (HC.out _ b0).mono ?_; rintro e w1 ⟨rfl, b1⟩; have Hb := Lib.hid (up_tr b0 b1); have f1 := (b1.cell (p := ⟨w.heap.size, 2, none⟩) (by simp)).trans (show _ = some (Value.bool false) by go_simp); have f2 := cell_up h2 (up_tr b0 b1); clear b1)
        go_ret
        exact ⟨rfl, Hb.out⟩
    · go_wp2_with (go_at_call 28; refine (HC.out _ b0).mono ?_; rintro e w1 ⟨rfl, b1⟩; have Hb := Lib.hid (up_tr b0 b1); have f1 := (b1.cell (p := ⟨w.heap.size, 2, none⟩) (by simp)).trans (show _ = some (Value.bool true) by go_simp); have f2 := cell_up h2 (up_tr b0 b1); clear b1)
      go_ret
      exact ⟨by simp, Hb.out⟩
theorem may_asks (B gp gs : Nat) (q : PP) (qv : Value) (sh : Bool) : Asks B 29 #[.pointer (some ⟨gp, 0, none⟩), .pointer (some ⟨gs, 0, none⟩)] (fun k => k = gp ∨ k = gs) (fun _ => False)
    (fun _ W => (W.cell? ⟨gp, 0, none⟩ = some (.string q.name) ∧ W.cell? ⟨gp, 1, none⟩ = some qv ∧ W.cell? ⟨gs, 0, none⟩ = some (.bool sh)) ∧ q.In B W qv) (fun _ x => badS q sh x) (fun _ => True) where
  enters := may1_enters
  sub := fun _ h => h.elim
  above := fun _ h => h.elim
  has := fun _ W h k hk => by
    rcases hk with rfl | rfl
    · exact World.block_lt_of_cell? W _ h.1.1
    · exact World.block_lt_of_cell? W _ h.1.2.2
  stay := fun _ _ _ h k hb => ⟨⟨cell_stays h.1.1 (fun j hj => k j (.inl hj)), cell_stays h.1.2.1 (fun j hj => k j (.inl hj)), cell_stays h.1.2.2 (fun j hj => k j (.inr hj))⟩, h.2.below hb⟩
  calls := fun acc x v W _ hB h hx _ => (may1_calls B x v q qv sh gp gs W hB hx h.2 h.1.1 h.1.2.1 h.1.2.2).mono fun e w' ⟨h1, h2⟩ =>
    ⟨h1, ⟨⟨cell_up h.1.1 h2, cell_up h.1.2.1 h2, cell_up h.1.2.2 h2⟩, h.2.below (h2.mono hB)⟩, Turn.of_below h2⟩

/-- is there one of which it says yes? -/
def anyA (p : List LN → LN → Bool) (acc : List LN) : List LN → Bool
  | [] => false
  | x :: l => p acc x || anyA p (acc ++ [x]) l
theorem anyA_plain (p : LN → Bool) (acc l : List LN) : anyA (fun _ x => p x) acc l = l.any p := by
  induction l generalizing acc with
  | nil => rfl
  | cons y l ih => simp [anyA, ih]
/-- none of the first k -/
def NoneA (p : List LN → LN → Bool) (L : List LN) (k : Nat) : Prop := ∀ (j : Nat) x, j < k → L[j]? = some x → p (L.take j) x = false
theorem NoneA.next {p : List LN → LN → Bool} {L : List LN} {k : Nat} {y : LN} (h : NoneA p L k) (hy : L[k]? = some y) (hp : p (L.take k) y = false) : NoneA p L (k + 1) := by
  intro j x hj hx
  by_cases e : j = k
  · subst e
    rw [hy] at hx; cases hx; exact hp
  · exact h j x (by omega) hx
theorem anyA_from {p : List LN → LN → Bool} {acc l : List LN} : (anyA p acc l = false ↔ ∀ (j : Nat) x, l[j]? = some x → p (acc ++ l.take j) x = false) := by
  induction l generalizing acc with
  | nil => exact ⟨fun _ j x h => (by cases h), fun _ => rfl⟩
  | cons y l ih =>
    rw [anyA, Bool.or_eq_false_iff, ih]
    constructor
    · rintro ⟨h1, h2⟩ j x hx
      cases j with
      | zero => cases hx; simpa using h1
      | succ j => simpa using h2 j x (by simpa using hx)
    · intro h
      refine ⟨by simpa using h 0 y rfl, fun j x hx => by simpa using h (j + 1) x (by simpa using hx)⟩
theorem anyA_no {p : List LN → LN → Bool} {L : List LN} (h : NoneA p L L.length) : anyA p [] L = false := anyA_from.2 fun j x hx => by simpa using h j x (some_lt hx) hx
theorem anyA_yes {p : List LN → LN → Bool} {L : List LN} {k : Nat} {y : LN} (hy : L[k]? = some y) (hp : p (L.take k) y = true) : anyA p [] L = true := by
  cases h : anyA p [] L
  · have := anyA_from.1 h k y hy
    rw [List.nil_append, hp] at this
    cases this
  · rfl

set_option maxRecDepth 100000 in
set_option maxHeartbeats 2000000 in
theorem index_calls {B : Nat} {g : FuncId} {lb : Array Value} {C Q : Nat → Prop} {I : List LN → World → Prop} {p : List LN → LN → Bool} {ok : LN → Prop} (A : Asks B g lb C Q I p ok)
    (L : List LN) (v : Value) (hl : L.length ≤ 1000) (hok : ∀ x ∈ L, ok x) (w : World) (hB : B ≤ w.heap.size) (h : NIn B w L v) (hI : I [] w) :
    Calls Tryd.prog 42 #[v, .func (.func g) #[] lb] w fun e w' => ∃ i : Int, (0 ≤ i ∧ anyA p [] L = true ∨ i = -1 ∧ anyA p [] L = false) ∧ e = .returned (.int .i64 i) ∧ Turn Q w w' := by
  have hE := A.enters
  obtain ⟨ao, cap, rfl⟩ := h.shape
  obtain ⟨n, hn⟩ : ∃ n, n = L.length := ⟨_, rfl⟩
  rw [← hn] at h hl ⊢
  obtain ⟨hm, b, o, h1, r1⟩ := h.at
  unfold maxLen at hm
  have Hn := Lib.hid hn
  have Hr := Lib.hid r1
  have H1 := Lib.hid h1
  have HI := Lib.hid hI
  have Hok := Lib.hid hok
  have HAs := Lib.hid A
  have HP : Hid (∀ i : Int, (0 ≤ i ∧ anyA p [] L = true ∨ i = -1 ∧ anyA p [] L = false) → ∀ W, Turn Q w W → (fun e w' => ∃ i : Int, (0 ≤ i ∧ anyA p [] L = true ∨ i = -1 ∧ anyA p [] L = false) ∧ e = Ending.returned (.int .i64 i) ∧ Turn Q w w') (.returned (.int .i64 i)) W) := Lib.hid fun i hi W hW => ⟨i, hi, rfl, hW⟩
  generalize (fun e w' => ∃ i : Int, (0 ≤ i ∧ anyA p [] L = true ∨ i = -1 ∧ anyA p [] L = false) ∧ e = Ending.returned (.int .i64 i) ∧ Turn Q w w') = Post at *
  clear hn h1 r1 h hok hI A
  go_enter Tryd.func42, Tryd.ntmps42
  go_wp2_with fail
  go_loopw [5, 8] (fun _ i wr => ∃ k : Nat, k ≤ n ∧ i = .int .i64 k ∧ Hid (NoneA p L k) ∧ Hid (I (L.take k) wr) ∧ Hid (Turn Q w wr))
    (fun _ i _ => n - (intOf i).toNat)
  case atStart => exact ⟨0, by omega, rfl, Lib.hid (fun j x hj => by omega), HI, Lib.hid (Turn.refl _ _)⟩
  case round =>
    obtain ⟨k, hk, rfl, HZ, HK, HT⟩ := hrel
    have hk0 : 0 ≤ (k : Int) := by omega
    by_cases hlt : k < n
    · obtain ⟨y, hy, hym⟩ := get_at (l := L) (k := k) (by rw [← Hn.out]; exact hlt)
      obtain ⟨rfl, hbb⟩ := H1.out (by omega)
      have hk1 : (k : Int) < (n : Int) := by omega
      obtain ⟨vy, cc, yi⟩ := Hr.out k y hy
      have hbel := HT.out.below hB HAs.out.above
      obtain ⟨y0, y1, y2, y3⟩ := cc.below hbb hbel
      have HC := Lib.hid (HAs.out.calls (L.take k) y vy wr (by have := List.length_take_le k L; omega) (Nat.le_trans hB HT.out.size) HK.out (yi.below hbel) (Hok.out y hym))
      have HL : Hid (L.take (k + 1) = L.take k ++ [y]) := Lib.hid (by rw [List.take_add_one, hy]; rfl)
      have Hy := Lib.hid hy
      clear hy hym cc yi hbel
      generalize y.place.name = sy at *
      generalize y.alone = ya at *
      generalize y.till = yt at *
      cases hp : p (L.take k) y
      · rw [hp] at HC
        have HN := Lib.hid (HZ.out.next Hy.out hp)
        clear hp
        go_wp2_with fail
        (with_reducible refine HC.out.mono ?_)
        rintro e W2 ⟨rfl, hI2, hT2⟩
        have HI2 : Hid (I (L.take (k + 1)) W2) := Lib.hid (by rw [HL.out]; exact hI2)
        have HT2 := Lib.hid (HT.out.trans hT2)
        clear HC hI2 hT2 y0 y1 y2 y3
        go_wp2_with fail
        go_roundw
        case rel => exact ⟨k + 1, by omega, by go_num, HN, HI2, HT2⟩
        case measure => simp [intOf]; omega
      · rw [hp] at HC
        have HY := Lib.hid (anyA_yes Hy.out hp)
        clear hp
        go_wp2_with fail
        (with_reducible refine HC.out.mono ?_)
        rintro e W2 ⟨rfl, hI2, hT2⟩
        have HT2 := Lib.hid (HT.out.trans hT2)
        clear HC hI2 hT2 y0 y1 y2 y3
        go_wp2_with fail
        exact HP.out _ (.inl ⟨hk0, HY.out⟩) _ HT2.out
    · obtain rfl : n = k := by omega
      have HY : Hid (anyA p [] L = false) := Lib.hid (anyA_no (by rw [← Hn.out]; exact HZ.out))
      go_wp2_with fail
      exact HP.out _ (.inr ⟨rfl, HY.out⟩) _ HT.out

set_option maxRecDepth 100000 in
set_option maxHeartbeats 1000000 in
theorem contains_calls {B : Nat} {g : FuncId} {lb : Array Value} {C Q : Nat → Prop} {I : List LN → World → Prop} {p : List LN → LN → Bool} {ok : LN → Prop} (A : Asks B g lb C Q I p ok)
    (L : List LN) (v : Value) (hl : L.length ≤ 1000) (hok : ∀ x ∈ L, ok x) (w : World) (hB : B ≤ w.heap.size) (h : NIn B w L v) (hI : I [] w) :
    Calls Tryd.prog 30 #[v, .func (.func g) #[] lb] w fun e w' => e = .returned (.bool (anyA p [] L)) ∧ Turn Q w w' := by
  have HC := Lib.hid (index_calls A L v hl hok w hB h hI)
  obtain ⟨ao, cap, rfl⟩ := h.shape
  generalize anyA p [] L = r at *
  generalize L.length = n at *
  clear h hI hok hl A
  go_enter Tryd.func30, Tryd.ntmps30
  go_wp2_with fail
  (with_reducible refine HC.out.mono ?_)
  rintro e w1 ⟨i, hi, rfl, ht⟩
  have HT := Lib.hid ht
  clear ht HC
  rcases hi with ⟨hi, rfl⟩ | ⟨rfl, rfl⟩
  · have hi2 : (i ≥ 0) := hi
    go_wp2_with fail
    go_ret
    exact ⟨rfl, HT.out⟩
  · go_wp2_with fail
    go_ret
    exact ⟨rfl, HT.out⟩
end Go.Proofs.YtaoalplglfdobaaDoor
