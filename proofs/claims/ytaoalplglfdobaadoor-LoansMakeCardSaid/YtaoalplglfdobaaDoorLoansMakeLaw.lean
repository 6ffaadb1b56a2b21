/- LoansMake: what books are made into, in memory of their own. -/
import Derived.Test.YtaoalplglfdobaaDoorLoansKit
import Derived.Test.YtaoalplglfdobaaDoorLoansTwinZ
import Derived.IntWalk
import Derived.Deep.RegionHeld3
namespace Go.Proofs.YtaoalplglfdobaaDoor
open Go.RowKit
set_option linter.unusedVariables false

/-- what a call has made lies in blocks from base to top -/
structure Res (base top : Nat) (Z : List (LN × Value)) (v : Value) (w : World) : Prop where
  own : OwnZ base Z v w
  row : ∀ b, v.ownBlock = some b → b < top
  rows : ∀ p, p ∈ Z → ∀ b, p.2.ownBlock = some b → b < top
theorem Res.of {base : Nat} {Z : List (LN × Value)} {v : Value} {w : World} (h : OwnZ base Z v w) : Res base w.heap.size Z v w :=
  ⟨h, fun b hb => (h.1.lt b hb).2, fun p hp b hb => ((h.2 p hp).1.lt b hb).2⟩
theorem own_range {w0 W : World} {base top : Nat} {e : TypeId} {size : Nat} {v : Value} {n : Nat} {xs : List Value} (h : w0.ownsRow base e size v n xs) (ht : ∀ b, v.ownBlock = some b → b < top) (k : ∀ j, base ≤ j → j < top → W.heap[j]? = w0.heap[j]?) : W.ownsRow base e size v n xs := by
  refine ⟨h.1, ?_⟩
  rcases h.2 with hn | ⟨g, cap, cur, rfl, hb, hgg, rest⟩
  · exact .inl hn
  · exact .inr ⟨g, cap, cur, rfl, hb, (k g hb (ht g rfl)).trans hgg, rest⟩
theorem Res.keep {base top : Nat} {Z : List (LN × Value)} {v : Value} {w W : World} (h : Res base top Z v w) (k : ∀ j, base ≤ j → j < top → W.heap[j]? = w.heap[j]?) : Res base top Z v W :=
  ⟨⟨own_range h.own.1 h.row k, fun p hp => ⟨own_range (h.own.2 p hp).1 (h.rows p hp) k, (h.own.2 p hp).2⟩⟩, h.row, h.rows⟩
theorem Res.up {base top : Nat} {Z : List (LN × Value)} {v : Value} {w W : World} (h : Res base top Z v w) (k : Below w.heap.size w W) (ht : top ≤ w.heap.size) : Res base top Z v W := h.keep fun j _ hj => k.block j (by omega)
theorem spoilR_calls {base top : Nat} {Z : List (LN × Value)} {v : Value} {w : World} (h : Res base top Z v w) (hl : Z.length ≤ 1000) :
    Calls Tryd.prog 24 #[v] w fun e w' => e = .returned (.tuple #[]) ∧ SameQ (fun b => ¬ (base ≤ b ∧ b < top)) w w' ∧ Below base w w' ∧ w'.heap.size = w.heap.size :=
  spoil_calls base top Z v Z.length w hl rfl h.own.1 (fun p hp => ⟨(h.own.2 p hp).1, (h.own.2 p hp).2.2.2⟩) h.row h.rows
theorem Res.in {base top : Nat} {Z : List (LN × Value)} {v : Value} {w : World} {l : List LN} (h : Res base top Z v w) (hz : Z.map Prod.fst = l) (hl : l.length ≤ 1000) : NIn w.heap.size w l v := by
  subst hz
  exact h.own.in (by rw [List.length_map] at hl; omega)
theorem ofB_take {l : List LN} {s : ByteArray} {x : LN} {k : Nat} (h : l[k]? = some x) : ofB (l.take (k + 1)) s = ofB (l.take k) s ++ if keyS x.place.name = keyS s then [x] else [] := by
  unfold ofB
  rw [List.take_add_one, h, List.filter_append]
  by_cases h2 : keyS x.place.name = keyS s <;> simp [h2]
/-- the want that is gathered: a row of one's own of the document's loans, their steps below B -/
def Gath (base B : Nat) (l : List LN) (u : Value) (w : World) : Prop := ∃ Y : List (LN × Value), Y.map Prod.fst = l ∧ w.ownsRow base 37 4 u Y.length (cells4 Y) ∧ ∀ p, p ∈ Y → p.1.place.At (fun b => b < B) w p.2
theorem Gath.up {base B : Nat} {l : List LN} {u : Value} {w w' : World} (h : Gath base B l u w) (k : Below w.heap.size w w') (hB : B ≤ w.heap.size) : Gath base B l u w' := by
  obtain ⟨Y, h1, h2, h3⟩ := h
  exact ⟨Y, h1, own_below h2 k, fun p hp => (h3 p hp).same (SameQ.of_below (k.mono hB) fun b hb => hb)⟩
theorem Gath.in {base B : Nat} {l : List LN} {u : Value} {w : World} (h : Gath base B l u w) (hl : l.length ≤ 1000) (hB : B ≤ w.heap.size) : NIn w.heap.size w l u := by
  obtain ⟨Y, h1, h2, h3⟩ := h
  subst h1
  rw [List.length_map] at hl
  exact own_N h2 rfl (fun p hp => (h3 p hp).in fun b hb => Nat.lt_of_lt_of_le hb hB) (Nat.le_refl _) (by unfold maxLen; omega)
/-- the k-th loan of a twin -/
theorem twin_at {base B : Nat} {Z : List (LN × Value)} {a : List LN} {y : LN} {k n : Nat} {w : World} {ao : Option Addr} {cap : Nat} (hz : Z.map Prod.fst = a) (ho : w.ownsRow base 37 4 (.slice ao n cap) Z.length (cells4 Z)) (hl : Z.length ≤ 1000)
    (hy : a[k]? = some y) (hat : ∀ p, p ∈ Z → p.1.place.At (fun b => b < B) w p.2) :
    ∃ bt vt, ao = some ⟨bt, 0, none⟩ ∧ bt < w.heap.size ∧ n = Z.length ∧ n ≤ cap ∧ CellN w bt (k * 4) y vt ∧ y.place.At (fun b => b < B) w vt := by
  subst hz
  rw [List.getElem?_map, Option.map_eq_some_iff] at hy
  obtain ⟨p, hp, rfl⟩ := hy
  obtain ⟨⟨hm, ao', cap', he, hc, ha⟩, hcell⟩ := own_cells ho (by unfold maxLen; omega)
  obtain ⟨rfl, rfl, rfl⟩ := Value.slice.inj he
  have h0 := some_lt hp
  obtain ⟨e1, e2⟩ := ha.resolve_left (by omega)
  obtain ⟨c0, c1, c2, c3⟩ := cells4_at hp
  have hc' : ∀ (i : Nat) u, (cells4 Z)[i]? = some u → w.cell? ⟨rowAt (.slice ao Z.length cap), i, none⟩ = some u := fun i u h => by
    have := (hcell i u h).1
    rwa [Nat.zero_add] at this
  exact ⟨_, p.2, e1, e2, rfl, hc, ⟨hc' _ _ c0, hc' _ _ c1, hc' _ _ c2, hc' _ _ c3⟩, hat p (List.mem_of_getElem? hp)⟩
/-- calls at worlds over one -/
theorem alike_yes (W : World) (l : List LN) (v1 v2 : Value) (h1 : NIn W.heap.size W l v1) (h2 : NIn W.heap.size W l v2) :
    Calls Tryd.prog 20 #[v1, v2] W fun e w' => e = .returned (.bool true) ∧ Below W.heap.size W w' := by
  have := alike_calls W.heap.size l l v1 v2 W (Nat.le_refl _) h1 h2
  rwa [eqB_refl] at this
theorem refAddN_calls (W : World) (l : List LN) (x : LN) (v va : Value) (hl : l.length ≤ 1000) (h : NIn W.heap.size W l v) (hx : x.place.In W.heap.size W va) :
    Calls Tryd.prog 21 #[v, .agg #[.string x.place.name, va, .bool x.alone, .int .i64 x.till]] W fun e w' => ∃ v', e = .returned v' ∧ Hid (NIn w'.heap.size w' (addB l x) v') ∧ Below W.heap.size W w' :=
  (refAdd_calls W.heap.size l x v va hl W (Nat.le_refl _) h hx).mono fun e w' ⟨ao, cap, he, hn, hb⟩ => ⟨_, he, Lib.hid hn, hb⟩
theorem refEndN_calls (W : World) (l : List LN) (d : Int) (v : Value) (hl : l.length ≤ 1000) (h : NIn W.heap.size W l v) :
    Calls Tryd.prog 22 #[v, .int .i64 d] W fun e w' => ∃ v', e = .returned v' ∧ Hid (NIn w'.heap.size w' (endB l d) v') ∧ Below W.heap.size W w' :=
  (refEnd_calls W.heap.size l d v hl W (Nat.le_refl _) h).mono fun e w' ⟨ao, cap, he, hn, hb⟩ => ⟨_, he, Lib.hid hn, hb⟩
theorem refUnionN_calls (W : World) (xs ys : List LN) (v1 v2 : Value) (hl : xs.length + ys.length ≤ 1000) (h1 : NIn W.heap.size W xs v1) (h2 : NIn W.heap.size W ys v2) :
    Calls Tryd.prog 23 #[v1, v2] W fun e w' => ∃ v', e = .returned v' ∧ Hid (NIn w'.heap.size w' (unionB xs ys) v') ∧ Below W.heap.size W w' :=
  (refUnionB_calls W.heap.size xs ys v1 v2 hl W (Nat.le_refl _) h1 h2).mono fun e w' ⟨ao, cap, he, hn, hb⟩ => ⟨_, he, Lib.hid hn, hb⟩
theorem unionB_nil (a : List LN) : unionB a [] = a := rfl
/-- what was copied lies where nothing is spoiled -/
theorem Res.at {base top : Nat} {Z : List (LN × Value)} {v : Value} {w : World} {l : List LN} (h : Res base top Z v w) (hz : Z.map Prod.fst = l) (hl : l.length ≤ 1000) : NAt (fun b => base ≤ b ∧ b < w.heap.size) w l v := by
  subst hz
  rw [List.length_map] at hl
  refine own_NAt h.own.1 rfl (fun p hp => ?_) (fun b h1 h2 => ⟨h1, h2⟩) (by unfold maxLen; omega)
  obtain ⟨h1, h2, h3, h4⟩ := h.own.2 p hp
  obtain ⟨⟨hm, ao, cap, hv, hc, ha⟩, hcell⟩ := own_cells h1 (by unfold maxLen; omega)
  refine ⟨h2, by unfold maxLen; omega, ao, cap, rowAt p.2, 0, hv, hc, fun h0 => ?_, fun j s hj => ⟨h3 s (List.mem_of_getElem? hj), (hcell j (.string s) (by simp [hj])).1⟩⟩
  obtain ⟨e1, e2⟩ := ha.resolve_left h0
  exact ⟨e1, (h1.lt (rowAt p.2) (by rw [hv, e1]; simp [Value.ownBlock, rowAt])).1, e2⟩

/-- known at an earlier world -/
def Ago (l : List LN) (v : Value) (W : World) : Prop := ∃ w0 : World, Hid (NIn w0.heap.size w0 l v) ∧ Hid (Below w0.heap.size w0 W)
theorem Ago.in {l : List LN} {v : Value} {W : World} (h : Ago l v W) : NIn W.heap.size W l v := by
  obtain ⟨w0, h1, h2⟩ := h
  exact (h1.out.below h2.out).mono h2.out.size
theorem row_alike (W0 W : World) (l : List LN) (u v : Value) (hu : Hid (NIn W0.heap.size W0 l u)) (hv : Ago l v W) (hb : Hid (Below W0.heap.size W0 W)) :
    Calls Tryd.prog 20 #[u, v] W fun e w' => e = .returned (.bool true) ∧ Below W.heap.size W w' :=
  alike_yes W l u v ((hu.out.below hb.out).mono hb.out.size) hv.in

set_option maxRecDepth 100000 in
set_option maxHeartbeats 8000000 in
theorem loansMake_walk (w : World) (a : List LN) (va : Value) (ha : NIn w.heap.size w a va ∧ ∀ x ∈ a, (Lit.int .i64 x.till).wf = true) (b : List LN) (vb : Value) (hb : NIn w.heap.size w b vb ∧ ∀ x ∈ b, (Lit.int .i64 x.till).wf = true) (x : LN) (vx : Value) (hx : x.place.In w.heap.size w vx ∧ (Lit.int .i64 x.till).wf = true) (d : Int) (hd : -9223372036854775808 ≤ d ∧ d ≤ 9223372036854775807) (s : ByteArray) (hs : s.size ≤ strMax) (hT : Tb w.heap.size w) :
    Calls Tryd.prog 4 #[va, vb, .agg #[.string x.place.name, vx, .bool x.alone, .int .i64 x.till], .int .i64 d, .string s] w fun e w' => e = .returned (.bool true) ∧ Below w.heap.size w w' := by
  have HT := Lib.hid hT
  have AW : Hid (∀ W, Hid (Below w.heap.size w W) → _) := Lib.hid fun W (h : Hid (Below w.heap.size w W)) => awake_up HT h
  have M1 : Hid (∀ W, Hid (Below w.heap.size w W) → _) := Lib.hid fun W (h : Hid (Below w.heap.size w W)) => manyB_calls w.heap.size a va W h.out.size (ha.1.below h.out)
  have M2 : Hid (∀ W, Hid (Below w.heap.size w W) → _) := Lib.hid fun W (h : Hid (Below w.heap.size w W)) => manyB_calls w.heap.size b vb W h.out.size (hb.1.below h.out)
  have L1 : Hid (∀ W, Hid (Below w.heap.size w W) → _) := Lib.hid fun W (h : Hid (Below w.heap.size w W)) => long_calls x.place w.heap.size vx W h.out.size (hx.1.below h.out)
  have hm1 := fun h => fit_of (l := a) h ha.2
  have hm2 := fun h => fit_of (l := b) h hb.2
  have hm3 := fun h => tight_of (x := x.place) h
  have hma := fun h => fewB_of (L := a) h
  have hmb := fun h => fewB_of (L := b) h
  generalize manyB a = m1 at *
  generalize manyB b = m2 at *
  generalize longP x.place = m3 at *
  obtain ⟨aa, ca, rfl⟩ := ha.1.shape
  obtain ⟨ab, cb, rfl⟩ := hb.1.shape
  obtain ⟨ax, cx, rfl⟩ := hx.1.shape
  obtain ⟨sx, hsx⟩ : ∃ s, s = x.place.name := ⟨_, rfl⟩
  obtain ⟨xa, hxa⟩ : ∃ s, s = x.alone := ⟨_, rfl⟩
  obtain ⟨xt, hxt⟩ : ∃ s, s = x.till := ⟨_, rfl⟩
  rw [← hsx] at L1 ⊢
  rw [← hxa, ← hxt]
  have mB : Hid (Below w.heap.size w (w.alloc (.cells #[.string sx, .slice ax x.place.path.length cx, .bool xa, .int .i64 xt] 36))) := Lib.hid (box1 _ _)
  unfold strMax at hs
  cases m1 with
  | true =>
    clear L1 M2 hm1 hm2 hm3 hma hmb ha hb hx hT hsx hxa hxt
    go_enter Tryd.func4, Tryd.ntmps4
    go_wp2_with fail
    (with_reducible refine (M1.out _ mB).mono ?_)
    rintro e w1 ⟨rfl, b1⟩
    have H1 := hid_up mB b1
    clear b1
    go_wp2_with fail
    go_ret
    exact ⟨rfl, H1.out⟩
  | false =>
    cases m2 with
    | true =>
      clear L1 hm1 hm2 hm3 hma hmb ha hb hx hT hsx hxa hxt
      go_enter Tryd.func4, Tryd.ntmps4
      go_wp2_with fail
      (with_reducible refine (M1.out _ mB).mono ?_)
      rintro e w1 ⟨rfl, b1⟩
      have H1 := hid_up mB b1
      clear b1
      go_wp2_with fail
      (with_reducible refine (M2.out _ H1).mono ?_)
      rintro e w2 ⟨rfl, b2⟩
      have H2 := hid_up H1 b2
      clear b2
      go_wp2_with fail
      go_ret
      exact ⟨rfl, H2.out⟩
    | false =>
      cases m3 with
      | true =>
        generalize x.place.path.length = nx at *
        clear hm1 hm2 hm3 hma hmb ha hb hx hT hsx hxa hxt
        go_enter Tryd.func4, Tryd.ntmps4
        go_wp2_with fail
        (with_reducible refine (M1.out _ mB).mono ?_)
        rintro e w1 ⟨rfl, b1⟩
        have f0 := (b1.cell (p := ⟨w.heap.size, 0, none⟩) (by simp)).trans (show _ = some (Value.string sx) by go_simp)
        have f1 := (b1.cell (p := ⟨w.heap.size, 1, none⟩) (by simp)).trans (show _ = some (Value.slice ax nx cx) by go_simp)
        have z1 : w.heap.size < w1.heap.size := Nat.lt_of_lt_of_le (by simp) b1.size
        have H1 := hid_up mB b1
        clear b1
        go_wp2_with fail
        (with_reducible refine (M2.out _ H1).mono ?_)
        rintro e w2 ⟨rfl, b2⟩
        have f0 := (b2.cell (p := ⟨w.heap.size, 0, none⟩) z1).trans f0
        have f1 := (b2.cell (p := ⟨w.heap.size, 1, none⟩) z1).trans f1
        have H2 := hid_up H1 b2
        clear b2
        go_wp2_with fail
        (with_reducible refine (L1.out _ H2).mono ?_)
        rintro e w3 ⟨rfl, b3⟩
        have H3 := hid_up H2 b3
        clear b3
        go_wp2_with fail
        go_ret
        exact ⟨rfl, H3.out⟩
      | false =>
        by_cases hlong : 1000 < s.size
        · have hsi : (1000 : Int) < (s.size : Int) := by omega
          generalize x.place.path.length = nx at *
          clear hm1 hm2 hm3 hma hmb ha hb hx hT hsx hxa hxt
          go_enter Tryd.func4, Tryd.ntmps4
          go_wp2_with fail
          (with_reducible refine (M1.out _ mB).mono ?_)
          rintro e w1 ⟨rfl, b1⟩
          have f0 := (b1.cell (p := ⟨w.heap.size, 0, none⟩) (by simp)).trans (show _ = some (Value.string sx) by go_simp)
          have f1 := (b1.cell (p := ⟨w.heap.size, 1, none⟩) (by simp)).trans (show _ = some (Value.slice ax nx cx) by go_simp)
          have z1 : w.heap.size < w1.heap.size := Nat.lt_of_lt_of_le (by simp) b1.size
          have H1 := hid_up mB b1
          clear b1
          go_wp2_with fail
          (with_reducible refine (M2.out _ H1).mono ?_)
          rintro e w2 ⟨rfl, b2⟩
          have f0 := (b2.cell (p := ⟨w.heap.size, 0, none⟩) z1).trans f0
          have f1 := (b2.cell (p := ⟨w.heap.size, 1, none⟩) z1).trans f1
          have H2 := hid_up H1 b2
          clear b2
          go_wp2_with fail
          (with_reducible refine (L1.out _ H2).mono ?_)
          rintro e w3 ⟨rfl, b3⟩
          have H3 := hid_up H2 b3
          clear b3
          go_wp2_with fail
          go_ret
          exact ⟨rfl, H3.out⟩
        · have hsi : (s.size : Int) ≤ 1000 := by omega
          have fa := hm1 rfl
          have fb := hm2 rfl
          have tx := hm3 rfl
          have la := (hma rfl).1
          have lb := (hmb rfl).1
          have fx : x.Fair := tx.fair hx.2
          have hpx := tx.path
          have A1 : Hid (∀ W, Hid (Below w.heap.size w W) → _) := Lib.hid fun W (h : Hid (Below w.heap.size w W)) => add_calls w.heap.size a x _ _ W h.out.size (ha.1.below h.out) (hx.1.below h.out) (hT.below h.out) fa fx (by omega)
          have E1 : Hid (∀ W, Hid (Below w.heap.size w W) → _) := Lib.hid fun W (h : Hid (Below w.heap.size w W)) => end_calls w.heap.size a _ d W h.out.size (ha.1.below h.out) fa
          have U1 : Hid (∀ W, Hid (Below w.heap.size w W) → _) := Lib.hid fun W (h : Hid (Below w.heap.size w W)) => union_calls w.heap.size a b _ _ W h.out.size (ha.1.below h.out) (hb.1.below h.out) (hT.below h.out) fa fb
          have O1 : Hid (∀ W, Hid (Below w.heap.size w W) → _) := Lib.hid fun W (h : Hid (Below w.heap.size w W)) => of_calls w.heap.size a _ s W h.out.size (ha.1.below h.out) fa
          have U2 : Hid (∀ W, Hid (Below w.heap.size w W) → _) := Lib.hid fun W (h : Hid (Below w.heap.size w W)) => union_calls w.heap.size a [] _ (.slice none 0 0) W h.out.size (ha.1.below h.out) (NIn.nil _ _) (hT.below h.out) fa fitNil
          have T1 : Hid (∀ W, Hid (Below w.heap.size w W) → _) := Lib.hid fun W (h : Hid (Below w.heap.size w W)) => twinN_calls w.heap.size a _ (by omega) W h.out.size (ha.1.below h.out)
          have TZ : Hid (∀ W, Hid (Below w.heap.size w W) → _) := Lib.hid fun W (h : Hid (Below w.heap.size w W)) => twinZ_calls (fun b => b < w.heap.size) a _ (by omega) W (fun b hb => Nat.lt_of_lt_of_le hb h.out.size) (ha.1.below h.out).toAt
          have T2 : Hid (∀ W, Hid (Below w.heap.size w W) → _) := Lib.hid fun W (h : Hid (Below w.heap.size w W)) => twinN_calls w.heap.size b _ (by omega) W h.out.size (hb.1.below h.out)
          have HLa := Lib.hid ha.1
          have HXI := Lib.hid hx.1
          rw [← hsx, ← hxa, ← hxt] at A1
          have HXS := Lib.hid (show sx = x.place.name ∧ xa = x.alone ∧ xt = x.till from ⟨hsx, hxa, hxt⟩)
          obtain ⟨na, hna⟩ : ∃ n, n = a.length := ⟨_, rfl⟩
          obtain ⟨nb, hnb⟩ : ∃ n, n = b.length := ⟨_, rfl⟩
          have hLa := ha.1
          rw [← hna] at A1 E1 U1 O1 U2 T1 TZ M1 HLa hLa la ⊢
          rw [← hnb] at U1 T2 M2 lb ⊢
          obtain ⟨hmm, bb, oo, h1, r1⟩ := hLa.at
          unfold maxLen at hmm
          have Hr := Lib.hid r1
          have Hq := Lib.hid h1
          have Hna := Lib.hid hna
          have Hnb := Lib.hid hnb
          have HTA : Hid (a.take na = a) := Lib.hid (by rw [hna]; exact List.take_length)
          have HOT := Lib.hid fun k y (h : a[k]? = some y) => ofB_take (s := s) h
          have HOL := Lib.hid fun k => (show (ofB (a.take k) s).length ≤ k from Nat.le_trans (List.length_filter_le _ _) (List.length_take_le k a))
          have HLL : Hid (a.length ≤ 40 ∧ b.length ≤ 40) := Lib.hid ⟨by omega, by omega⟩
          generalize hnx : x.place.path.length = nx at *
          have Hnx := Lib.hid hnx
          clear hm1 hm2 hm3 hma hmb ha hb hx hT hsx hxa hxt fa fb tx fx hLa h1 r1 hna hnb hnx
          go_enter Tryd.func4, Tryd.ntmps4
          go_wp2_with fail
          (with_reducible refine (M1.out _ mB).mono ?_)
          rintro e w1 ⟨rfl, b1⟩
          have f0 := (b1.cell (p := ⟨w.heap.size, 0, none⟩) (by simp)).trans (show _ = some (Value.string sx) by go_simp)
          have f1 := (b1.cell (p := ⟨w.heap.size, 1, none⟩) (by simp)).trans (show _ = some (Value.slice ax nx cx) by go_simp)
          have f2 := (b1.cell (p := ⟨w.heap.size, 2, none⟩) (by simp)).trans (show _ = some (Value.bool xa) by go_simp)
          have f3 := (b1.cell (p := ⟨w.heap.size, 3, none⟩) (by simp)).trans (show _ = some (Value.int .i64 xt) by go_simp)
          have z1 : w.heap.size < w1.heap.size := Nat.lt_of_lt_of_le (by simp) b1.size
          have H1 := hid_up mB b1
          clear b1 mB
          go_wp2_with fail
          (with_reducible refine (M2.out _ H1).mono ?_)
          rintro e w2 ⟨rfl, b2⟩
          have f0 := (b2.cell (p := ⟨w.heap.size, 0, none⟩) z1).trans f0
          have f1 := (b2.cell (p := ⟨w.heap.size, 1, none⟩) z1).trans f1
          have f2 := (b2.cell (p := ⟨w.heap.size, 2, none⟩) z1).trans f2
          have f3 := (b2.cell (p := ⟨w.heap.size, 3, none⟩) z1).trans f3
          have z2 : w.heap.size < w2.heap.size := Nat.lt_of_lt_of_le z1 b2.size
          have H2 := hid_up H1 b2
          clear b2 H1 z1
          go_wp2_with fail
          (with_reducible refine (L1.out _ H2).mono ?_)
          rintro e w3 ⟨rfl, b3⟩
          have f0 := (b3.cell (p := ⟨w.heap.size, 0, none⟩) z2).trans f0
          have f1 := (b3.cell (p := ⟨w.heap.size, 1, none⟩) z2).trans f1
          have f2 := (b3.cell (p := ⟨w.heap.size, 2, none⟩) z2).trans f2
          have f3 := (b3.cell (p := ⟨w.heap.size, 3, none⟩) z2).trans f3
          have z3 : w.heap.size < w3.heap.size := Nat.lt_of_lt_of_le z2 b3.size
          have H3 := hid_up H2 b3
          clear b3 H2 z2 M1 M2 L1
          go_wp2_with fail
          obtain ⟨w4, hw4⟩ : ∃ W, W = w3.alloc (.cells #[.string sx, .slice ax nx cx, .bool xa, .int .i64 xt] 37) := ⟨_, rfl⟩
          have bx4 := box1 w3 (.cells #[.string sx, .slice ax nx cx, .bool xa, .int .i64 xt] 37)
          rw [← hw4] at bx4
          have f0 := (bx4.cell (p := ⟨w.heap.size, 0, none⟩) z3).trans f0
          have f1 := (bx4.cell (p := ⟨w.heap.size, 1, none⟩) z3).trans f1
          have f2 := (bx4.cell (p := ⟨w.heap.size, 2, none⟩) z3).trans f2
          have f3 := (bx4.cell (p := ⟨w.heap.size, 3, none⟩) z3).trans f3
          have g0 : w4.cell? ⟨w3.heap.size, 0, none⟩ = some (.string sx) := by rw [hw4]; go_simp
          have g1 : w4.cell? ⟨w3.heap.size, 1, none⟩ = some (.slice ax nx cx) := by rw [hw4]; go_simp
          have g2 : w4.cell? ⟨w3.heap.size, 2, none⟩ = some (.bool xa) := by rw [hw4]; go_simp
          have g3 : w4.cell? ⟨w3.heap.size, 3, none⟩ = some (.int .i64 xt) := by rw [hw4]; go_simp
          have z4 : w3.heap.size < w4.heap.size := by rw [hw4]; simp
          have H4 := hid_up H3 bx4
          try rw [← hw4]
          clear hw4 bx4 H3 z3
          have HW4 := Lib.hid H4.out.size
          clear f0 f1 f2 f3
          go_wp2_with fail
          (with_reducible refine (A1.out _ H4).mono ?_)
          rintro e w5 ⟨Z4, u4, rfl, hz4, ho4, b4⟩
          have Hz4 := Lib.hid hz4
          have R4 := Lib.hid (Res.of ho4)
          have H5 := hid_up H4 b4
          have S4 := Lib.hid b4.size
          have g0 := (b4.cell (p := ⟨w3.heap.size, 0, none⟩) z4).trans g0
          have g1 := (b4.cell (p := ⟨w3.heap.size, 1, none⟩) z4).trans g1
          have g2 := (b4.cell (p := ⟨w3.heap.size, 2, none⟩) z4).trans g2
          have g3 := (b4.cell (p := ⟨w3.heap.size, 3, none⟩) z4).trans g3
          have z5 : w3.heap.size < w5.heap.size := Nat.lt_of_lt_of_le z4 b4.size
          clear hz4 ho4 b4 z4
          go_wp2_with fail
          (with_reducible refine (E1.out _ H5).mono ?_)
          rintro e w6 ⟨Z5, u5, rfl, hz5, ho5, b5⟩
          have Hz5 := Lib.hid hz5
          have R5 := Lib.hid (Res.of ho5)
          have H6 := hid_up H5 b5
          have S5 := Lib.hid b5.size
          have g0 := (b5.cell (p := ⟨w3.heap.size, 0, none⟩) z5).trans g0
          have g1 := (b5.cell (p := ⟨w3.heap.size, 1, none⟩) z5).trans g1
          have g2 := (b5.cell (p := ⟨w3.heap.size, 2, none⟩) z5).trans g2
          have g3 := (b5.cell (p := ⟨w3.heap.size, 3, none⟩) z5).trans g3
          have z6 : w3.heap.size < w6.heap.size := Nat.lt_of_lt_of_le z5 b5.size
          have R4 := Lib.hid (R4.out.up b5 (Nat.le_refl _))
          clear hz5 ho5 b5 z5
          go_wp2_with fail
          (with_reducible refine (U1.out _ H6).mono ?_)
          rintro e w7 ⟨Z6, u6, rfl, hz6, ho6, b6⟩
          have Hz6 := Lib.hid hz6
          have R6 := Lib.hid (Res.of ho6)
          have H7 := hid_up H6 b6
          have S6 := Lib.hid b6.size
          have g0 := (b6.cell (p := ⟨w3.heap.size, 0, none⟩) z6).trans g0
          have g1 := (b6.cell (p := ⟨w3.heap.size, 1, none⟩) z6).trans g1
          have g2 := (b6.cell (p := ⟨w3.heap.size, 2, none⟩) z6).trans g2
          have g3 := (b6.cell (p := ⟨w3.heap.size, 3, none⟩) z6).trans g3
          have z7 : w3.heap.size < w7.heap.size := Nat.lt_of_lt_of_le z6 b6.size
          have R4 := Lib.hid (R4.out.up b6 S5.out)
          have R5 := Lib.hid (R5.out.up b6 (Nat.le_refl _))
          clear hz6 ho6 b6 z6
          go_wp2_with fail
          (with_reducible refine (O1.out _ H7).mono ?_)
          rintro e w8 ⟨Z7, u7, rfl, hz7, ho7, b7⟩
          have Hz7 := Lib.hid hz7
          have R7 := Lib.hid (Res.of ho7)
          have H8 := hid_up H7 b7
          have S7 := Lib.hid b7.size
          have g0 := (b7.cell (p := ⟨w3.heap.size, 0, none⟩) z7).trans g0
          have g1 := (b7.cell (p := ⟨w3.heap.size, 1, none⟩) z7).trans g1
          have g2 := (b7.cell (p := ⟨w3.heap.size, 2, none⟩) z7).trans g2
          have g3 := (b7.cell (p := ⟨w3.heap.size, 3, none⟩) z7).trans g3
          have z8 : w3.heap.size < w8.heap.size := Nat.lt_of_lt_of_le z7 b7.size
          have R4 := Lib.hid (R4.out.up b7 (Nat.le_trans S5.out S6.out))
          have R5 := Lib.hid (R5.out.up b7 S6.out)
          have R6 := Lib.hid (R6.out.up b7 (Nat.le_refl _))
          clear hz7 ho7 b7 z7
          clear A1 E1 U1 O1 H4 H5 H6 H7
          go_wp2_with fail
          go_loopw [16, 17] (fun u i wr => ∃ k : Nat, k ≤ na ∧ i = .int .i64 k ∧ Hid (Gath w8.heap.size w.heap.size (ofB (a.take k) s) u wr) ∧ Hid (Below w8.heap.size w8 wr))
            (fun _ i _ => na - (intOf i).toNat)
          case atStart => exact ⟨0, by omega, rfl, Lib.hid ⟨[], rfl, by simpa [cells4] using World.ownsRow_nil w8 w8.heap.size 37 4, fun p hp => by cases hp⟩, Lib.hid (Below.refl _ _)⟩
          case round =>
            obtain ⟨k, hk, rfl, HG, hbel⟩ := hrel
            obtain ⟨u, rfl⟩ : ∃ x, x = u16 := ⟨_, rfl⟩
            have hk0 : 0 ≤ (k : Int) := by omega
            have Hwr := Lib.hid (H8.out.trans (hbel.out.mono H8.out.size))
            by_cases hlt : k < na
            · obtain ⟨y, hy, _⟩ := get_at (l := a) (k := k) (by rw [← Hna.out]; exact hlt)
              obtain ⟨rfl, hbb⟩ := Hq.out (by omega)
              have hk1 : (k : Int) < (na : Int) := by omega
              obtain ⟨vy, cc, yi⟩ := Hr.out k y hy
              have y0 := (Hwr.out.cell (p := ⟨bb, oo + k * 4, none⟩) hbb).trans cc.1
              have HS := Lib.hid (HOT.out k y hy)
              have HN1 := HOL.out k
              have Hy := Lib.hid hy
              have HTw := Lib.hid (TZ.out wr Hwr)
              obtain ⟨sy, hsy⟩ : ∃ s, s = y.place.name := ⟨_, rfl⟩
              have Hsy := Lib.hid hsy
              rw [← hsy] at y0 HS
              generalize ofB (a.take k) s = g at *
              clear hy cc yi hsy
              by_cases hks : keyS sy = keyS s
              · rw [if_pos hks] at HS
                have e2 := str_eq hks
                clear hks
                go_wp2_with fail
                (with_reducible refine HTw.out.mono ?_)
                rintro e w9 ⟨Zt, at9, ct9, rfl, ⟨hzt, hot, hat9⟩, b9⟩
                have hztl : Zt.length ≤ 1000 := by
                  have h := congrArg List.length hzt
                  rw [List.length_map] at h
                  have := HLL.out.1
                  omega
                obtain ⟨bt, vt, rfl, hbt, hnz, hcz, ⟨t0, t1, t2, t3⟩, ti⟩ := twin_at hzt hot hztl Hy.out hat9
                have Hti := Lib.hid ti
                have HG9 := HG.out.up b9 Hwr.out.size
                have HB9 := Lib.hid (hbel.out.trans (b9.mono hbel.out.size))
                have HH9 := hid_up Hwr b9
                rw [← Hsy.out] at t0
                obtain ⟨_, _, atv, ctv, _, _, rfl, _⟩ := ti
                obtain ⟨Y, hY1, hY2, hY3⟩ := HG9
                have hYl : Y.length ≤ 1000 := by rw [← List.length_map (f := Prod.fst), hY1]; omega
                have HY1 := Lib.hid hY1
                have HY2 := Lib.hid hY2
                have HY3 := Lib.hid hY3
                obtain ⟨ya, hya⟩ : ∃ s, s = y.alone := ⟨_, rfl⟩
                obtain ⟨yt, hyt⟩ : ∃ s, s = y.till := ⟨_, rfl⟩
                rw [← hya] at t2
                rw [← hyt] at t3
                have Hyy := Lib.hid (show ya = y.alone ∧ yt = y.till from ⟨hya, hyt⟩)
                generalize hny : y.place.path.length = ny at t1 Hti
                have Hny := Lib.hid hny
                have Hb9 := Lib.hid b9
                have Hnz := Lib.hid hnz
                clear hY1 hY2 hY3 hzt hot hat9 hztl hnz b9 HTw HG hbel Hwr hya hyt hny y0 e2
                obtain ⟨i0, hi, hz0, hz1, hz2⟩ := info_parts infoLoan
                go_wp2_with (first
                  | (at_builtin; refine wpList_append_own _ rfl _ _ 31 rfl w8.heap.size 37 i0 _ 4 56 Tryd.underlying31 hi hz0 hz1 hz2 rfl (by decide) _ _ _ rfl (HY2.out.alloc _) ⟨w9.heap.size, 0, none⟩ 1 1 [.string sy, .slice atv ny ctv, .bool ya, .int .i64 yt] rfl rfl ?c1 ?c2 ?c3 ?c4 ?c5 ?_)
                  | fail)
                case c1 => exact four_news _ _ _ _ _ _
                case c2 => first | exact ⟨rfl, rfl, rfl, rfl⟩ | exact four_one rfl
                case c3 => unfold maxLen; omega
                case c4 => omega
                case c5 => have := HB9.out.size; simp; omega
                intro v' w10 hown hgrow _
                obtain ⟨hb', ho'⟩ := row_app4 (p := (y, .slice atv ny ctv)) (v' := v') HY2.out HB9.out hgrow (by show w10.ownsRow _ _ _ _ _ (cells4 Y ++ [.string y.place.name, .slice atv ny ctv, .bool y.alone, .int .i64 y.till]); rw [← Hsy.out, ← Hyy.out.1, ← Hyy.out.2]; first | exact hown | simpa using hown)
                have hww : Below w.heap.size w9 w10 := ((Below.refl _ w9).alloc HH9.out.size _).grown hgrow (by have := HH9.out.size; simp; omega) (fun q hq => Nat.le_trans H8.out.size (HY2.out.lt q hq).1)
                have HG10 : Hid (Gath w8.heap.size w.heap.size (ofB (a.take (k + 1)) s) v' w10) := Lib.hid ⟨Y ++ [(y, .slice atv ny ctv)], by rw [HS.out, List.map_append, HY1.out]; rfl, ho', fun p hp => by
                  rcases List.mem_append.1 hp with hp | hp
                  · exact (HY3.out p hp).same (SameQ.of_below hww fun b hb => hb)
                  · rw [List.mem_singleton] at hp
                    subst hp
                    exact Hti.out.same (SameQ.of_below hww fun b hb => hb)⟩
                have HB10 := Lib.hid hb'
                clear hown hgrow hb' ho' hww
                go_wp2_with fail
                go_roundw
                case rel => exact ⟨k + 1, by omega, by go_num, HG10, HB10⟩
                case measure => simp [intOf]; omega
              · rw [if_neg hks] at HS
                have e2 := str_ne hks
                have HG1 : Hid (Gath w8.heap.size w.heap.size (ofB (a.take (k + 1)) s) u wr) := Lib.hid (by rw [HS.out, List.append_nil]; exact HG.out)
                clear hks HTw HG HS
                go_wp2_with fail
                go_roundw
                case rel => exact ⟨k + 1, by omega, by go_num, HG1, hbel⟩
                case measure => simp [intOf]; omega
            · obtain rfl : na = k := by omega
              rw [HTA.out] at HG
              have g0 := (hbel.out.cell (p := ⟨w3.heap.size, 0, none⟩) z8).trans g0
              have g1 := (hbel.out.cell (p := ⟨w3.heap.size, 1, none⟩) z8).trans g1
              have g2 := (hbel.out.cell (p := ⟨w3.heap.size, 2, none⟩) z8).trans g2
              have g3 := (hbel.out.cell (p := ⟨w3.heap.size, 3, none⟩) z8).trans g3
              have z9 : w3.heap.size < wr.heap.size := Nat.lt_of_lt_of_le z8 hbel.out.size
              have R4 := Lib.hid (R4.out.up hbel.out (Nat.le_trans S5.out (Nat.le_trans S6.out S7.out)))
              have R5 := Lib.hid (R5.out.up hbel.out (Nat.le_trans S6.out S7.out))
              have R6 := Lib.hid (R6.out.up hbel.out S7.out)
              have R7 := Lib.hid (R7.out.up hbel.out (Nat.le_refl _))
              have l4 : (addB a x).length ≤ 1000 := by have := addB_len a x; have := HLL.out.1; omega
              have l5 : (endB a d).length ≤ 1000 := by have := List.length_filter_le (fun x : LN => decide (x.till < d)) a; have := HLL.out.1; unfold endB; omega
              have l6 : (unionB a b).length ≤ 1000 := by have := unionB_len a b; have := HLL.out.1; have := HLL.out.2; omega
              have l7 : (ofB a s).length ≤ 1000 := by have := List.length_filter_le (fun x : LN => decide (keyS x.place.name = keyS s)) a; have := HLL.out.1; unfold ofB; omega
              have N4 := Lib.hid (R4.out.in Hz4.out l4)
              have N5 := Lib.hid (R5.out.in Hz5.out l5)
              have N6 := Lib.hid (R6.out.in Hz6.out l6)
              have N7 := Lib.hid (R7.out.in Hz7.out l7)
              have NG : Ago (ofB a s) u wr := ⟨wr, Lib.hid (HG.out.in l7 Hwr.out.size), row_refl' wr⟩
              have P4 := Lib.hid fun (W : World) v (hv : Ago (addB a x) v W) (h : Hid (Below wr.heap.size wr W)) => row_alike wr W _ u4 v N4 hv h
              have P5 := Lib.hid fun (W : World) v (hv : Ago (endB a d) v W) (h : Hid (Below wr.heap.size wr W)) => row_alike wr W _ u5 v N5 hv h
              have P6 := Lib.hid fun (W : World) v (hv : Ago (unionB a b) v W) (h : Hid (Below wr.heap.size wr W)) => row_alike wr W _ u6 v N6 hv h
              have P7 := Lib.hid fun (W : World) (h : Hid (Below wr.heap.size wr W)) => row_alike wr W (ofB a s) u7 u N7 (by obtain ⟨w0, h1, h2⟩ := NG; exact ⟨w0, h1, hup h2 h⟩) h
              have Q4 := Lib.hid fun (W : World) v (hv : Ago a v W) (h : Hid (Below wr.heap.size wr W)) => refAddN_calls W a x v (.slice ax nx cx) (by have := HLL.out.1; omega) hv.in ((HXI.out.below (Hwr.out.trans (h.out.mono Hwr.out.size))).mono (Nat.le_trans Hwr.out.size h.out.size))
              have Q5 := Lib.hid fun (W : World) v (hv : Ago a v W) => refEndN_calls W a d v (by have := HLL.out.1; omega) hv.in
              have Q6 := Lib.hid fun (W : World) v v2 (hv : Ago a v W) (hv2 : Ago b v2 W) => refUnionN_calls W a b v v2 (by have := HLL.out.1; have := HLL.out.2; omega) hv.in hv2.in
              rw [← HXS.out.1, ← HXS.out.2.1, ← HXS.out.2.2] at Q4
              have T1w : Hid (∀ W, Hid (Below wr.heap.size wr W) → _) := Lib.hid fun W (h : Hid (Below wr.heap.size wr W)) => T1.out W (Lib.hid (Hwr.out.trans (h.out.mono Hwr.out.size)))
              have T2w : Hid (∀ W, Hid (Below wr.heap.size wr W) → _) := Lib.hid fun W (h : Hid (Below wr.heap.size wr W)) => T2.out W (Lib.hid (Hwr.out.trans (h.out.mono Hwr.out.size)))
              have K4 := Lib.hid fun (W W' : World) (h : Hid (Below wr.heap.size wr W)) (b : Below W.heap.size W W') => row_next' wr W W' h b
              clear T1 T2 TZ N4 N5 N6 N7 NG l4 l5 l6 l7 HG
              go_wp2_with fail
              go_region_held3 (fun w' => (∀ b o, b < wr.heap.size → w'.cell? ⟨b, o, none⟩ = wr.cell? ⟨b, o, none⟩) ∧ Hid (Below wr.heap.size wr w')) ((first | exact XB | (refine S_of _ _ ?_; ((repeat (first | exact row_refl' _ | assumption | refine hup ?_ (row_dr _))); done))))
                (first
                  | (go_at_call 14; (with_reducible refine (T1w.out _ ?hb).mono ?_); (case hb => ((repeat (first | exact row_refl' _ | assumption | refine hup ?_ (row_dr _))); done)); rintro e wn ⟨ao', cap', rfl, HQ, bn⟩; have HKC := Lk.of bn; have XB := K4.out _ _ (by ((repeat (first | exact row_refl' _ | assumption | refine hup ?_ (row_dr _))); done)) bn; have XC := XB.2; clear bn)
                  | (go_at_call 14; (with_reducible refine (T2w.out _ ?hb).mono ?_); (case hb => ((repeat (first | exact row_refl' _ | assumption | refine hup ?_ (row_dr _))); done)); rintro e wn ⟨ao', cap', rfl, HQ, bn⟩; have HKC := Lk.of bn; have XB := K4.out _ _ (by ((repeat (first | exact row_refl' _ | assumption | refine hup ?_ (row_dr _))); done)) bn; have XC := XB.2; clear bn)
                  | (go_at_call 21; (with_reducible refine (Q4.out _ _ ?ha ?hb).mono ?_); (case hb => ((repeat (first | exact row_refl' _ | assumption | refine hup ?_ (row_dr _))); done)); (case ha => (apply Exists.intro; constructor; assumption; ((repeat (first | exact row_refl' _ | exact row_dr _ | assumption | refine hup ?_ (row_dr _) | (apply hupL; rotate_left; assumption))); done))); rintro e wn ⟨v', rfl, HQ, bn⟩; have HKC := Lk.of bn; have XB := K4.out _ _ (by ((repeat (first | exact row_refl' _ | assumption | refine hup ?_ (row_dr _))); done)) bn; have XC := XB.2; clear bn)
                  | (go_at_call 22; (with_reducible refine (Q5.out _ _ ?ha).mono ?_); (case ha => (apply Exists.intro; constructor; assumption; ((repeat (first | exact row_refl' _ | exact row_dr _ | assumption | refine hup ?_ (row_dr _) | (apply hupL; rotate_left; assumption))); done))); rintro e wn ⟨v', rfl, HQ, bn⟩; have HKC := Lk.of bn; have XB := K4.out _ _ (by ((repeat (first | exact row_refl' _ | assumption | refine hup ?_ (row_dr _))); done)) bn; have XC := XB.2; clear bn)
                  | (go_at_call 23; (with_reducible refine (Q6.out _ _ _ ?ha ?hb).mono ?_); (case ha => (apply Exists.intro; constructor; assumption; ((repeat (first | exact row_refl' _ | exact row_dr _ | assumption | refine hup ?_ (row_dr _) | (apply hupL; rotate_left; assumption))); done))); (case hb => (apply Exists.intro; constructor; assumption; ((repeat (first | exact row_refl' _ | exact row_dr _ | assumption | refine hup ?_ (row_dr _) | (apply hupL; rotate_left; assumption))); done))); rintro e wn ⟨v', rfl, HQ, bn⟩; have HKC := Lk.of bn; have XB := K4.out _ _ (by ((repeat (first | exact row_refl' _ | assumption | refine hup ?_ (row_dr _))); done)) bn; have XC := XB.2; clear bn)
                  | (go_at_call 20; (with_reducible refine (P4.out _ _ ?ha ?hb).mono ?_); (case ha => (apply Exists.intro; constructor; assumption; ((repeat (first | exact row_refl' _ | exact row_dr _ | assumption | refine hup ?_ (row_dr _) | (apply hupL; rotate_left; assumption))); done))); (case hb => ((repeat (first | exact row_refl' _ | assumption | refine hup ?_ (row_dr _))); done)); rintro e wn ⟨rfl, bn⟩; have HKC := Lk.of bn; have XB := K4.out _ _ (by ((repeat (first | exact row_refl' _ | assumption | refine hup ?_ (row_dr _))); done)) bn; have XC := XB.2; clear bn)
                  | (go_at_call 20; (with_reducible refine (P5.out _ _ ?ha ?hb).mono ?_); (case ha => (apply Exists.intro; constructor; assumption; ((repeat (first | exact row_refl' _ | exact row_dr _ | assumption | refine hup ?_ (row_dr _) | (apply hupL; rotate_left; assumption))); done))); (case hb => ((repeat (first | exact row_refl' _ | assumption | refine hup ?_ (row_dr _))); done)); rintro e wn ⟨rfl, bn⟩; have HKC := Lk.of bn; have XB := K4.out _ _ (by ((repeat (first | exact row_refl' _ | assumption | refine hup ?_ (row_dr _))); done)) bn; have XC := XB.2; clear bn)
                  | (go_at_call 20; (with_reducible refine (P6.out _ _ ?ha ?hb).mono ?_); (case ha => (apply Exists.intro; constructor; assumption; ((repeat (first | exact row_refl' _ | exact row_dr _ | assumption | refine hup ?_ (row_dr _) | (apply hupL; rotate_left; assumption))); done))); (case hb => ((repeat (first | exact row_refl' _ | assumption | refine hup ?_ (row_dr _))); done)); rintro e wn ⟨rfl, bn⟩; have HKC := Lk.of bn; have XB := K4.out _ _ (by ((repeat (first | exact row_refl' _ | assumption | refine hup ?_ (row_dr _))); done)) bn; have XC := XB.2; clear bn)
                  | (go_at_call 20; (with_reducible refine (P7.out _ ?hb).mono ?_); (case hb => ((repeat (first | exact row_refl' _ | assumption | refine hup ?_ (row_dr _))); done)); rintro e wn ⟨rfl, bn⟩; have HKC := Lk.of bn; have XB := K4.out _ _ (by ((repeat (first | exact row_refl' _ | assumption | refine hup ?_ (row_dr _))); done)) bn; have XC := XB.2; clear bn))
              obtain ⟨w12, hw12⟩ : ∃ W, W = wn := ⟨_, rfl⟩
              rw [← hw12] at XB
              rw [← hw12]
              have B12 := XB.2.out
              have H12 := Lib.hid (Hwr.out.trans (B12.mono Hwr.out.size))
              have T8 : wr.heap.size ≤ w12.heap.size := B12.size
              have T0 : w8.heap.size ≤ wr.heap.size := hbel.out.size
              have R4 := Lib.hid (R4.out.up B12 (Nat.le_trans S5.out (Nat.le_trans S6.out (Nat.le_trans S7.out T0))))
              have R5 := Lib.hid (R5.out.up B12 (Nat.le_trans S6.out (Nat.le_trans S7.out T0)))
              have R6 := Lib.hid (R6.out.up B12 (Nat.le_trans S7.out T0))
              have R7 := Lib.hid (R7.out.up B12 T0)
              clear hw12 XB XC B12 P4 P5 P6 P7 Q4 Q5 Q6 T1w T2w K4 g0 g1 g2 g3
              go_wp2_with fail
              (with_reducible refine (U2.out _ H12).mono ?_)
              rintro e w13 ⟨Zw, uw, rfl, hzw, how, b12⟩
              have H13 := hid_up H12 b12
              have T9 : w12.heap.size ≤ w13.heap.size := b12.size
              have hzw2 : Zw.map Prod.fst = a := hzw
              have NA : NAt (fun b => w12.heap.size ≤ b ∧ b < w13.heap.size) w13 a uw := (Res.of how).at hzw2 (by have := HLL.out.1; omega)
              have R4 := Lib.hid (R4.out.up b12 (Nat.le_trans S5.out (Nat.le_trans S6.out (Nat.le_trans S7.out (Nat.le_trans T0 T8)))))
              have R5 := Lib.hid (R5.out.up b12 (Nat.le_trans S6.out (Nat.le_trans S7.out (Nat.le_trans T0 T8))))
              have R6 := Lib.hid (R6.out.up b12 (Nat.le_trans S7.out (Nat.le_trans T0 T8)))
              have R7 := Lib.hid (R7.out.up b12 (Nat.le_trans T0 T8))
              have TW := Lib.hid (twin_calls (fun b => w12.heap.size ≤ b ∧ b < w13.heap.size) a uw (by have := HLL.out.1; omega) w13 (fun b h => h.2) NA)
              clear b12 hzw hzw2 how NA H12 U2
              go_wp2_with fail
              (with_reducible refine TW.out.mono ?_)
              rintro e w14 ⟨aw, cw, rfl, NA, b13⟩
              have H14 := hid_up H13 b13
              have T10 : w13.heap.size ≤ w14.heap.size := b13.size
              have NW : NAt (fun b => w12.heap.size ≤ b ∧ b < w14.heap.size) w14 a (.slice aw a.length cw) := NA.weak fun b h => by
                rcases h with h | h
                · omega
                · omega
              have HNW := Lib.hid NW
              have T11 : w8.heap.size ≤ w13.heap.size := by omega
              have R4 := Lib.hid (R4.out.up b13 (Nat.le_trans S5.out (Nat.le_trans S6.out (Nat.le_trans S7.out T11))))
              have R5 := Lib.hid (R5.out.up b13 (Nat.le_trans S6.out (Nat.le_trans S7.out T11)))
              have R6 := Lib.hid (R6.out.up b13 (Nat.le_trans S7.out T11))
              have R7 := Lib.hid (R7.out.up b13 T11)
              have q4 := S4.out
              have q5 := S5.out
              have q6 := S6.out
              have q7 := S7.out
              have q0 : w.heap.size ≤ w4.heap.size := HW4.out
              have k4 : Z4.length ≤ 1000 := by have h := congrArg List.length Hz4.out; rw [List.length_map] at h; have := addB_len a x; have := HLL.out.1; omega
              have k5 : Z5.length ≤ 1000 := by have h := congrArg List.length Hz5.out; rw [List.length_map] at h; have := List.length_filter_le (fun x : LN => decide (x.till < d)) a; have := HLL.out.1; unfold endB at h; omega
              have k6 : Z6.length ≤ 1000 := by have h := congrArg List.length Hz6.out; rw [List.length_map] at h; have := unionB_len a b; have := HLL.out.1; have := HLL.out.2; omega
              have k7 : Z7.length ≤ 1000 := by have h := congrArg List.length Hz7.out; rw [List.length_map] at h; have := List.length_filter_le (fun x : LN => decide (keyS x.place.name = keyS s)) a; have := HLL.out.1; unfold ofB at h; omega
              clear NA NW b13 H13 TW
              go_wp2_with fail
              (with_reducible refine (spoilR_calls R4.out k4).mono ?_)
              rintro e w15 ⟨rfl, sq, bq, sz⟩
              have H15 := Lib.hid (H14.out.trans (bq.mono q0))
              have NW := Lib.hid (HNW.out.same (sq.weak fun b h => by omega))
              have R5 := Lib.hid (R5.out.keep fun j h1 h2 => sq j (by omega))
              have R6 := Lib.hid (R6.out.keep fun j h1 h2 => sq j (by omega))
              have R7 := Lib.hid (R7.out.keep fun j h1 h2 => sq j (by omega))
              have e15 : w15.heap.size = w14.heap.size := sz
              have E15 := Lib.hid e15
              clear sq bq sz H14 R4 HNW e15
              go_wp2_with fail
              (with_reducible refine (spoilR_calls R5.out k5).mono ?_)
              rintro e w16 ⟨rfl, sq, bq, sz⟩
              have H16 := Lib.hid (H15.out.trans (bq.mono (by omega)))
              have NW := Lib.hid (NW.out.same (sq.weak fun b h => by omega))
              have R6 := Lib.hid (R6.out.keep fun j h1 h2 => sq j (by omega))
              have R7 := Lib.hid (R7.out.keep fun j h1 h2 => sq j (by omega))
              have E16 := Lib.hid (sz.trans E15.out)
              clear sq bq sz H15 R5 E15
              go_wp2_with fail
              (with_reducible refine (spoilR_calls R6.out k6).mono ?_)
              rintro e w17 ⟨rfl, sq, bq, sz⟩
              have H17 := Lib.hid (H16.out.trans (bq.mono (by omega)))
              have NW := Lib.hid (NW.out.same (sq.weak fun b h => by omega))
              have R7 := Lib.hid (R7.out.keep fun j h1 h2 => sq j (by omega))
              have E17 := Lib.hid (sz.trans E16.out)
              clear sq bq sz H16 R6 E16
              go_wp2_with fail
              (with_reducible refine (spoilR_calls R7.out k7).mono ?_)
              rintro e w18 ⟨rfl, sq, bq, sz⟩
              have H18 := Lib.hid (H17.out.trans (bq.mono (by omega)))
              have NW := Lib.hid (NW.out.same (sq.weak fun b h => by omega))
              have E18 := Lib.hid (sz.trans E17.out)
              clear sq bq sz H17 R7 E17
              have NF : NIn w18.heap.size w18 a (.slice aw a.length cw) := NW.out.in fun b h => by rw [E18.out]; exact h.2
              have AF := Lib.hid (alike_yes w18 a _ _ ((HLa.out.below H18.out).mono H18.out.size) NF)
              clear NF NW E18
              go_wp2_with fail
              (with_reducible refine AF.out.mono ?_)
              rintro e w19 ⟨rfl, b19⟩
              have H19 := hid_up H18 b19
              clear b19 H18 AF
              go_wp2_with fail
              (with_reducible refine (AW.out _ H19).mono ?_)
              rintro e w20 ⟨rfl, b20⟩
              have H20 := hid_up H19 b20
              clear b20 H19
              go_wp2_with fail
              go_ret
              exact ⟨rfl, H20.out⟩
end Go.Proofs.YtaoalplglfdobaaDoor
