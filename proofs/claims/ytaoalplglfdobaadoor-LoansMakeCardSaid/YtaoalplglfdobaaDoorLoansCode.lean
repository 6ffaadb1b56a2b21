/- loans.Union, Add, End, Of, Same, May. -/
import Derived.Test.YtaoalplglfdobaaDoorLoansMay1
namespace Go.Proofs.YtaoalplglfdobaaDoor
open Go.RowKit
set_option linter.unusedVariables false

/-- a row of one's own, with any row behind -/
theorem app_runsC (ty : TypeId) (base : Nat) (v : Value) (n : Nat) (Y : List (LN × Value)) (w : World) (hown : w.ownsRow base 36 4 v n (cells4 Y)) (Z : List (LN × Value)) (ao2 : Option Addr) (m cap2 : Nat) (hm : m = Z.length) (b2 o2 : Nat)
    (ha : m ≠ 0 → ao2 = some ⟨b2, o2, none⟩) (hz : ∀ (j : Nat) p, Z[j]? = some p → CellN w b2 (o2 + j * 4) p.1 p.2 ∧ p.2.oneCell' = true) (hl : n + m ≤ 1000000) (hbase : base ≤ w.heap.size) :
    ∃ v' w', (Builtin.append_ #[22, 22] ty #[v, .slice ao2 m cap2]).run Tryd.prog w = .ok v' w' ∧ w'.ownsRow base 36 4 v' (n + m) (cells4 (Y ++ Z)) ∧ w.grownBy w' v.ownBlock := by
  obtain ⟨i0, hi, hz0, hz1, hz2⟩ := info_parts infoLoanC
  have hc : cells4 (Y ++ Z) = cells4 Y ++ cells4 Z := by simp [cells4]
  rw [hc]
  cases ao2 with
  | none =>
    have hm0 : m = 0 := Decidable.byContradiction fun h => by have := ha h; cases this
    subst hm0
    obtain rfl := List.eq_nil_of_length_eq_zero hm.symm
    refine ⟨v, w, ?_, by simpa [cells4] using hown, ⟨rfl, rfl, rfl, Nat.le_refl _, fun _ _ _ => rfl⟩⟩
    rcases hown.2 with ⟨rfl, rfl⟩ | ⟨g, cap, cur, rfl, _, _, hnc, _⟩
    · simp [Builtin.append_, run_underlying Tryd.underlying22, sizeOf, typeInfo, hi, Builtin.lenOf, Builtin.firstCells]
    · simp [Builtin.append_, run_underlying Tryd.underlying22, sizeOf, typeInfo, hi, Builtin.lenOf, Builtin.firstCells, hnc, storeCells]
  | some ad =>
    have hsome : ∀ (i : Nat) u, (cells4 Z)[i]? = some u → w.cell? (ad.add i) = some u ∧ u.oneCell' = true := fun i u hu => by
      have hi4 := some_lt hu
      rw [cells4_len] at hi4
      have hjl : i / 4 < Z.length := by omega
      have hj : Z[i / 4]? = some Z[i / 4] := List.getElem?_eq_getElem hjl
      obtain ⟨e0, e1, e2, e3⟩ := cells4_at hj
      obtain ⟨⟨c0, c1, c2, c3⟩, ho⟩ := hz _ _ hj
      have he := ha (by omega)
      injection he with he; subst he
      have hadd : ∀ j, (⟨b2, o2, none⟩ : Addr).add j = ⟨b2, o2 + j, none⟩ := fun j => by unfold Addr.add; split <;> simp_all
      rw [hadd]
      have h4 : i % 4 = 0 ∨ i % 4 = 1 ∨ i % 4 = 2 ∨ i % 4 = 3 := by omega
      rcases h4 with h | h | h | h
      · have ei : i = i / 4 * 4 := by omega
        generalize i / 4 = q at *
        subst ei
        rw [e0] at hu; cases hu
        exact ⟨c0, rfl⟩
      · have ei : i = i / 4 * 4 + 1 := by omega
        generalize i / 4 = q at *
        subst ei
        rw [e1] at hu; cases hu
        exact ⟨c1, ho⟩
      · have ei : i = i / 4 * 4 + 2 := by omega
        generalize i / 4 = q at *
        subst ei
        rw [e2] at hu; cases hu
        exact ⟨c2, rfl⟩
      · have ei : i = i / 4 * 4 + 3 := by omega
        generalize i / 4 = q at *
        subst ei
        rw [e3] at hu; cases hu
        exact ⟨c3, rfl⟩
    obtain ⟨v', w', h1, h2, h3, _⟩ := run_append_own (P := Tryd.prog) w base 22 ty 36 i0 _ 4 56 Tryd.underlying22 hi hz0 hz1 hz2 rfl (by decide) v n _ hown ad m cap2 (cells4 Z) (by rw [cells4_len, hm]) (fun i u hu => (hsome i u hu).1)
      (fun u hu => by obtain ⟨i, hi⟩ := List.mem_iff_getElem?.1 hu; exact (hsome i u hi).2) (by unfold maxLen; omega) (by omega) hbase
    exact ⟨v', w', h1, h2, h3⟩
/-- the same at a plain region's operation -/
theorem wpList_appC {ops : Array Oper} {rest : List Oper} {o : Oper} {a : Act} {Q : Exit → Act → World → Prop} {w : World} (hgd : o.guard = none) (s x : Operand)
    (ho : o.op = .call { callee := .builtin .append, args := #[s, x], argTypes := #[22, 22] })
    (base : Nat) (v : Value) (n : Nat) (Y : List (LN × Value)) (hs : a.eval s = v) (hown : w.ownsRow base 36 4 v n (cells4 Y)) (Z : List (LN × Value)) (ao2 : Option Addr) (m cap2 : Nat) (hm : m = Z.length) (hx : a.eval x = .slice ao2 m cap2) (b2 o2 : Nat)
    (ha : m ≠ 0 → ao2 = some ⟨b2, o2, none⟩) (hz : ∀ (j : Nat) p, Z[j]? = some p → CellN w b2 (o2 + j * 4) p.1 p.2 ∧ p.2.oneCell' = true) (hl : n + m ≤ 1000000) (hbase : base ≤ w.heap.size)
    (h : ∀ v' w', w'.ownsRow base 36 4 v' (n + m) (cells4 (Y ++ Z)) → w.grownBy w' v.ownBlock → wpList Tryd.prog ops Q rest (a.put o.dst v') w') : wpList Tryd.prog ops Q (o :: rest) a w :=
  wpList_plain hgd fun _ hK => by
    obtain ⟨v', w', hr, g1, g2⟩ := app_runsC o.type base v n Y w hown Z ao2 m cap2 hm b2 o2 ha hz hl hbase
    unfold Oper.wp execOp
    simp only [ho, resolve, invoke, builtin, Sem.run_bind, Sem.run_pure, Result.andThen_ok, List.map_toArray, List.map_cons, List.map_nil, hs, hx, hr]
    exact hK _ _ (h v' w' g1 g2)


theorem OwnZ.cells {base : Nat} {Z : List (LN × Value)} {v : Value} {w : World} (h : OwnZ base Z v w) (hl : Z.length ≤ 100000) : ∃ ao cap b, v = .slice ao Z.length cap ∧ (Z.length ≠ 0 → ao = some ⟨b, 0, none⟩) ∧ ∀ (j : Nat) p, Z[j]? = some p → CellN w b (0 + j * 4) p.1 p.2 ∧ p.2.oneCell' = true := by
  obtain ⟨⟨hm, ao, cap, he, hc, ha⟩, hcell⟩ := own_cells h.1 (by unfold maxLen; omega)
  refine ⟨ao, cap, rowAt v, he, fun hn => (ha.resolve_left hn).1, fun j p hp => ?_⟩
  obtain ⟨c0, c1, c2, c3⟩ := cells4_at hp
  refine ⟨?_, ?_⟩
  · rw [Nat.zero_add]
    have hc' : ∀ (i : Nat) u, (cells4 Z)[i]? = some u → w.cell? ⟨rowAt v, i, none⟩ = some u := fun i u h => by
      have := (hcell i u h).1
      rwa [Nat.zero_add] at this
    exact ⟨hc' _ _ c0, hc' _ _ c1, hc' _ _ c2, hc' _ _ c3⟩
  · obtain ⟨a2, c2, e2⟩ := own_shape (h.2 p (List.mem_of_getElem? hp)).1
    rw [e2]; rfl
theorem OwnZ.append {base base2 : Nat} {Y Z : List (LN × Value)} {u v v' : Value} {w w6 : World} (h : OwnZ base Y u w) (hz : OwnZ base2 Z v w) (hb : base ≤ base2) (hg : w.grownBy w6 u.ownBlock)
    (h6 : w6.ownsRow base 36 4 v' (Y.length + Z.length) (cells4 (Y ++ Z))) : OwnZ base (Y ++ Z) v' w6 := by
  have up : ∀ {q : Value} {n : Nat} {xs : List Value}, w.ownsRow base 9 1 q n xs → w6.ownsRow base 9 1 q n xs := by
    intro q n xs hq
    refine hq.kept hg ?_
    cases h7 : q.ownBlock with
    | none => exact .inl rfl
    | some a =>
      refine .inr fun e => ?_
      exact own_apart h.1 hq strLoan_ne e.symm h7 rfl
  refine ⟨by rw [List.length_append]; exact h6, fun p hp => ?_⟩
  rcases List.mem_append.1 hp with hp | hp
  · obtain ⟨g1, g2⟩ := h.2 p hp
    exact ⟨up g1, g2⟩
  · obtain ⟨g1, g2⟩ := hz.2 p hp
    exact ⟨up (own_mono g1 hb), g2⟩
/-- a book that may be gone through -/
structure Fit (l : List LN) : Prop where
  len : l.length ≤ 400
  fair : ∀ x ∈ l, x.Fair
  short : ∀ x ∈ l, x.place.path.length ≤ 1000

set_option maxRecDepth 100000 in
set_option maxHeartbeats 2000000 in
theorem union_calls (B : Nat) (xs ys : List LN) (v1 v2 : Value) (w : World) (hB : B ≤ w.heap.size) (h1 : NIn B w xs v1) (h2 : NIn B w ys v2) (hT : Tb B w) (f1 : Fit xs) (f2 : Fit ys) :
    Calls Tryd.prog 18 #[v1, v2] w fun e w' => ∃ Z v', e = .returned v' ∧ Z.map Prod.fst = unionB xs ys ∧ OwnZ w.heap.size Z v' w' ∧ Below w.heap.size w w' := by
  have HC1 := Lib.hid (kept_calls (every_asks B) xs v1 (by have := f1.len; omega) (fun _ _ => trivial) f1.short w hB h1 trivial)
  have HC2 := Lib.hid fun (W : World) (hb : Below w.heap.size w W) => beside_calls B xs v1 (by have := f1.len; omega) W (Nat.le_trans hB hb.size) (h1.below (hb.mono hB)) (hT.below (hb.mono hB)) f1.fair
  have HC3 := Lib.hid fun (W W2 : World) (hb : Below w.heap.size w W) (hb2 : Below W.heap.size W W2) (hI : Bes (W.heap.size + 1) W.heap.size xs.length xs W2) =>
    kept_calls (beside_asks B (W.heap.size + 1) W.heap.size xs (by have := f1.len; omega) (by have := hb.size; omega) (Nat.le_trans hB hb.size)) ys v2 (by have := f2.len; omega) f2.fair f2.short W2 (Nat.le_trans (Nat.le_trans hB hb.size) hb2.size)
      (h2.below ((hb.trans (hb2.mono hb.size)).mono hB)) ⟨by simpa using hI, hT.below ((hb.trans (hb2.mono hb.size)).mono hB)⟩
  obtain ⟨a1, c1, rfl⟩ := h1.shape
  obtain ⟨a2, c2, rfl⟩ := h2.shape
  have l1 := f1.len
  have l2 := f2.len
  rw [unionB_kept]
  clear h1 h2 hT f1 f2
  go_enter Tryd.func18, Tryd.ntmps18
  go_wp2_with fail
  (with_reducible refine HC1.out.mono ?_)
  rintro e w1 ⟨Z1, u1, rfl, hz1, ho1, ht1⟩
  have b1 : Below w.heap.size w w1 := ht1.below (Nat.le_refl _) (fun _ h => h.elim)
  have Hz1 := Lib.hid hz1
  have Ho1 := Lib.hid ho1
  have Hb1 := Lib.hid b1
  have HC2 := Lib.hid (HC2.out w1 b1)
  clear hz1 ho1 ht1 b1 HC1
  go_wp2_with fail
  (with_reducible refine HC2.out.mono ?_)
  rintro e w2 ⟨rfl, hbes, b2⟩
  have HC4 := Lib.hid (HC3.out w1 w2 Hb1.out b2 hbes)
  have Hb2 := Lib.hid b2
  clear hbes b2 HC2 HC3
  go_wp2_with fail
  (with_reducible refine HC4.out.mono ?_)
  rintro e w3 ⟨Z2, u2, rfl, hz2, ho2, ht2⟩
  have hl1 : Z1.length ≤ 400 := by
    have h := congrArg List.length Hz1.out
    rw [List.length_map] at h
    have := keptA_len (fun _ _ => true) [] xs
    omega
  have hl2 : Z2.length ≤ 400 := by
    have h := congrArg List.length hz2
    rw [List.length_map] at h
    have := keptA_len (fun acc x => !hasB (xs ++ acc) x) [] ys
    omega
  have ho3 : OwnZ w.heap.size Z1 u1 w3 := Ho1.out.past fun j hj hlt => by
    have := Hb2.out.size
    rw [ht2.block j (by omega) (by omega), Hb2.out.block j hlt]
  have hb3 : Below w.heap.size w w3 := (Hb1.out.trans (Hb2.out.mono Hb1.out.size)).trans (ht2.below (Nat.le_trans Hb1.out.size Hb2.out.size) (fun k h => by have := Hb1.out.size; omega))
  obtain ⟨ao2, cap2, bb, rfl, ha2, hc2⟩ := ho2.cells (by omega)
  have Hz2 := Lib.hid hz2
  have Ho2 := Lib.hid ho2
  have Ho3 := Lib.hid ho3
  have Hb3 := Lib.hid hb3
  have Ha2 := Lib.hid ha2
  have Hc2 := Lib.hid hc2
  have hbase := Nat.le_trans Hb1.out.size Hb2.out.size
  clear hz2 ho2 ho3 hb3 ha2 hc2 ht2 HC4 Ho1 Hb1 Hb2
  go_wp2_with (first
    | (at_builtin; refine wpList_appC rfl _ _ rfl w.heap.size _ Z1.length Z1 rfl Ho3.out.1 Z2 ao2 Z2.length cap2 rfl rfl bb 0 Ha2.out Hc2.out (by omega) Hb3.out.size ?_)
    | fail)
  intro u w4 hown hg
  have hE := Ho3.out.append Ho2.out hbase hg hown
  have HB := Lib.hid (Hb3.out.grown hg Hb3.out.size (fun q hq => (Ho3.out.1.lt q hq).1))
  have HZ : Hid ((Z1 ++ Z2).map Prod.fst = xs ++ keptA (fun acc x => !hasB (xs ++ acc) x) [] ys) := Lib.hid (by
    rw [List.map_append, Hz1.out, Hz2.out, keptA_plain (fun _ => true)]
    simp)
  have HE := Lib.hid hE
  clear hown hg hE
  go_wp2_with fail
  go_ret
  exact ⟨_, _, rfl, HZ.out, HE.out, HB.out⟩
end Go.Proofs.YtaoalplglfdobaaDoor
