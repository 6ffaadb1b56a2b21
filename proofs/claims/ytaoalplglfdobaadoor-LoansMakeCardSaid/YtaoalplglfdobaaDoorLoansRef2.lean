/- The document's own End, Add, Union, Same, May. -/
import Derived.Test.YtaoalplglfdobaaDoorLoansRef
namespace Go.Proofs.YtaoalplglfdobaaDoor
open Go.RowKit
set_option linter.unusedVariables false

theorem four_news (w : World) (s : ByteArray) (v : Value) (a : Bool) (t : Int) (e : TypeId) : ∀ (j : Nat) x, [Value.string s, v, .bool a, .int .i64 t][j]? = some x → (w.alloc (.cells #[.string s, v, .bool a, .int .i64 t] e)).cell? ((⟨w.heap.size, 0, none⟩ : Addr).add j) = some x :=
  World.news_of_block (cs := #[.string s, v, .bool a, .int .i64 t]) (t := e) (fr := (0, 0)) (heap_alloc_new w _)
theorem four_one {s : ByteArray} {v : Value} {a : Bool} {t : Int} (h : v.oneCell' = true) : ∀ u ∈ ([.string s, v, .bool a, .int .i64 t] : List Value), u.oneCell' = true := by
  intro u hu
  simp only [List.mem_cons, List.not_mem_nil, or_false] at hu
  rcases hu with rfl | rfl | rfl | rfl <;> first | rfl | exact h
/-- a row with one more -/
theorem row_app4 {e : TypeId} {W w6 wo : World} {u v' : Value} {Y : List (LN × Value)} {p : LN × Value} {o : Obj} (hO : W.ownsRow wo.heap.size e 4 u Y.length (cells4 Y)) (hB : Below wo.heap.size wo W)
    (hg : (W.alloc o).grownBy w6 u.ownBlock) (h6 : w6.ownsRow wo.heap.size e 4 v' (Y.length + 1) (cells4 Y ++ [.string p.1.place.name, p.2, .bool p.1.alone, .int .i64 p.1.till])) :
    Below wo.heap.size wo w6 ∧ w6.ownsRow wo.heap.size e 4 v' (Y ++ [p]).length (cells4 (Y ++ [p])) :=
  ⟨(hB.alloc hB.size _).grown hg (by have := hB.size; simp; omega) (fun k hk => (hO.lt k hk).1), by rw [List.length_append, cells4_snoc]; exact h6⟩
theorem filter_pairs {Z : List (LN × Value)} {q : LN → Bool} {p : LN × Value} {k : Nat} (hp : Z[k]? = some p) : (Z.take (k + 1)).filter (fun p => q p.1) = (Z.take k).filter (fun p => q p.1) ++ if q p.1 then [p] else [] := by
  rw [List.take_add_one, hp, List.filter_append]
  cases h : q p.1 <;> simp [h]
theorem filter_fst (Z : List (LN × Value)) (q : LN → Bool) : (Z.filter fun p => q p.1).map Prod.fst = (Z.map Prod.fst).filter q := by
  rw [List.filter_map]; rfl

set_option maxRecDepth 100000 in
set_option maxHeartbeats 2000000 in
theorem refEnd_calls (B : Nat) (l : List LN) (d : Int) (v : Value) (hl : l.length ≤ 1000) (w : World) (hB : B ≤ w.heap.size) (h : NIn B w l v) :
    Calls Tryd.prog 22 #[v, .int .i64 d] w fun e w' => ∃ ao cap, e = .returned (.slice ao (endB l d).length cap) ∧ NIn w'.heap.size w' (endB l d) (.slice ao (endB l d).length cap) ∧ Below w.heap.size w w' := by
  obtain ⟨i0, hi, hz0, hz1, hz2⟩ := info_parts infoLoan
  obtain ⟨ao, cap, rfl⟩ := h.shape
  obtain ⟨n, hn⟩ : ∃ n, n = l.length := ⟨_, rfl⟩
  rw [← hn] at h hl ⊢
  obtain ⟨hm, b, o, h1, r1⟩ := h.at
  unfold maxLen at hm
  obtain ⟨Z, hZ, hz⟩ := r1.pairs
  have hZn : n = Z.length := by rw [hn, ← hZ, List.length_map]
  have HA : Hid (Z.take n = Z) := Lib.hid (by rw [hZn]; exact List.take_length)
  have HR : Hid ((Z.filter fun p => decide (p.1.till < d)).map Prod.fst = endB l d) := Lib.hid (by rw [filter_fst Z fun x => decide (x.till < d), hZ]; rfl)
  have HT := Lib.hid fun k => Nat.le_trans (List.length_filter_le (fun p : LN × Value => decide (p.1.till < d)) (Z.take k)) (List.length_take_le k Z)
  have Hn := Lib.hid hZn
  have Hz := Lib.hid hz
  have H1 := Lib.hid h1
  generalize endB l d = R at *
  clear hn h1 h r1 hZ hz hZn
  go_enter Tryd.func22, Tryd.ntmps22
  go_wp2_with fail
  go_loopw [6, 5] (fun i u wr => ∃ k : Nat, k ≤ n ∧ i = .int .i64 k ∧ Hid (wr.ownsRow w.heap.size 37 4 u ((Z.take k).filter fun p => decide (p.1.till < d)).length (cells4 ((Z.take k).filter fun p => decide (p.1.till < d)))) ∧ Hid (Below w.heap.size w wr))
    (fun i _ _ => n - (intOf i).toNat)
  case atStart => exact ⟨0, by omega, rfl, Lib.hid (by simpa [cells4] using World.ownsRow_nil _ w.heap.size 37 4), Lib.hid (Below.refl _ _)⟩
  case round =>
    obtain ⟨k, hk, rfl, HO, HB⟩ := hrel
    obtain ⟨u, rfl⟩ : ∃ x, x = u5 := ⟨_, rfl⟩
    have hk0 : 0 ≤ (k : Int) := by omega
    by_cases hlt : k < n
    · obtain ⟨p, hp, _⟩ := get_at (l := Z) (k := k) (by rw [← Hn.out]; exact hlt)
      obtain ⟨rfl, hbb⟩ := H1.out (by omega)
      have hk1 : (k : Int) < (n : Int) := by omega
      obtain ⟨cc, yi⟩ := Hz.out k p hp
      obtain ⟨y0, y1, y2, y3⟩ := cc.below hbb (HB.out.mono hB)
      have Hone := Lib.hid yi.one
      have HN := Lib.hid (filter_pairs (q := fun x => decide (x.till < d)) hp)
      have hT : ((Z.take k).filter fun p => decide (p.1.till < d)).length ≤ k := HT.out k
      clear hp cc yi
      generalize (Z.take k).filter (fun p => decide (p.1.till < d)) = Y at *
      obtain ⟨⟨⟨sy, py⟩, ya, yt⟩, vy⟩ := p
      by_cases ht : yt < d
      · have HN2 : Hid ((Z.take (k + 1)).filter (fun p => decide (p.1.till < d)) = Y ++ [(⟨⟨sy, py⟩, ya, yt⟩, vy)]) := Lib.hid (by rw [HN.out]; simp [ht])
        clear HN
        go_wp2_with (first
          | (at_builtin; refine wpList_append_own _ rfl _ _ 31 rfl w.heap.size 37 i0 _ 4 56 Tryd.underlying31 hi hz0 hz1 hz2 rfl (by decide) _ _ _ rfl (HO.out.alloc _) ⟨wr.heap.size, 0, none⟩ 1 1 [.string sy, vy, .bool ya, .int .i64 yt] rfl rfl ?c1 ?c2 ?c3 ?c4 ?c5 ?_)
          | fail)
        case c2 => first | exact ⟨rfl, Hone.out, rfl, rfl⟩ | exact four_one Hone.out
        case c3 => unfold maxLen; omega
        case c4 => omega
        case c5 => have := HB.out.size; simp; omega
        intro v' w6 hown hgrow _
        obtain ⟨hb', ho'⟩ := row_app4 (p := (⟨⟨sy, py⟩, ya, yt⟩, vy)) (v' := v') HO.out HB.out hgrow (by first | exact hown | simpa using hown)
        have HB := Lib.hid hb'
        have HO3 := Lib.hid ho'
        clear hown hgrow hb' ho' HO
        go_wp2_with fail
        go_roundw
        case rel => exact ⟨k + 1, by omega, by go_num, Lib.hid (by rw [HN2.out]; exact HO3.out), HB⟩
        case measure => simp [intOf]; omega
      · have HN2 : Hid ((Z.take (k + 1)).filter (fun p => decide (p.1.till < d)) = Y) := Lib.hid (by rw [HN.out]; simp [ht])
        clear HN
        go_wp2_with fail
        go_roundw
        case rel => exact ⟨k + 1, by omega, by go_num, Lib.hid (by rw [HN2.out]; exact HO.out), HB⟩
        case measure => simp [intOf]; omega
    · obtain rfl : n = k := by omega
      rw [HA.out] at HO
      have hlen : (Z.filter fun p => decide (p.1.till < d)).length ≤ n := by have := HT.out n; rwa [HA.out] at this
      have hin := own_N (B := wr.heap.size) HO.out rfl (fun p hp => by
        obtain ⟨j, hj⟩ := List.mem_iff_getElem?.1 (List.mem_filter.1 hp).1
        exact ((Hz.out j p hj).2.below (HB.out.mono hB)).mono (Nat.le_trans hB HB.out.size)) (Nat.le_refl _) (by unfold maxLen; omega)
      rw [HR.out] at hin
      obtain ⟨na, nc, rfl⟩ := hin.shape
      have HI := Lib.hid hin
      clear hin HO
      go_wp2_with fail
      go_ret
      exact ⟨_, _, rfl, HI.out, HB.out⟩

/-- a row of one's own, with any row behind -/
theorem app_runs4 (ty : TypeId) (base : Nat) (v : Value) (n : Nat) (Y : List (LN × Value)) (w : World) (hown : w.ownsRow base 37 4 v n (cells4 Y)) (Z : List (LN × Value)) (ao2 : Option Addr) (m cap2 : Nat) (hm : m = Z.length) (b2 o2 : Nat)
    (ha : m ≠ 0 → ao2 = some ⟨b2, o2, none⟩) (hz : ∀ (j : Nat) p, Z[j]? = some p → CellN w b2 (o2 + j * 4) p.1 p.2 ∧ p.2.oneCell' = true) (hl : n + m ≤ 1000000) (hbase : base ≤ w.heap.size) :
    ∃ v' w', (Builtin.append_ #[31, 31] ty #[v, .slice ao2 m cap2]).run Tryd.prog w = .ok v' w' ∧ w'.ownsRow base 37 4 v' (n + m) (cells4 (Y ++ Z)) ∧ w.grownBy w' v.ownBlock := by
  obtain ⟨i0, hi, hz0, hz1, hz2⟩ := info_parts infoLoan
  have hc : cells4 (Y ++ Z) = cells4 Y ++ cells4 Z := by simp [cells4]
  rw [hc]
  cases ao2 with
  | none =>
    have hm0 : m = 0 := Decidable.byContradiction fun h => by have := ha h; cases this
    subst hm0
    obtain rfl := List.eq_nil_of_length_eq_zero hm.symm
    refine ⟨v, w, ?_, by simpa [cells4] using hown, ⟨rfl, rfl, rfl, Nat.le_refl _, fun _ _ _ => rfl⟩⟩
    rcases hown.2 with ⟨rfl, rfl⟩ | ⟨g, cap, cur, rfl, _, _, hnc, _⟩
    · simp [Builtin.append_, run_underlying Tryd.underlying31, sizeOf, typeInfo, hi, Builtin.lenOf, Builtin.firstCells]
    · simp [Builtin.append_, run_underlying Tryd.underlying31, sizeOf, typeInfo, hi, Builtin.lenOf, Builtin.firstCells, hnc, storeCells]
  | some ad =>
    have hsome : ∀ (i : Nat) u, (cells4 Z)[i]? = some u → w.cell? (ad.add i) = some u ∧ u.oneCell' = true := fun i u hu => by
      have hi4 := some_lt hu
      rw [cells4_len] at hi4
      have hjl : i / 4 < Z.length := by omega
      have hj : Z[i / 4]? = some Z[i / 4] := List.getElem?_eq_getElem hjl
      obtain ⟨e0, e1, e2, e3⟩ := cells4_at hj
      obtain ⟨⟨c0, c1, c2, c3⟩, ho⟩ := hz _ _ hj
      have he := ha (by omega)
      injection he with he; subst he
      have hadd : ∀ j, (⟨b2, o2, none⟩ : Addr).add j = ⟨b2, o2 + j, none⟩ := fun j => by unfold Addr.add; split <;> simp_all
      rw [hadd]
      have h4 : i % 4 = 0 ∨ i % 4 = 1 ∨ i % 4 = 2 ∨ i % 4 = 3 := by omega
      rcases h4 with h | h | h | h
      · have ei : i = i / 4 * 4 := by omega
        generalize i / 4 = q at *
        subst ei
        rw [e0] at hu; cases hu
        exact ⟨c0, rfl⟩
      · have ei : i = i / 4 * 4 + 1 := by omega
        generalize i / 4 = q at *
        subst ei
        rw [e1] at hu; cases hu
        exact ⟨c1, ho⟩
      · have ei : i = i / 4 * 4 + 2 := by omega
        generalize i / 4 = q at *
        subst ei
        rw [e2] at hu; cases hu
        exact ⟨c2, rfl⟩
      · have ei : i = i / 4 * 4 + 3 := by omega
        generalize i / 4 = q at *
        subst ei
        rw [e3] at hu; cases hu
        exact ⟨c3, rfl⟩
    obtain ⟨v', w', h1, h2, h3, _⟩ := run_append_own (P := Tryd.prog) w base 31 ty 37 i0 _ 4 56 Tryd.underlying31 hi hz0 hz1 hz2 rfl (by decide) v n _ hown ad m cap2 (cells4 Z) (by rw [cells4_len, hm]) (fun i u hu => (hsome i u hu).1)
      (fun u hu => by obtain ⟨i, hi⟩ := List.mem_iff_getElem?.1 hu; exact (hsome i u hi).2) (by unfold maxLen; omega) (by omega) hbase
    exact ⟨v', w', h1, h2, h3⟩
/-- the same at a plain region's operation -/
theorem wpList_app4 {ops : Array Oper} {rest : List Oper} {o : Oper} {a : Act} {Q : Exit → Act → World → Prop} {w : World} (hgd : o.guard = none) (s x : Operand)
    (ho : o.op = .call { callee := .builtin .append, args := #[s, x], argTypes := #[31, 31] })
    (base : Nat) (v : Value) (n : Nat) (Y : List (LN × Value)) (hs : a.eval s = v) (hown : w.ownsRow base 37 4 v n (cells4 Y)) (Z : List (LN × Value)) (ao2 : Option Addr) (m cap2 : Nat) (hm : m = Z.length) (hx : a.eval x = .slice ao2 m cap2) (b2 o2 : Nat)
    (ha : m ≠ 0 → ao2 = some ⟨b2, o2, none⟩) (hz : ∀ (j : Nat) p, Z[j]? = some p → CellN w b2 (o2 + j * 4) p.1 p.2 ∧ p.2.oneCell' = true) (hl : n + m ≤ 1000000) (hbase : base ≤ w.heap.size)
    (h : ∀ v' w', w'.ownsRow base 37 4 v' (n + m) (cells4 (Y ++ Z)) → w.grownBy w' v.ownBlock → wpList Tryd.prog ops Q rest (a.put o.dst v') w') : wpList Tryd.prog ops Q (o :: rest) a w :=
  wpList_plain hgd fun _ hK => by
    obtain ⟨v', w', hr, g1, g2⟩ := app_runs4 o.type base v n Y w hown Z ao2 m cap2 hm b2 o2 ha hz hl hbase
    unfold Oper.wp execOp
    simp only [ho, resolve, invoke, builtin, Sem.run_bind, Sem.run_pure, Result.andThen_ok, List.map_toArray, List.map_cons, List.map_nil, hs, hx, hr]
    exact hK _ _ (h v' w' g1 g2)

set_option maxRecDepth 100000 in
set_option maxHeartbeats 2000000 in
theorem refAdd_calls (B : Nat) (l : List LN) (x : LN) (v va : Value) (hl : l.length ≤ 1000) (w : World) (hB : B ≤ w.heap.size) (h : NIn B w l v) (hx : x.place.In B w va) :
    Calls Tryd.prog 21 #[v, .agg #[.string x.place.name, va, .bool x.alone, .int .i64 x.till]] w fun e w' => ∃ ao cap, e = .returned (.slice ao (addB l x).length cap) ∧ NIn w'.heap.size w' (addB l x) (.slice ao (addB l x).length cap) ∧ Below w.heap.size w w' := by
  obtain ⟨i0, hi, hz0, hz1, hz2⟩ := info_parts infoLoan
  have HC := Lib.hid fun (W : World) (hb : Below w.heap.size w W) => refHas_calls B l x v va W (Nat.le_trans hB hb.size) (h.below (hb.mono hB)) (hx.below (hb.mono hB))
  obtain ⟨ao, cap, rfl⟩ := h.shape
  obtain ⟨n, hn⟩ : ∃ n, n = l.length := ⟨_, rfl⟩
  rw [← hn] at h hl HC ⊢
  have HL := Lib.hid h
  have HX := Lib.hid hx
  have Hone := Lib.hid hx.one
  obtain ⟨hm, b, o, h1, r1⟩ := h.at
  unfold maxLen at hm
  obtain ⟨Z, hZ, hz⟩ := r1.pairs
  have Hn : Hid (n = Z.length) := Lib.hid (by rw [hn, ← hZ, List.length_map])
  have HZ := Lib.hid hZ
  have Hz := Lib.hid hz
  have H1 := Lib.hid h1
  have HN := Lib.hid hn
  clear hn h1 h r1 hZ hz hx
  cases hh : hasB l x
  rotate_left
  · rw [hh] at HC
    have e1 : addB l x = l := by unfold addB; rw [hh]; rfl
    rw [e1, ← HN.out]
    obtain ⟨⟨sx, px⟩, xa, xt⟩ := x
    go_enter Tryd.func21, Tryd.ntmps21
    go_wp2_with fail
    have b0 := box1 w (.cells #[.string sx, va, .bool xa, .int .i64 xt] 37)
    refine (HC.out _ b0).mono ?_
    rintro e w1 ⟨rfl, b1⟩
    have Hb := Lib.hid (b0.trans (b1.mono b0.size))
    clear b1 b0 HC
    go_wp2_with fail
    go_ret
    exact ⟨_, _, rfl, (HL.out.below (Hb.out.mono hB)).mono (Nat.le_trans hB Hb.out.size), Hb.out⟩
  · rw [hh] at HC
    have e1 : addB l x = l ++ [x] := by unfold addB; rw [hh]; rfl
    rw [e1]
    have e2 : (l ++ [x]).length = n + 1 := by rw [List.length_append, HN.out]; rfl
    rw [e2]
    have HLX : Hid (l ++ [x] = (Z ++ [(x, va)]).map Prod.fst) := Lib.hid (by rw [List.map_append, HZ.out]; rfl)
    generalize l ++ [x] = R at *
    obtain ⟨⟨sx, px⟩, xa, xt⟩ := x
    clear e1 e2 hh
    go_enter Tryd.func21, Tryd.ntmps21
    go_wp2_with fail
    obtain ⟨W0, hW⟩ : ∃ W, W = w.alloc (.cells #[.string sx, va, .bool xa, .int .i64 xt] 37) := ⟨_, rfl⟩
    have f0 : W0.cell? ⟨w.heap.size, 0, none⟩ = some (.string sx) := by rw [hW]; go_simp
    have f1 : W0.cell? ⟨w.heap.size, 1, none⟩ = some va := by rw [hW]; go_simp
    have f2 : W0.cell? ⟨w.heap.size, 2, none⟩ = some (.bool xa) := by rw [hW]; go_simp
    have f3 : W0.cell? ⟨w.heap.size, 3, none⟩ = some (.int .i64 xt) := by rw [hW]; go_simp
    have z1 : w.heap.size < W0.heap.size := by rw [hW]; simp
    have bel0 := (show Below w.heap.size w W0 from by rw [hW]; exact box1 _ _)
    rw [← hW]
    clear hW
    refine (HC.out W0 bel0).mono ?_
    rintro e w1 ⟨rfl, b1⟩
    have f0 := (b1.cell (p := ⟨w.heap.size, 0, none⟩) z1).trans f0
    have f1 := (b1.cell (p := ⟨w.heap.size, 1, none⟩) z1).trans f1
    have f2 := (b1.cell (p := ⟨w.heap.size, 2, none⟩) z1).trans f2
    have f3 := (b1.cell (p := ⟨w.heap.size, 3, none⟩) z1).trans f3
    have z1 : w.heap.size < w1.heap.size := Nat.lt_of_lt_of_le z1 b1.size
    have Hb := Lib.hid (bel0.trans (b1.mono bel0.size))
    clear b1 bel0 HC
    have H0 : Hid (w1.ownsRow w1.heap.size 37 4 (.slice none 0 0) 0 (cells4 [])) := Lib.hid (by simpa [cells4] using World.ownsRow_nil w1 w1.heap.size 37 4)
    have HZ1 : Hid (∀ (j : Nat) p, Z[j]? = some p → CellN w1 b (o + j * 4) p.1 p.2 ∧ p.2.oneCell' = true) := Lib.hid fun j p hp => by
      obtain ⟨cc, yi⟩ := Hz.out j p hp
      have hbB := (H1.out (by rw [Hn.out]; exact Nat.ne_of_gt (Nat.lt_of_le_of_lt (Nat.zero_le _) (some_lt hp)))).2
      exact ⟨cc.below hbB (Hb.out.mono hB), yi.one⟩
    go_wp2_with (first
      | (at_builtin; refine wpList_app4 rfl _ _ rfl w1.heap.size _ 0 [] rfl H0.out Z ao n cap Hn.out rfl b o (fun h => (H1.out h).1) HZ1.out (by omega) (Nat.le_refl _) ?_)
      | fail)
    intro u1 w2 hown hg
    have b2 : Below w1.heap.size w1 w2 := (Below.refl _ w1).grown hg (Nat.le_refl _) (fun k hk => by cases hk)
    have f0 := (b2.cell (p := ⟨w.heap.size, 0, none⟩) z1).trans f0
    have f1 := (b2.cell (p := ⟨w.heap.size, 1, none⟩) z1).trans f1
    have f2 := (b2.cell (p := ⟨w.heap.size, 2, none⟩) z1).trans f2
    have f3 := (b2.cell (p := ⟨w.heap.size, 3, none⟩) z1).trans f3
    have HO : Hid (w2.ownsRow w1.heap.size 37 4 u1 Z.length (cells4 Z)) := Lib.hid (by rw [← Hn.out]; simpa using hown)
    have HB := Lib.hid b2
    clear hown hg b2 H0 HZ1
    have hZl : Z.length ≤ 1000 := by rw [← Hn.out]; exact hl
    go_wp2_with (first
      | (at_builtin; refine wpList_append_own _ rfl _ _ 31 rfl w1.heap.size 37 i0 _ 4 56 Tryd.underlying31 hi hz0 hz1 hz2 rfl (by decide) _ _ _ rfl (HO.out.alloc _) ⟨w2.heap.size, 0, none⟩ 1 1 [.string sx, va, .bool xa, .int .i64 xt] rfl rfl ?c1 ?c2 ?c3 ?c4 ?c5 ?_)
      | fail)
    case c1 => exact four_news _ _ _ _ _ _
    case c2 => first | exact ⟨rfl, Hone.out, rfl, rfl⟩ | exact four_one Hone.out
    case c3 => unfold maxLen; omega
    case c4 => omega
    case c5 => have := HB.out.size; simp; omega
    intro v' w6 hown hgrow _
    obtain ⟨hb', ho'⟩ := row_app4 (p := (⟨⟨sx, px⟩, xa, xt⟩, va)) (v' := v') HO.out HB.out hgrow (by first | exact hown | simpa using hown)
    have Hbel := Hb.out.trans (hb'.mono Hb.out.size)
    have hin := own_N (B := w6.heap.size) ho' rfl (fun p hp => by
      have hBw := Nat.le_trans hB Hbel.size
      rcases List.mem_append.1 hp with hp | hp
      · obtain ⟨j, hj⟩ := List.mem_iff_getElem?.1 hp
        exact ((Hz.out j p hj).2.below (Hbel.mono hB)).mono hBw
      · rw [List.mem_singleton] at hp; subst hp
        exact (HX.out.below (Hbel.mono hB)).mono hBw) (Nat.le_refl _) (by unfold maxLen; simp; omega)
    rw [← HLX.out] at hin
    have hlen : R.length = n + 1 := by rw [HLX.out]; simp [Hn.out]
    obtain ⟨na, nc, rfl⟩ := hin.shape
    rw [hlen] at hin ⊢
    have HI := Lib.hid hin
    have Hbel := Lib.hid Hbel
    clear hin HO hown hgrow hb' ho' hlen
    go_wp2_with fail
    go_ret
    exact ⟨_, _, rfl, HI.out, Hbel.out⟩
end Go.Proofs.YtaoalplglfdobaaDoor
