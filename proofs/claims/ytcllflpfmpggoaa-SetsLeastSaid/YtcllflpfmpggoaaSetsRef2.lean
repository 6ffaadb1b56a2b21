/- The document's own Union, Pick, Within, Same; the law's Many. -/
import Derived.Test.YtcllflpfmpggoaaSetsRef
namespace Go.Proofs.Ytcllflpfmpggoaa
open Go.RowKit
set_option linter.unusedVariables false

theorem SIn.small {B : Nat} {w : World} {l : List ByteArray} {v : Value} (h : SIn B w l v) : ∀ s, s ∈ l → s.size ≤ strMax := fun s hs => by
  obtain ⟨b, o, _, hr⟩ := h
  obtain ⟨j, hj⟩ := List.mem_iff_getElem?.1 hs
  exact (hr j s hj).1
/-- a row of one's own, with any row behind -/
theorem app_runs (ty : TypeId) (base : Nat) (v : Value) (n : Nat) (xs : List ByteArray) (w : World) (hown : w.ownsRow base 9 1 v n (xs.map .string)) (ys : List ByteArray) (v2 : Value) (m : Nat) (hm : m = ys.length)
    (B : Nat) (hB : B ≤ w.heap.size) (h2 : SIn B w ys v2) (hl : n + m ≤ 1000000) (hbase : base ≤ w.heap.size) :
    ∃ v' w', (Builtin.append_ #[22, 22] ty #[v, v2]).run Try.prog w = .ok v' w' ∧ w'.ownsRow base 9 1 v' (n + m) ((xs ++ ys).map .string) ∧ w.grownBy w' v.ownBlock := by
  obtain ⟨i0, hi, hz0, hz1, hz2⟩ := info_parts infoStr
  obtain ⟨b2, o2, ⟨m2, ao2, cap2, rfl, c2, a2⟩, r2⟩ := h2
  subst hm
  cases ao2 with
  | none =>
    have hm0 : ys.length = 0 := by
      rcases a2 with h | h
      · exact h
      · exact absurd h.1 (by simp)
    obtain rfl := List.eq_nil_of_length_eq_zero hm0
    refine ⟨v, w, ?_, by simpa using hown, ⟨rfl, rfl, rfl, Nat.le_refl _, fun _ _ _ => rfl⟩⟩
    rcases hown.2 with ⟨rfl, rfl⟩ | ⟨g, cap, cur, rfl, _, _, hnc, _⟩
    · simp [Builtin.append_, run_underlying Try.underlying22, sizeOf, typeInfo, hi, Builtin.lenOf, Builtin.firstCells]
    · simp [Builtin.append_, run_underlying Try.underlying22, sizeOf, typeInfo, hi, Builtin.lenOf, Builtin.firstCells, hnc, storeCells]
  | some ad =>
    have hnews : ∀ (j : Nat) u, (ys.map Value.string)[j]? = some u → w.cell? (ad.add j) = some u := fun j u hu => by
      rw [List.getElem?_map, Option.map_eq_some_iff] at hu
      obtain ⟨s, hs, rfl⟩ := hu
      obtain ⟨e2, h3⟩ := a2.resolve_left (some_pos hs)
      injection e2 with e2; subst e2
      have hadd : (⟨b2, o2, none⟩ : Addr).add j = ⟨b2, o2 + j, none⟩ := by unfold Addr.add; split <;> simp_all
      rw [hadd]
      exact (r2 j s hs).2
    obtain ⟨v', w', h1, h2, h3, _⟩ := run_append_own (P := Try.prog) w base 22 ty 9 i0 _ 1 16 Try.underlying22 hi hz0 hz1 hz2 rfl (by decide) v n _ hown ad ys.length cap2 (ys.map .string) (by simp) hnews
      (fun u hu => by obtain ⟨s, _, rfl⟩ := List.mem_map.1 hu; rfl) (by unfold maxLen; omega) (by omega) hbase
    exact ⟨v', w', h1, by rw [List.map_append]; exact h2, h3⟩
/-- the same at a plain region's operation -/
theorem wpList_app {ops : Array Oper} {rest : List Oper} {o : Oper} {a : Act} {Q : Exit → Act → World → Prop} {w : World} (hgd : o.guard = none) (s x : Operand)
    (ho : o.op = .call { callee := .builtin .append, args := #[s, x], argTypes := #[22, 22] })
    (base : Nat) (v : Value) (n : Nat) (xs : List ByteArray) (hs : a.eval s = v) (hown : w.ownsRow base 9 1 v n (xs.map .string)) (ys : List ByteArray) (v2 : Value) (m : Nat) (hm : m = ys.length) (hx : a.eval x = v2)
    (B : Nat) (hB : B ≤ w.heap.size) (h2 : SIn B w ys v2) (hl : n + m ≤ 1000000) (hbase : base ≤ w.heap.size)
    (h : ∀ v' w', w'.ownsRow base 9 1 v' (n + m) ((xs ++ ys).map .string) → w.grownBy w' v.ownBlock → wpList Try.prog ops Q rest (a.put o.dst v') w') : wpList Try.prog ops Q (o :: rest) a w :=
  wpList_plain hgd fun _ hK => by
    obtain ⟨v', w', hr, g1, g2⟩ := app_runs o.type base v n xs w hown ys v2 m hm B hB h2 hl hbase
    unfold Oper.wp execOp
    simp only [ho, resolve, invoke, builtin, Sem.run_bind, Sem.run_pure, Result.andThen_ok, List.map_toArray, List.map_cons, List.map_nil, hs, hx, hr]
    exact hK _ _ (h v' w' g1 g2)

set_option maxRecDepth 100000 in
set_option maxHeartbeats 2000000 in
theorem refUnion_calls (B : Nat) (xs ys : List ByteArray) (v1 v2 : Value) (hl : xs.length + ys.length ≤ 1000) (w : World) (hB : B ≤ w.heap.size) (h1 : SIn B w xs v1) (h2 : SIn B w ys v2) :
    Calls Try.prog 18 #[v1, v2] w fun e w' => ∃ v', e = .returned v' ∧ SIn w'.heap.size w' (unionN xs ys) v' ∧ Below w.heap.size w w' := by
  have HO := Lib.hid fun (W : World) v (h : SIn W.heap.size W (xs ++ ys) v) => refOf_calls W.heap.size (xs ++ ys) v (by rw [List.length_append]; exact hl) W (Nat.le_refl _) h
  have HS : Hid (∀ z, z ∈ xs ++ ys → z.size ≤ strMax) := Lib.hid fun z hz => (List.mem_append.1 hz).elim (h1.small z) (h2.small z)
  have H1 := Lib.hid h1
  have H2 := Lib.hid h2
  clear h1 h2
  go_enter Try.func18, Try.ntmps18
  have H0 : Hid (w.ownsRow w.heap.size 9 1 (.slice none 0 0) 0 (([] : List ByteArray).map .string)) := Lib.hid (by simpa using World.ownsRow_nil w w.heap.size 9 1)
  go_wp2_with (first
    | (at_builtin; refine wpList_app rfl _ _ rfl w.heap.size _ 0 [] rfl H0.out xs v1 xs.length rfl rfl B hB H1.out (by omega) (Nat.le_refl _) ?_)
    | fail)
  intro u1 w1 hown hg
  have hb : Below w.heap.size w w1 := (Below.refl _ w).grown hg (Nat.le_refl _) (fun k hk => by cases hk)
  have Hb := Lib.hid hb
  have H3 : Hid (w1.ownsRow w.heap.size 9 1 u1 xs.length (xs.map .string)) := Lib.hid (by simpa using hown)
  have H4 := Lib.hid (H2.out.below (hb.mono hB))
  clear hown hg hb H0 H1 H2
  go_wp2_with (first
    | (at_builtin; refine wpList_app rfl _ _ rfl w.heap.size _ xs.length xs rfl H3.out ys v2 ys.length rfl rfl B (Nat.le_trans hB Hb.out.size) H4.out (by omega) Hb.out.size ?_)
    | fail)
  intro u2 w2 hown hg
  have Hb2 := Lib.hid (Hb.out.grown hg Hb.out.size (fun k hk => (H3.out.lt k hk).1))
  have hown : w2.ownsRow w.heap.size 9 1 u2 (xs.length + ys.length) ((xs ++ ys).map .string) := by rw [List.map_append]; exact hown
  have hin := own_S (w := w2) (l := xs ++ ys) (n := xs.length + ys.length) hown HS.out (by unfold maxLen; omega)
  have HC := Lib.hid (HO.out w2 u2 hin)
  clear hown hg hin H3 H4 Hb HO HS
  go_wp2_with fail
  refine HC.out.mono ?_
  rintro e w3 ⟨u3, rfl, h3, b3⟩
  have H5 := Lib.hid h3
  have Hb3 := Lib.hid (Hb2.out.trans (b3.mono Hb2.out.size))
  clear HC h3 b3
  go_wp2_with fail
  go_ret
  exact ⟨_, rfl, H5.out, Hb3.out⟩

set_option maxRecDepth 100000 in
set_option maxHeartbeats 2000000 in
theorem refPick_calls (B : Nat) (xs ys : List ByteArray) (v1 v2 : Value) (is : Bool) (hl : xs.length ≤ 1000) (w : World) (hB : B ≤ w.heap.size) (h1 : SIn B w xs v1) (h2 : SIn B w ys v2) :
    Calls Try.prog 20 #[v1, v2, .bool is] w fun e w' => ∃ ao cap, e = .returned (.slice ao (pickN xs ys is).length cap) ∧ SIn w'.heap.size w' (pickN xs ys is) (.slice ao (pickN xs ys is).length cap) ∧ Below w.heap.size w w' := by
  obtain ⟨i0, hi, hz0, hz1, hz2⟩ := info_parts infoStr
  have HS : Hid (∀ z, z ∈ xs.filter (fun s => hasN ys s == is) → z.size ≤ strMax) := Lib.hid fun z hz => h1.small z (List.mem_filter.1 hz).1
  have HFL : Hid ((xs.filter (fun s => hasN ys s == is)).length ≤ 1000) := Lib.hid (Nat.le_trans (List.length_filter_le _ _) hl)
  have HO := Lib.hid fun (W : World) v (h : SIn W.heap.size W (xs.filter fun s => hasN ys s == is) v) => refOf_calls W.heap.size _ v HFL.out W (Nat.le_refl _) h
  obtain ⟨b, o, ⟨m1, ao, cap, rfl, c1, h1⟩, r1⟩ := h1
  obtain ⟨ao2, cap2, rfl⟩ : ∃ ao2 cap2, v2 = .slice ao2 ys.length cap2 := by obtain ⟨b, o, hs, _⟩ := h2; exact hs.shape
  obtain ⟨n, hn⟩ : ∃ n, n = xs.length := ⟨_, rfl⟩
  have HA : Hid (xs.take n = xs) := Lib.hid (by rw [hn]; exact List.take_length)
  have HT := Lib.hid fun k => Nat.le_trans (List.length_filter_le (fun s => hasN ys s == is) (xs.take k)) (List.length_take_le k xs)
  have HC : Hid (∀ (W : World) s, Below w.heap.size w W → Calls Try.prog 15 #[.slice ao2 ys.length cap2, .string s] W fun e w' => e = .returned (.bool (hasN ys s)) ∧ Below W.heap.size W w') :=
    Lib.hid fun W s hb => refHas_calls B ys s _ W (Nat.le_trans hB hb.size) (h2.below (hb.mono hB))
  rw [← hn] at m1 h1 c1 hl ⊢
  unfold maxLen at m1
  have Hn := Lib.hid hn
  have Hr := Lib.hid r1
  have H1 := Lib.hid h1
  generalize ys.length = m2 at *
  have HP : Hid (pickN xs ys is = ofN (xs.filter fun s => hasN ys s == is)) := Lib.hid rfl
  generalize pickN xs ys is = R at *
  clear hn r1 h1 h2
  go_enter Try.func20, Try.ntmps20
  go_wp2_with fail
  go_loopw [8, 7] (fun i u wr => ∃ k : Nat, k ≤ n ∧ i = .int .i64 k ∧ Hid (wr.ownsRow w.heap.size 9 1 u ((xs.take k).filter fun s => hasN ys s == is).length (((xs.take k).filter fun s => hasN ys s == is).map .string)) ∧ Hid (Below w.heap.size w wr))
    (fun i _ _ => n - (intOf i).toNat)
  case atStart => exact ⟨0, by omega, rfl, Lib.hid (by simpa using World.ownsRow_nil _ w.heap.size 9 1), Lib.hid (Below.refl _ _)⟩
  case round =>
    obtain ⟨k, hk, rfl, HO1, HB⟩ := hrel
    obtain ⟨u, rfl⟩ : ∃ x, x = u7 := ⟨_, rfl⟩
    have hk0 : 0 ≤ (k : Int) := by omega
    by_cases hlt : k < n
    · obtain ⟨s, hs, _⟩ := get_at (l := xs) (k := k) (by rw [← Hn.out]; exact hlt)
      obtain ⟨rfl, hbb⟩ := H1.out.resolve_left (by omega)
      have k0 := (Hr.out.below (fun _ => hbb) (HB.out.mono hB) k s hs).2
      have hbw : b < wr.heap.size := by have := HB.out.size; omega
      have hk1 : (k : Int) < (n : Int) := by omega
      have HN := Lib.hid (filter_take (p := fun s => hasN ys s == is) hs)
      have HD := Lib.hid (HC.out wr s HB.out)
      have hT : ((xs.take k).filter fun s => hasN ys s == is).length ≤ k := HT.out k
      clear hs
      generalize hasN ys s = r at *
      generalize (xs.take k).filter (fun s => hasN ys s == is) = Y at *
      go_wp2_with fail
      refine HD.out.mono ?_
      rintro e w5 ⟨rfl, b5⟩
      have k0 := (b5.cell (p := ⟨b, o + k, none⟩) hbw).trans k0
      have HO2 := Lib.hid (own_below HO1.out b5)
      have HB := Lib.hid (HB.out.trans (b5.mono HB.out.size))
      clear b5 HD HO1
      by_cases hr : r = is
      · subst hr
        have HN2 : Hid ((xs.take (k + 1)).filter (fun s => hasN ys s == r) = Y ++ [s]) := Lib.hid (by rw [HN.out]; simp)
        clear HN
        go_wp2_with (first
          | (at_builtin; refine wpList_append_own _ rfl _ _ 22 rfl w.heap.size 9 i0 _ 1 16 Try.underlying22 hi hz0 hz1 hz2 rfl (by decide) _ _ _ rfl (HO2.out.alloc _) ⟨w5.heap.size, 0, none⟩ 1 1 [.string s] rfl rfl ?c1 ?c2 ?c3 ?c4 ?c5 ?_)
          | fail)
        case c1 => exact str_news _ _ _
        case c2 => first | exact str_one _ | rfl | simp [Value.oneCell']
        case c3 => unfold maxLen; omega
        case c4 => omega
        case c5 => have := HB.out.size; simp; omega
        intro v' w6 hown hgrow _
        obtain ⟨hb', ho'⟩ := row_app (s := s) (v' := v') HO2.out HB.out hgrow (by first | exact hown | simpa using hown)
        have HB := Lib.hid hb'
        have HO3 := Lib.hid ho'
        clear hown hgrow hb' ho' HO2
        go_wp2_with fail
        go_roundw
        case rel => exact ⟨k + 1, by omega, by go_num, Lib.hid (by rw [HN2.out]; exact HO3.out), HB⟩
        case measure => simp [intOf]; omega
      · have HN2 : Hid ((xs.take (k + 1)).filter (fun s => hasN ys s == is) = Y) := Lib.hid (by rw [HN.out]; simp [hr])
        have hr2 : (r == is) = false := by simpa using hr
        clear HN
        cases r <;> cases is <;> first
          | (exact absurd rfl hr)
          | (clear hr hr2
             go_wp2_with fail
             go_roundw
             case rel => exact ⟨k + 1, by omega, by go_num, Lib.hid (by rw [HN2.out]; exact HO2.out), HB⟩
             case measure => simp [intOf]; omega)
    · obtain rfl : k = n := by omega
      have hin := own_S HO1.out (by rw [HA.out]; exact HS.out) (by rw [HA.out]; have := HFL.out; unfold maxLen; omega)
      rw [HA.out] at hin
      have HD := Lib.hid (HO.out wr u hin)
      clear hin HO HO1
      go_wp2_with fail
      refine HD.out.mono ?_
      rintro e w3 ⟨u3, rfl, h3, b3⟩
      rw [← HP.out] at h3
      obtain ⟨na, nc, rfl⟩ : ∃ ao2 cap2, u3 = .slice ao2 R.length cap2 := by obtain ⟨b, o, hs, _⟩ := h3; exact hs.shape
      have H5 := Lib.hid h3
      have HB := Lib.hid (HB.out.trans (b3.mono HB.out.size))
      clear HD h3 b3
      go_wp2_with fail
      go_ret
      exact ⟨_, _, rfl, H5.out, HB.out⟩

set_option maxHeartbeats 1000000 in
theorem refWithin_calls (B : Nat) (xs ys : List ByteArray) (v1 v2 : Value) (hl : xs.length ≤ 1000) (w : World) (hB : B ≤ w.heap.size) (h1 : SIn B w xs v1) (h2 : SIn B w ys v2) :
    Calls Try.prog 23 #[v1, v2] w fun e w' => e = .returned (.bool (withinN xs ys)) ∧ Below w.heap.size w w' := by
  have HC := Lib.hid (refPick_calls B xs ys v1 v2 false hl w hB h1 h2)
  have HW : Hid (withinN xs ys = decide ((pickN xs ys false).length = 0)) := Lib.hid rfl
  generalize withinN xs ys = r at *
  generalize (pickN xs ys false).length = n at *
  clear h1 h2
  go_enter Try.func23, Try.ntmps23
  go_wp2_with fail
  refine HC.out.mono ?_
  rintro e w1 ⟨ao, cap, rfl, _, b1⟩
  have Hb := Lib.hid b1
  clear HC b1
  by_cases h0 : n = 0
  · subst h0
    go_wp2_with fail
    go_ret
    exact ⟨ret_bool (by rw [HW.out]; rfl), Hb.out⟩
  · have e1 : ((n : Int) == 0) = false := by rw [beq_eq_false_iff_ne]; omega
    go_wp2_with fail
    go_ret
    exact ⟨ret_bool (by rw [HW.out, decide_eq_false h0]), Hb.out⟩
end Go.Proofs.Ytcllflpfmpggoaa
