/- loans.kept: the loans to which a closure says yes, with memory of their own. -/
import Derived.Test.YtaoalplglfdobaaDoorLoansAsk
namespace Go.Proofs.YtaoalplglfdobaaDoor
open Go.RowKit
set_option linter.unusedVariables false

theorem infoLoanC : (Tryd.prog.info? 36).map (fun i => (i.zero, i.size, i.bytes)) = some (some (.agg #[.string ⟨#[]⟩, .slice none 0 0, .bool false, .int .i64 0]), 4, 56) := by kernel_rfl
/-- a row of loans of one's own, its steps rows of one's own, all from block base on -/
def OwnZ (base : Nat) (Z : List (LN × Value)) (v : Value) (w : World) : Prop :=
  w.ownsRow base 36 4 v Z.length (cells4 Z) ∧ ∀ p, p ∈ Z → w.ownsRow base 9 1 p.2 p.1.place.path.length (p.1.place.path.map .string) ∧ p.1.place.name.size ≤ strMax ∧ (∀ s, s ∈ p.1.place.path → s.size ≤ strMax) ∧ p.1.place.path.length ≤ 1000
theorem OwnZ.nil (base : Nat) (w : World) : OwnZ base [] (.slice none 0 0) w := ⟨World.ownsRow_nil _ _ _ _, fun p hp => by cases hp⟩
theorem OwnZ.turn {Q : Nat → Prop} {base : Nat} {Z : List (LN × Value)} {v : Value} {w w' : World} (h : OwnZ base Z v w) (k : Turn Q w w') (hq : ∀ b, base ≤ b → ¬ Q b) : OwnZ base Z v w' :=
  ⟨k.own h.1 hq, fun p hp => ⟨k.own (h.2 p hp).1 hq, (h.2 p hp).2⟩⟩
theorem OwnZ.up {base : Nat} {Z : List (LN × Value)} {v : Value} {w w' : World} (h : OwnZ base Z v w) (k : Below w.heap.size w w') : OwnZ base Z v w' := h.turn (Q := fun _ => False) (Turn.of_below k) (by simp)
theorem OwnZ.mono {base base' : Nat} {Z : List (LN × Value)} {v : Value} {w : World} (h : OwnZ base Z v w) (hb : base' ≤ base) : OwnZ base' Z v w := ⟨own_mono h.1 hb, fun p hp => ⟨own_mono (h.2 p hp).1 hb, (h.2 p hp).2⟩⟩
theorem OwnZ.in {base : Nat} {Z : List (LN × Value)} {v : Value} {w : World} (h : OwnZ base Z v w) (hl : Z.length ≤ 100000) : NIn w.heap.size w (Z.map Prod.fst) v :=
  own_N (B := w.heap.size) h.1 rfl (fun p hp => by
    obtain ⟨h1, h2, h3, h4⟩ := h.2 p hp
    exact ⟨h2, own_S h1 h3 (by unfold maxLen; omega)⟩) (Nat.le_refl _) (by unfold maxLen; omega)
theorem strLoan_ne : (36 : TypeId) ≠ 9 := by decide
/-- one more behind: the row has grown, the steps' rows lie as they lay -/
theorem OwnZ.snoc {base : Nat} {Z : List (LN × Value)} {u v' vy : Value} {y : LN} {w w6 : World} {o : Obj} (h : OwnZ base Z u w) (hg : (w.alloc o).grownBy w6 u.ownBlock)
    (h6 : w6.ownsRow base 36 4 v' (Z.length + 1) (cells4 Z ++ [.string y.place.name, vy, .bool y.alone, .int .i64 y.till]))
    (hy : w.ownsRow base 9 1 vy y.place.path.length (y.place.path.map .string)) (h1 : y.place.name.size ≤ strMax) (h2 : ∀ s, s ∈ y.place.path → s.size ≤ strMax) (h3 : y.place.path.length ≤ 1000) :
    OwnZ base (Z ++ [(y, vy)]) v' w6 := by
  have up : ∀ {q : Value} {n : Nat} {xs : List Value}, w.ownsRow base 9 1 q n xs → w6.ownsRow base 9 1 q n xs := by
    intro q n xs hq
    refine (hq.alloc o).kept hg ?_
    cases h7 : q.ownBlock with
    | none => exact .inl rfl
    | some a =>
      refine .inr fun e => ?_
      exact own_apart h.1 hq strLoan_ne e.symm h7 rfl
  refine ⟨by rw [List.length_append, cells4_snoc]; exact h6, fun p hp => ?_⟩
  rcases List.mem_append.1 hp with hp | hp
  · obtain ⟨g1, g2⟩ := h.2 p hp
    exact ⟨up g1, g2⟩
  · rw [List.mem_singleton] at hp
    subst hp
    exact ⟨up hy, h1, h2, h3⟩

theorem own_past {w0 W : World} {base : Nat} {e : TypeId} {size : Nat} {v : Value} {n : Nat} {xs : List Value} (h : w0.ownsRow base e size v n xs) (k : ∀ j, base ≤ j → j < w0.heap.size → W.heap[j]? = w0.heap[j]?) : W.ownsRow base e size v n xs := by
  refine ⟨h.1, ?_⟩
  rcases h.2 with hn | ⟨g, cap, cur, rfl, hb, hgg, rest⟩
  · exact .inl hn
  · refine .inr ⟨g, cap, cur, rfl, hb, ?_, rest⟩
    have hlt : g < w0.heap.size := by
      rcases Nat.lt_or_ge g w0.heap.size with h' | h'
      · exact h'
      · simp [Array.getElem?_eq_none h'] at hgg
    exact (k g hb hlt).trans hgg
theorem OwnZ.past {base : Nat} {Z : List (LN × Value)} {v : Value} {w0 W : World} (h : OwnZ base Z v w0) (k : ∀ j, base ≤ j → j < w0.heap.size → W.heap[j]? = w0.heap[j]?) : OwnZ base Z v W :=
  ⟨own_past h.1 k, fun p hp => ⟨own_past (h.2 p hp).1 k, (h.2 p hp).2⟩⟩

set_option maxRecDepth 100000 in
set_option maxHeartbeats 2000000 in
theorem kept_calls {B : Nat} {g : FuncId} {lb : Array Value} {C Q : Nat → Prop} {I : List LN → World → Prop} {p : List LN → LN → Bool} {ok : LN → Prop} (A : Asks B g lb C Q I p ok)
    (L : List LN) (v : Value) (hl : L.length ≤ 1000) (hok : ∀ x ∈ L, ok x) (hsh : ∀ x ∈ L, x.place.path.length ≤ 1000) (w : World) (hB : B ≤ w.heap.size) (h : NIn B w L v) (hI : I [] w) :
    Calls Tryd.prog 32 #[v, .func (.func g) #[] lb] w fun e w' => ∃ Z v', e = .returned v' ∧ Z.map Prod.fst = keptA p [] L ∧ OwnZ w.heap.size Z v' w' ∧ Turn Q w w' := by
  obtain ⟨i0, hi, hz0, hz1, hz2⟩ := info_parts infoLoanC
  have hE := A.enters
  obtain ⟨ao, cap, rfl⟩ := h.shape
  obtain ⟨n, hn⟩ : ∃ n, n = L.length := ⟨_, rfl⟩
  rw [← hn] at h hl ⊢
  obtain ⟨hm, b, o, h1, r1⟩ := h.at
  unfold maxLen at hm
  have HA : Hid (L.take n = L) := Lib.hid (by rw [hn]; exact List.take_length)
  have HQ : Hid (∀ k, w.heap.size ≤ k → ¬ Q k) := Lib.hid fun k hk q => by have := A.has _ _ hI k (A.sub k q); omega
  have HCw := Lib.hid (A.has _ _ hI)
  have Hn := Lib.hid hn
  have Hr := Lib.hid r1
  have H1 := Lib.hid h1
  have HI := Lib.hid hI
  have Hok := Lib.hid hok
  have Hsh := Lib.hid hsh
  have HAs := Lib.hid A
  clear hn h1 r1 h hok hsh hI A
  go_enter Tryd.func32, Tryd.ntmps32
  go_wp2_with fail
  go_loopw [5, 10] (fun u i wr => ∃ k : Nat, k ≤ n ∧ i = .int .i64 k ∧ ∃ Z, Hid (Z.map Prod.fst = keptA p [] (L.take k)) ∧ Hid (OwnZ w.heap.size Z u wr) ∧ Hid (I (L.take k) wr) ∧ Hid (Turn Q w wr))
    (fun _ i _ => n - (intOf i).toNat)
  case atStart => exact ⟨0, by omega, rfl, [], Lib.hid rfl, Lib.hid (OwnZ.nil _ _), HI, Lib.hid (Turn.refl _ _)⟩
  case round =>
    obtain ⟨k, hk, rfl, Z, HZ, HO, HK, HT⟩ := hrel
    obtain ⟨u, rfl⟩ : ∃ x, x = u5 := ⟨_, rfl⟩
    have hk0 : 0 ≤ (k : Int) := by omega
    by_cases hlt : k < n
    · obtain ⟨y, hy, hym⟩ := get_at (l := L) (k := k) (by rw [← Hn.out]; exact hlt)
      obtain ⟨rfl, hbb⟩ := H1.out (by omega)
      have hk1 : (k : Int) < (n : Int) := by omega
      obtain ⟨vy, cc, yi⟩ := Hr.out k y hy
      have hbel := HT.out.below hB HAs.out.above
      obtain ⟨y0, y1, y2, y3⟩ := cc.below hbb hbel
      have hgQ : ∀ q, C q → q < wr.heap.size := HAs.out.has _ _ HK.out
      have hbx := box1 wr (.cells #[.string y.place.name, vy, .bool y.alone, .int .i64 y.till] 36)
      have HC := Lib.hid (HAs.out.calls (L.take k) y vy (wr.alloc (.cells #[.string y.place.name, vy, .bool y.alone, .int .i64 y.till] 36)) (by have := List.length_take_le k L; omega)
        (by simp; have := hbel.size; omega) (HAs.out.stay _ _ _ HK.out (fun q hq => hbx.block q (hgQ q hq)) (hbx.mono (Nat.le_trans hB HT.out.size))) ((yi.below hbel).below (hbx.mono (Nat.le_trans hB HT.out.size))) (Hok.out y hym))
      have HB := Lib.hid (fun (W : World) (hb : Turn Q wr W) => (show Below B w W from hbel.trans (hb.below (Nat.le_trans hB HT.out.size) HAs.out.above)))
      have HW := Lib.hid (fun (W : World) (hb : Turn Q wr W) => with_calls y.place [] (by have := Hsh.out y hym; simp; omega) B vy (.slice none 0 0) W (Nat.le_trans hB (Nat.le_trans HT.out.size hb.size)) (yi.below (HB.out W hb)) ⟨0, 0, ⟨Nat.zero_le _, none, 0, rfl, Nat.le_refl _, .inl rfl⟩, fun j s h => by cases h⟩)
      have HS : Hid (y.place.name.size ≤ strMax ∧ (∀ s, s ∈ y.place.path → s.size ≤ strMax) ∧ y.place.path.length ≤ 1000) := Lib.hid ⟨yi.1, by
        obtain ⟨_, _, _, _, hrs⟩ := yi
        exact hrs.small, Hsh.out y hym⟩
      have HN : Hid (keptA p [] (L.take (k + 1)) = keptA p [] (L.take k) ++ if p (L.take k) y then [y] else []) := Lib.hid (keptA_take hy)
      have HL : Hid (L.take (k + 1) = L.take k ++ [y]) := Lib.hid (by rw [List.take_add_one, hy]; rfl)
      have Hg := Lib.hid hgQ
      have Hzl : Z.length ≤ k := by
        have h1 := congrArg List.length HZ.out
        rw [List.length_map] at h1
        rw [h1]
        exact Nat.le_trans (keptA_len _ _ _) (List.length_take_le _ _)
      obtain ⟨ay, cy, rfl⟩ := yi.shape
      obtain ⟨sy, hsy⟩ : ∃ s, s = y.place.name := ⟨_, rfl⟩
      obtain ⟨ya, hya⟩ : ∃ s, s = y.alone := ⟨_, rfl⟩
      obtain ⟨yt, hyt⟩ : ∃ s, s = y.till := ⟨_, rfl⟩
      have Hsy := Lib.hid hsy
      have Hya := Lib.hid hya
      have Hyt := Lib.hid hyt
      rw [← hsy] at y0
      rw [← hya] at y2
      rw [← hyt] at y3
      rw [← hsy, ← hya, ← hyt] at HC
      rw [← hsy] at HW
      generalize hny : y.place.path.length = ny at HC y1 HW
      have Hny := Lib.hid hny
      clear hsy hya hyt hy hym cc yi hbel hbx hgQ hny
      go_wp2_with fail
      refine HC.out.mono ?_
      rintro e W2 ⟨rfl, hI2, hT2⟩
      have hnQ : ¬ Q wr.heap.size := HQ.out _ HT.out.size
      have f0 := hT2.cell (b := wr.heap.size) (o := 0) (v := .string sy) (by go_simp) hnQ
      have f1 := hT2.cell (b := wr.heap.size) (o := 1) (v := .slice ay ny cy) (by go_simp) hnQ
      have f2 := hT2.cell (b := wr.heap.size) (o := 2) (v := .bool ya) (by go_simp) hnQ
      have f3 := hT2.cell (b := wr.heap.size) (o := 3) (v := .int .i64 yt) (by go_simp) hnQ
      have k0 := hT2.frozen (b := wr.heap.size) (o := 0) (v := false) (by simp) (by go_simp) hnQ
      have k1 := hT2.frozen (b := wr.heap.size) (o := 1) (v := false) (by simp) (by go_simp) hnQ
      have z2 : wr.heap.size < W2.heap.size := Nat.lt_of_lt_of_le (by simp) hT2.size
      have HT2 := Lib.hid ((Turn.of_below (Q := Q) (box1 wr _)).trans hT2)
      have HI2 : Hid (I (L.take (k + 1)) W2) := Lib.hid (by rw [HL.out]; exact hI2)
      have HO2 := Lib.hid (HO.out.turn HT2.out HQ.out)
      have HTT := Lib.hid (HT.out.trans HT2.out)
      clear HC hI2 hT2 hnQ y0 y1 y2 y3
      cases hp : p (L.take k) y
      · rw [hp] at HN
        have HN : Hid (keptA p [] (L.take (k + 1)) = keptA p [] (L.take k)) := Lib.hid (by rw [HN.out]; simp)
        clear HW hp
        go_wp2_with fail
        go_roundw
        case rel => exact ⟨k + 1, by omega, by go_num, Z, Lib.hid (by rw [HN.out]; exact HZ.out), HO2, HI2, HTT⟩
        case measure => simp [intOf]; omega
      · rw [hp] at HN
        have HN : Hid (keptA p [] (L.take (k + 1)) = keptA p [] (L.take k) ++ [y]) := Lib.hid (by rw [HN.out]; simp)
        clear hp
        go_wp2_with fail
        (with_reducible refine (HW.out W2 HT2.out).mono ?_)
        rintro e W3 ⟨v', rfl, ho, b3⟩
        have f0 := (b3.cell (p := ⟨wr.heap.size, 0, none⟩) z2).trans f0
        have f1 := (b3.cell (p := ⟨wr.heap.size, 1, none⟩) z2).trans f1
        have f2 := (b3.cell (p := ⟨wr.heap.size, 2, none⟩) z2).trans f2
        have f3 := (b3.cell (p := ⟨wr.heap.size, 3, none⟩) z2).trans f3
        have k0 := (b3.frozen (p := ⟨wr.heap.size, 0, none⟩) z2).trans k0
        have k1 := (b3.frozen (p := ⟨wr.heap.size, 1, none⟩) z2).trans k1
        simp only [List.length_nil, Nat.add_zero, List.append_nil] at ho
        have ho2 := own_mono ho HTT.out.size
        obtain ⟨va, vc, rfl⟩ : ∃ va vc, v' = .slice va ny vc := by
          rcases ho.2 with ⟨h1, h2⟩ | ⟨_, _, _, h1, _⟩
          · exact ⟨_, _, by rw [h1, h2]⟩
          · exact ⟨_, _, h1⟩
        have HO3 := Lib.hid (show OwnZ w.heap.size Z u ((W3.setCell ⟨wr.heap.size, 0, none⟩ (.string sy)).setCell ⟨wr.heap.size, 1, none⟩ (.slice va ny vc)) from HO.out.past fun j hj hlt => by
          rw [Below.heap_setCell _ _ _ _ (show j ≠ wr.heap.size by omega), Below.heap_setCell _ _ _ _ (show j ≠ wr.heap.size by omega), b3.block j (by omega), HT2.out.block j hlt (HQ.out j hj)])
        have HI3 := Lib.hid (HAs.out.stay _ _ _ HI2.out (fun q hq => b3.block q (by have := Hg.out q hq; omega)) (b3.mono (Nat.le_trans hB HTT.out.size)))
        have HT3 := Lib.hid (HTT.out.fresh (b3.mono HTT.out.size))
        have z3 : wr.heap.size < W3.heap.size := Nat.lt_of_lt_of_le z2 b3.size
        have Ho2 := Lib.hid (own_mono (own_set (own_set ho (p := ⟨wr.heap.size, 0, none⟩) z2 (.string sy)) (p := ⟨wr.heap.size, 1, none⟩) z2 (.slice va ny vc)) HTT.out.size)
        have HI4 := Lib.hid (HAs.out.stay _ W3 ((W3.setCell ⟨wr.heap.size, 0, none⟩ (.string sy)).setCell ⟨wr.heap.size, 1, none⟩ (.slice va ny vc)) HI3.out (fun q hq => by
          have := Hg.out q hq
          rw [Below.heap_setCell _ _ _ _ (show q ≠ wr.heap.size by omega), Below.heap_setCell _ _ _ _ (show q ≠ wr.heap.size by omega)])
          (((Below.refl _ _).setCell (p := ⟨wr.heap.size, 0, none⟩) (Nat.le_trans hB HT.out.size) _).setCell (p := ⟨wr.heap.size, 1, none⟩) (Nat.le_trans hB HT.out.size) _))
        have HT4 := Lib.hid (HT3.out.fresh (((Below.refl _ W3).setCell (p := ⟨wr.heap.size, 0, none⟩) HT.out.size (.string sy)).setCell (p := ⟨wr.heap.size, 1, none⟩) HT.out.size (.slice va ny vc)))
        clear ho ho2 b3 HO2 HI2 HTT HW HT3 HI3
        go_wp2_with (first
          | (at_builtin; refine wpList_append_own _ rfl _ _ 22 rfl w.heap.size 36 i0 _ 4 56 Tryd.underlying22 hi hz0 hz1 hz2 rfl (by decide) _ _ _ rfl (HO3.out.1.alloc _) ⟨W3.heap.size, 0, none⟩ 1 1 [.string sy, .slice va ny vc, .bool ya, .int .i64 yt] rfl rfl ?c1 ?c2 ?c3 ?c4 ?c5 ?_)
          | fail)
        case c1 =>
          intro j u hj
          have h5 := four_news ((W3.setCell ⟨wr.heap.size, 0, none⟩ (.string sy)).setCell ⟨wr.heap.size, 1, none⟩ (.slice va ny vc)) sy (.slice va ny vc) ya yt 36 j u hj
          rw [show ((W3.setCell ⟨wr.heap.size, 0, none⟩ (.string sy)).setCell ⟨wr.heap.size, 1, none⟩ (.slice va ny vc)).heap.size = W3.heap.size from by simp [World.setCell]] at h5
          exact h5
        case c2 => exact four_one rfl
        case c3 => unfold maxLen; omega
        case c4 => omega
        case c5 => have := HT4.out.size; simp at this ⊢; omega
        intro v2 w6 hown hgrow _
        have hE6 : OwnZ w.heap.size (Z ++ [(y, .slice va ny vc)]) v2 w6 := HO3.out.snoc hgrow (by rw [← Hsy.out, ← Hya.out, ← Hyt.out]; exact hown) (by rw [Hny.out]; exact Ho2.out) HS.out.1 HS.out.2.1 HS.out.2.2
        have hgr : Below w.heap.size ((W3.setCell ⟨wr.heap.size, 0, none⟩ (.string sy)).setCell ⟨wr.heap.size, 1, none⟩ (.slice va ny vc)) w6 :=
          ((Below.refl _ _).alloc HT4.out.size _).grown hgrow (by have := HT4.out.size; simp at this ⊢; omega) (fun q hq => (HO3.out.1.lt q hq).1)
        have HE6 := Lib.hid hE6
        have HT6 := Lib.hid (HT4.out.fresh hgr)
        have HI6 := Lib.hid (HAs.out.stay _ _ w6 HI4.out (fun q hq => hgr.block q (HCw.out q hq)) (hgr.mono hB))
        have HZ6 : Hid ((Z ++ [(y, Value.slice va ny vc)]).map Prod.fst = keptA p [] (L.take (k + 1))) := Lib.hid (by rw [HN.out, List.map_append, HZ.out]; rfl)
        clear hown hgrow hE6 hgr
        go_wp2_with fail
        go_roundw
        case rel => exact ⟨k + 1, by omega, by go_num, _, HZ6, HE6, HI6, HT6⟩
        case measure => simp [intOf]; omega
    · obtain rfl : n = k := by omega
      rw [HA.out] at HZ
      go_wp2_with fail
      go_ret
      exact ⟨Z, _, rfl, HZ.out, HO.out, HT.out⟩
end Go.Proofs.YtaoalplglfdobaaDoor
