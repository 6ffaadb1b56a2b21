/- A region that draws its order: operations H that read old memory or call what makes memory, in whatever order, and behind them a forced row T (stores, appends); what was taken ahead may stand anywhere. One walk, over all worlds that lie over the one it began in. -/
import Derived.Test.YtlbdoomknjiilaaDoorOver
import Derived.StillTail
namespace Go.Proofs.YtlbdoomknjiilaaDoor
open Go.RowKit
set_option linter.unusedVariables false

section
variable {P : Program} {ops : Array Oper} {md : Region.Mode} {C : World → Prop}
/-- each of H is waited for by a later one of H, or by the first of T -/
def sinkL (md : Region.Mode) (ops : Array Oper) (H T : List Nat) : Bool :=
  (List.range H.length).all fun p => (List.range (H.length + 1)).any fun q => decide (p < q) && Region.waitsFor md ops ((H ++ T).getD q 0) (H.getD p 0)
/-- each of T but the first waits for the one ahead of it -/
def chainL (md : Region.Mode) (ops : Array Oper) (T : List Nat) : Bool :=
  (List.range T.length).all fun k => decide (k = 0) || Region.waitsFor md ops (T.getD k 0) (T.getD (k - 1) 0)
def seqL (md : Region.Mode) (ops : Array Oper) : List Nat → Array Bool → Bool
  | [], listed => (Region.ready md ops listed).isEmpty
  | t :: r, listed => decide (Region.ready md ops listed = [t]) && seqL md ops r (listed.setIfInBounds t true)
def headL (md : Region.Mode) (ops : Array Oper) (T : List Nat) : List Nat → Array Bool → Bool
  | [], listed => seqL md ops T listed
  | i :: r, listed => (Region.ready md ops listed).contains i && (Region.free md ops listed i && headL md ops T r (listed.setIfInBounds i true))
/-- what was taken ahead is closed; the others are H and T, and these are apart -/
def startL (md : Region.Mode) (ops : Array Oper) (H T : List Nat) (listed : Array Bool) : Bool :=
  decide (listed.size = ops.size) && ((List.range ops.size).all (fun j => !listed.getD j false || (match ops[j]? with | some o => o.after.all (fun e => !Region.binds md e || listed.getD e.on false) | none => true)) &&
    ((List.range ops.size).all (fun j => listed.getD j false || (H.contains j || T.contains j)) && (T.all (fun t => decide (t < ops.size) && !listed.getD t false) && H.all (fun i => !T.contains i))))
structure InvL (md : Region.Mode) (ops : Array Oper) (H T : List Nat) (listed : Array Bool) : Prop where
  size : listed.size = ops.size
  closed : ∀ j oj, ops[j]? = some oj → listed.getD j false = true → ∀ e ∈ oj.after, Region.binds md e = true → listed.getD e.on false = true
  cover : ∀ j, j < ops.size → listed.getD j false = true ∨ j ∈ H ∨ j ∈ T
  tail : ∀ t ∈ T, t < ops.size ∧ listed.getD t false = false
theorem invL_start {H T : List Nat} {listed : Array Bool} (h : startL md ops H T listed = true) : InvL md ops H T listed ∧ ∀ i ∈ H, i ∉ T := by
  simp only [startL, Bool.and_eq_true, decide_eq_true_eq] at h
  obtain ⟨h1, h2, h3, h4, h5⟩ := h
  refine ⟨⟨h1, fun j oj hj hl e he hb => ?_, fun j hj => ?_, fun t ht => ?_⟩, fun i hi hc => ?_⟩
  · have hj' : j < ops.size := (Array.getElem?_eq_some_iff.1 hj).1
    have := List.all_eq_true.1 h2 j (List.mem_range.2 hj')
    rw [hl] at this
    simp only [hj, Bool.not_true, Bool.false_or] at this
    have := (Array.all_eq_true'.1 this) e he
    simpa [hb] using this
  · have := List.all_eq_true.1 h3 j (List.mem_range.2 hj)
    simpa [Bool.or_eq_true] using this
  · have := List.all_eq_true.1 h4 t ht
    simpa using this
  · have := List.all_eq_true.1 h5 i hi
    simp at this
    exact this hc
theorem InvL.set {H T : List Nat} {listed : Array Bool} (inv : InvL md ops H T listed) {i : Nat} (hi : i ∈ Region.ready md ops listed) (hT : i ∉ T) : InvL md ops H T (listed.setIfInBounds i true) := by
  obtain ⟨_, oi, hoi, hall⟩ := mem_ready.1 hi
  have hlt : i < ops.size := (Array.getElem?_eq_some_iff.1 hoi).1
  refine ⟨by simp [inv.size], fun j oj hj hl e he hb => ?_, fun j hj => ?_, fun t ht => ⟨(inv.tail t ht).1, by rw [getD_set_ne false (show i ≠ t from fun e => hT (by rw [e]; exact ht))]; exact (inv.tail t ht).2⟩⟩
  · by_cases hij : i = j
    · subst hij
      have : oj = oi := Option.some.inj (hj.symm.trans hoi)
      subst this
      exact getD_set_true (hall e he hb)
    · rw [getD_set_ne false hij] at hl
      exact getD_set_true (inv.closed j oj hj hl e he hb)
  · rcases inv.cover j hj with h | h
    · exact .inl (getD_set_true h)
    · exact .inr h
theorem unl_both {listed : Array Bool} {i : Nat} (hi : i < listed.size) (h : listed.getD i false = false) : listed.getD i true = false := getD_in hi h
theorem tail_waitsL {H T : List Nat} {listed : Array Bool} (hs : sinkL md ops H T = true) (hc : chainL md ops T = true) (inv : InvL md ops H T listed) :
    ∀ (d p : Nat), H.length - p = d → p < H.length → listed.getD (H.getD p 0) true = false → ∀ t ∈ T, t ∉ Region.ready md ops listed := by
  intro d
  induction d using Nat.strongRecOn with
  | _ d ih =>
    intro p hd hp hun t ht hr
    obtain ⟨_, ot, hot, hall⟩ := mem_ready.1 hr
    obtain ⟨k, hk⟩ := List.mem_iff_getElem?.1 ht
    have hkl : k < T.length := (List.getElem?_eq_some_iff.1 hk).1
    have hkd : T.getD k 0 = t := by rw [List.getD_eq_getElem?_getD, hk]; rfl
    by_cases hk0 : k = 0
    · subst hk0
      have h1 := List.all_eq_true.1 hs p (List.mem_range.2 hp)
      obtain ⟨q, hq, hq2⟩ := List.any_eq_true.1 h1
      simp only [Bool.and_eq_true, decide_eq_true_eq] at hq2
      obtain ⟨oj, hoj, e, he, hb, hon⟩ := Region.waitsFor_spec hq2.2
      have hql : q ≤ H.length := by have := List.mem_range.1 hq; omega
      by_cases hqe : q = H.length
      · have hT : (H ++ T).getD q 0 = t := by
          rw [hqe, List.getD_eq_getElem?_getD, List.getElem?_append_right (Nat.le_refl _), Nat.sub_self, hk]; rfl
        rw [hT] at hoj
        have : oj = ot := Option.some.inj (hoj.symm.trans hot)
        subst this
        have h2 := hall e he hb
        rw [hon, getD_both hun] at h2
        cases h2
      · have hH : (H ++ T).getD q 0 = H.getD q 0 := by
          rw [List.getD_eq_getElem?_getD, List.getElem?_append_left (by omega), ← List.getD_eq_getElem?_getD]
        rw [hH] at hoj
        have hqs : H.getD q 0 < ops.size := (Array.getElem?_eq_some_iff.1 hoj).1
        cases hl : listed.getD (H.getD q 0) false with
        | true =>
          have h2 := inv.closed _ oj hoj hl e he hb
          rw [hon, getD_both hun] at h2
          cases h2
        | false => exact ih (H.length - q) (by omega) q rfl (by omega) (getD_in (by rw [inv.size]; exact hqs) hl) t ht hr
    · have h1 := List.all_eq_true.1 hc k (List.mem_range.2 hkl)
      simp only [Bool.or_eq_true, decide_eq_true_eq] at h1
      rcases h1 with h1 | h1
      · exact hk0 h1
      · rw [hkd] at h1
        obtain ⟨o', ho', e, he, hb, hon⟩ := Region.waitsFor_spec h1
        have : o' = ot := Option.some.inj (ho'.symm.trans hot)
        subst this
        have h2 := hall e he hb
        have hm : T.getD (k - 1) 0 ∈ T := by
          rw [List.getD_eq_getElem?_getD, List.getElem?_eq_getElem (show k - 1 < T.length by omega)]
          exact List.getElem_mem _
        rw [hon, (inv.tail _ hm).2] at h2
        cases h2

/-- the head in whatever order, then L -/
def headQ (P : Program) (md : Region.Mode) (ops : Array Oper) (C : World → Prop) (H : List Nat) (L : Array Bool → Act → Prop) : Nat → Array Bool → Act → Prop
  | 0, listed, a => L listed a
  | f + 1, listed, a => Region.ready md ops listed ≠ [] ∧ ∀ i, i ∈ Region.ready md ops listed → i ∈ H ∧ qOp P ops C i (headQ P md ops C H L f (listed.setIfInBounds i true)) a
theorem any_of_headQ {H : List Nat} {g : Nat} {L : Array Bool → Act → Prop} {Q : Exit → Act → World → Prop} (hL : ∀ listed a w, C w → L listed a → wpAny P md ops Q g listed a w) :
    ∀ (f : Nat) (listed : Array Bool) (a : Act) (w : World), C w → headQ P md ops C H L f listed a → wpAny P md ops Q (f + g) listed a w := by
  intro f
  induction f with
  | zero => intro listed a w hw h; rw [Nat.zero_add]; exact hL _ _ _ hw h
  | succ f ih =>
    intro listed a w hw h
    have e : f + 1 + g = (f + g) + 1 := by omega
    rw [e]
    exact ⟨fun h0 => absurd h0 h.1, fun i hi => wpOp_of_qOp hw (fun a' w' hw' h' => ih _ a' w' hw' h') (h.2 i hi).2⟩
theorem headQ_first {H T : List Nat} {i : Nat} {o : Oper} {v : Value} {L : Array Bool → Act → Prop} (hi : ops[i]? = some o) (hsel : ∀ (j : Nat) (o : Oper) cs b, ops[j]? = some o → o.op ≠ .select cs b)
    (hs : sinkL md ops H T = true) (hc : chainL md ops T = true) (hap : ∀ j ∈ H, j ∉ T) {p : Nat} (hp : p < H.length) (hpi : H.getD p 0 = i) (hdone : ∀ listed a, L listed a → ∀ j ∈ Region.ready md ops listed, j ∈ T) (f : Nat) :
    ∀ (listed : Array Bool) (a : Act), InvL md ops H T listed →
      (∀ j oj, ops[j]? = some oj → j ≠ i → listed.getD j true = false → (∀ e ∈ oj.after, Region.binds md e = true → e.on ≠ i) → o.apart ops oj = true) →
      i ∈ Region.ready md ops listed → YieldsIn P ops C o v a → headQ P md ops C H L f (listed.setIfInBounds i true) (a.put o.dst v) → headQ P md ops C H L (f + 1) listed a := by
  have inH : ∀ (listed : Array Bool), InvL md ops H T listed → i ∈ Region.ready md ops listed → ∀ j, j ∈ Region.ready md ops listed → j ∈ H := fun listed inv hr j hj => by
    obtain ⟨hjun, oj, hoj, _⟩ := mem_ready.1 hj
    rcases inv.cover j (Array.getElem?_eq_some_iff.1 hoj).1 with h | h | h
    · rw [getD_both hjun] at h; cases h
    · exact h
    · exact absurd hj (tail_waitsL hs hc inv _ p rfl hp (by rw [hpi]; exact (mem_ready.1 hr).1) j h)
  induction f with
  | zero =>
    intro listed a inv hfree hr hy HH
    refine ⟨fun h => (by rw [h] at hr; cases hr), fun j hj => ?_⟩
    have hjH := inH listed inv hr j hj
    by_cases hji : j = i
    · subst hji; exact ⟨hjH, hy.qOp hi HH⟩
    · exact absurd (hdone _ _ HH j (ready_mono hj hji)) (hap j hjH)
  | succ f ih =>
    intro listed a inv hfree hr hy HH
    have hun := (mem_ready.1 hr).1
    refine ⟨fun h => (by rw [h] at hr; cases hr), fun j hj => ?_⟩
    have hjH := inH listed inv hr j hj
    by_cases hji : j = i
    · subst hji; exact ⟨hjH, hy.qOp hi HH⟩
    · obtain ⟨hjun, oj, hoj, hall⟩ := mem_ready.1 hj
      have hnot : ∀ e ∈ oj.after, Region.binds md e = true → e.on ≠ i := fun e he hb heq => by
        have h1 := hall e he hb
        rw [heq, getD_both hun] at h1
        cases h1
      refine ⟨hjH, qOp_mono (fun a' h3 => ih (listed.setIfInBounds j true) a' (inv.set hj (hap j hjH)) (fun k ok hk hki hunk hno => ?_) (ready_mono hr (Ne.symm hji)) h3.1 ?_)
        (qOp_put hoj (hfree j oj hoj hji hjun hnot) (fun cs b => hsel i o cs b hi) (fun cs b => hsel j oj cs b hoj) hy (HH.2 j (ready_mono hj hji)).2)⟩
      · refine hfree k ok hk hki ?_ hno
        by_cases hjk : j = k
        · subst hjk; exact hjun
        · rwa [getD_set_ne true hjk] at hunk
      · rw [Array.setIfInBounds_comm _ _ hji]
        exact h3.2
theorem seqL_ready {T : List Nat} {listed : Array Bool} (h : seqL md ops T listed = true) : ∀ j ∈ Region.ready md ops listed, j ∈ T := by
  cases T with
  | nil => intro j hj; simp only [seqL, List.isEmpty_iff] at h; rw [h] at hj; cases hj
  | cons t r =>
    intro j hj
    simp only [seqL, Bool.and_eq_true, decide_eq_true_eq] at h
    rw [h.1] at hj
    have : j = t := by simpa using hj
    rw [this]; simp
theorem headQ_lex {H T : List Nat} {Lq : Act → Prop} (hsel : Region.noSelect ops = true) (hs : sinkL md ops H T = true) (hc : chainL md ops T = true) (hap : ∀ j ∈ H, j ∉ T) :
    ∀ (l : List Oper) (is : List Nat) (k : Nat) (listed : Array Bool) (a : Act), l.map some = is.map (fun i => ops[i]?) → (∀ j, j < is.length → H.getD (k + j) 0 = is.getD j 0 ∧ k + j < H.length) → InvL md ops H T listed →
    headL md ops T is listed = true → wpQuiet P ops C Lq l a →
    headQ P md ops C H (fun listed' a' => seqL md ops T listed' = true ∧ Lq a') l.length listed a
  | [], is, k, listed, a, hl, _, _, hB, h => by
    have : is = [] := by cases is with | nil => rfl | cons => simp at hl
    subst this
    exact ⟨by simpa [headL] using hB, h⟩
  | o :: l, [], k, listed, a, hl, _, _, _, _ => by simp at hl
  | o :: l, i :: is, k, listed, a, hl, hk, inv, hB, h => by
    simp only [List.map_cons, List.cons.injEq] at hl
    have h0 : ops[i]? = some o := hl.1.symm
    simp only [headL, Bool.and_eq_true] at hB
    have hr : i ∈ Region.ready md ops listed := by simpa using hB.1
    obtain ⟨hki, hkl⟩ := hk 0 (by simp)
    have hki' : H.getD k 0 = i := by simpa using hki
    have hkl' : k < H.length := by omega
    have hiH : i ∈ H := by
      rw [← hki', List.getD_eq_getElem?_getD, List.getElem?_eq_getElem hkl']
      exact List.getElem_mem _
    have hst : qOp P ops C i (wpQuiet P ops C Lq l) a := by unfold qOp; simp only [h0]; exact h
    obtain ⟨v, hy, hK⟩ := yieldsIn_of_qOp h0 hst
    exact headQ_first h0 (Region.noSelect_spec hsel) hs hc hap hkl' hki' (fun _ _ hL => seqL_ready hL.1) l.length listed a inv (Region.free_spec h0 hB.2.1) hr hy
      (headQ_lex hsel hs hc hap l is (k + 1) _ _ hl.2 (fun j hj => by
        have := hk (j + 1) (by simp; omega)
        rw [show k + 1 + j = k + (j + 1) from by omega]
        simpa using this) (inv.set hr (hap i hiH)) hB.2.2 hK)
theorem any_of_seqL {Q : Exit → Act → World → Prop} : ∀ (l : List Oper) (is : List Nat) (listed : Array Bool) (a : Act) (w : World), l.map some = is.map (fun i => ops[i]?) →
    seqL md ops is listed = true → wpList P ops Q l a w → wpAny P md ops Q is.length listed a w
  | [], is, listed, a, w, hl, hB, h => by
    have : is = [] := by cases is with | nil => rfl | cons => simp at hl
    subst this
    exact ⟨by simpa [seqL] using hB, h⟩
  | o :: l, [], _, _, _, hl, _, _ => by simp at hl
  | o :: l, i :: is, listed, a, w, hl, hB, h => by
    simp only [List.map_cons, List.cons.injEq] at hl
    have h0 : ops[i]? = some o := hl.1.symm
    simp only [seqL, Bool.and_eq_true, decide_eq_true_eq] at hB
    refine ⟨fun h1 => (by rw [hB.1] at h1; cases h1), fun j hj => ?_⟩
    rw [hB.1] at hj
    have hji : j = i := by simpa using hj
    subst hji
    have hw : wpOp P ops Q j (wpList P ops Q l) a w := by unfold wpOp; simp only [h0]; exact h
    exact wpOp_mono (fun a' w' h' => any_of_seqL l is _ a' w' hl.2 hB.2 h') hw
end
/-- a load d that may come behind t0 (the block of what is appended), whose place in memory hangs on the world: all orders out of the one in which d comes first -/
theorem delay {P : Program} {ops : Array Oper} {md : Region.Mode} {C : World → Prop} {H T' : List Nat} {d t0 : Nat} {o o0 : Oper} {v : Value} {Lq : Act → Prop} {Q : Exit → Act → World → Prop} {lt : List Oper}
    (hd : ops[d]? = some o) (ht : ops[t0]? = some o0) (hlt : lt.map some = T'.map (fun i => ops[i]?)) (hsel : ∀ (j : Nat) (o : Oper) cs b, ops[j]? = some o → o.op ≠ .select cs b)
    (hgd : o0.guard = none) (hgo : o.guard = none) (hst : ∀ a, Lq a → ∀ w, C w → ∃ u w', C w' ∧ (execOp a.eval o0).run P w = .ok (.value u) w') (hpl : ∀ a w, C w → o.quietAt P a C w v → ∀ K Q, K (a.put o.dst v) w → o.wp P a w K Q) (hdt : o.apart ops o0 = true) (hne : t0 ≠ d) (hwait : ∀ t, T'.head? = some t → Region.waitsFor md ops t d = true) (hT' : T' ≠ [])
    (hLq : ∀ a w, C w → Lq a → wpList P ops Q (o0 :: lt) a w) :
    ∀ (f : Nat) (listed : Array Bool) (a : Act), (∀ j, j ∈ H → j ≠ d) →
      (∀ j oj, ops[j]? = some oj → j ≠ d → listed.getD j true = false → (∀ e ∈ oj.after, Region.binds md e = true → e.on ≠ d) → o.apart ops oj = true) →
      d ∈ Region.ready md ops listed → YieldsIn P ops C o v a →
      headQ P md ops C H (fun listed' a' => seqL md ops (t0 :: T') listed' = true ∧ Lq a') f (listed.setIfInBounds d true) (a.put o.dst v) →
      ∀ w, C w → wpAny P md ops Q (f + 1 + (T'.length + 1)) listed a w := by
  intro f
  induction f with
  | zero =>
    intro listed a hH hfree hr hy HH w hw
    obtain ⟨hseq, hq⟩ := HH
    have hseq' := hseq
    simp only [seqL, Bool.and_eq_true, decide_eq_true_eq] at hseq
    have hunD := (mem_ready.1 hr).1
    rw [show 0 + 1 + (T'.length + 1) = (T'.length + 1) + 1 from by omega]
    refine ⟨fun h => (by rw [h] at hr; cases hr), fun j hj => ?_⟩
    by_cases hjd : j = d
    · subst hjd
      refine wpOp_of_qOp hw (fun a' w' hw' (h' : a' = a.put o.dst v) => ?_) (hy.qOp (K := fun a' => a' = a.put o.dst v) hd rfl)
      subst h'
      exact any_of_seqL (o0 :: lt) (t0 :: T') _ _ w' (by simp only [List.map_cons, ht, hlt]) hseq' (hLq _ _ hw' hq)
    · have hjt : j = t0 := by
        have := ready_mono hj hjd
        rw [hseq.1] at this
        simpa using this
      subst hjt
      obtain ⟨ap1, ap2, ap3⟩ := Oper.apart_spec hdt
      have hex : execOp (a.put o.dst v).eval o0 = execOp a.eval o0 := execOp_put o0 (fun cs b => hsel j o0 cs b ht) a o.dst v ap1
      have hwant : ∀ a : Act, Region.wanted o0 (yielded ops a.tmps) = true := fun a => by simp [Region.wanted, hgd]
      have h3 : o0.wp P (a.put o.dst v) w (wpList P ops Q lt) Q ∨ (o0.asks P (a.put o.dst v) w ∧ LetsOut Q) := by
        have h1 := hLq _ _ hw hq
        unfold wpList at h1
        rwa [if_pos (hwant _)] at h1
      unfold wpOp
      simp only [ht]
      rw [if_pos (hwant a)]
      rcases h3 with h2 | ⟨h2, h2'⟩
      · left
        obtain ⟨u, w', hw', hrun⟩ := hst _ hq w hw
        have hK : wpList P ops Q lt ((a.put o.dst v).put o0.dst u) w' := by
          unfold Oper.wp at h2
          rw [hrun] at h2
          exact h2
        rw [hex] at hrun
        unfold Oper.wp
        rw [hrun]
        show wpAny P md ops Q (T'.length + 1) (listed.setIfInBounds j true) (a.put o0.dst u) w'
        have hrd : d ∈ Region.ready md ops (listed.setIfInBounds j true) := ready_mono hr (fun e => hne e.symm)
        refine ⟨fun h => (by rw [h] at hrd; cases hrd), fun i hi => ?_⟩
        have hid : i = d := Classical.byContradiction fun hid => by
          have h4 := ready_mono hi hid
          rw [Array.setIfInBounds_comm _ _ hne] at h4
          cases hc : T' with
          | nil => exact hT' hc
          | cons t r =>
            have h5 := hseq.2
            rw [hc] at h5
            simp only [seqL, Bool.and_eq_true, decide_eq_true_eq] at h5
            rw [h5.1] at h4
            have hit : i = t := by simpa using h4
            subst hit
            obtain ⟨oj, hoj, e, he, hb, hon⟩ := Region.waitsFor_spec (hwait i (by rw [hc]; rfl))
            obtain ⟨_, oi, hoi, hall⟩ := mem_ready.1 hi
            have : oj = oi := Option.some.inj (hoj.symm.trans hoi)
            subst this
            have h6 := hall e he hb
            rw [hon, getD_set_ne false hne, getD_both hunD] at h6
            cases h6
        subst hid
        have hy' : YieldsIn P ops C o v (a.put o0.dst u) := hy.of_same (execOp_put o (fun cs b => hsel i o cs b hd) a o0.dst u ap3) (wanted_put o a o0.dst u ap3)
        have hwo : Region.wanted o (yielded ops (a.put o0.dst u).tmps) = true := by simp [Region.wanted, hgo]
        have hq' : o.quietAt P (a.put o0.dst u) C w' v := by
          rcases hy' with ⟨_, h⟩ | ⟨h, _⟩
          · exact h w' hw'
          · rw [hwo] at h; cases h
        unfold wpOp
        simp only [hd]
        rw [if_pos hwo]
        left
        refine hpl _ _ hw' hq' _ _ ?_
        rw [Array.setIfInBounds_comm _ _ hne, Act.put_comm a u v (fun d hd' hc => ap2 d hc hd')]
        exact any_of_seqL lt T' _ _ w' hlt hseq.2 hK
      · right
        refine ⟨?_, h2'⟩
        unfold Oper.asks at h2 ⊢
        rwa [hex] at h2
  | succ f ih =>
    intro listed a hH hfree hr hy HH w hw
    have hun := (mem_ready.1 hr).1
    rw [show f + 1 + 1 + (T'.length + 1) = (f + 1 + (T'.length + 1)) + 1 from by omega]
    refine ⟨fun h => (by rw [h] at hr; cases hr), fun j hj => ?_⟩
    by_cases hjd : j = d
    · subst hjd
      refine wpOp_of_qOp hw (fun a' w' hw' (h' : a' = a.put o.dst v) => ?_) (hy.qOp (K := fun a' => a' = a.put o.dst v) hd rfl)
      subst h'
      exact any_of_headQ (g := (T'.length + 1)) (fun listed' a' w'' hw'' hL => any_of_seqL (o0 :: lt) (t0 :: T') listed' a' w'' (by simp only [List.map_cons, ht, hlt]) hL.1 (hLq _ _ hw'' hL.2)) (f + 1) _ _ w' hw' HH
    · obtain ⟨hjun, oj, hoj, hall⟩ := mem_ready.1 hj
      have hnot : ∀ e ∈ oj.after, Region.binds md e = true → e.on ≠ d := fun e he hb heq => by
        have h1 := hall e he hb
        rw [heq, getD_both hun] at h1
        cases h1
      have h2 := qOp_put hoj (hfree j oj hoj hjd hjun hnot) (fun cs b => hsel d o cs b hd) (fun cs b => hsel j oj cs b hoj) hy (HH.2 j (ready_mono hj hjd)).2
      refine wpOp_of_qOp hw (fun a' w' hw' h3 => ih (listed.setIfInBounds j true) a' hH (fun k ok hk hki hunk hno => ?_) (ready_mono hr (Ne.symm hjd)) h3.1 ?_ w' hw') h2
      · refine hfree k ok hk hki ?_ hno
        by_cases hjk : j = k
        · subst hjk; exact hjun
        · rwa [getD_set_ne true hjk] at hunk
      · rw [Array.setIfInBounds_comm _ _ hjd]
        exact h3.2
/-- the law: H (the operations lh) in whatever order, then T (lt) -/
theorem wpAny_over {P : Program} {md : Region.Mode} {ops : Array Oper} {Q : Exit → Act → World → Prop} {a : Act} {w W0 : World} {listed : Array Bool} (H T : List Nat) (lh lt : List Oper)
    (hH : lh.map some = H.map (fun i => ops[i]?)) (hT : lt.map some = T.map (fun i => ops[i]?))
    (hB : (Region.noSelect ops && (sinkL md ops H T && (chainL md ops T && (startL md ops H T listed && headL md ops T H listed)))) = true) (hw : ∃ m : Over W0, w = m.w)
    (h : wpQuiet P ops (fun w' => ∃ m : Over W0, w' = m.w) (fun a' => ∀ m : Over W0, wpList P ops Q lt a' m.w) lh a) : wpAny P md ops Q (H.length + T.length) listed a w := by
  simp only [Bool.and_eq_true] at hB
  obtain ⟨hsel, hs, hc, hst, hlex⟩ := hB
  obtain ⟨inv, hap⟩ := invL_start hst
  have hlen : lh.length = H.length := by have := congrArg List.length hH; simpa using this
  have HQ := headQ_lex (C := fun w' => ∃ m : Over W0, w' = m.w) hsel hs hc hap lh H 0 listed a hH (fun j hj => ⟨by rw [Nat.zero_add], by omega⟩) inv hlex h
  rw [← hlen]
  exact any_of_headQ (fun listed a' w' hw hL => by
    obtain ⟨m, rfl⟩ := hw
    exact any_of_seqL lt T listed a' m.w hT hL.1 (hL.2 m)) _ _ _ w hw HQ

/-- what is asked of what is left of a region, 'load d; H; t0; T'', when `listed` was taken ahead -/
def delayB (md : Region.Mode) (ops : Array Oper) (listed : Array Bool) (d : Nat) (H : List Nat) (t0 : Nat) (T' : List Nat) : Bool :=
  Region.noSelect ops && (sinkL md ops H (t0 :: T') && (chainL md ops (t0 :: T') && (startL md ops H (t0 :: T') (listed.setIfInBounds d true) && (headL md ops (t0 :: T') H (listed.setIfInBounds d true) &&
    ((Region.ready md ops listed).contains d && (Region.free md ops listed d && (decide (t0 ≠ d) && (!H.contains d && (match T' with | [] => false | t :: _ => Region.waitsFor md ops t d)))))))))
theorem wpAny_delay {P : Program} {md : Region.Mode} {ops : Array Oper} {Q : Exit → Act → World → Prop} {a : Act} {w W0 : World} {listed : Array Bool} (d : Nat) (H : List Nat) (t0 : Nat) (T' : List Nat) (od : Oper) (lh : List Oper) (o0 : Oper) (lt : List Oper)
    (hd : ops[d]? = some od) (hH : lh.map some = H.map (fun i => ops[i]?)) (ht : ops[t0]? = some o0) (hT : lt.map some = T'.map (fun i => ops[i]?))
    (hB : delayB md ops listed d H t0 T' = true) (hap : od.apart ops o0 = true) (hgd : o0.guard = none) (hgo : od.guard = none) (hw : ∃ m : Over W0, w = m.w)
    (hpl : ∀ v a w', (∃ m : Over W0, w' = m.w) → od.quietAt P a (fun w' => ∃ m : Over W0, w' = m.w) w' v → ∀ K Q, K (a.put od.dst v) w' → od.wp P a w' K Q)
    (h : wpQuiet P ops (fun w' => ∃ m : Over W0, w' = m.w) (fun a' => ∀ m : Over W0, (∃ u w', (∃ m' : Over W0, w' = m'.w) ∧ (execOp a'.eval o0).run P m.w = .ok (.value u) w') ∧ wpList P ops Q (o0 :: lt) a' m.w) (od :: lh) a) :
    wpAny P md ops Q (H.length + 1 + (T'.length + 1)) listed a w := by
  simp only [delayB, Bool.and_eq_true, decide_eq_true_eq] at hB
  obtain ⟨hsel, hs, hc, hst, hlex, hr, hf, hne, hHd, hw'⟩ := hB
  obtain ⟨inv, hapt⟩ := invL_start hst
  have hst0 : qOp P ops (fun w' => ∃ m : Over W0, w' = m.w) d (wpQuiet P ops (fun w' => ∃ m : Over W0, w' = m.w) (fun a' => ∀ m : Over W0, (∃ u w', (∃ m' : Over W0, w' = m'.w) ∧ (execOp a'.eval o0).run P m.w = .ok (.value u) w') ∧ wpList P ops Q (o0 :: lt) a' m.w) lh) a := by
    unfold qOp; simp only [hd]; exact h
  obtain ⟨v, hy, hK⟩ := yieldsIn_of_qOp hd hst0
  have hlen : lh.length = H.length := by have := congrArg List.length hH; simpa using this
  have HQ := headQ_lex hsel hs hc hapt lh H 0 _ (a.put od.dst v) hH (fun j hj => ⟨by rw [Nat.zero_add], by omega⟩) inv hlex hK
  rw [← hlen]
  refine delay (o0 := o0) (lt := lt) (H := H) hd ht hT (Region.noSelect_spec hsel) hgd hgo ?_ (fun a w' hw' hq => hpl v a w' hw' hq) hap hne ?_ ?_ ?_ lh.length _ a ?_ ?_ (by simpa using hr) hy HQ _ hw
  · intro a' hq w' hw'
    obtain ⟨m, rfl⟩ := hw'
    obtain ⟨u, w2, h1, h2⟩ := (hq m).1
    exact ⟨u, w2, h1, h2⟩
  · intro t ht
    cases T' with
    | nil => simp at ht
    | cons t' r => obtain rfl : t' = t := by simpa using ht
                   exact hw'
  · intro e; subst e; simp at hw'
  · intro a' w' hw' hq
    obtain ⟨m, rfl⟩ := hw'
    exact (hq m).2
  · intro j hj e
    subst e
    have : H.contains j = true := by simpa using hj
    rw [this] at hHd; simp at hHd
  · exact Region.free_spec hd hf
theorem wp_region_delay {P : Program} {id : Nat} {Q : Exit → Act → World → Prop} {a : Act} {w : World} {l : List Oper} (d : Nat) (H : List Nat) (t0 : Nat) (T' : List Nat) (od : Oper) (lh : List Oper) (o0 : Oper) (lt : List Oper)
    (hm : P.follows .mixedOrders = true) (hd : l.toArray[d]? = some od) (hH : lh.map some = H.map (fun i => l.toArray[i]?)) (ht : l.toArray[t0]? = some o0) (hT : lt.map some = T'.map (fun i => l.toArray[i]?))
    (hB : delayB .any l.toArray (Array.replicate l.toArray.size false) d H t0 T' = true) (hap : od.apart l.toArray o0 = true) (hgd : o0.guard = none) (hgo : od.guard = none) (hsz : l.toArray.size = H.length + 1 + (T'.length + 1))
    (hpl : ∀ v a w', (∃ m : Over w, w' = m.w) → od.quietAt P a (fun w' => ∃ m : Over w, w' = m.w) w' v → ∀ K Q, K (a.put od.dst v) w' → od.wp P a w' K Q)
    (h : wpQuiet P l.toArray (fun w' => ∃ m : Over w, w' = m.w) (fun a' => ∀ m : Over w, (∃ u w', (∃ m' : Over w, w' = m'.w) ∧ (execOp a'.eval o0).run P m.w = .ok (.value u) w') ∧ wpList P l.toArray Q (o0 :: lt) a' m.w) (od :: lh) a) :
    (Code.region id l.toArray true).wp P Q a w := by
  refine wp_region_any hm ?_
  have key := wpAny_delay (md := .any) (W0 := w) (w := Over.w (W0 := w) ⟨w.drew, (Below.refl _ w).drew⟩) d H t0 T' od lh o0 lt hd hH ht hT hB hap hgd hgo ⟨_, rfl⟩ hpl h
  rwa [← hsz] at key
end Go.Proofs.YtlbdoomknjiilaaDoor
