/- What is whole, as a tree of parts: as the document says it. -/
import Derived.Test.YtojeijeimpffgaaGreatRTreeRefS5
namespace Go.Proofs.YtojeijeimpffgaaGreat
open Go.RowKit
set_option linter.unusedVariables false

theorem sameT_zero (t : PT) : sameT t zeroT = zT t := by
  obtain ⟨k, n, l⟩ := t
  have h : zT (.mk k n l) = (decide (k = 0) && (noB n && decide (l.length = 0))) := rfl
  unfold zeroT
  rw [sameT_mk, h, noB_iff, sameW_eq]
  cases l with
  | nil => simp [sameTs]
  | cons a l => simp [sameTs]
theorem sameE_zero (e : PE) : sameE false e zeroE = zE e := by
  obtain ⟨op, i, n, s, p, l, pos⟩ := e
  unfold zeroE
  rw [sameE_mk, samePl_zero, Bool.eq_iff_iff]
  cases l with
  | nil => simp [zE, noB_iff, sameW_eq, sameEs, PE.op, PE.int, PE.name, PE.second, PE.place, PE.args]; grind
  | cons a l => simp [zE, noB_iff, sameW_eq, sameEs, PE.op, PE.int, PE.name, PE.second, PE.place, PE.args]
theorem wholeT_three (n : Nat) (t : PT) : wholeT (n + 1) t 3 = zT t := by
  rw [wholeT]
  have h : fitT t 3 = zT t := by unfold fitT; rw [if_pos (.inl rfl), sameT_zero]
  rw [h]
  obtain ⟨k, nm, l⟩ := t
  cases l with
  | nil => simp [PT.args]
  | cons a l => simp [zT, PT.args]
theorem rT_zero (n : Nat) (t : PT) (h : t.kind = 0) : rT n t = false := by
  cases n with
  | zero => rfl
  | succ n => rw [rT, h]; rfl
theorem wholeT_two (n : Nat) (t : PT) : wholeT (n + 1) t 2 = (zT t || rT (n + 1) t) := by
  by_cases h : t.kind = 0
  · rw [rT_zero _ _ h, Bool.or_false, ← wholeT_three n t, wholeT, wholeT]
    congr 1
    unfold fitT
    rw [if_pos (.inr ⟨rfl, h⟩), if_pos (.inl rfl)]
  · have hz : zT t = false := by unfold zT; rw [decide_eq_false h]; rfl
    rw [hz, Bool.false_or, ← wholeT_eq, wholeT, wholeT]
    congr 1
    unfold fitT
    rw [if_neg (by simp [h]), if_neg (by simp)]
theorem wholeE_three (n : Nat) (e : PE) : wholeE (n + 1) e 3 = zE e := by
  rw [wholeE]
  have h : fitE e 3 = zE e := by unfold fitE; rw [if_pos rfl, sameE_zero]
  rw [h]
  obtain ⟨op, i, nm, s, p, l, pos⟩ := e
  cases l with
  | nil => simp [PE.args]
  | cons a l => simp [zE, PE.args]
theorem PS.Row.mem {B : Nat} {w : World} {b : Nat} : ∀ {l : List PS} {o : Nat} {a : PS}, PS.Row B w b o l → a ∈ l → ∃ v, a.In B w v
  | x :: l, o, a, h, hm => by
    rw [PS.Row] at h
    cases hm with
    | head => obtain ⟨⟨v, _, hv⟩, _⟩ := h; exact ⟨v, hv⟩
    | tail _ hm => exact PS.Row.mem h.2 hm
theorem PA.Row.mem {B : Nat} {w : World} {b : Nat} : ∀ {l : List PA} {o : Nat} {a : PA}, PA.Row B w b o l → a ∈ l → ∃ v, a.In B w v
  | x :: l, o, a, h, hm => by
    rw [PA.Row] at h
    cases hm with
    | head => obtain ⟨⟨v, _, hv⟩, _⟩ := h; exact ⟨v, hv⟩
    | tail _ hm => exact PA.Row.mem h.2 hm
theorem hasB_bs (l : List UInt8) (c : Int) : hasB (bs l) c = l.any fun x => decide ((x.toNat : Int) = c) := rfl
theorem all_and {α : Type} (f g : α → Bool) : ∀ l : List α, l.all (fun a => f a && g a) = (l.all f && l.all g)
  | [] => rfl
  | a :: l => by
    rw [List.all_cons, List.all_cons, List.all_cons, all_and f g l]
    cases f a <;> cases g a <;> simp
theorem okArm_all (m : Nat) (ar : List PA) : ar.all (okArm m) = (ar.all armB && ar.all (fun a => a.body.all (rS m))) := by
  rw [← all_and]
  refine all_congr fun a _ => ?_
  unfold okArm armB
  rw [Bool.and_assoc]
theorem op_cases14 {k : Int} (h : 0 ≤ k ∧ k ≤ 255) : (13 < k ∧ k ≤ 255) ∨ k = 0 ∨ k = 1 ∨ k = 2 ∨ k = 3 ∨ k = 4 ∨ k = 5 ∨ k = 6 ∨ k = 7 ∨ k = 8 ∨ k = 9 ∨ k = 10 ∨ k = 11 ∨ k = 12 ∨ k = 13 := by omega
def argsB (op : Int) (m : Nat) (es : List PE) : Bool := es.all fun e => (!lentB e || decide (inExprs op = 1)) && rE m e
theorem nil_all {α : Type} {l : List α} (f : α → Bool) (h : l.length = 0) : l.all f = true := by
  rw [List.length_eq_zero_iff] at h; subst h; rfl
theorem args_is (op : Int) (m : Nat) (es : List PE) : argsB op m es = es.all (okArg (!decide (inExprs op = 1)) m) := by
  unfold argsB
  refine all_congr fun a _ => ?_
  unfold okArg; rw [Bool.not_not]
set_option maxRecDepth 100000 in
set_option maxHeartbeats 8000000 in
theorem stmt_core (op : Int) (hop : 0 ≤ op ∧ op ≤ 255) (m : Nat) (nm sc : ByteArray) (ns : List ByteArray) (ty : PT) (iv : Int) (pl : PP) (es : List PE) (bo el : List PS) (ar : List PA) :
    (fitSS (sSh op) nm sc ns ty iv pl es bo el ar && ((if op = 12 then rT m ty else true) && (argsB op m es && (bo.all (rS m) && (el.all (rS m) && ar.all (fun a => a.body.all (rS m))))))) =
    (!(sformL op).isEmpty && (labsF (bs (sformL op)) m nm sc ns ty iv pl && (listsB (hasB (bs (sformL op)) 66) (hasB (bs (sformL op)) 69) (hasB (bs (sformL op)) 65) (cntB (hasB (bs (sformL op)) 101) (hasB (bs (sformL op)) 108) (hasB (bs (sformL op)) 120) ns.length) es bo el ar &&
      (es.all (okArg (hasB (bs (sformL op)) 101) m) && (ar.all (okArm m) && (bo.all (rS m) && el.all (rS m))))))) := by
  have hz := samePl_zero pl
  have hq := sameT_zero ty
  have ha := okArm_all m ar
  have hbo : bo.length = 0 → bo.all (rS m) = true := fun h => nil_all _ h
  have hel : el.length = 0 → el.all (rS m) = true := fun h => nil_all _ h
  have har : ar.length = 0 → ar.all armB = true ∧ ar.all (fun a => a.body.all (rS m)) = true := fun h => ⟨nil_all _ h, nil_all _ h⟩
  have hns : ns.length = 0 → ns.all nmB = true := fun h => nil_all _ h
  have hA : argsB op m es = es.all (okArg (!decide (inExprs op = 1)) m) := args_is op m es
  obtain ⟨aE, haE⟩ : ∃ aE : Bool → Bool, ∀ b, es.all (okArg b m) = aE b := ⟨fun b => es.all (okArg b m), fun _ => rfl⟩
  have hes : es.length = 0 → ∀ b, aE b = true := fun h b => by rw [← haE]; exact nil_all _ h
  rw [ha, hA, haE, haE]
  unfold fitSS fitLists fitNs fitPlS fitArms fitQueue labsF labB labT labN labQ labP listsB cntB
  simp only [hasB_bs, hz, hq]
  generalize bo.all (rS m) = xbo at *
  generalize el.all (rS m) = xel at *
  generalize ar.all armB = xarm at *
  generalize (ar.all fun a => a.body.all (rS m)) = xab at *
  generalize rT m ty = xty at *
  generalize zT ty = xz at *
  generalize ns.all nmB = xns at *
  generalize plB pl = xpl at *
  generalize noB pl.name = xpn at *
  generalize bo.length = nbo at *
  generalize el.length = nel at *
  generalize ar.length = nar at *
  generalize ns.length = nns at *
  generalize pl.path.length = npl at *
  rcases op_cases14 hop with h | h
  · have e1 : sSh op = ⟨false, 0, 0, false, 0, false, false, false, false, false, false⟩ := by
      unfold sSh
      repeat rw [if_neg (by omega)]
    have e2 : sformL op = [] := by
      unfold sformL
      rw [List.getD_eq_getElem?_getD, List.getElem?_eq_none (by simp [sformTab]; omega)]; rfl
    rw [e1, e2]; rfl
  · rcases h with rfl | rfl | rfl | rfl | rfl | rfl | rfl | rfl | rfl | rfl | rfl | rfl | rfl | rfl
    all_goals
      clear ha hz hq hA haE
      generalize es.length = nes at *
      rw [Bool.eq_iff_iff]
      simp [sSh, sformL, sformTab, txB, inExprs]
      try grind
/-! ### statements, items, programs -/
theorem all_rtEs (m : Nat) {B : Nat} {w : World} (op : Int) (es : List PE) (hin : ∀ a, a ∈ es → ∃ v, PE.In B w a v) : (rtEs es (inExprs op)).all (fun u => wholeR m u) = argsB op m es := by
  rw [rtEs_map, List.all_map]
  unfold argsB
  refine all_congr fun a ha => ?_
  obtain ⟨v, hv⟩ := hin a ha
  show wholeR m (rtE a (inExprs op)) = _
  rw [wholeR_E, wholeE_eq m a v (inExprs op) hv (by unfold inExprs; split <;> omega)]
theorem all_rtSs (m : Nat) (l : List PS) (h : ∀ a, a ∈ l → wholeR m (rtS a) = rS m a) : (rtSs l).all (fun u => wholeR m u) = l.all (rS m) := by
  rw [rtSs_map, List.all_map]
  exact all_congr fun a ha => h a ha
theorem all_rtAs (m : Nat) : ∀ (l : List PA), (∀ a, a ∈ l → ∀ s, s ∈ a.body → wholeR m (rtS s) = rS m s) → (rtAs l).all (fun u => wholeR m u) = l.all (fun a => a.body.all (rS m))
  | [], _ => by rw [rtAs]; rfl
  | .mk v n bo :: l, h => by
    rw [rtAs, rtA, List.all_append, List.all_cons, all_rtAs m l (fun a ha => h a (by simp [ha])), all_rtSs m bo (fun s hs => h _ (List.mem_cons_self ..) s hs)]
    rfl
theorem all_if (m : Nat) (op : Int) (ty : PT) : (if op = 12 then [rtT ty 0] else []).all (fun u => wholeR m u) = (if op = 12 then rT m ty else true) := by
  split
  · rw [List.all_cons, List.all_nil, Bool.and_true, wholeR_T, wholeT_eq]
  · rfl
theorem wholeS_eq {B : Nat} {w : World} : ∀ (m : Nat) (s : PS) (v : VS), s.In B w v → wholeR m (rtS s) = rS m s
  | 0, s, _, _ => by cases s; rw [rtS, rS]; rfl
  | m + 1, .mk op nm sc ns ty iv pl es bo el ar ps, v, h => by
    obtain ⟨hsc, _, _, _, ⟨b1, o1, s1, r1⟩, ⟨b2, o2, s2, r2⟩, ⟨b3, o3, s3, r3⟩, b4, o4, s4, r4⟩ := h
    have hbo := all_rtSs m bo fun a ha => by obtain ⟨va, hv⟩ := PS.Row.mem r2 ha; exact wholeS_eq m a va hv
    have hel := all_rtSs m el fun a ha => by obtain ⟨va, hv⟩ := PS.Row.mem r3 ha; exact wholeS_eq m a va hv
    have har := all_rtAs m ar fun a ha s hs => by
      obtain ⟨va, hv⟩ := PA.Row.mem r4 ha
      obtain ⟨x, n, body⟩ := a
      obtain ⟨_, b5, o5, s5, r5⟩ := hv
      obtain ⟨vs, hvs⟩ := PS.Row.mem r5 hs
      exact wholeS_eq m s vs hvs
    have hes := all_rtEs (B := B) (w := w) m op es fun a ha => PE.Row.mem r1 ha
    rw [rtS, wholeR, List.all_append, List.all_append, List.all_append, List.all_append, all_if, hes, hbo, hel, har, rS]
    exact stmt_core op (u8_lt hsc.1) m nm sc ns ty iv pl es bo el ar
theorem PF.Row.mem {B : Nat} {w : World} {b : Nat} : ∀ {l : List PF} {o : Nat} {a : PF}, PF.Row B w b o l → a ∈ l → ∃ v, a.In B w v
  | x :: l, o, a, h, hm => by
    rw [PF.Row] at h
    cases hm with
    | head => obtain ⟨⟨v, _, hv⟩, _⟩ := h; exact ⟨v, hv⟩
    | tail _ hm => exact PF.Row.mem h.2 hm
theorem PI.Row.mem {B : Nat} {w : World} {b : Nat} : ∀ {l : List PI} {o : Nat} {a : PI}, PI.Row B w b o l → a ∈ l → ∃ v, a.In B w v
  | x :: l, o, a, h, hm => by
    rw [PI.Row] at h
    cases hm with
    | head => obtain ⟨⟨v, _, hv⟩, _⟩ := h; exact ⟨v, hv⟩
    | tail _ hm => exact PI.Row.mem h.2 hm
theorem wholeE_ret {B : Nat} {w : World} (e : PE) (v : VE) (h : e.In B w v) : wholeR 38 (rtE e 0) = (!lentB e && rE 38 e) := by
  rw [wholeR_E, wholeE_eq 38 e v 0 h (by decide)]; simp
theorem all_fields (st : Nat) (kd : Int) (l : List PF) (h : ∀ f, f ∈ l → (fieldB (iSh kd).field f && wholeR 38 (rtT f.type st)) = okField kd f) : (l.all (fieldB (iSh kd).field) && (l.map (fun f => rtT f.type st)).all (fun u => wholeR 38 u)) = l.all (okField kd) := by
  rw [List.all_map, ← all_and]
  exact all_congr fun f hf => h f hf
theorem wholeI_eq {B : Nat} {w : World} (x : PI) (v : VI) (h : x.In B w v) : wholeR 39 (rtI x) = rI x := by
  obtain ⟨kd, nm, fs, rt, bo, rx, ps⟩ := x
  obtain ⟨_, _, _, ⟨b2, o2, s2, r2⟩, hrx⟩ := h
  have hbo := all_rtSs 38 bo fun a ha => by obtain ⟨va, hv⟩ := PS.Row.mem r2 ha; exact wholeS_eq 38 a va hv
  have hrt0 : wholeR 38 (rtT rt 0) = rT 38 rt := by rw [wholeR_T, wholeT_eq]
  have hrt3 : wholeR 38 (rtT rt 3) = zT rt := by rw [wholeR_T, wholeT_three]
  have hrx0 := wholeE_ret rx _ hrx
  have hrx3 : wholeR 38 (rtE rx 3) = zE rx := by rw [wholeR_E, wholeE_three]
  have hbn : bo.length = 0 → bo.all (rS 38) = true := fun h => nil_all _ h
  by_cases k1 : kd = 1
  · subst k1
    have hf := all_fields 0 1 fs fun f _ => by
      show (txB 1 f.name && wholeR 38 (rtT f.type 0)) = okField 1 f
      rw [wholeR_T, wholeT_eq]; rfl
    show (fitII (iSh 1) nm fs bo && _) = _
    rw [List.all_append, List.all_cons, List.all_append, List.all_cons, List.all_nil, hbo]
    show (fitII (iSh 1) nm fs bo && ((fs.map (fun f => rtT f.type 0)).all (fun u => wholeR 38 u) && (wholeR 38 (rtT rt 3) && (bo.all (rS 38) && (wholeR 38 (rtE rx 3) && true))))) = _
    rw [hrt3, hrx3]
    show _ = ((decide ((1 : Int) ≤ 1) && (decide ((1 : Int) ≤ 3) && decide (fs.length ≤ 6))) && (fs.all (okField 1) && (tyB nm && (zT rt && (decide (bo.length = 0) && zE rx)))))
    rw [← hf]
    show ((true && (tyB nm && (decide (fs.length ≤ 6) && (fs.all (fieldB (iSh 1).field) && (false || decide (bo.length = 0)))))) && _) = _
    generalize fs.all (fieldB (iSh 1).field) = a1 at *
    generalize (fs.map (fun f => rtT f.type 0)).all (fun u => wholeR 38 u) = a2 at *
    generalize bo.all (rS 38) = a3 at *
    generalize bo.length = nb at *
    rw [Bool.eq_iff_iff]
    simp
    grind
  · by_cases k2 : kd = 2
    · subst k2
      have hf := all_fields 2 2 fs fun f _ => by
        show (txB 3 f.name && wholeR 38 (rtT f.type 2)) = okField 2 f
        rw [wholeR_T, wholeT_two]; rfl
      show (fitII (iSh 2) nm fs bo && _) = _
      rw [List.all_append, List.all_cons, List.all_append, List.all_cons, List.all_nil, hbo]
      show (fitII (iSh 2) nm fs bo && ((fs.map (fun f => rtT f.type 2)).all (fun u => wholeR 38 u) && (wholeR 38 (rtT rt 3) && (bo.all (rS 38) && (wholeR 38 (rtE rx 3) && true))))) = _
      rw [hrt3, hrx3]
      show _ = ((decide ((1 : Int) ≤ 2) && (decide ((2 : Int) ≤ 3) && decide (fs.length ≤ 6))) && (fs.all (okField 2) && (tyB nm && (zT rt && (decide (bo.length = 0) && zE rx)))))
      rw [← hf]
      show ((true && (tyB nm && (decide (fs.length ≤ 6) && (fs.all (fieldB (iSh 2).field) && (false || decide (bo.length = 0)))))) && _) = _
      generalize fs.all (fieldB (iSh 2).field) = a1 at *
      generalize (fs.map (fun f => rtT f.type 2)).all (fun u => wholeR 38 u) = a2 at *
      generalize bo.all (rS 38) = a3 at *
      generalize bo.length = nb at *
      rw [Bool.eq_iff_iff]
      simp
      grind
    · by_cases k3 : kd = 3
      · subst k3
        have hf := all_fields 0 3 fs fun f _ => by
          show (txB 1 f.name && wholeR 38 (rtT f.type 0)) = okField 3 f
          rw [wholeR_T, wholeT_eq]; rfl
        show (fitII (iSh 3) nm fs bo && _) = _
        rw [List.all_append, List.all_cons, List.all_append, List.all_cons, List.all_nil, hbo]
        show (fitII (iSh 3) nm fs bo && ((fs.map (fun f => rtT f.type 0)).all (fun u => wholeR 38 u) && (wholeR 38 (rtT rt 0) && (bo.all (rS 38) && (wholeR 38 (rtE rx 0) && true))))) = _
        rw [hrt0, hrx0]
        show _ = ((decide ((1 : Int) ≤ 3) && (decide ((3 : Int) ≤ 3) && decide (fs.length ≤ 6))) && (fs.all (okField 3) && (nmB nm && (rT 38 rt && (!lentB rx && (rE 38 rx && bo.all (rS 38)))))))
        rw [← hf]
        show ((true && (nmB nm && (decide (fs.length ≤ 6) && (fs.all (fieldB (iSh 3).field) && (true || decide (bo.length = 0)))))) && _) = _
        generalize fs.all (fieldB (iSh 3).field) = a1 at *
        generalize (fs.map (fun f => rtT f.type 0)).all (fun u => wholeR 38 u) = a2 at *
        generalize bo.all (rS 38) = a3 at *
        rw [Bool.eq_iff_iff]
        simp
        grind
      · have e : iSh kd = ⟨false, 0, 0, false, 0, 3⟩ := by unfold iSh; rw [if_neg k1, if_neg k2, if_neg k3]
        have h1 : fitII (iSh kd) nm fs bo = false := by rw [e]; rfl
        show (fitII (iSh kd) nm fs bo && _) = _
        rw [h1, Bool.false_and]
        have h2 : (decide (1 ≤ kd) && (decide (kd ≤ 3) && decide (fs.length ≤ 6))) = false := by
          rw [Bool.eq_false_iff]
          simp
          omega
        show false = ((decide (1 ≤ kd) && (decide (kd ≤ 3) && decide (fs.length ≤ 6))) && _)
        rw [h2]; rfl
theorem wholeP_eq {B : Nat} {w : World} (p : List PI) (v : Value) (h : ProgIn B w p v) : wholeR 40 (rtP p) = (decide (p.length ≤ 30) && p.all rI) := by
  obtain ⟨b, o, _, r⟩ := h
  rw [rtP, wholeR, List.all_map]
  congr 1
  refine all_congr fun x hx => ?_
  obtain ⟨vx, hv⟩ := PI.Row.mem r hx
  exact wholeI_eq x vx hv
end Go.Proofs.YtojeijeimpffgaaGreat

