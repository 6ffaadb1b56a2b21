/- A part of a tree, whatever its sort: what fits, weight and has answer of it; whole walked once for all sorts. -/
import Derived.Test.YthilicmhdkmipaaGreatDoorIJoinAR
import Derived.Test.YthilicmhdkmipaaGreatDoorIJoinAF
import Derived.RangeFuncNested
import Derived.Shelf.RegionOpen
namespace Go.Proofs.YthilicmhdkmipaaGreatDoor
open Go.RowKit Go.Shelf
set_option linter.unusedVariables false
attribute [local go_sem] Oper.semAt_some

inductive RT where
  | mk (fits : Bool) (weight : Nat) (kids : List RT)
def wholeR : Nat → RT → Bool
  | 0, _ => false
  | n + 1, .mk f _ ks => f && ks.all (fun u => wholeR n u)
mutual
def depthR : RT → Nat
  | .mk _ _ ks => depthRs ks + 1
def depthRs : List RT → Nat
  | [] => 0
  | t :: ts => max (depthR t) (depthRs ts)
end
mutual
def sizeR : RT → Nat
  | .mk _ w ks => w + sizeRs ks
def sizeRs : List RT → Nat
  | [] => 0
  | t :: ts => sizeR t + sizeRs ts
end
/-- are the methods weight in reach of this seat? -/
def Sized : Prop := False
/-- a value is a part: what its methods answer, in every world over W0 -/
inductive Part (W0 : World) : Value → RT → Prop
  | mk (T : TypeId) (r : Value) (ff fh fw : Nat) (q : Bool) (wt : Nat) (kv : List Value) (kt : List RT)
    (hf : ∀ w, (method 410 T r "weftway/tree.fits").run Tryz.prog w = .ok (ff, r) w)
    (hh : ∀ args w, (callMethod (.iface T r) "weftway/tree.has" args).run Tryz.prog w = .ok (.enter fh (#[r] ++ args)) w)
    (hw : Sized → ∀ w, (method 410 T r "weftway/tree.weight").run Tryz.prog w = .ok (fw, r) w)
    (ef : ∀ w, (callFunc ff #[r]).run Tryz.prog w = .ok (.enter ff #[r]) w)
    (ew : Sized → ∀ w, (callFunc fw #[r]).run Tryz.prog w = .ok (.enter fw #[r]) w)
    (cf : ∀ W, Below W0.heap.size W0 W → Calls Tryz.prog ff #[r] W fun e w' => e = .returned (.bool q) ∧ Below W.heap.size W w')
    (cw : Sized → ∀ W, Below W0.heap.size W0 W → Calls Tryz.prog fw #[r] W fun e w' => e = .returned (.int .i64 wt) ∧ Below W.heap.size W w')
    (ch : ∀ lo W, W0.heap.size ≤ lo → lo ≤ W.heap.size → Below W0.heap.size W0 W → Hands Tryz.prog lo fh r kv W)
    (hl : kv.length = kt.length)
    (hk : ∀ (k : Nat) v t, kv[k]? = some v → kt[k]? = some t → Part W0 v t) :
    Part W0 (.iface T r) (.mk q wt kt)
theorem allR_yes {α : Type} {p : α → Bool} {l : List α} (h : ∀ (j : Nat) x, l[j]? = some x → p x = true) : l.all p = true := by
  rw [List.all_eq_true]
  intro x hx
  obtain ⟨j, hj⟩ := List.mem_iff_getElem?.1 hx
  exact h j x hj
theorem allR_no {α : Type} {p : α → Bool} {l : List α} {k : Nat} {x : α} (h : l[k]? = some x) (hp : p x = false) : l.all p = false := by
  rw [Bool.eq_false_iff]
  intro hc
  have := List.all_eq_true.1 hc x (List.mem_of_getElem? h)
  rw [hp] at this; simp at this

/-- the contract of whole at a part -/
def WholeRAt (W0 : World) (L : Nat) : Prop := ∀ (v : Value) (t : RT) (w : World), Part W0 v t → Below W0.heap.size W0 w →
  Calls Tryz.prog 74 #[v, .int .i64 L] w fun e w' => e = .returned (.bool (wholeR L t)) ∧ Below w.heap.size w w'

set_option maxRecDepth 100000 in
set_option maxHeartbeats 4000000 in
theorem wholeR_zero (W0 : World) : WholeRAt W0 0 := by
  intro v t w ht hB
  obtain ⟨T, r, ff, fh, fw, q, wt, kv, kt, hf, hh, hw, ef, ew, cf, cw, ch, hl, hk⟩ := ht
  rw [wholeR]
  show Calls Tryz.prog 74 #[.iface T r, .int .i64 0] w _
  have hfits := hf
  clear hf hh hw ef ew cf cw ch hl hk
  refine (callsIn_wide (n := 5)).1 ?_
  refine callsIn_of_wp_marks Tryz.func74 rfl trivial ?_ rfl
  simp only [Tryz.ntmps74, List.size_toArray, List.length_cons, List.length_nil, Nat.reduceAdd, Nat.reduceSub, Array.replicate_succ, Array.replicate_zero, List.push_toArray, List.append_toArray, List.nil_append, List.cons_append]
  gi_wp2
  all_goals refine ⟨fun _ _ => trivial, ?_⟩
  all_goals gi_wp2
  all_goals exact ⟨.bool false, by rw [results_cell1 rfl]; go_simp, rfl, box2 _ _ _⟩

set_option maxRecDepth 100000 in
set_option maxHeartbeats 400000 in
theorem wholeR_succ (W0 : World) (L : Nat) (hL : L ≤ 1000) (ih : WholeRAt W0 L) : WholeRAt W0 (L + 1) := by
  intro v t w ht hB
  obtain ⟨T, r, ff, fh, fw, q, wt, kv, kt, hf, hh, hw, ef, ew, cf, cw, ch, hl, hk⟩ := ht
  have F : Hid (∀ w', Below w.heap.size w w' → Calls Tryz.prog ff #[r] w' fun e w'' => e = .returned (.bool q) ∧ Below w'.heap.size w' w'') :=
    Lib.hid fun w' h => cf w' (hB.trans (h.mono hB.size))
  have CH := Lib.hid ch
  have HK := Lib.hid hk
  have HL := Lib.hid hl
  have HH := Lib.hid hh
  have HB0 := Lib.hid hB
  have hB0 := hB.size
  clear hw ew cf cw ch hl hk hh hB
  rw [wholeR]
  have ec : ((L + 1 : Nat) : Int) = (L : Int) + 1 := by omega
  rw [ec]
  clear ec
  have e0 : (((L : Int) + 1) == 0) = false := beq_eq_false_iff_ne.2 (by omega)
  have e1 : ((L : Int) + 1) - 1 = (L : Int) := by omega
  have bx := Lib.hid (box2 w (.cells #[.int .i64 ((L : Int) + 1)] 3) (.cells #[.bool false] 4))
  refine (callsIn_wide (n := 5)).1 ?_
  refine callsIn_of_wp_marks Tryz.func74 rfl trivial ?_ rfl
  simp only [Tryz.ntmps74, List.size_toArray, List.length_cons, List.length_nil, Nat.reduceAdd, Nat.reduceSub, Array.replicate_succ, Array.replicate_zero, List.push_toArray, List.append_toArray, List.nil_append, List.cons_append]
  have hfits := hf
  clear hf
  cases q
  · gi_wp2
    refine ⟨trivial, (callsIn_wide.2 (F.out _ bx.out)).mono ?_⟩
    rintro e w1 ⟨rfl, b1⟩
    have hc1 := old_cells b1
    have hfz : w1.frozen? ⟨w.heap.size + 1, 0, none⟩ = false := (b1.frozen (p := ⟨w.heap.size + 1, 0, none⟩) (by simp)).trans (by go_simp)
    have bel1 := Lib.hid (up_tr bx.out b1)
    gi_wp2
    exact ⟨.bool false, by rw [results_cell1 rfl]; go_simp, rfl, bel1.out.setCell (p := ⟨w.heap.size + 1, 0, none⟩) (by simp) _⟩
  · gi_wp2
    refine ⟨trivial, (callsIn_wide.2 (F.out _ bx.out)).mono ?_⟩
    rintro e w1 ⟨rfl, b1⟩
    have hc0 : w1.cell? ⟨w.heap.size, 0, none⟩ = some (.int .i64 ((L : Int) + 1)) := (b1.cell (p := ⟨w.heap.size, 0, none⟩) (by simp; omega)).trans (by go_simp)
    have hcr : w1.cell? ⟨w.heap.size + 1, 0, none⟩ = some (.bool false) := (b1.cell (p := ⟨w.heap.size + 1, 0, none⟩) (by simp)).trans (by go_simp)
    have hfz : w1.frozen? ⟨w.heap.size + 1, 0, none⟩ = false := (b1.frozen (p := ⟨w.heap.size + 1, 0, none⟩) (by simp)).trans (by go_simp)
    have hs1 : w.heap.size + 1 < w1.heap.size := by have := b1.size; simp at this; omega
    have bel1 := up_tr bx.out b1
    clear b1 F bx hfits ef
    gi_wp2
    refine wpIn_rangeMeth "weftway/tree.has" (.iface T r) r fh rfl HH.out
      kv w.heap.size (by omega) rfl
      (fun W hW => CH.out w.heap.size W hB0 (by have := hW.size; omega) (HB0.out.trans ((bel1.trans (hW.mono (by omega))).mono hB0)))
      (fun k W => W.cell? ⟨w.heap.size, 0, none⟩ = some (.int .i64 ((L : Int) + 1)) ∧ W.cell? ⟨w.heap.size + 1, 0, none⟩ = some (.bool false) ∧ W.frozen? ⟨w.heap.size + 1, 0, none⟩ = false ∧ Hid (Below w.heap.size w W ∧ ∀ (j : Nat) x, j < k → kt[j]? = some x → wholeR L x = true))
      (fun k W => W.cell? ⟨w.heap.size + 1, 0, none⟩ = some (.bool false) ∧ Hid (Below w.heap.size w W ∧ kt.all (fun u => wholeR L u) = false))
      (fun k A A' h hb => ⟨(hb.cell (p := ⟨w.heap.size, 0, none⟩) (by simp; omega)).trans h.1, (hb.cell (p := ⟨w.heap.size + 1, 0, none⟩) (by simp; omega)).trans h.2.1, (hb.frozen (p := ⟨w.heap.size + 1, 0, none⟩) (by simp; omega)).trans h.2.2.1, h.2.2.2.out.1.trans (hb.mono (by omega)), h.2.2.2.out.2⟩)
      (fun k A A' h hb => ⟨(hb.cell (p := ⟨w.heap.size + 1, 0, none⟩) (by simp; omega)).trans h.1, h.2.out.1.trans (hb.mono (by omega)), h.2.out.2⟩)
      ⟨hc0, hcr, hfz, bel1, fun j x hj => absurd hj (by omega)⟩
      (fun x => { tmps := #[.iface T r, .int .i64 ((L : Int) + 1), undef, .pointer (some ⟨w.heap.size, 0, none⟩), .pointer (some ⟨w.heap.size + 1, 0, none⟩), x, .int .i64 ((L : Int) + 1), .bool false, .bool false,
        .iface T r, .bool true, .bool false, .bool false, .iface T r, .iface T r,
        .func (.method "weftway/tree.has") #[.iface T r] #[], x, undef, undef, undef, undef, undef], defers := [] }) ?assign ?body ?done ?stop
    case assign =>
      intro l x W K hK
      gi_wp2
      exact hK
    case body =>
      rintro l k v W hv ⟨h0, hr, hf, hH⟩ hW
      have hkk : k < kt.length := by
        have := (List.getElem?_eq_some_iff.1 hv).1
        rwa [HL.out] at this
      obtain ⟨x, hx⟩ : ∃ x, kt[k]? = some x := ⟨_, List.getElem?_eq_getElem hkk⟩
      have hsz := hH.out.1.size
      have C : Hid (Calls Tryz.prog 74 #[v, .int .i64 L] W fun e w' => e = .returned (.bool (wholeR L x)) ∧ Below W.heap.size W w') := Lib.hid (ih v x W (HK.out k v x hv hx) (HB0.out.trans (hH.out.1.mono hB0)))
      have Hx := Lib.hid hx
      have HW := Lib.hid hW
      generalize hq : wholeR L x = q at *
      have Hq := Lib.hid hq
      clear hx hv hq hW hkk
      gi_wp2
      refine ⟨trivial, (CallsIn.inRound l (callsIn_wide.2 C.out)).mono ?_⟩
      rintro e W' ⟨rfl, b2⟩
      have g0 := (b2.cell (p := ⟨w.heap.size, 0, none⟩) (by have := HW.out; simp; omega)).trans h0
      have gr := (b2.cell (p := ⟨w.heap.size + 1, 0, none⟩) (by have := HW.out; simp; omega)).trans hr
      have gf := (b2.frozen (p := ⟨w.heap.size + 1, 0, none⟩) (by have := HW.out; simp; omega)).trans hf
      have HB := Lib.hid b2
      clear b2 C h0 hr hf
      cases q
      · gi_wp2
        exact ⟨(Keeps.of_below HB.out).setCell (p := ⟨w.heap.size + 1, 0, none⟩) (by simp) (by simp; omega) _, World.cell?_setCell_same' _ _ _ (by rw [gr]; rfl),
          Lib.hid ⟨(hH.out.1.trans (HB.out.mono (by omega))).setCell (p := ⟨w.heap.size + 1, 0, none⟩) (by simp) _, allR_no Hx.out Hq.out⟩⟩
      · gi_wp2
        refine ⟨Keeps.of_below HB.out, g0, gr, gf, Lib.hid ⟨hH.out.1.trans (HB.out.mono (by omega)), fun j y hj hy => ?_⟩⟩
        by_cases e : j = k
        · subst e
          rw [Hx.out] at hy
          cases hy
          exact Hq.out
        · exact hH.out.2 j y (by omega) hy
    case done =>
      rintro D W hD ⟨h0, hr, hf, hH⟩ hK
      have hall := Lib.hid (allR_yes (p := fun u => wholeR L u) (l := kt) fun j x hx => hH.out.2 j x (by rw [HL.out]; exact (List.getElem?_eq_some_iff.1 hx).1) hx)
      gi_wp2
      have hK2 : (W.setCell ⟨w.heap.size + 1, 0, none⟩ (.bool true)).heap[D]? = some (.deferred (some [])) := (Below.heap_setCell W ⟨w.heap.size + 1, 0, none⟩ _ D (by simp; omega)).trans hK
      have hcell : ((W.setCell ⟨w.heap.size + 1, 0, none⟩ (.bool true)).putObj D (.deferred none)).cell? ⟨w.heap.size + 1, 0, none⟩ = some (.bool true) :=
        (World.cell?_of_block (World.putObj_heap_other (k := w.heap.size + 1) (by omega))).trans (World.cell?_setCell_same' _ _ _ (by rw [hr]; rfl))
      refine ⟨by simp, .inl ⟨_, _, rfl, run_takeDeferred hK2, ?_⟩⟩
      exact ⟨.bool true, by rw [results_cell1 rfl]; go_simp, ret_bool (by rw [hall.out]; rfl), below_putObj (hH.out.1.setCell (p := ⟨w.heap.size + 1, 0, none⟩) (by simp) _) (by omega) _⟩
    case stop =>
      rintro D k W hD hk ⟨hr, hH⟩ hK
      gi_wp2
      have hcell : (W.putObj D (.deferred none)).cell? ⟨w.heap.size + 1, 0, none⟩ = some (.bool false) :=
        (World.cell?_of_block (World.putObj_heap_other (k := w.heap.size + 1) (by omega))).trans hr
      refine ⟨by simp, .inl ⟨_, _, rfl, run_takeDeferred hK, ?_⟩⟩
      exact ⟨.bool false, by rw [results_cell1 rfl]; go_simp, ret_bool (by rw [hH.out.2]; rfl), below_putObj hH.out.1 (by omega) _⟩
theorem wholeR_calls (W0 : World) : ∀ L, L ≤ 1000 → WholeRAt W0 L
  | 0, _ => wholeR_zero W0
  | L + 1, h => wholeR_succ W0 L (by omega) (wholeR_calls W0 L (by omega))
/-! ### depth -/
end Go.Proofs.YthilicmhdkmipaaGreatDoor
/- Types and expressions as parts. -/
namespace Go.Proofs.YthilicmhdkmipaaGreatDoor
open Go.RowKit Go.Shelf
set_option linter.unusedVariables false
attribute [local go_sem] Oper.semAt_some

mutual
def rtT : PT → Nat → RT
  | .mk k n xs, st => .mk (fitT (.mk k n xs) st) 0 (rtTs xs)
def rtTs : List PT → List RT
  | [] => []
  | t :: l => rtT t 0 :: rtTs l
end
theorem rtTs_map : ∀ l, rtTs l = l.map (fun t => rtT t 0)
  | [] => by rw [rtTs]; rfl
  | t :: l => by rw [rtTs, rtTs_map l]; rfl
mutual
def rtE : PE → Nat → RT
  | .mk op i n s p xs pos, st => .mk (fitE (.mk op i n s p xs pos) st) (if st = 3 then 0 else 1) (rtEs xs (inArgs (.mk op i n s p [] pos) st))
def rtEs : List PE → Nat → List RT
  | [], _ => []
  | e :: l, st => rtE e st :: rtEs l st
end
theorem rtEs_map (st : Nat) : ∀ l, rtEs l st = l.map (fun t => rtE t st)
  | [] => by rw [rtEs]; rfl
  | t :: l => by rw [rtEs, rtEs_map st l]; rfl
theorem wholeR_T : ∀ n t st, wholeR n (rtT t st) = wholeT n t st
  | 0, _, _ => rfl
  | n + 1, .mk k nm xs, st => by
    rw [rtT, wholeR, wholeT, rtTs_map, List.all_map]
    congr 1
    exact all_congr fun a _ => wholeR_T n a 0
theorem wholeR_E : ∀ n t st, wholeR n (rtE t st) = wholeE n t st
  | 0, _, _ => rfl
  | n + 1, .mk op i nm s p xs pos, st => by
    rw [rtE, wholeR, wholeE, rtEs_map, List.all_map]
    congr 1
    exact all_congr fun a _ => wholeR_E n a _

theorem alloc_below (w : World) (o : Obj) : Below w.heap.size w (w.alloc o) := (Below.refl _ w).alloc (Nat.le_refl _) _
set_option maxHeartbeats 1000000 in
theorem typedWeight_calls (a : Value) (st : Int) (hs : Sized) (w : World) : Calls Tryz.prog 281 #[.agg #[a, .int .u8 st]] w fun e w' => e = .returned (.int .i64 (0 : Nat)) ∧ Below w.heap.size w w' := by
  first
  | exact (show False from hs).elim
  | skip
    go_enter Tryz.func281, Tryz.ntmps281
    go_wp2
    go_ret
    exact ⟨rfl, alloc_below _ _⟩

set_option maxHeartbeats 1000000 in
theorem exprWeight_calls (a : Value) (st : Nat) (hs : Sized) (w : World) : Calls Tryz.prog 282 #[.agg #[a, .int .u8 st]] w fun e w' => e = .returned (.int .i64 (if st = 3 then 0 else 1 : Nat)) ∧ Below w.heap.size w w' := by
  first
  | exact (show False from hs).elim
  | skip
    by_cases h : st = 3
    · subst h
      show Calls Tryz.prog 282 #[.agg #[a, .int .u8 3]] w _
      go_enter Tryz.func282, Tryz.ntmps282
      go_wp2
      go_ret
      exact ⟨rfl, alloc_below _ _⟩
    · rw [if_neg h]
      have n3 : ((st : Int) == 3) = false := beq_eq_false_iff_ne.2 (by omega)
      go_enter Tryz.func282, Tryz.ntmps282
      go_wp2
      go_ret
      exact ⟨rfl, alloc_below _ _⟩

theorem partT_fits (v : Value) (w : World) : (method 410 155 v "weftway/tree.fits").run Tryz.prog w = .ok (244, v) w := by kernel_rfl
theorem partT_weight (v : Value) (h : Sized) (w : World) : (method 410 155 v "weftway/tree.weight").run Tryz.prog w = .ok (281, v) w := by first | exact (show False from h).elim | kernel_rfl
theorem partT_has (v : Value) (args : Array Value) (w : World) : (callMethod (.iface 155 v) "weftway/tree.has" args).run Tryz.prog w = .ok (.enter 245 (#[v] ++ args)) w := by kernel_rfl
theorem partT_ef (v : Value) (w : World) : (callFunc 244 #[v]).run Tryz.prog w = .ok (.enter 244 #[v]) w := by kernel_rfl
theorem partT_ew (v : Value) (h : Sized) (w : World) : (callFunc 281 #[v]).run Tryz.prog w = .ok (.enter 281 #[v]) w := by first | exact (show False from h).elim | kernel_rfl
theorem partE_fits (v : Value) (w : World) : (method 410 160 v "weftway/tree.fits").run Tryz.prog w = .ok (247, v) w := by kernel_rfl
theorem partE_weight (v : Value) (h : Sized) (w : World) : (method 410 160 v "weftway/tree.weight").run Tryz.prog w = .ok (282, v) w := by first | exact (show False from h).elim | kernel_rfl
theorem partE_has (v : Value) (args : Array Value) (w : World) : (callMethod (.iface 160 v) "weftway/tree.has" args).run Tryz.prog w = .ok (.enter 248 (#[v] ++ args)) w := by kernel_rfl
theorem partE_ef (v : Value) (w : World) : (callFunc 247 #[v]).run Tryz.prog w = .ok (.enter 247 #[v]) w := by kernel_rfl
theorem partE_ew (v : Value) (h : Sized) (w : World) : (callFunc 282 #[v]).run Tryz.prog w = .ok (.enter 282 #[v]) w := by first | exact (show False from h).elim | kernel_rfl

theorem inArgs_le3 (e : PE) {st : Nat} (h : st ≤ 3) : inArgs e st ≤ 3 := by
  unfold inArgs
  split
  · omega
  · split <;> omega
/-- a type in memory is a part -/
theorem partT {B : Nat} {W0 : World} (hB : B ≤ W0.heap.size) (hm : MaxOk W0) : ∀ (t : PT) (st b o : Nat) (v : Value), st ≤ 3 → b < W0.heap.size → CellsAt W0 b o (t.cells v) → t.In B W0 v →
    Part W0 (.iface 155 (.agg #[.pointer (some ⟨b, o, none⟩), .int .u8 st])) (rtT t st) := by
  intro t
  generalize hn : SizeOf.sizeOf t = n
  induction n using Nat.strongRecOn generalizing t with
  | _ n ih =>
    intro st b o v hst hb hc ht
    obtain ⟨k, nm, xs⟩ := t
    simp only [PT.mk.sizeOf_spec] at hn
    obtain ⟨b1, o1, s1, r1⟩ : ∃ b1 o1, SlV B v xs.length b1 o1 ∧ PT.Row B W0 b1 o1 xs := ht.2
    rw [rtT]
    refine Part.mk 155 _ 244 245 281 _ _ (ptrs 155 b1 o1 3 0 xs.length) _ (partT_fits _) (fun a w => partT_has _ a w) (partT_weight _) (partT_ef _) (partT_ew _)
      (fun W h => typedFits_calls B (.mk k nm xs) st b o v W hst (by have := h.size; omega) (hm.below h) (by have := h.size; omega) (hc.below hb h) (PT.In.below (h.mono hB) ht))
      (fun hs W h => typedWeight_calls _ _ hs W)
      (fun lo W h1 h2 h3 => typedHas_hands B lo (.mk k nm xs) st b o v W (by omega) h2 (by omega) (hc.below hb h3) (PT.In.below (h3.mono hB) ht) b1 o1 s1)
      (by rw [ptrs_len, rtTs_map, List.length_map]) (fun j v' t' h1 h2 => ?_)
    have hj : j < xs.length := by
      have := (List.getElem?_eq_some_iff.1 h1).1
      rwa [ptrs_len] at this
    rw [ptrs_get hj] at h1
    obtain rfl := Option.some.inj h1
    rw [rtTs_map, List.getElem?_map] at h2
    obtain ⟨x, hx, rfl⟩ := Option.map_eq_some_iff.1 h2
    have hmem := List.mem_of_getElem? hx
    obtain ⟨_, ao, cap, _, hsl⟩ := s1
    obtain ⟨_, hb1⟩ := hsl.resolve_left (by omega)
    obtain ⟨vx, cx, ix⟩ := PT.Row.get r1 hx
    have := List.sizeOf_lt_of_mem hmem
    exact ih (SizeOf.sizeOf x) (by omega) x rfl 0 b1 (o1 + j * 3) vx (by omega) (by omega) cx ix
/-- an expression in memory is a part -/
theorem partE {B : Nat} {W0 : World} (hB : B ≤ W0.heap.size) (hm : MaxOk W0) : ∀ (t : PE) (st b o : Nat) (v : VE), st ≤ 3 → b < W0.heap.size → CellsAt W0 b o (t.cells v) → t.In B W0 v →
    Part W0 (.iface 160 (.agg #[.pointer (some ⟨b, o, none⟩), .int .u8 st])) (rtE t st) := by
  intro t
  generalize hn : SizeOf.sizeOf t = n
  induction n using Nat.strongRecOn generalizing t with
  | _ n ih =>
    intro st b o v hst hb hc ht
    obtain ⟨p0, n0, q0, p1, n1, q1, rfl⟩ := ht.shape
    obtain ⟨op, iv, nm, sc, pl, xs, ps⟩ := t
    simp only [PE.mk.sizeOf_spec] at hn
    obtain ⟨b1, o1, s1, r1⟩ : ∃ b1 o1, SlV B (.slice p1 n1 q1) xs.length b1 o1 ∧ PE.Row B W0 b1 o1 xs := ht.2.2
    rw [rtE]
    refine Part.mk 160 _ 247 248 282 _ _ (ptrs 160 b1 o1 8 (inArgs (.mk op iv nm sc pl [] ps) st) xs.length) _ (partE_fits _) (fun a w => partE_has _ a w) (partE_weight _) (partE_ef _) (partE_ew _)
      (fun W h => exprFits_calls B op iv nm sc pl xs ps p0 n0 q0 p1 n1 q1 st b o W hst (by have := h.size; omega) (hm.below h) (by have := h.size; omega) (hc.below hb h) (PE.In.below (h.mono hB) ht))
      (fun hs W h => exprWeight_calls _ _ hs W)
      (fun lo W h1 h2 h3 => exprHas_hands B lo (.mk op iv nm sc pl xs ps) st b o ⟨.slice p0 n0 q0, .slice p1 n1 q1⟩ W (by omega) h2 (by omega) hst (hc.below hb h3) (PE.In.below (h3.mono hB) ht) b1 o1 s1)
      (by rw [ptrs_len, rtEs_map, List.length_map]) (fun j v' t' h1 h2 => ?_)
    have hj : j < xs.length := by
      have := (List.getElem?_eq_some_iff.1 h1).1
      rwa [ptrs_len] at this
    rw [ptrs_get hj] at h1
    obtain rfl := Option.some.inj h1
    rw [rtEs_map, List.getElem?_map] at h2
    obtain ⟨x, hx, rfl⟩ := Option.map_eq_some_iff.1 h2
    have hmem := List.mem_of_getElem? hx
    obtain ⟨_, ao, cap, _, hsl⟩ := s1
    obtain ⟨_, hb1⟩ := hsl.resolve_left (by omega)
    obtain ⟨vx, cx, ix⟩ := PE.Row.get r1 hx
    have := List.sizeOf_lt_of_mem hmem
    exact ih (SizeOf.sizeOf x) (by omega) x rfl _ b1 (o1 + j * 8) vx (inArgs_le3 _ hst) (by omega) cx ix
end Go.Proofs.YthilicmhdkmipaaGreatDoor
/- What may be a tree, its second plain part: the shapes of statements and items, what fits; statements, items and programs as trees of parts. -/
namespace Go.Proofs.YthilicmhdkmipaaGreatDoor
open Go.RowKit
set_option linter.unusedVariables false

structure SSh where
  known : Bool
  name : Nat
  second : Nat
  names : Bool
  exprs : Nat
  pairs : Bool
  place : Bool
  queue : Bool
  body : Bool
  other : Bool
  arms : Bool
def sSh (k : Int) : SSh :=
  if k = 1 then ⟨true, 1, 0, false, 1, false, false, false, false, false, false⟩
  else if k = 2 then ⟨true, 3, 0, true, 1, false, false, false, false, false, false⟩
  else if k = 3 then ⟨true, 0, 0, false, 1, false, true, false, false, false, false⟩
  else if k = 4 then ⟨true, 0, 0, false, 1, false, false, false, false, false, false⟩
  else if k = 5 then ⟨true, 1, 0, false, 0, false, false, false, false, false, false⟩
  else if k = 6 then ⟨true, 0, 0, false, 1, false, false, false, true, true, false⟩
  else if k = 7 then ⟨true, 0, 0, false, 1, false, false, false, true, false, false⟩
  else if k = 8 then ⟨true, 1, 3, false, 0, false, false, false, false, false, true⟩
  else if k = 9 ∨ k = 13 then ⟨true, 0, 0, false, 0, false, false, false, true, false, false⟩
  else if k = 10 then ⟨true, 0, 0, false, 0, true, false, false, true, false, false⟩
  else if k = 11 then ⟨true, 1, 0, false, 0, false, true, false, true, false, false⟩
  else if k = 12 then ⟨true, 1, 1, false, 0, false, false, true, false, false, false⟩
  else ⟨false, 0, 0, false, 0, false, false, false, false, false, false⟩
def SSh.cells (h : SSh) : Array Value := #[.bool h.known, .int .u8 h.name, .int .u8 h.second, .bool h.names, .int .i64 h.exprs, .bool h.pairs, .bool h.place, .bool h.queue, .bool h.body, .bool h.other, .bool h.arms]
structure ISh where
  known : Bool
  name : Nat
  field : Nat
  body : Bool
  fields : Nat
  rest : Nat
def iSh (k : Int) : ISh :=
  if k = 1 then ⟨true, 3, 1, false, 0, 3⟩ else if k = 2 then ⟨true, 3, 3, false, 2, 3⟩ else if k = 3 then ⟨true, 1, 1, true, 0, 0⟩ else ⟨false, 0, 0, false, 0, 3⟩
def ISh.cells (h : ISh) : Array Value := #[.bool h.known, .int .u8 h.name, .int .u8 h.field, .bool h.body, .int .u8 h.fields, .int .u8 h.rest]

/-! ### what fits -/
def fitNs (ns : List ByteArray) : Bool := decide (ns.length ≤ 6) && ns.all nmB
def fitLists (h : SSh) (ns : List ByteArray) (es : List PE) : Bool :=
  if h.pairs then decide (es.length = ns.length) && fitNs ns else if h.names then decide (es.length = h.exprs) && fitNs ns else decide (es.length = h.exprs) && decide (ns.length = 0)
def fitPlS (h : SSh) (pl : PP) : Bool := if h.place then plB pl else samePl pl zeroP
def armB (a : PA) : Bool := tyB a.variant && (noB a.name || nmB a.name)
def fitArms (h : SSh) (ar : List PA) : Bool := if h.arms then decide (ar.length ≤ 6) && ar.all armB else decide (ar.length = 0)
def fitQueue (h : SSh) (ty : PT) (int : Int) : Bool := if h.queue then decide (1 ≤ int) && decide (int ≤ 8) else decide (int = 0) && sameT ty zeroT
def fitSS (h : SSh) (nm sc : ByteArray) (ns : List ByteArray) (ty : PT) (int : Int) (pl : PP) (es : List PE) (bo el : List PS) (ar : List PA) : Bool :=
  h.known && (txB h.name nm && (txB h.second sc && (fitLists h ns es && (fitPlS h pl && (fitArms h ar && ((h.body || decide (bo.length = 0)) && ((h.other || decide (el.length = 0)) && fitQueue h ty int)))))))
def fieldB (x : Nat) (f : PF) : Bool := txB x f.name
def fitII (h : ISh) (nm : ByteArray) (fs : List PF) (bo : List PS) : Bool :=
  h.known && (txB h.name nm && (decide (fs.length ≤ 6) && (fs.all (fieldB h.field) && (h.body || decide (bo.length = 0)))))
def inExprs (op : Int) : Nat := if op = 1 ∨ op = 10 then 1 else 0

/-! ### trees of parts -/
mutual
def rtS : PS → RT
  | .mk op nm sc ns ty int pl es bo el ar pos => .mk (fitSS (sSh op) nm sc ns ty int pl es bo el ar) 1 ((if op = 12 then [rtT ty 0] else []) ++ (rtEs es (inExprs op) ++ (rtSs bo ++ (rtSs el ++ rtAs ar))))
def rtSs : List PS → List RT
  | [] => []
  | s :: l => rtS s :: rtSs l
def rtAs : List PA → List RT
  | [] => []
  | a :: l => rtA a ++ rtAs l
def rtA : PA → List RT
  | .mk _ _ bo => rtSs bo
end
def rtI (x : PI) : RT :=
  .mk (fitII (iSh x.kind) x.name x.fields x.body) 1 (x.fields.map (fun f => rtT f.type (iSh x.kind).fields) ++ (rtT x.result (iSh x.kind).rest :: (rtSs x.body ++ [rtE x.ret (iSh x.kind).rest])))
def rtP (p : List PI) : RT := .mk (decide (p.length ≤ 30)) 0 (p.map rtI)
theorem rtSs_map : ∀ l, rtSs l = l.map rtS
  | [] => by rw [rtSs]; rfl
  | t :: l => by rw [rtSs, rtSs_map l]; rfl
end Go.Proofs.YthilicmhdkmipaaGreatDoor
/- The parts that a statement has: yieldStmts, (statement).inExprs, (statement).has hand them out. -/
namespace Go.Proofs.YthilicmhdkmipaaGreatDoor
open Go.RowKit Go.Shelf
set_option linter.unusedVariables false
attribute [local go_sem] Oper.semAt_some

/-- the row of pointers to things of a width, as parts that are nothing but a pointer -/
def ptr1 (T : TypeId) (b o wd : Nat) (n : Nat) : List Value := (List.range n).map fun k => .iface T (.agg #[.pointer (some ⟨b, o + k * wd, none⟩)])
theorem ptr1_get {T : TypeId} {b o wd n k : Nat} (h : k < n) : (ptr1 T b o wd n)[k]? = some (.iface T (.agg #[.pointer (some ⟨b, o + k * wd, none⟩)])) := by
  simp [ptr1, h]
theorem ptr1_len (T : TypeId) (b o wd n : Nat) : (ptr1 T b o wd n).length = n := by simp [ptr1]
/-- a stretch of the rounds -/
theorem Rounds.sub {P : Program} {m l lo hi : Nat} {A B C : List Value} {J Jx : Nat → World → Prop} (h : Rounds P m l lo hi (A ++ (B ++ C)) J Jx) :
    Rounds P m l lo hi B (fun k => J (A.length + k)) (fun k => Jx (A.length + k)) := by
  intro k v W hv hW hj
  have hk := (List.getElem?_eq_some_iff.1 hv).1
  refine h (A.length + k) v W ?_ hW hj
  rw [List.getElem?_append_right (by omega), List.getElem?_append_left (by omega)]
  rw [show A.length + k - A.length = k from by omega]; exact hv

set_option maxHeartbeats 2000000 in
theorem yieldStmts_calls (B lo hi : Nat) (n b1 o1 : Nat) (v1 : Value) (w : World) (hB : B ≤ lo) (hlo : lo ≤ hi) (hhi : hi ≤ w.heap.size) (s1 : SlV B v1 n b1 o1) (m l : Nat) (J Jx : Nat → World → Prop)
    (hR : Rounds Tryz.prog m l lo hi (ptr1 301 b1 o1 15 n) J Jx) (h0 : J 0 w) :
    CallsIn Fence.wide m Tryz.prog 265 #[v1, .func (.yield l) #[] #[]] w fun e W' =>
      (e = .returned (.bool true) ∧ J n W' ∧ Keeps lo hi w W') ∨ (e = .returned (.bool false) ∧ (∃ k, k < n ∧ Jx k W') ∧ Keeps lo hi w W') := by
  obtain ⟨m1, ao, cap, rfl, h1⟩ := s1
  unfold maxLen at m1
  have HR := Lib.hid hR
  have H1 := Lib.hid h1
  clear hR h1
  refine callsIn_of_wp Tryz.func265 rfl trivial ?_ rfl
  simp only [Tryz.ntmps265, List.size_toArray, List.length_cons, List.length_nil, Nat.reduceAdd, Nat.reduceSub, Array.replicate_succ, Array.replicate_zero, List.push_toArray, List.append_toArray, List.nil_append, List.cons_append]
  gi_wp2
  gi_loopw [8] (fun i wr => ∃ k : Nat, k ≤ n ∧ i = .int .i64 k ∧ Hid (J k wr) ∧ Hid (Keeps lo hi w wr))
    (fun i _ => n - (intOf i).toNat)
  case atStart => exact ⟨0, by omega, rfl, Lib.hid h0, Lib.hid (Keeps.refl _ _ _)⟩
  case round =>
    obtain ⟨k, hk, rfl, HK, HW⟩ := hrel
    by_cases hlt : k < n
    · obtain ⟨rfl, hb1⟩ := H1.out.resolve_left (by omega)
      have hsz := HW.out.size
      obtain ⟨fn, tmps, assign, body, hy0, hRd⟩ := HR.out k _ wr (ptr1_get hlt) (by omega) HK.out
      have hy : (Instr.yield l #[.iface 301 (.agg #[.pointer (some ⟨b1, o1 + k * 15, none⟩)])]).run Tryz.prog wr = .ok (.round l fn tmps assign body) wr := hy0
      clear hy0
      gi_wp2
      refine ⟨fun h => (by simp [Fence.wide] at h), (RoundIn.anyDepth hRd).mono ?_⟩
      rintro e W' (⟨rfl, hj, hkp⟩ | ⟨rfl, hjx, hkp⟩)
      · have HK2 := Lib.hid hj
        have HW2 := Lib.hid (HW.out.trans hkp)
        clear hRd hy hkp hj
        gi_wp2
        go_roundw
        case rel => exact ⟨k + 1, by omega, by go_num, HK2, HW2⟩
        case measure => simp [intOf]; omega
      · gi_wp2
        go_ret
        exact .inr ⟨rfl, ⟨k, hlt, hjx⟩, HW.out.trans hkp⟩
    · obtain rfl : k = n := by omega
      gi_wp2
      go_ret
      exact .inl ⟨rfl, HK.out, HW.out⟩
set_option maxHeartbeats 1000000 in
theorem inExprs_calls (op : Int) (b o : Nat) (w : World) (hb : b < w.heap.size) (c0 : w.cell? ⟨b, o, none⟩ = some (.int .u8 op)) :
    Calls Tryz.prog 272 #[.agg #[.pointer (some ⟨b, o, none⟩)]] w fun r w' => r = .returned (.int .u8 (inExprs op : Nat)) ∧ Below w.heap.size w w' := by
  unfold inExprs
  by_cases h1 : op = 1
  · subst h1
    rw [if_pos (.inl rfl)]
    go_enter Tryz.func272, Tryz.ntmps272
    go_wp2
    go_ret
    exact ⟨rfl, (Below.refl _ w).alloc (Nat.le_refl _) _⟩
  · have n1 : (op == 1) = false := beq_eq_false_iff_ne.2 h1
    by_cases h10 : op = 10
    · subst h10
      rw [if_pos (.inr rfl)]
      go_enter Tryz.func272, Tryz.ntmps272
      go_wp2
      go_ret
      exact ⟨rfl, (Below.refl _ w).alloc (Nat.le_refl _) _⟩
    · rw [if_neg (by omega)]
      have n10 : (op == 10) = false := beq_eq_false_iff_ne.2 h10
      clear h1 h10
      go_enter Tryz.func272, Tryz.ntmps272
      go_wp2
      go_ret
      exact ⟨rfl, (Below.refl _ w).alloc (Nat.le_refl _) _⟩
end Go.Proofs.YthilicmhdkmipaaGreatDoor
/- What is whole: types. -/
namespace Go.Proofs.YthilicmhdkmipaaGreatDoor
open Go.RowKit Go.Shelf
set_option linter.unusedVariables false
attribute [local go_sem] Oper.semAt_some

theorem typed_fits (v : Value) (w : World) : (method 410 155 v "weftway/tree.fits").run Tryz.prog w = .ok (244, v) w := by kernel_rfl
theorem typed_has (v : Value) (args : Array Value) (w : World) : (callMethod (.iface 155 v) "weftway/tree.has" args).run Tryz.prog w = .ok (.enter 245 (#[v] ++ args)) w := by kernel_rfl
theorem all_yes2 {α : Type} {p : α → Bool} {l : List α} (h : ∀ (j : Nat) x, l[j]? = some x → p x = true) : l.all p = true := by
  rw [List.all_eq_true]
  intro x hx
  obtain ⟨j, hj⟩ := List.mem_iff_getElem?.1 hx
  exact h j x hj
theorem all_not2 {α : Type} {p : α → Bool} {l : List α} {k : Nat} {x : α} (h : l[k]? = some x) (hp : p x = false) : l.all p = false := by
  rw [Bool.eq_false_iff]
  intro hc
  have := List.all_eq_true.1 hc x (List.mem_of_getElem? h)
  rw [hp] at this; simp at this
theorem SlV.up {B B' : Nat} {v : Value} {n b o : Nat} (h : SlV B v n b o) (hB : B ≤ B') : SlV B' v n b o := by
  obtain ⟨h1, ao, cap, h2, h3⟩ := h
  exact ⟨h1, ao, cap, h2, h3.imp id fun ⟨a, b⟩ => ⟨a, by omega⟩⟩

/-- the contract of whole at a type -/
def WholeTAt (L : Nat) : Prop := ∀ (B : Nat) (t : PT) (st b o : Nat) (v : Value) (w : World), st ≤ 3 → B ≤ w.heap.size → MaxOk w → b < w.heap.size → CellsAt w b o (t.cells v) → t.In B w v →
  Calls Tryz.prog 74 #[.iface 155 (.agg #[.pointer (some ⟨b, o, none⟩), .int .u8 st]), .int .i64 L] w fun e w' => e = .returned (.bool (wholeT L t st)) ∧ Below w.heap.size w w'

set_option maxRecDepth 100000 in
set_option maxHeartbeats 4000000 in
theorem wholeT_zero : WholeTAt 0 := by
  intro B t st b o v w hst hB hm hb hc ht
  rw [wholeT]
  show Calls Tryz.prog 74 #[.iface 155 (.agg #[.pointer (some ⟨b, o, none⟩), .int .u8 st]), .int .i64 0] w _
  refine (callsIn_wide (n := 5)).1 ?_
  refine callsIn_of_wp_marks Tryz.func74 rfl trivial ?_ rfl
  simp only [Tryz.ntmps74, List.size_toArray, List.length_cons, List.length_nil, Nat.reduceAdd, Nat.reduceSub, Array.replicate_succ, Array.replicate_zero, List.push_toArray, List.append_toArray, List.nil_append, List.cons_append]
  have hfits := typed_fits
  gi_wp2
  all_goals refine ⟨fun _ _ => trivial, ?_⟩
  all_goals gi_wp2
  all_goals exact ⟨.bool false, by rw [results_cell1 rfl]; go_simp, rfl, box2 _ _ _⟩

set_option maxRecDepth 100000 in
set_option maxHeartbeats 400000 in
theorem wholeT_succ (L : Nat) (hL : L ≤ 1000) (ih : WholeTAt L) : WholeTAt (L + 1) := by
  intro B t st b o v w hst hB hm hb hc ht
  have F : Hid (∀ w', Below w.heap.size w w' → Calls Tryz.prog 244 #[.agg #[.pointer (some ⟨b, o, none⟩), .int .u8 st]] w' fun e w'' => e = .returned (.bool (fitT t st)) ∧ Below w'.heap.size w' w'') :=
    Lib.hid fun w' hw => typedFits_calls B t st b o v w' hst (by have := hw.size; omega) (hm.below hw) (by have := hw.size; omega) (hc.below hb hw) (PT.In.below (hw.mono hB) ht)
  rw [wholeT]
  generalize hq : fitT t st = q at *
  clear hq
  have ec : ((L + 1 : Nat) : Int) = (L : Int) + 1 := by omega
  rw [ec]
  clear ec
  have e0 : (((L : Int) + 1) == 0) = false := beq_eq_false_iff_ne.2 (by omega)
  have e1 : ((L : Int) + 1) - 1 = (L : Int) := by omega
  have bx := Lib.hid (box2 w (.cells #[.int .i64 ((L : Int) + 1)] 3) (.cells #[.bool false] 4))
  refine (callsIn_wide (n := 5)).1 ?_
  refine callsIn_of_wp_marks Tryz.func74 rfl trivial ?_ rfl
  simp only [Tryz.ntmps74, List.size_toArray, List.length_cons, List.length_nil, Nat.reduceAdd, Nat.reduceSub, Array.replicate_succ, Array.replicate_zero, List.push_toArray, List.append_toArray, List.nil_append, List.cons_append]
  have hfits := typed_fits
  obtain ⟨b1', o1', s1, r1⟩ : ∃ b1' o1', SlV B v t.args.length b1' o1' ∧ PT.Row B w b1' o1' t.args := by
    obtain ⟨k, nm, xs⟩ := t
    obtain ⟨_, b', o', s, r⟩ := ht
    exact ⟨b', o', s, r⟩
  cases q
  · gi_wp2
    refine ⟨trivial, (callsIn_wide.2 (F.out _ bx.out)).mono ?_⟩
    rintro e w1 ⟨rfl, b1⟩
    have hc1 := old_cells b1
    have hfz : w1.frozen? ⟨w.heap.size + 1, 0, none⟩ = false := (b1.frozen (p := ⟨w.heap.size + 1, 0, none⟩) (by simp)).trans (by go_simp)
    have bel1 := Lib.hid (up_tr bx.out b1)
    gi_wp2
    exact ⟨.bool false, by rw [results_cell1 rfl]; go_simp, rfl, bel1.out.setCell (p := ⟨w.heap.size + 1, 0, none⟩) (by simp) _⟩
  · gi_wp2
    refine ⟨trivial, (callsIn_wide.2 (F.out _ bx.out)).mono ?_⟩
    rintro e w1 ⟨rfl, b1⟩
    have hc0 : w1.cell? ⟨w.heap.size, 0, none⟩ = some (.int .i64 ((L : Int) + 1)) := (b1.cell (p := ⟨w.heap.size, 0, none⟩) (by simp; omega)).trans (by go_simp)
    have hcr : w1.cell? ⟨w.heap.size + 1, 0, none⟩ = some (.bool false) := (b1.cell (p := ⟨w.heap.size + 1, 0, none⟩) (by simp)).trans (by go_simp)
    have hfz : w1.frozen? ⟨w.heap.size + 1, 0, none⟩ = false := (b1.frozen (p := ⟨w.heap.size + 1, 0, none⟩) (by simp)).trans (by go_simp)
    have hs1 : w.heap.size + 1 < w1.heap.size := by have := b1.size; simp at this; omega
    have bel1 := up_tr bx.out b1
    clear b1 F bx hfits
    gi_wp2
    refine wpIn_rangeMeth "weftway/tree.has" (.iface 155 (.agg #[.pointer (some ⟨b, o, none⟩), .int .u8 st])) (.agg #[.pointer (some ⟨b, o, none⟩), .int .u8 st]) 245 rfl (fun args w => typed_has _ args w)
      (ptrs 155 b1' o1' 3 0 t.args.length) w.heap.size (by omega) rfl
      (fun W hW => typedHas_hands B w.heap.size t st b o v W hB (by have := hW.size; omega) hb (hc.below hb (bel1.trans (hW.mono (by omega)))) (PT.In.below ((bel1.trans (hW.mono (by omega))).mono hB) ht) b1' o1' s1)
      (fun k W => W.cell? ⟨w.heap.size, 0, none⟩ = some (.int .i64 ((L : Int) + 1)) ∧ W.cell? ⟨w.heap.size + 1, 0, none⟩ = some (.bool false) ∧ W.frozen? ⟨w.heap.size + 1, 0, none⟩ = false ∧ Hid (Below w.heap.size w W ∧ ∀ (j : Nat) x, j < k → t.args[j]? = some x → wholeT L x 0 = true))
      (fun k W => W.cell? ⟨w.heap.size + 1, 0, none⟩ = some (.bool false) ∧ Hid (Below w.heap.size w W ∧ t.args.all (fun u => wholeT L u 0) = false))
      (fun k A A' h hb => ⟨(hb.cell (p := ⟨w.heap.size, 0, none⟩) (by simp; omega)).trans h.1, (hb.cell (p := ⟨w.heap.size + 1, 0, none⟩) (by simp; omega)).trans h.2.1, (hb.frozen (p := ⟨w.heap.size + 1, 0, none⟩) (by simp; omega)).trans h.2.2.1, h.2.2.2.out.1.trans (hb.mono (by omega)), h.2.2.2.out.2⟩)
      (fun k A A' h hb => ⟨(hb.cell (p := ⟨w.heap.size + 1, 0, none⟩) (by simp; omega)).trans h.1, h.2.out.1.trans (hb.mono (by omega)), h.2.out.2⟩)
      ⟨hc0, hcr, hfz, bel1, fun j x hj => absurd hj (by omega)⟩
      (fun x => { tmps := #[.iface 155 (.agg #[.pointer (some ⟨b, o, none⟩), .int .u8 st]), .int .i64 ((L : Int) + 1), undef, .pointer (some ⟨w.heap.size, 0, none⟩), .pointer (some ⟨w.heap.size + 1, 0, none⟩), x, .int .i64 ((L : Int) + 1), .bool false, .bool false,
        .iface 155 (.agg #[.pointer (some ⟨b, o, none⟩), .int .u8 st]), .bool true, .bool false, .bool false, .iface 155 (.agg #[.pointer (some ⟨b, o, none⟩), .int .u8 st]), .iface 155 (.agg #[.pointer (some ⟨b, o, none⟩), .int .u8 st]),
        .func (.method "weftway/tree.has") #[.iface 155 (.agg #[.pointer (some ⟨b, o, none⟩), .int .u8 st])] #[], x, undef, undef, undef, undef, undef], defers := [] }) ?assign ?body ?done ?stop
    case assign =>
      intro l x W K hK
      gi_wp2
      exact hK
    case body =>
      rintro l k v W hv ⟨h0, hr, hf, hH⟩ hW
      have hk : k < t.args.length := by
        have := (List.getElem?_eq_some_iff.1 hv).1
        rwa [ptrs_len] at this
      rw [ptrs_get hk] at hv
      obtain rfl := Option.some.inj hv
      obtain ⟨x, hx, _⟩ := get_at hk
      obtain ⟨_, ao, cap, _, hsl⟩ := s1
      obtain ⟨_, hb1⟩ := hsl.resolve_left (by omega)
      obtain ⟨vx, cx, ix⟩ := PT.Row.get (PT.Row.below (hH.out.1.mono hB) hb1 r1) hx
      have hsz := hH.out.1.size
      have C : Hid (Calls Tryz.prog 74 #[.iface 155 (.agg #[.pointer (some ⟨b1', o1' + k * 3, none⟩), .int .u8 0]), .int .i64 L] W fun e w' => e = .returned (.bool (wholeT L x 0)) ∧ Below W.heap.size W w') := Lib.hid (ih B x 0 b1' (o1' + k * 3) vx W (by omega) (by omega) (hm.below hH.out.1) (by omega) cx ix)
      have Hx := Lib.hid hx
      have HW := Lib.hid hW
      generalize hq : wholeT L x 0 = q at *
      have Hq := Lib.hid hq
      clear hx hv cx ix hq hsl hW
      gi_wp2
      refine ⟨trivial, (CallsIn.inRound l (callsIn_wide.2 C.out)).mono ?_⟩
      rintro e W' ⟨rfl, b2⟩
      have g0 := (b2.cell (p := ⟨w.heap.size, 0, none⟩) (by have := HW.out; simp; omega)).trans h0
      have gr := (b2.cell (p := ⟨w.heap.size + 1, 0, none⟩) (by have := HW.out; simp; omega)).trans hr
      have gf := (b2.frozen (p := ⟨w.heap.size + 1, 0, none⟩) (by have := HW.out; simp; omega)).trans hf
      have HB := Lib.hid b2
      clear b2 C h0 hr hf
      cases q
      · gi_wp2
        exact ⟨(Keeps.of_below HB.out).setCell (p := ⟨w.heap.size + 1, 0, none⟩) (by simp) (by simp; omega) _, World.cell?_setCell_same' _ _ _ (by rw [gr]; rfl),
          Lib.hid ⟨(hH.out.1.trans (HB.out.mono (by omega))).setCell (p := ⟨w.heap.size + 1, 0, none⟩) (by simp) _, all_not2 Hx.out Hq.out⟩⟩
      · gi_wp2
        refine ⟨Keeps.of_below HB.out, g0, gr, gf, Lib.hid ⟨hH.out.1.trans (HB.out.mono (by omega)), fun j y hj hy => ?_⟩⟩
        by_cases e : j = k
        · subst e
          rw [Hx.out] at hy
          cases hy
          exact Hq.out
        · exact hH.out.2 j y (by omega) hy
    case done =>
      rintro D W hD ⟨h0, hr, hf, hH⟩ hK
      have hall := Lib.hid (all_yes2 (p := fun u => wholeT L u 0) (l := t.args) fun j x hx => hH.out.2 j x (by rw [ptrs_len]; exact (List.getElem?_eq_some_iff.1 hx).1) hx)
      gi_wp2
      have hK2 : (W.setCell ⟨w.heap.size + 1, 0, none⟩ (.bool true)).heap[D]? = some (.deferred (some [])) := (Below.heap_setCell W ⟨w.heap.size + 1, 0, none⟩ _ D (by simp; omega)).trans hK
      have hcell : ((W.setCell ⟨w.heap.size + 1, 0, none⟩ (.bool true)).putObj D (.deferred none)).cell? ⟨w.heap.size + 1, 0, none⟩ = some (.bool true) :=
        (World.cell?_of_block (World.putObj_heap_other (k := w.heap.size + 1) (by omega))).trans (World.cell?_setCell_same' _ _ _ (by rw [hr]; rfl))
      refine ⟨by simp, .inl ⟨_, _, rfl, run_takeDeferred hK2, ?_⟩⟩
      exact ⟨.bool true, by rw [results_cell1 rfl]; go_simp, ret_bool (by rw [hall.out]; rfl), below_putObj (hH.out.1.setCell (p := ⟨w.heap.size + 1, 0, none⟩) (by simp) _) (by omega) _⟩
    case stop =>
      rintro D k W hD hk ⟨hr, hH⟩ hK
      gi_wp2
      have hcell : (W.putObj D (.deferred none)).cell? ⟨w.heap.size + 1, 0, none⟩ = some (.bool false) :=
        (World.cell?_of_block (World.putObj_heap_other (k := w.heap.size + 1) (by omega))).trans hr
      refine ⟨by simp, .inl ⟨_, _, rfl, run_takeDeferred hK, ?_⟩⟩
      exact ⟨.bool false, by rw [results_cell1 rfl]; go_simp, ret_bool (by rw [hH.out.2]; rfl), below_putObj hH.out.1 (by omega) _⟩
theorem wholeT_calls : ∀ L, L ≤ 1000 → WholeTAt L
  | 0, _ => wholeT_zero
  | L + 1, h => wholeT_succ L (by omega) (wholeT_calls L (by omega))
end Go.Proofs.YthilicmhdkmipaaGreatDoor
