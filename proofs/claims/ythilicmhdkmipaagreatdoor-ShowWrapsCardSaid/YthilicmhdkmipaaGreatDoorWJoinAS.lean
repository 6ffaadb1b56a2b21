/- What is whole: types. -/
import Derived.Test.YthilicmhdkmipaaGreatDoorWJoinAC
import Derived.RangeFuncNested
import Derived.Shelf.RegionOpen
namespace Go.Proofs.YthilicmhdkmipaaGreatDoor
open Go.RowKit Go.Shelf
set_option linter.unusedVariables false
attribute [local go_sem] Oper.semAt_some

theorem typed_fits (v : Value) (w : World) : (method 410 155 v "weftway/tree.fits").run Tryz.prog w = .ok (244, v) w := by kernel_rfl
theorem typed_has (v : Value) (args : Array Value) (w : World) : (callMethod (.iface 155 v) "weftway/tree.has" args).run Tryz.prog w = .ok (.enter 245 (#[v] ++ args)) w := by kernel_rfl
theorem all_yes2 {α : Type} {p : α → Bool} {l : List α} (h : ∀ (j : Nat) x, l[j]? = some x → p x = true) : l.all p = true := by
  rw [List.all_eq_true]
  intro x hx
  obtain ⟨j, hj⟩ := List.mem_iff_getElem?.1 hx
  exact h j x hj
theorem all_not2 {α : Type} {p : α → Bool} {l : List α} {k : Nat} {x : α} (h : l[k]? = some x) (hp : p x = false) : l.all p = false := by
  rw [Bool.eq_false_iff]
  intro hc
  have := List.all_eq_true.1 hc x (List.mem_of_getElem? h)
  rw [hp] at this; simp at this
theorem SlV.up {B B' : Nat} {v : Value} {n b o : Nat} (h : SlV B v n b o) (hB : B ≤ B') : SlV B' v n b o := by
  obtain ⟨h1, ao, cap, h2, h3⟩ := h
  exact ⟨h1, ao, cap, h2, h3.imp id fun ⟨a, b⟩ => ⟨a, by omega⟩⟩

/-- the contract of whole at a type -/
def WholeTAt (L : Nat) : Prop := ∀ (B : Nat) (t : PT) (st b o : Nat) (v : Value) (w : World), st ≤ 3 → B ≤ w.heap.size → MaxOk w → b < w.heap.size → CellsAt w b o (t.cells v) → t.In B w v →
  Calls Tryz.prog 74 #[.iface 155 (.agg #[.pointer (some ⟨b, o, none⟩), .int .u8 st]), .int .i64 L] w fun e w' => e = .returned (.bool (wholeT L t st)) ∧ Below w.heap.size w w'

set_option maxRecDepth 100000 in
set_option maxHeartbeats 4000000 in
theorem wholeT_zero : WholeTAt 0 := by
  intro B t st b o v w hst hB hm hb hc ht
  rw [wholeT]
  show Calls Tryz.prog 74 #[.iface 155 (.agg #[.pointer (some ⟨b, o, none⟩), .int .u8 st]), .int .i64 0] w _
  refine (callsIn_wide (n := 5)).1 ?_
  refine callsIn_of_wp_marks Tryz.func74 rfl trivial ?_ rfl
  simp only [Tryz.ntmps74, List.size_toArray, List.length_cons, List.length_nil, Nat.reduceAdd, Nat.reduceSub, Array.replicate_succ, Array.replicate_zero, List.push_toArray, List.append_toArray, List.nil_append, List.cons_append]
  have hfits := typed_fits
  gi_wp2
  all_goals refine ⟨fun _ _ => trivial, ?_⟩
  all_goals gi_wp2
  all_goals exact ⟨.bool false, by rw [results_cell1 rfl]; go_simp, rfl, box2 _ _ _⟩

set_option maxRecDepth 100000 in
set_option maxHeartbeats 400000 in
theorem wholeT_succ (L : Nat) (hL : L ≤ 1000) (ih : WholeTAt L) : WholeTAt (L + 1) := by
  intro B t st b o v w hst hB hm hb hc ht
  have F : Hid (∀ w', Below w.heap.size w w' → Calls Tryz.prog 244 #[.agg #[.pointer (some ⟨b, o, none⟩), .int .u8 st]] w' fun e w'' => e = .returned (.bool (fitT t st)) ∧ Below w'.heap.size w' w'') :=
    Lib.hid fun w' hw => typedFits_calls B t st b o v w' hst (by have := hw.size; omega) (hm.below hw) (by have := hw.size; omega) (hc.below hb hw) (PT.In.below (hw.mono hB) ht)
  rw [wholeT]
  generalize hq : fitT t st = q at *
  clear hq
  have ec : ((L + 1 : Nat) : Int) = (L : Int) + 1 := by omega
  rw [ec]
  clear ec
  have e0 : (((L : Int) + 1) == 0) = false := beq_eq_false_iff_ne.2 (by omega)
  have e1 : ((L : Int) + 1) - 1 = (L : Int) := by omega
  have bx := Lib.hid (box2 w (.cells #[.int .i64 ((L : Int) + 1)] 3) (.cells #[.bool false] 4))
  refine (callsIn_wide (n := 5)).1 ?_
  refine callsIn_of_wp_marks Tryz.func74 rfl trivial ?_ rfl
  simp only [Tryz.ntmps74, List.size_toArray, List.length_cons, List.length_nil, Nat.reduceAdd, Nat.reduceSub, Array.replicate_succ, Array.replicate_zero, List.push_toArray, List.append_toArray, List.nil_append, List.cons_append]
  have hfits := typed_fits
  obtain ⟨b1', o1', s1, r1⟩ : ∃ b1' o1', SlV B v t.args.length b1' o1' ∧ PT.Row B w b1' o1' t.args := by
    obtain ⟨k, nm, xs⟩ := t
    obtain ⟨_, b', o', s, r⟩ := ht
    exact ⟨b', o', s, r⟩
  cases q
  · gi_wp2
    refine ⟨trivial, (callsIn_wide.2 (F.out _ bx.out)).mono ?_⟩
    rintro e w1 ⟨rfl, b1⟩
    have hc1 := old_cells b1
    have hfz : w1.frozen? ⟨w.heap.size + 1, 0, none⟩ = false := (b1.frozen (p := ⟨w.heap.size + 1, 0, none⟩) (by simp)).trans (by go_simp)
    have bel1 := Lib.hid (up_tr bx.out b1)
    gi_wp2
    exact ⟨.bool false, by rw [results_cell1 rfl]; go_simp, rfl, bel1.out.setCell (p := ⟨w.heap.size + 1, 0, none⟩) (by simp) _⟩
  · gi_wp2
    refine ⟨trivial, (callsIn_wide.2 (F.out _ bx.out)).mono ?_⟩
    rintro e w1 ⟨rfl, b1⟩
    have hc0 : w1.cell? ⟨w.heap.size, 0, none⟩ = some (.int .i64 ((L : Int) + 1)) := (b1.cell (p := ⟨w.heap.size, 0, none⟩) (by simp; omega)).trans (by go_simp)
    have hcr : w1.cell? ⟨w.heap.size + 1, 0, none⟩ = some (.bool false) := (b1.cell (p := ⟨w.heap.size + 1, 0, none⟩) (by simp)).trans (by go_simp)
    have hfz : w1.frozen? ⟨w.heap.size + 1, 0, none⟩ = false := (b1.frozen (p := ⟨w.heap.size + 1, 0, none⟩) (by simp)).trans (by go_simp)
    have hs1 : w.heap.size + 1 < w1.heap.size := by have := b1.size; simp at this; omega
    have bel1 := up_tr bx.out b1
    clear b1 F bx hfits
    gi_wp2
    refine wpIn_rangeMeth "weftway/tree.has" (.iface 155 (.agg #[.pointer (some ⟨b, o, none⟩), .int .u8 st])) (.agg #[.pointer (some ⟨b, o, none⟩), .int .u8 st]) 245 rfl (fun args w => typed_has _ args w)
      (ptrs 155 b1' o1' 3 0 t.args.length) w.heap.size (by omega) rfl
      (fun W hW => typedHas_hands B w.heap.size t st b o v W hB (by have := hW.size; omega) hb (hc.below hb (bel1.trans (hW.mono (by omega)))) (PT.In.below ((bel1.trans (hW.mono (by omega))).mono hB) ht) b1' o1' s1)
      (fun k W => W.cell? ⟨w.heap.size, 0, none⟩ = some (.int .i64 ((L : Int) + 1)) ∧ W.cell? ⟨w.heap.size + 1, 0, none⟩ = some (.bool false) ∧ W.frozen? ⟨w.heap.size + 1, 0, none⟩ = false ∧ Hid (Below w.heap.size w W ∧ ∀ (j : Nat) x, j < k → t.args[j]? = some x → wholeT L x 0 = true))
      (fun k W => W.cell? ⟨w.heap.size + 1, 0, none⟩ = some (.bool false) ∧ Hid (Below w.heap.size w W ∧ t.args.all (fun u => wholeT L u 0) = false))
      (fun k A A' h hb => ⟨(hb.cell (p := ⟨w.heap.size, 0, none⟩) (by simp; omega)).trans h.1, (hb.cell (p := ⟨w.heap.size + 1, 0, none⟩) (by simp; omega)).trans h.2.1, (hb.frozen (p := ⟨w.heap.size + 1, 0, none⟩) (by simp; omega)).trans h.2.2.1, h.2.2.2.out.1.trans (hb.mono (by omega)), h.2.2.2.out.2⟩)
      (fun k A A' h hb => ⟨(hb.cell (p := ⟨w.heap.size + 1, 0, none⟩) (by simp; omega)).trans h.1, h.2.out.1.trans (hb.mono (by omega)), h.2.out.2⟩)
      ⟨hc0, hcr, hfz, bel1, fun j x hj => absurd hj (by omega)⟩
      (fun x => { tmps := #[.iface 155 (.agg #[.pointer (some ⟨b, o, none⟩), .int .u8 st]), .int .i64 ((L : Int) + 1), undef, .pointer (some ⟨w.heap.size, 0, none⟩), .pointer (some ⟨w.heap.size + 1, 0, none⟩), x, .int .i64 ((L : Int) + 1), .bool false, .bool false,
        .iface 155 (.agg #[.pointer (some ⟨b, o, none⟩), .int .u8 st]), .bool true, .bool false, .bool false, .iface 155 (.agg #[.pointer (some ⟨b, o, none⟩), .int .u8 st]), .iface 155 (.agg #[.pointer (some ⟨b, o, none⟩), .int .u8 st]),
        .func (.method "weftway/tree.has") #[.iface 155 (.agg #[.pointer (some ⟨b, o, none⟩), .int .u8 st])] #[], x, undef, undef, undef, undef, undef], defers := [] }) ?assign ?body ?done ?stop
    case assign =>
      intro l x W K hK
      gi_wp2
      exact hK
    case body =>
      rintro l k v W hv ⟨h0, hr, hf, hH⟩ hW
      have hk : k < t.args.length := by
        have := (List.getElem?_eq_some_iff.1 hv).1
        rwa [ptrs_len] at this
      rw [ptrs_get hk] at hv
      obtain rfl := Option.some.inj hv
      obtain ⟨x, hx, _⟩ := get_at hk
      obtain ⟨_, ao, cap, _, hsl⟩ := s1
      obtain ⟨_, hb1⟩ := hsl.resolve_left (by omega)
      obtain ⟨vx, cx, ix⟩ := PT.Row.get (PT.Row.below (hH.out.1.mono hB) hb1 r1) hx
      have hsz := hH.out.1.size
      have C : Hid (Calls Tryz.prog 74 #[.iface 155 (.agg #[.pointer (some ⟨b1', o1' + k * 3, none⟩), .int .u8 0]), .int .i64 L] W fun e w' => e = .returned (.bool (wholeT L x 0)) ∧ Below W.heap.size W w') := Lib.hid (ih B x 0 b1' (o1' + k * 3) vx W (by omega) (by omega) (hm.below hH.out.1) (by omega) cx ix)
      have Hx := Lib.hid hx
      have HW := Lib.hid hW
      generalize hq : wholeT L x 0 = q at *
      have Hq := Lib.hid hq
      clear hx hv cx ix hq hsl hW
      gi_wp2
      refine ⟨trivial, (CallsIn.inRound l (callsIn_wide.2 C.out)).mono ?_⟩
      rintro e W' ⟨rfl, b2⟩
      have g0 := (b2.cell (p := ⟨w.heap.size, 0, none⟩) (by have := HW.out; simp; omega)).trans h0
      have gr := (b2.cell (p := ⟨w.heap.size + 1, 0, none⟩) (by have := HW.out; simp; omega)).trans hr
      have gf := (b2.frozen (p := ⟨w.heap.size + 1, 0, none⟩) (by have := HW.out; simp; omega)).trans hf
      have HB := Lib.hid b2
      clear b2 C h0 hr hf
      cases q
      · gi_wp2
        exact ⟨(Keeps.of_below HB.out).setCell (p := ⟨w.heap.size + 1, 0, none⟩) (by simp) (by simp; omega) _, World.cell?_setCell_same' _ _ _ (by rw [gr]; rfl),
          Lib.hid ⟨(hH.out.1.trans (HB.out.mono (by omega))).setCell (p := ⟨w.heap.size + 1, 0, none⟩) (by simp) _, all_not2 Hx.out Hq.out⟩⟩
      · gi_wp2
        refine ⟨Keeps.of_below HB.out, g0, gr, gf, Lib.hid ⟨hH.out.1.trans (HB.out.mono (by omega)), fun j y hj hy => ?_⟩⟩
        by_cases e : j = k
        · subst e
          rw [Hx.out] at hy
          cases hy
          exact Hq.out
        · exact hH.out.2 j y (by omega) hy
    case done =>
      rintro D W hD ⟨h0, hr, hf, hH⟩ hK
      have hall := Lib.hid (all_yes2 (p := fun u => wholeT L u 0) (l := t.args) fun j x hx => hH.out.2 j x (by rw [ptrs_len]; exact (List.getElem?_eq_some_iff.1 hx).1) hx)
      gi_wp2
      have hK2 : (W.setCell ⟨w.heap.size + 1, 0, none⟩ (.bool true)).heap[D]? = some (.deferred (some [])) := (Below.heap_setCell W ⟨w.heap.size + 1, 0, none⟩ _ D (by simp; omega)).trans hK
      have hcell : ((W.setCell ⟨w.heap.size + 1, 0, none⟩ (.bool true)).putObj D (.deferred none)).cell? ⟨w.heap.size + 1, 0, none⟩ = some (.bool true) :=
        (World.cell?_of_block (World.putObj_heap_other (k := w.heap.size + 1) (by omega))).trans (World.cell?_setCell_same' _ _ _ (by rw [hr]; rfl))
      refine ⟨by simp, .inl ⟨_, _, rfl, run_takeDeferred hK2, ?_⟩⟩
      exact ⟨.bool true, by rw [results_cell1 rfl]; go_simp, ret_bool (by rw [hall.out]; rfl), below_putObj (hH.out.1.setCell (p := ⟨w.heap.size + 1, 0, none⟩) (by simp) _) (by omega) _⟩
    case stop =>
      rintro D k W hD hk ⟨hr, hH⟩ hK
      gi_wp2
      have hcell : (W.putObj D (.deferred none)).cell? ⟨w.heap.size + 1, 0, none⟩ = some (.bool false) :=
        (World.cell?_of_block (World.putObj_heap_other (k := w.heap.size + 1) (by omega))).trans hr
      refine ⟨by simp, .inl ⟨_, _, rfl, run_takeDeferred hK, ?_⟩⟩
      exact ⟨.bool false, by rw [results_cell1 rfl]; go_simp, ret_bool (by rw [hH.out.2]; rfl), below_putObj hH.out.1 (by omega) _⟩
theorem wholeT_calls : ∀ L, L ≤ 1000 → WholeTAt L
  | 0, _ => wholeT_zero
  | L + 1, h => wholeT_succ L (by omega) (wholeT_calls L (by omega))
end Go.Proofs.YthilicmhdkmipaaGreatDoor
/- A part of a tree, whatever its sort: what fits, weight and has answer of it; whole walked once for all sorts. -/
namespace Go.Proofs.YthilicmhdkmipaaGreatDoor
open Go.RowKit Go.Shelf
set_option linter.unusedVariables false
attribute [local go_sem] Oper.semAt_some

inductive RT where
  | mk (fits : Bool) (weight : Nat) (kids : List RT)
def wholeR : Nat → RT → Bool
  | 0, _ => false
  | n + 1, .mk f _ ks => f && ks.all (fun u => wholeR n u)
mutual
def depthR : RT → Nat
  | .mk _ _ ks => depthRs ks + 1
def depthRs : List RT → Nat
  | [] => 0
  | t :: ts => max (depthR t) (depthRs ts)
end
mutual
def sizeR : RT → Nat
  | .mk _ w ks => w + sizeRs ks
def sizeRs : List RT → Nat
  | [] => 0
  | t :: ts => sizeR t + sizeRs ts
end
/-- are the methods weight in reach of this seat? -/
def Sized : Prop := False
/-- a value is a part: what its methods answer, in every world over W0 -/
inductive Part (W0 : World) : Value → RT → Prop
  | mk (T : TypeId) (r : Value) (ff fh fw : Nat) (q : Bool) (wt : Nat) (kv : List Value) (kt : List RT)
    (hf : ∀ w, (method 410 T r "weftway/tree.fits").run Tryz.prog w = .ok (ff, r) w)
    (hh : ∀ args w, (callMethod (.iface T r) "weftway/tree.has" args).run Tryz.prog w = .ok (.enter fh (#[r] ++ args)) w)
    (hw : Sized → ∀ w, (method 410 T r "weftway/tree.weight").run Tryz.prog w = .ok (fw, r) w)
    (ef : ∀ w, (callFunc ff #[r]).run Tryz.prog w = .ok (.enter ff #[r]) w)
    (ew : Sized → ∀ w, (callFunc fw #[r]).run Tryz.prog w = .ok (.enter fw #[r]) w)
    (cf : ∀ W, Below W0.heap.size W0 W → Calls Tryz.prog ff #[r] W fun e w' => e = .returned (.bool q) ∧ Below W.heap.size W w')
    (cw : Sized → ∀ W, Below W0.heap.size W0 W → Calls Tryz.prog fw #[r] W fun e w' => e = .returned (.int .i64 wt) ∧ Below W.heap.size W w')
    (ch : ∀ lo W, W0.heap.size ≤ lo → lo ≤ W.heap.size → Below W0.heap.size W0 W → Hands Tryz.prog lo fh r kv W)
    (hl : kv.length = kt.length)
    (hk : ∀ (k : Nat) v t, kv[k]? = some v → kt[k]? = some t → Part W0 v t) :
    Part W0 (.iface T r) (.mk q wt kt)
theorem allR_yes {α : Type} {p : α → Bool} {l : List α} (h : ∀ (j : Nat) x, l[j]? = some x → p x = true) : l.all p = true := by
  rw [List.all_eq_true]
  intro x hx
  obtain ⟨j, hj⟩ := List.mem_iff_getElem?.1 hx
  exact h j x hj
theorem allR_no {α : Type} {p : α → Bool} {l : List α} {k : Nat} {x : α} (h : l[k]? = some x) (hp : p x = false) : l.all p = false := by
  rw [Bool.eq_false_iff]
  intro hc
  have := List.all_eq_true.1 hc x (List.mem_of_getElem? h)
  rw [hp] at this; simp at this

/-- the contract of whole at a part -/
def WholeRAt (W0 : World) (L : Nat) : Prop := ∀ (v : Value) (t : RT) (w : World), Part W0 v t → Below W0.heap.size W0 w →
  Calls Tryz.prog 74 #[v, .int .i64 L] w fun e w' => e = .returned (.bool (wholeR L t)) ∧ Below w.heap.size w w'

set_option maxRecDepth 100000 in
set_option maxHeartbeats 4000000 in
theorem wholeR_zero (W0 : World) : WholeRAt W0 0 := by
  intro v t w ht hB
  obtain ⟨T, r, ff, fh, fw, q, wt, kv, kt, hf, hh, hw, ef, ew, cf, cw, ch, hl, hk⟩ := ht
  rw [wholeR]
  show Calls Tryz.prog 74 #[.iface T r, .int .i64 0] w _
  have hfits := hf
  clear hf hh hw ef ew cf cw ch hl hk
  refine (callsIn_wide (n := 5)).1 ?_
  refine callsIn_of_wp_marks Tryz.func74 rfl trivial ?_ rfl
  simp only [Tryz.ntmps74, List.size_toArray, List.length_cons, List.length_nil, Nat.reduceAdd, Nat.reduceSub, Array.replicate_succ, Array.replicate_zero, List.push_toArray, List.append_toArray, List.nil_append, List.cons_append]
  gi_wp2
  all_goals refine ⟨fun _ _ => trivial, ?_⟩
  all_goals gi_wp2
  all_goals exact ⟨.bool false, by rw [results_cell1 rfl]; go_simp, rfl, box2 _ _ _⟩

set_option maxRecDepth 100000 in
set_option maxHeartbeats 400000 in
theorem wholeR_succ (W0 : World) (L : Nat) (hL : L ≤ 1000) (ih : WholeRAt W0 L) : WholeRAt W0 (L + 1) := by
  intro v t w ht hB
  obtain ⟨T, r, ff, fh, fw, q, wt, kv, kt, hf, hh, hw, ef, ew, cf, cw, ch, hl, hk⟩ := ht
  have F : Hid (∀ w', Below w.heap.size w w' → Calls Tryz.prog ff #[r] w' fun e w'' => e = .returned (.bool q) ∧ Below w'.heap.size w' w'') :=
    Lib.hid fun w' h => cf w' (hB.trans (h.mono hB.size))
  have CH := Lib.hid ch
  have HK := Lib.hid hk
  have HL := Lib.hid hl
  have HH := Lib.hid hh
  have HB0 := Lib.hid hB
  have hB0 := hB.size
  clear hw ew cf cw ch hl hk hh hB
  rw [wholeR]
  have ec : ((L + 1 : Nat) : Int) = (L : Int) + 1 := by omega
  rw [ec]
  clear ec
  have e0 : (((L : Int) + 1) == 0) = false := beq_eq_false_iff_ne.2 (by omega)
  have e1 : ((L : Int) + 1) - 1 = (L : Int) := by omega
  have bx := Lib.hid (box2 w (.cells #[.int .i64 ((L : Int) + 1)] 3) (.cells #[.bool false] 4))
  refine (callsIn_wide (n := 5)).1 ?_
  refine callsIn_of_wp_marks Tryz.func74 rfl trivial ?_ rfl
  simp only [Tryz.ntmps74, List.size_toArray, List.length_cons, List.length_nil, Nat.reduceAdd, Nat.reduceSub, Array.replicate_succ, Array.replicate_zero, List.push_toArray, List.append_toArray, List.nil_append, List.cons_append]
  have hfits := hf
  clear hf
  cases q
  · gi_wp2
    refine ⟨trivial, (callsIn_wide.2 (F.out _ bx.out)).mono ?_⟩
    rintro e w1 ⟨rfl, b1⟩
    have hc1 := old_cells b1
    have hfz : w1.frozen? ⟨w.heap.size + 1, 0, none⟩ = false := (b1.frozen (p := ⟨w.heap.size + 1, 0, none⟩) (by simp)).trans (by go_simp)
    have bel1 := Lib.hid (up_tr bx.out b1)
    gi_wp2
    exact ⟨.bool false, by rw [results_cell1 rfl]; go_simp, rfl, bel1.out.setCell (p := ⟨w.heap.size + 1, 0, none⟩) (by simp) _⟩
  · gi_wp2
    refine ⟨trivial, (callsIn_wide.2 (F.out _ bx.out)).mono ?_⟩
    rintro e w1 ⟨rfl, b1⟩
    have hc0 : w1.cell? ⟨w.heap.size, 0, none⟩ = some (.int .i64 ((L : Int) + 1)) := (b1.cell (p := ⟨w.heap.size, 0, none⟩) (by simp; omega)).trans (by go_simp)
    have hcr : w1.cell? ⟨w.heap.size + 1, 0, none⟩ = some (.bool false) := (b1.cell (p := ⟨w.heap.size + 1, 0, none⟩) (by simp)).trans (by go_simp)
    have hfz : w1.frozen? ⟨w.heap.size + 1, 0, none⟩ = false := (b1.frozen (p := ⟨w.heap.size + 1, 0, none⟩) (by simp)).trans (by go_simp)
    have hs1 : w.heap.size + 1 < w1.heap.size := by have := b1.size; simp at this; omega
    have bel1 := up_tr bx.out b1
    clear b1 F bx hfits ef
    gi_wp2
    refine wpIn_rangeMeth "weftway/tree.has" (.iface T r) r fh rfl HH.out
      kv w.heap.size (by omega) rfl
      (fun W hW => CH.out w.heap.size W hB0 (by have := hW.size; omega) (HB0.out.trans ((bel1.trans (hW.mono (by omega))).mono hB0)))
      (fun k W => W.cell? ⟨w.heap.size, 0, none⟩ = some (.int .i64 ((L : Int) + 1)) ∧ W.cell? ⟨w.heap.size + 1, 0, none⟩ = some (.bool false) ∧ W.frozen? ⟨w.heap.size + 1, 0, none⟩ = false ∧ Hid (Below w.heap.size w W ∧ ∀ (j : Nat) x, j < k → kt[j]? = some x → wholeR L x = true))
      (fun k W => W.cell? ⟨w.heap.size + 1, 0, none⟩ = some (.bool false) ∧ Hid (Below w.heap.size w W ∧ kt.all (fun u => wholeR L u) = false))
      (fun k A A' h hb => ⟨(hb.cell (p := ⟨w.heap.size, 0, none⟩) (by simp; omega)).trans h.1, (hb.cell (p := ⟨w.heap.size + 1, 0, none⟩) (by simp; omega)).trans h.2.1, (hb.frozen (p := ⟨w.heap.size + 1, 0, none⟩) (by simp; omega)).trans h.2.2.1, h.2.2.2.out.1.trans (hb.mono (by omega)), h.2.2.2.out.2⟩)
      (fun k A A' h hb => ⟨(hb.cell (p := ⟨w.heap.size + 1, 0, none⟩) (by simp; omega)).trans h.1, h.2.out.1.trans (hb.mono (by omega)), h.2.out.2⟩)
      ⟨hc0, hcr, hfz, bel1, fun j x hj => absurd hj (by omega)⟩
      (fun x => { tmps := #[.iface T r, .int .i64 ((L : Int) + 1), undef, .pointer (some ⟨w.heap.size, 0, none⟩), .pointer (some ⟨w.heap.size + 1, 0, none⟩), x, .int .i64 ((L : Int) + 1), .bool false, .bool false,
        .iface T r, .bool true, .bool false, .bool false, .iface T r, .iface T r,
        .func (.method "weftway/tree.has") #[.iface T r] #[], x, undef, undef, undef, undef, undef], defers := [] }) ?assign ?body ?done ?stop
    case assign =>
      intro l x W K hK
      gi_wp2
      exact hK
    case body =>
      rintro l k v W hv ⟨h0, hr, hf, hH⟩ hW
      have hkk : k < kt.length := by
        have := (List.getElem?_eq_some_iff.1 hv).1
        rwa [HL.out] at this
      obtain ⟨x, hx⟩ : ∃ x, kt[k]? = some x := ⟨_, List.getElem?_eq_getElem hkk⟩
      have hsz := hH.out.1.size
      have C : Hid (Calls Tryz.prog 74 #[v, .int .i64 L] W fun e w' => e = .returned (.bool (wholeR L x)) ∧ Below W.heap.size W w') := Lib.hid (ih v x W (HK.out k v x hv hx) (HB0.out.trans (hH.out.1.mono hB0)))
      have Hx := Lib.hid hx
      have HW := Lib.hid hW
      generalize hq : wholeR L x = q at *
      have Hq := Lib.hid hq
      clear hx hv hq hW hkk
      gi_wp2
      refine ⟨trivial, (CallsIn.inRound l (callsIn_wide.2 C.out)).mono ?_⟩
      rintro e W' ⟨rfl, b2⟩
      have g0 := (b2.cell (p := ⟨w.heap.size, 0, none⟩) (by have := HW.out; simp; omega)).trans h0
      have gr := (b2.cell (p := ⟨w.heap.size + 1, 0, none⟩) (by have := HW.out; simp; omega)).trans hr
      have gf := (b2.frozen (p := ⟨w.heap.size + 1, 0, none⟩) (by have := HW.out; simp; omega)).trans hf
      have HB := Lib.hid b2
      clear b2 C h0 hr hf
      cases q
      · gi_wp2
        exact ⟨(Keeps.of_below HB.out).setCell (p := ⟨w.heap.size + 1, 0, none⟩) (by simp) (by simp; omega) _, World.cell?_setCell_same' _ _ _ (by rw [gr]; rfl),
          Lib.hid ⟨(hH.out.1.trans (HB.out.mono (by omega))).setCell (p := ⟨w.heap.size + 1, 0, none⟩) (by simp) _, allR_no Hx.out Hq.out⟩⟩
      · gi_wp2
        refine ⟨Keeps.of_below HB.out, g0, gr, gf, Lib.hid ⟨hH.out.1.trans (HB.out.mono (by omega)), fun j y hj hy => ?_⟩⟩
        by_cases e : j = k
        · subst e
          rw [Hx.out] at hy
          cases hy
          exact Hq.out
        · exact hH.out.2 j y (by omega) hy
    case done =>
      rintro D W hD ⟨h0, hr, hf, hH⟩ hK
      have hall := Lib.hid (allR_yes (p := fun u => wholeR L u) (l := kt) fun j x hx => hH.out.2 j x (by rw [HL.out]; exact (List.getElem?_eq_some_iff.1 hx).1) hx)
      gi_wp2
      have hK2 : (W.setCell ⟨w.heap.size + 1, 0, none⟩ (.bool true)).heap[D]? = some (.deferred (some [])) := (Below.heap_setCell W ⟨w.heap.size + 1, 0, none⟩ _ D (by simp; omega)).trans hK
      have hcell : ((W.setCell ⟨w.heap.size + 1, 0, none⟩ (.bool true)).putObj D (.deferred none)).cell? ⟨w.heap.size + 1, 0, none⟩ = some (.bool true) :=
        (World.cell?_of_block (World.putObj_heap_other (k := w.heap.size + 1) (by omega))).trans (World.cell?_setCell_same' _ _ _ (by rw [hr]; rfl))
      refine ⟨by simp, .inl ⟨_, _, rfl, run_takeDeferred hK2, ?_⟩⟩
      exact ⟨.bool true, by rw [results_cell1 rfl]; go_simp, ret_bool (by rw [hall.out]; rfl), below_putObj (hH.out.1.setCell (p := ⟨w.heap.size + 1, 0, none⟩) (by simp) _) (by omega) _⟩
    case stop =>
      rintro D k W hD hk ⟨hr, hH⟩ hK
      gi_wp2
      have hcell : (W.putObj D (.deferred none)).cell? ⟨w.heap.size + 1, 0, none⟩ = some (.bool false) :=
        (World.cell?_of_block (World.putObj_heap_other (k := w.heap.size + 1) (by omega))).trans hr
      refine ⟨by simp, .inl ⟨_, _, rfl, run_takeDeferred hK, ?_⟩⟩
      exact ⟨.bool false, by rw [results_cell1 rfl]; go_simp, ret_bool (by rw [hH.out.2]; rfl), below_putObj hH.out.1 (by omega) _⟩
theorem wholeR_calls (W0 : World) : ∀ L, L ≤ 1000 → WholeRAt W0 L
  | 0, _ => wholeR_zero W0
  | L + 1, h => wholeR_succ W0 L (by omega) (wholeR_calls W0 L (by omega))
/-! ### depth -/
end Go.Proofs.YthilicmhdkmipaaGreatDoor
