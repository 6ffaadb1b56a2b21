/- What is whole: expressions (made by gen_wholeE.py out of XTreeWholeT). -/
import Derived.Test.YthilicmhdkmipaaGreatDoorIJoinAK
import Derived.Test.YthilicmhdkmipaaGreatDoorIJoinAR
import Derived.Test.YthilicmhdkmipaaGreatDoorIJoinAF
import Derived.RangeFuncNested
import Derived.Test.YthilicmhdkmipaaGreatDoorIJoinAN
namespace Go.Proofs.YthilicmhdkmipaaGreatDoor
open Go.RowKit Go.Shelf
set_option linter.unusedVariables false
attribute [local go_sem] Oper.semAt_some

theorem expr_fits (v : Value) (w : World) : (method 410 160 v "weftway/tree.fits").run Tryz.prog w = .ok (247, v) w := by kernel_rfl
theorem expr_has (v : Value) (args : Array Value) (w : World) : (callMethod (.iface 160 v) "weftway/tree.has" args).run Tryz.prog w = .ok (.enter 248 (#[v] ++ args)) w := by kernel_rfl
theorem inArgs_le (e : PE) {st : Nat} (h : st ≤ 3) : inArgs e st ≤ 3 := by
  unfold inArgs
  split
  · omega
  · split <;> omega

/-- the contract of whole at an expression -/
def WholeEAt (L : Nat) : Prop := ∀ (B : Nat) (t : PE) (st b o : Nat) (v : VE) (w : World), st ≤ 3 → B ≤ w.heap.size → MaxOk w → b < w.heap.size → CellsAt w b o (t.cells v) → t.In B w v →
  Calls Tryz.prog 74 #[.iface 160 (.agg #[.pointer (some ⟨b, o, none⟩), .int .u8 st]), .int .i64 L] w fun e w' => e = .returned (.bool (wholeE L t st)) ∧ Below w.heap.size w w'

set_option maxRecDepth 100000 in
set_option maxHeartbeats 4000000 in
theorem wholeE_zero : WholeEAt 0 := by
  intro B t st b o v w hst hB hm hb hc ht
  rw [wholeE]
  show Calls Tryz.prog 74 #[.iface 160 (.agg #[.pointer (some ⟨b, o, none⟩), .int .u8 st]), .int .i64 0] w _
  refine (callsIn_wide (n := 5)).1 ?_
  refine callsIn_of_wp_marks Tryz.func74 rfl trivial ?_ rfl
  simp only [Tryz.ntmps74, List.size_toArray, List.length_cons, List.length_nil, Nat.reduceAdd, Nat.reduceSub, Array.replicate_succ, Array.replicate_zero, List.push_toArray, List.append_toArray, List.nil_append, List.cons_append]
  have hfits := expr_fits
  gi_wp2
  all_goals refine ⟨fun _ _ => trivial, ?_⟩
  all_goals gi_wp2
  all_goals exact ⟨.bool false, by rw [results_cell1 rfl]; go_simp, rfl, box2 _ _ _⟩

set_option maxRecDepth 100000 in
set_option maxHeartbeats 400000 in
theorem wholeE_succ (L : Nat) (hL : L ≤ 1000) (ih : WholeEAt L) : WholeEAt (L + 1) := by
  intro B t st b o v w hst hB hm hb hc ht
  have F : Hid (∀ w', Below w.heap.size w w' → Calls Tryz.prog 247 #[.agg #[.pointer (some ⟨b, o, none⟩), .int .u8 st]] w' fun e w'' => e = .returned (.bool (fitE t st)) ∧ Below w'.heap.size w' w'') :=
    by
      obtain ⟨p0, n0, q0, p1, n1, q1, rfl⟩ := ht.shape
      obtain ⟨op, iv, nm, sc, pl, es, ps⟩ := t
      exact Lib.hid fun w' hw => exprFits_calls B op iv nm sc pl es ps p0 n0 q0 p1 n1 q1 st b o w' hst (by have := hw.size; omega) (hm.below hw) (by have := hw.size; omega) (hc.below hb hw) (PE.In.below (hw.mono hB) ht)
  rw [wholeE]
  generalize hq : fitE t st = q at *
  clear hq
  have ec : ((L + 1 : Nat) : Int) = (L : Int) + 1 := by omega
  rw [ec]
  clear ec
  have e0 : (((L : Int) + 1) == 0) = false := beq_eq_false_iff_ne.2 (by omega)
  have e1 : ((L : Int) + 1) - 1 = (L : Int) := by omega
  have bx := Lib.hid (box2 w (.cells #[.int .i64 ((L : Int) + 1)] 3) (.cells #[.bool false] 4))
  refine (callsIn_wide (n := 5)).1 ?_
  refine callsIn_of_wp_marks Tryz.func74 rfl trivial ?_ rfl
  simp only [Tryz.ntmps74, List.size_toArray, List.length_cons, List.length_nil, Nat.reduceAdd, Nat.reduceSub, Array.replicate_succ, Array.replicate_zero, List.push_toArray, List.append_toArray, List.nil_append, List.cons_append]
  have hfits := expr_fits
  obtain ⟨b1', o1', s1, r1⟩ : ∃ b1' o1', SlV B v.args t.args.length b1' o1' ∧ PE.Row B w b1' o1' t.args := by
    obtain ⟨op, iv, nm, sc, pl, es, ps⟩ := t
    obtain ⟨_, _, b', o', s, r⟩ := ht
    exact ⟨b', o', s, r⟩
  cases q
  · gi_wp2
    refine ⟨trivial, (callsIn_wide.2 (F.out _ bx.out)).mono ?_⟩
    rintro e w1 ⟨rfl, b1⟩
    have hc1 := old_cells b1
    have hfz : w1.frozen? ⟨w.heap.size + 1, 0, none⟩ = false := (b1.frozen (p := ⟨w.heap.size + 1, 0, none⟩) (by simp)).trans (by go_simp)
    have bel1 := Lib.hid (up_tr bx.out b1)
    gi_wp2
    exact ⟨.bool false, by rw [results_cell1 rfl]; go_simp, rfl, bel1.out.setCell (p := ⟨w.heap.size + 1, 0, none⟩) (by simp) _⟩
  · gi_wp2
    refine ⟨trivial, (callsIn_wide.2 (F.out _ bx.out)).mono ?_⟩
    rintro e w1 ⟨rfl, b1⟩
    have hc0 : w1.cell? ⟨w.heap.size, 0, none⟩ = some (.int .i64 ((L : Int) + 1)) := (b1.cell (p := ⟨w.heap.size, 0, none⟩) (by simp; omega)).trans (by go_simp)
    have hcr : w1.cell? ⟨w.heap.size + 1, 0, none⟩ = some (.bool false) := (b1.cell (p := ⟨w.heap.size + 1, 0, none⟩) (by simp)).trans (by go_simp)
    have hfz : w1.frozen? ⟨w.heap.size + 1, 0, none⟩ = false := (b1.frozen (p := ⟨w.heap.size + 1, 0, none⟩) (by simp)).trans (by go_simp)
    have hs1 : w.heap.size + 1 < w1.heap.size := by have := b1.size; simp at this; omega
    have bel1 := up_tr bx.out b1
    clear b1 F bx hfits
    gi_wp2
    refine wpIn_rangeMeth "weftway/tree.has" (.iface 160 (.agg #[.pointer (some ⟨b, o, none⟩), .int .u8 st])) (.agg #[.pointer (some ⟨b, o, none⟩), .int .u8 st]) 248 rfl (fun args w => expr_has _ args w)
      (ptrs 160 b1' o1' 8 (inArgs t st) t.args.length) w.heap.size (by omega) rfl
      (fun W hW => exprHas_hands B w.heap.size t st b o v W hB (by have := hW.size; omega) hb hst (hc.below hb (bel1.trans (hW.mono (by omega)))) (PE.In.below ((bel1.trans (hW.mono (by omega))).mono hB) ht) b1' o1' s1)
      (fun k W => W.cell? ⟨w.heap.size, 0, none⟩ = some (.int .i64 ((L : Int) + 1)) ∧ W.cell? ⟨w.heap.size + 1, 0, none⟩ = some (.bool false) ∧ W.frozen? ⟨w.heap.size + 1, 0, none⟩ = false ∧ Hid (Below w.heap.size w W ∧ ∀ (j : Nat) x, j < k → t.args[j]? = some x → wholeE L x (inArgs t st) = true))
      (fun k W => W.cell? ⟨w.heap.size + 1, 0, none⟩ = some (.bool false) ∧ Hid (Below w.heap.size w W ∧ t.args.all (fun u => wholeE L u (inArgs t st)) = false))
      (fun k A A' h hb => ⟨(hb.cell (p := ⟨w.heap.size, 0, none⟩) (by simp; omega)).trans h.1, (hb.cell (p := ⟨w.heap.size + 1, 0, none⟩) (by simp; omega)).trans h.2.1, (hb.frozen (p := ⟨w.heap.size + 1, 0, none⟩) (by simp; omega)).trans h.2.2.1, h.2.2.2.out.1.trans (hb.mono (by omega)), h.2.2.2.out.2⟩)
      (fun k A A' h hb => ⟨(hb.cell (p := ⟨w.heap.size + 1, 0, none⟩) (by simp; omega)).trans h.1, h.2.out.1.trans (hb.mono (by omega)), h.2.out.2⟩)
      ⟨hc0, hcr, hfz, bel1, fun j x hj => absurd hj (by omega)⟩
      (fun x => { tmps := #[.iface 160 (.agg #[.pointer (some ⟨b, o, none⟩), .int .u8 st]), .int .i64 ((L : Int) + 1), undef, .pointer (some ⟨w.heap.size, 0, none⟩), .pointer (some ⟨w.heap.size + 1, 0, none⟩), x, .int .i64 ((L : Int) + 1), .bool false, .bool false,
        .iface 160 (.agg #[.pointer (some ⟨b, o, none⟩), .int .u8 st]), .bool true, .bool false, .bool false, .iface 160 (.agg #[.pointer (some ⟨b, o, none⟩), .int .u8 st]), .iface 160 (.agg #[.pointer (some ⟨b, o, none⟩), .int .u8 st]),
        .func (.method "weftway/tree.has") #[.iface 160 (.agg #[.pointer (some ⟨b, o, none⟩), .int .u8 st])] #[], x, undef, undef, undef, undef, undef], defers := [] }) ?assign ?body ?done ?stop
    case assign =>
      intro l x W K hK
      gi_wp2
      exact hK
    case body =>
      rintro l k v W hv ⟨h0, hr, hf, hH⟩ hW
      have hk : k < t.args.length := by
        have := (List.getElem?_eq_some_iff.1 hv).1
        rwa [ptrs_len] at this
      rw [ptrs_get hk] at hv
      obtain rfl := Option.some.inj hv
      obtain ⟨x, hx, _⟩ := get_at hk
      obtain ⟨_, ao, cap, _, hsl⟩ := s1
      obtain ⟨_, hb1⟩ := hsl.resolve_left (by omega)
      obtain ⟨vx, cx, ix⟩ := PE.Row.get (PE.Row.below (hH.out.1.mono hB) hb1 r1) hx
      have hsz := hH.out.1.size
      have C : Hid (Calls Tryz.prog 74 #[.iface 160 (.agg #[.pointer (some ⟨b1', o1' + k * 8, none⟩), .int .u8 (inArgs t st : Nat)]), .int .i64 L] W fun e w' => e = .returned (.bool (wholeE L x (inArgs t st))) ∧ Below W.heap.size W w') := Lib.hid (ih B x (inArgs t st) b1' (o1' + k * 8) vx W (inArgs_le t hst) (by omega) (hm.below hH.out.1) (by omega) cx ix)
      have Hx := Lib.hid hx
      have HW := Lib.hid hW
      generalize hq : wholeE L x (inArgs t st) = q at *
      have Hq := Lib.hid hq
      clear hx hv cx ix hq hsl hW
      gi_wp2
      refine ⟨trivial, (CallsIn.inRound l (callsIn_wide.2 C.out)).mono ?_⟩
      rintro e W' ⟨rfl, b2⟩
      have g0 := (b2.cell (p := ⟨w.heap.size, 0, none⟩) (by have := HW.out; simp; omega)).trans h0
      have gr := (b2.cell (p := ⟨w.heap.size + 1, 0, none⟩) (by have := HW.out; simp; omega)).trans hr
      have gf := (b2.frozen (p := ⟨w.heap.size + 1, 0, none⟩) (by have := HW.out; simp; omega)).trans hf
      have HB := Lib.hid b2
      clear b2 C h0 hr hf
      cases q
      · gi_wp2
        exact ⟨(Keeps.of_below HB.out).setCell (p := ⟨w.heap.size + 1, 0, none⟩) (by simp) (by simp; omega) _, World.cell?_setCell_same' _ _ _ (by rw [gr]; rfl),
          Lib.hid ⟨(hH.out.1.trans (HB.out.mono (by omega))).setCell (p := ⟨w.heap.size + 1, 0, none⟩) (by simp) _, all_not2 Hx.out Hq.out⟩⟩
      · gi_wp2
        refine ⟨Keeps.of_below HB.out, g0, gr, gf, Lib.hid ⟨hH.out.1.trans (HB.out.mono (by omega)), fun j y hj hy => ?_⟩⟩
        by_cases e : j = k
        · subst e
          rw [Hx.out] at hy
          cases hy
          exact Hq.out
        · exact hH.out.2 j y (by omega) hy
    case done =>
      rintro D W hD ⟨h0, hr, hf, hH⟩ hK
      have hall := Lib.hid (all_yes2 (p := fun u => wholeE L u (inArgs t st)) (l := t.args) fun j x hx => hH.out.2 j x (by rw [ptrs_len]; exact (List.getElem?_eq_some_iff.1 hx).1) hx)
      gi_wp2
      have hK2 : (W.setCell ⟨w.heap.size + 1, 0, none⟩ (.bool true)).heap[D]? = some (.deferred (some [])) := (Below.heap_setCell W ⟨w.heap.size + 1, 0, none⟩ _ D (by simp; omega)).trans hK
      have hcell : ((W.setCell ⟨w.heap.size + 1, 0, none⟩ (.bool true)).putObj D (.deferred none)).cell? ⟨w.heap.size + 1, 0, none⟩ = some (.bool true) :=
        (World.cell?_of_block (World.putObj_heap_other (k := w.heap.size + 1) (by omega))).trans (World.cell?_setCell_same' _ _ _ (by rw [hr]; rfl))
      refine ⟨by simp, .inl ⟨_, _, rfl, run_takeDeferred hK2, ?_⟩⟩
      exact ⟨.bool true, by rw [results_cell1 rfl]; go_simp, ret_bool (by rw [hall.out]; rfl), below_putObj (hH.out.1.setCell (p := ⟨w.heap.size + 1, 0, none⟩) (by simp) _) (by omega) _⟩
    case stop =>
      rintro D k W hD hk ⟨hr, hH⟩ hK
      gi_wp2
      have hcell : (W.putObj D (.deferred none)).cell? ⟨w.heap.size + 1, 0, none⟩ = some (.bool false) :=
        (World.cell?_of_block (World.putObj_heap_other (k := w.heap.size + 1) (by omega))).trans hr
      refine ⟨by simp, .inl ⟨_, _, rfl, run_takeDeferred hK, ?_⟩⟩
      exact ⟨.bool false, by rw [results_cell1 rfl]; go_simp, ret_bool (by rw [hH.out.2]; rfl), below_putObj hH.out.1 (by omega) _⟩
theorem wholeE_calls : ∀ L, L ≤ 1000 → WholeEAt L
  | 0, _ => wholeE_zero
  | L + 1, h => wholeE_succ L (by omega) (wholeE_calls L (by omega))
end Go.Proofs.YthilicmhdkmipaaGreatDoor
/- The document's own way of saying what is whole, first part: letters of a form, places, fields, types. -/
namespace Go.Proofs.YthilicmhdkmipaaGreatDoor
open Go.RowKit
set_option linter.unusedVariables false

def hasB (F : ByteArray) (c : Int) : Bool := F.data.toList.any fun x => decide ((x.toNat : Int) = c)
/-! ### the form of an operator -/
/-! ### how many -/
end Go.Proofs.YthilicmhdkmipaaGreatDoor
/- The document's own way of saying what is whole, second part: lent ones, places, fields' names, types. -/
namespace Go.Proofs.YthilicmhdkmipaaGreatDoor
open Go.RowKit
set_option linter.unusedVariables false

/-! ### types -/
def RefWTAt (n : Nat) : Prop := ∀ (B : Nat) (t : PT) (v : Value) (w : World), B ≤ w.heap.size → t.In B w v →
  Calls Tryz.prog 17 #[.agg #[.int .u8 t.kind, .string t.name, v], .int .i64 n] w fun e w' => e = .returned (.bool (rT n t)) ∧ Below w.heap.size w w'
end Go.Proofs.YthilicmhdkmipaaGreatDoor
