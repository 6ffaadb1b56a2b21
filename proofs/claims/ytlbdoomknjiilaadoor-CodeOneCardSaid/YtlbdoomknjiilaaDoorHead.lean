/- A region that draws its order: operations H that are quiet in a class of worlds, in whatever order, and behind them a forced row T. And the class of the worlds that are w with draws and new blocks. -/
import Derived.Test.YtlbdoomknjiilaaDoorOverTail
import Derived.Shelf.SlSortCmp.QuietGrown
namespace Go.Proofs.YtlbdoomknjiilaaDoor
open Go.RowKit
open Go.Sort (grow grow_empty grow_grow alloc_eq_grow cell?_grow frozen?_grow heap_grow_old)
set_option linter.unusedVariables false

theorem wpAny_head {P : Program} {md : Region.Mode} {ops : Array Oper} {Q : Exit → Act → World → Prop} {C : World → Prop} {a : Act} {w : World} {listed : Array Bool} (H T : List Nat) (lh lt : List Oper)
    (hH : lh.map some = H.map (fun i => ops[i]?)) (hT : lt.map some = T.map (fun i => ops[i]?))
    (hB : (Region.noSelect ops && (sinkL md ops H T && (chainL md ops T && (startL md ops H T listed && headL md ops T H listed)))) = true) (hw : C w)
    (h : wpQuiet P ops C (fun a' => ∀ w', C w' → wpList P ops Q lt a' w') lh a) : wpAny P md ops Q (H.length + T.length) listed a w := by
  simp only [Bool.and_eq_true] at hB
  obtain ⟨hsel, hs, hc, hst, hlex⟩ := hB
  obtain ⟨inv, hap⟩ := invL_start hst
  have hlen : lh.length = H.length := by have := congrArg List.length hH; simpa using this
  have HQ := headQ_lex (C := C) hsel hs hc hap lh H 0 listed a hH (fun j hj => ⟨by rw [Nat.zero_add], by omega⟩) inv hlex h
  rw [← hlen]
  exact any_of_headQ (fun listed a' w' hw hL => any_of_seqL lt T listed a' w' hT hL.1 (hL.2 w' hw)) _ _ _ w hw HQ
theorem wp_region_head {P : Program} {id : Nat} {Q : Exit → Act → World → Prop} {C : World → Prop} {a : Act} {w : World} {l : List Oper} (H T : List Nat) (lh lt : List Oper)
    (hm : P.follows .mixedOrders = true) (hH : lh.map some = H.map (fun i => l.toArray[i]?)) (hT : lt.map some = T.map (fun i => l.toArray[i]?))
    (hB : (Region.noSelect l.toArray && (sinkL .any l.toArray H T && (chainL .any l.toArray T && (startL .any l.toArray H T (Array.replicate l.toArray.size false) && headL .any l.toArray T H (Array.replicate l.toArray.size false))))) = true)
    (hsz : l.toArray.size = H.length + T.length) (hC : C w.drew)
    (h : wpQuiet P l.toArray C (fun a' => ∀ w', C w' → wpList P l.toArray Q lt a' w') lh a) : (Code.region id l.toArray true).wp P Q a w := by
  refine wp_region_any hm ?_
  have key := wpAny_head (md := .any) H T lh lt hH hT hB hC h
  rwa [← hsz] at key
/-- the class of Derived/Shelf/SlSortCmp/QuietGrown.lean -/
abbrev GrownOf (w : World) : World → Prop := fun w' => ∃ p : GrownBy, w' = grow (w.drewN p.n) p.os
theorem grownOf_drew (w : World) : GrownOf w w.drew := ⟨⟨1, #[]⟩, by rw [grow_empty]; rfl⟩
/-- w' is w with draws and new blocks -/
def Gr (w w' : World) : Prop := ∃ q os, w' = grow (w.drewN q) os
theorem Gr.refl (w : World) : Gr w w := ⟨0, #[], by rw [grow_empty]; rfl⟩
theorem Gr.drew {w w' : World} (h : Gr w w') : Gr w w'.drew := by
  obtain ⟨q, os, rfl⟩ := h
  refine ⟨q + 1, os, ?_⟩
  show grow ((w.drewN q).drew) os = _
  rfl
theorem Gr.alloc {w w' : World} (h : Gr w w') (o : Obj) : Gr w (w'.alloc o) := by
  obtain ⟨q, os, rfl⟩ := h
  exact ⟨q, os ++ #[o], by rw [alloc_eq_grow, grow_grow]⟩
theorem Gr.trans {w w1 w2 : World} (h : Gr w w1) (h2 : Gr w1 w2) : Gr w w2 := by
  obtain ⟨q, os, rfl⟩ := h
  obtain ⟨q', os', rfl⟩ := h2
  refine ⟨q + q', os ++ os', ?_⟩
  show grow (grow ((w.drewN q).drewN q') os) os' = _
  rw [grow_grow, World.drewN_drewN]
theorem below_grow (w : World) (q : Nat) (os : Array Obj) : Below w.heap.size w (grow (w.drewN q) os) := by
  refine ⟨?_, ?_, ?_, ?_, ?_⟩
  all_goals first | rfl | (simp; done) | skip
  · intro b hb
    show (grow (w.drewN q) os).heap[b]? = _
    rw [heap_grow_old _ _ (show b < (w.drewN q).heap.size from hb)]
    rfl
theorem Gr.below {w w' : World} (h : Gr w w') : Below w.heap.size w w' := by
  obtain ⟨q, os, rfl⟩ := h
  exact below_grow w q os
/-- a world that is W0 with draws and new blocks -/
structure GrW (W0 : World) where
  w : World
  h : Gr W0 w
def GrW.base (W0 : World) : GrW W0 := ⟨W0, Gr.refl _⟩
def GrW.next {W0 : World} (n : GrW W0) {w' : World} (b : Gr n.w w') : GrW W0 := ⟨w', n.h.trans b⟩
instance grwSome (W0 : World) : Nonempty (GrW W0) := ⟨GrW.base W0⟩
theorem GrW.cells {W0 : World} : ∀ (n : GrW W0) (b o : Nat), b < W0.heap.size → n.w.cell? ⟨b, o, none⟩ = W0.cell? ⟨b, o, none⟩ := fun n b o h => n.h.below.cell (p := ⟨b, o, none⟩) h
theorem grw_calls {P : Program} {W0 : World} {n : GrW W0} {f : FuncId} {args : Array Value} {v : Value}
    (h : Calls P f args n.w fun e w' => e = .returned v ∧ Gr n.w w') : Calls P f args n.w fun e w'' => e = .returned v ∧ ∃ m : GrW W0, w'' = m.w :=
  h.mono fun e w ⟨he, b⟩ => ⟨he, n.next b, rfl⟩
theorem grw_still {P : Program} {W0 : World} {n : GrW W0} {f : FuncId} {args : Array Value} {v : Value}
    (h : Calls P f args n.w fun e w' => e = .returned v ∧ w' = n.w) : Calls P f args n.w fun e w'' => e = .returned v ∧ ∃ m : GrW W0, w'' = m.w :=
  h.mono fun e w ⟨he, b⟩ => ⟨he, n, b⟩
/-- the first n operations are a head, those behind them a forced row -/
def headB (l : List Oper) (n : Nat) : Bool :=
  decide (n ≤ l.length) && (Region.noSelect l.toArray && (sinkL .any l.toArray (List.range n) ((List.range (l.length - n)).map (n + ·)) && (chainL .any l.toArray ((List.range (l.length - n)).map (n + ·)) &&
    (startL .any l.toArray (List.range n) ((List.range (l.length - n)).map (n + ·)) (Array.replicate l.toArray.size false) && headL .any l.toArray ((List.range (l.length - n)).map (n + ·)) (List.range n) (Array.replicate l.toArray.size false)))))
theorem take_ops (l : List Oper) (n : Nat) (h : n ≤ l.length) : (l.take n).map some = (List.range n).map (fun i => l.toArray[i]?) := by
  apply List.ext_getElem?
  intro j
  rw [List.getElem?_map, List.getElem?_map]
  by_cases hj : j < n
  · have hl : j < l.length := by omega
    rw [List.getElem?_take_of_lt hj, List.getElem?_range hj]
    simp [hl]
  · rw [List.getElem?_eq_none (by simp; omega), List.getElem?_eq_none (by simp; omega)]; rfl
theorem drop_ops (l : List Oper) (n : Nat) (h : n ≤ l.length) : (l.drop n).map some = ((List.range (l.length - n)).map (n + ·)).map (fun i => l.toArray[i]?) := by
  apply List.ext_getElem?
  intro j
  rw [List.getElem?_map, List.getElem?_map, List.getElem?_map, List.getElem?_drop]
  by_cases hj : j < l.length - n
  · have hl : n + j < l.length := by omega
    rw [List.getElem?_range hj]
    simp [hl]
  · rw [List.getElem?_eq_none (by omega), List.getElem?_eq_none (by simp; omega)]; rfl
theorem wp_region_headn {P : Program} {id : Nat} {Q : Exit → Act → World → Prop} {C : World → Prop} {a : Act} {w : World} {l : List Oper} (n : Nat)
    (hm : P.follows .mixedOrders = true) (hB : headB l n = true) (hC : C w.drew)
    (h : wpQuiet P l.toArray C (fun a' => ∀ w', C w' → wpList P l.toArray Q (l.drop n) a' w') (l.take n) a) : (Code.region id l.toArray true).wp P Q a w := by
  simp only [headB, Bool.and_eq_true, decide_eq_true_eq] at hB
  obtain ⟨hn, hB⟩ := hB
  refine wp_region_head (List.range n) ((List.range (l.length - n)).map (n + ·)) (l.take n) (l.drop n) hm (take_ops l n hn) (drop_ops l n hn) ?_ ?_ hC h
  · simp only [Bool.and_eq_true]; exact hB
  · simp; omega
theorem wp_region_grown {P : Program} {id : Nat} {Q : Exit → Act → World → Prop} {a : Act} {w : World} {l : List Oper} (n : Nat)
    (hm : P.follows .mixedOrders = true) (hB : headB l n = true)
    (h : wpQuiet P l.toArray (fun w' => ∃ m : GrW w, w' = m.w) (fun a' => ∀ w', (∃ m : GrW w, w' = m.w) → wpList P l.toArray Q (l.drop n) a' w') (l.take n) a) : (Code.region id l.toArray true).wp P Q a w :=
  wp_region_headn (C := fun w' => ∃ m : GrW w, w' = m.w) n hm hB ⟨⟨w.drew, (Gr.refl w).drew⟩, rfl⟩ h
end Go.Proofs.YtlbdoomknjiilaaDoor
