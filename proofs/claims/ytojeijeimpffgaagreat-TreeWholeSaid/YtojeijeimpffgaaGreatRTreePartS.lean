/- Statements as parts. -/
import Derived.Test.YtojeijeimpffgaaGreatRTreeStmtHas2
import Derived.Test.YtojeijeimpffgaaGreatRTreeFitsS2
namespace Go.Proofs.YtojeijeimpffgaaGreat
open Go.RowKit Go.Shelf
set_option linter.unusedVariables false
attribute [local go_sem] Oper.semAt_some

/-- two rows of one length: parts, each as its tree says -/
def AllP (W0 : World) (kv : List Value) (kt : List RT) : Prop := kv.length = kt.length ∧ ∀ (k : Nat) v t, kv[k]? = some v → kt[k]? = some t → Part W0 v t
theorem AllP.nil (W0 : World) : AllP W0 [] [] := ⟨rfl, fun k v t h => by simp at h⟩
theorem AllP.append {W0 : World} {A B : List Value} {C D : List RT} (h1 : AllP W0 A C) (h2 : AllP W0 B D) : AllP W0 (A ++ B) (C ++ D) := by
  refine ⟨by rw [List.length_append, List.length_append, h1.1, h2.1], fun k v t hv ht => ?_⟩
  by_cases hk : k < A.length
  · rw [List.getElem?_append_left hk] at hv
    rw [List.getElem?_append_left (by rw [← h1.1]; exact hk)] at ht
    exact h1.2 k v t hv ht
  · rw [List.getElem?_append_right (by omega)] at hv
    rw [List.getElem?_append_right (by rw [← h1.1]; omega), ← h1.1] at ht
    exact h2.2 _ v t hv ht
theorem AllP.ptrs {α : Type} {W0 : World} {T : TypeId} {b o wd st : Nat} {xs : List α} {f : α → RT} (h : ∀ (k : Nat) x, k < xs.length → xs[k]? = some x → Part W0 (.iface T (.agg #[.pointer (some ⟨b, o + k * wd, none⟩), .int .u8 st])) (f x)) :
    AllP W0 (ptrs T b o wd st xs.length) (xs.map f) := by
  refine ⟨by rw [ptrs_len, List.length_map], fun k v t hv ht => ?_⟩
  have hk : k < xs.length := by have := (List.getElem?_eq_some_iff.1 hv).1; rwa [ptrs_len] at this
  rw [ptrs_get hk] at hv
  obtain rfl := Option.some.inj hv
  rw [List.getElem?_map] at ht
  obtain ⟨x, hx, rfl⟩ := Option.map_eq_some_iff.1 ht
  exact h k x hk hx
theorem AllP.ptr1 {α : Type} {W0 : World} {T : TypeId} {b o wd : Nat} {xs : List α} {f : α → RT} (h : ∀ (k : Nat) x, k < xs.length → xs[k]? = some x → Part W0 (.iface T (.agg #[.pointer (some ⟨b, o + k * wd, none⟩)])) (f x)) :
    AllP W0 (ptr1 T b o wd xs.length) (xs.map f) := by
  refine ⟨by rw [ptr1_len, List.length_map], fun k v t hv ht => ?_⟩
  have hk : k < xs.length := by have := (List.getElem?_eq_some_iff.1 hv).1; rwa [ptr1_len] at this
  rw [ptr1_get hk] at hv
  obtain rfl := Option.some.inj hv
  rw [List.getElem?_map] at ht
  obtain ⟨x, hx, rfl⟩ := Option.map_eq_some_iff.1 ht
  exact h k x hk hx
theorem AllP.arms {W0 : World} : ∀ {ar : List PA} {L : List (Nat × Nat)}, (∀ (i : Nat) (a : PA), ar[i]? = some a → ∃ p, L[i]? = some p ∧ AllP W0 (Go.Proofs.YtojeijeimpffgaaGreat.ptr1 202 p.1 p.2 15 a.body.length) (rtSs a.body)) → AllP W0 (kvA ar L) (rtAs ar)
  | [], L, _ => by rw [rtAs, show kvA [] L = [] from by cases L <;> rfl]; exact AllP.nil W0
  | a :: l, [], h => by
    obtain ⟨p, hp, _⟩ := h 0 a rfl
    simp at hp
  | .mk x y bo :: l, q :: L, h => by
    obtain ⟨p, hp, h1⟩ := h 0 _ rfl
    obtain rfl : q = p := by simpa using hp
    rw [rtAs, kvA, rtA]
    exact h1.append (AllP.arms fun i a ha => by
      obtain ⟨p, hp, h2⟩ := h (i + 1) a (by simpa using ha)
      exact ⟨p, by simpa using hp, h2⟩)
set_option maxHeartbeats 1000000 in
theorem stmtWeight_calls (a : Value) (w : World) : Calls Tryz.prog 184 #[.agg #[a]] w fun e w' => e = .returned (.int .i64 (1 : Nat)) ∧ Below w.heap.size w w' := by
  go_enter Tryz.func184, Tryz.ntmps184
  go_wp2
  go_ret
  exact ⟨rfl, alloc_below _ _⟩
theorem partS_fits (v : Value) (w : World) : (method 311 202 v "weftway/tree.fits").run Tryz.prog w = .ok (182, v) w := by kernel_rfl
theorem partS_weight (v : Value) (w : World) : (method 311 202 v "weftway/tree.weight").run Tryz.prog w = .ok (184, v) w := by kernel_rfl
theorem partS_has (v : Value) (args : Array Value) (w : World) : (callMethod (.iface 202 v) "weftway/tree.has" args).run Tryz.prog w = .ok (.enter 183 (#[v] ++ args)) w := by kernel_rfl
theorem partS_ef (v : Value) (w : World) : (callFunc 182 #[v]).run Tryz.prog w = .ok (.enter 182 #[v]) w := by kernel_rfl
theorem partS_ew (v : Value) (w : World) : (callFunc 184 #[v]).run Tryz.prog w = .ok (.enter 184 #[v]) w := by kernel_rfl
theorem inExprs_le (op : Int) : inExprs op ≤ 3 := by unfold inExprs; split <;> omega
theorem allPE {B : Nat} {W0 : World} (hB : B ≤ W0.heap.size) (hm : MaxOk W0) {xs : List PE} {v : Value} {b o st : Nat} (s : SlV B v xs.length b o) (r : PE.Row B W0 b o xs) (hst : st ≤ 3) : AllP W0 (ptrs 114 b o 8 st xs.length) (rtEs xs st) := by
  rw [rtEs_map]
  refine AllP.ptrs fun k x hk hx => ?_
  obtain ⟨_, ao, cap, _, hsl⟩ := s
  obtain ⟨_, hb1⟩ := hsl.resolve_left (by omega)
  obtain ⟨vx, cx, ix⟩ := PE.Row.get r hx
  exact partE hB hm x st b (o + k * 8) vx hst (by omega) cx ix
/-- a statement in memory is a part -/
theorem partS {B : Nat} {W0 : World} (hB : B ≤ W0.heap.size) (hm : MaxOk W0) : ∀ (t : PS) (b o : Nat) (v : VS), b < W0.heap.size → CellsAt W0 b o (t.cells v) → t.In B W0 v →
    Part W0 (.iface 202 (.agg #[.pointer (some ⟨b, o, none⟩)])) (rtS t) := by
  intro t
  generalize hn : SizeOf.sizeOf t = n
  induction n using Nat.strongRecOn generalizing t with
  | _ n ih =>
    intro b o v hb hc ht
    obtain ⟨a1, n1, c1, a2, n2, c2, a3, n3, c3, a4, n4, c4, a5, n5, c5, a6, n6, c6, a7, n7, c7, rfl⟩ := ht.shape
    obtain ⟨op, nm, sc, ns, ty, int, pl, es, bo, el, ar, pos⟩ := t
    simp only [PS.mk.sizeOf_spec] at hn
    have ht0 := ht
    obtain ⟨h1, h2, hty, h4, ⟨b4, o4, s4, r4⟩, ⟨b5, o5, s5, r5⟩, ⟨b6, o6, s6, r6⟩, b7, o7, s7, r7⟩ := ht
    obtain ⟨L, hL, hA⟩ := armRows r7
    have row : ∀ (l : List PS) (v : Value) (b o : Nat), SizeOf.sizeOf l < n → SlV B v l.length b o → PS.Row B W0 b o l → AllP W0 (ptr1 202 b o 15 l.length) (rtSs l) := fun l v b o hl s r => by
      rw [rtSs_map]
      refine AllP.ptr1 fun k x hk hx => ?_
      obtain ⟨_, ao, cap, _, hsl⟩ := s
      obtain ⟨_, hb1⟩ := hsl.resolve_left (by omega)
      obtain ⟨vx, cx, ix⟩ := PS.Row.get r hx
      have := List.sizeOf_lt_of_mem (List.mem_of_getElem? hx)
      exact ih (SizeOf.sizeOf x) (by omega) x rfl b (o + k * 15) vx (by omega) cx ix
    have all : AllP W0 ((if op = 12 then [.iface 111 (.agg #[.pointer (some ⟨b, o + 4, none⟩), .int .u8 0])] else [] : List Value) ++ (ptrs 114 b4 o4 8 (inExprs op) es.length ++ (ptr1 202 b5 o5 15 bo.length ++ (ptr1 202 b6 o6 15 el.length ++ kvA ar L))))
        ((if op = 12 then [rtT ty 0] else []) ++ (rtEs es (inExprs op) ++ (rtSs bo ++ (rtSs el ++ rtAs ar)))) := by
      refine AllP.append ?_ ((allPE hB hm s4 r4 (inExprs_le op)).append ((row bo _ b5 o5 (by omega) s5 r5).append ((row el _ b6 o6 (by omega) s6 r6).append (AllP.arms fun i a ha => ?_))))
      · by_cases hop : op = 12
        · rw [if_pos hop, if_pos hop]
          refine ⟨rfl, fun k v t hv ht => ?_⟩
          cases k with
          | zero =>
            obtain rfl := Option.some.inj hv
            obtain rfl := Option.some.inj ht
            refine partT hB hm ty 0 b (o + 4) _ (by omega) hb ?_ hty
            intro i v hi
            rcases i with _ | _ | _ | i <;> simp [PT.cells] at hi <;> subst hi
            · exact hc 4 _ rfl
            · exact hc 5 _ rfl
            · exact hc 6 _ rfl
          | succ k => simp at hv
        · rw [if_neg hop, if_neg hop]; exact AllP.nil W0
      · obtain ⟨x, y, c, p, hp, hcc, hs, hr⟩ := hA i a ha
        have h0 := List.sizeOf_lt_of_mem (List.mem_of_getElem? ha)
        obtain ⟨vn, an, bb⟩ := a
        simp only [PA.mk.sizeOf_spec] at h0
        exact ⟨p, hp, row bb _ p.1 p.2 (by omega) hs hr⟩
    rw [rtS]
    exact Part.mk 202 _ 182 183 184 _ _ _ _ (partS_fits _) (fun a w => partS_has _ a w) (partS_weight _) (partS_ef _) (partS_ew _)
      (fun W h => stmtFits_calls B op nm sc ns ty int pl es bo el ar pos a1 a2 a3 a4 a5 a6 a7 n1 n2 n3 n4 n5 n6 n7 c1 c2 c3 c4 c5 c6 c7 b o W (by have := h.size; omega) (hm.below h) (by have := h.size; omega) (hc.below hb h) (PS.In.below (h.mono hB) ht0))
      (fun W h => stmtWeight_calls _ W)
      (fun lo W g1 g2 g3 => stmtHas_hands B lo op nm sc ty int pl es bo el ar pos a1 a2 a3 a4 a5 a6 a7 n1 n2 n3 n4 n5 n6 n7 c1 c2 c3 c4 c5 c6 c7 b o W (by omega) g2 (by omega) (hc.below hb g3) b4 o4 b5 o5 b6 o6 b7 o7 s4 s5 s6 s7 L hL fun i a ha => by
        obtain ⟨x, y, c, p, hp, hcc, hs, _⟩ := hA i a ha
        have hb7 : b7 < B := by
          obtain ⟨_, _, _, _, h⟩ := s7
          exact (h.resolve_left (by have := (List.getElem?_eq_some_iff.1 ha).1; omega)).2
        exact ⟨x, y, c, p, hp, hcc.below (by omega) g3, hs⟩)
      all.1 all.2
end Go.Proofs.YtojeijeimpffgaaGreat

