/- Statements as parts. -/
import Derived.Test.YthilicmhdkmipaaGreatDoorITreeStmtHas2
import Derived.Test.YthilicmhdkmipaaGreatDoorITreeFitsS2
import Derived.Shelf.RegionOpen
import Derived.Sort.CutIn
import Derived.Test.YthilicmhdkmipaaGreatDoorIJoinAO
namespace Go.Proofs.YthilicmhdkmipaaGreatDoor
open Go.RowKit Go.Shelf
set_option linter.unusedVariables false
attribute [local go_sem] Oper.semAt_some

/-- two rows of one length: parts, each as its tree says -/
def AllP (W0 : World) (kv : List Value) (kt : List RT) : Prop := kv.length = kt.length ∧ ∀ (k : Nat) v t, kv[k]? = some v → kt[k]? = some t → Part W0 v t
theorem AllP.nil (W0 : World) : AllP W0 [] [] := ⟨rfl, fun k v t h => by simp at h⟩
theorem AllP.append {W0 : World} {A B : List Value} {C D : List RT} (h1 : AllP W0 A C) (h2 : AllP W0 B D) : AllP W0 (A ++ B) (C ++ D) := by
  refine ⟨by rw [List.length_append, List.length_append, h1.1, h2.1], fun k v t hv ht => ?_⟩
  by_cases hk : k < A.length
  · rw [List.getElem?_append_left hk] at hv
    rw [List.getElem?_append_left (by rw [← h1.1]; exact hk)] at ht
    exact h1.2 k v t hv ht
  · rw [List.getElem?_append_right (by omega)] at hv
    rw [List.getElem?_append_right (by rw [← h1.1]; omega), ← h1.1] at ht
    exact h2.2 _ v t hv ht
theorem AllP.ptrs {α : Type} {W0 : World} {T : TypeId} {b o wd st : Nat} {xs : List α} {f : α → RT} (h : ∀ (k : Nat) x, k < xs.length → xs[k]? = some x → Part W0 (.iface T (.agg #[.pointer (some ⟨b, o + k * wd, none⟩), .int .u8 st])) (f x)) :
    AllP W0 (ptrs T b o wd st xs.length) (xs.map f) := by
  refine ⟨by rw [ptrs_len, List.length_map], fun k v t hv ht => ?_⟩
  have hk : k < xs.length := by have := (List.getElem?_eq_some_iff.1 hv).1; rwa [ptrs_len] at this
  rw [ptrs_get hk] at hv
  obtain rfl := Option.some.inj hv
  rw [List.getElem?_map] at ht
  obtain ⟨x, hx, rfl⟩ := Option.map_eq_some_iff.1 ht
  exact h k x hk hx
theorem AllP.ptr1 {α : Type} {W0 : World} {T : TypeId} {b o wd : Nat} {xs : List α} {f : α → RT} (h : ∀ (k : Nat) x, k < xs.length → xs[k]? = some x → Part W0 (.iface T (.agg #[.pointer (some ⟨b, o + k * wd, none⟩)])) (f x)) :
    AllP W0 (ptr1 T b o wd xs.length) (xs.map f) := by
  refine ⟨by rw [ptr1_len, List.length_map], fun k v t hv ht => ?_⟩
  have hk : k < xs.length := by have := (List.getElem?_eq_some_iff.1 hv).1; rwa [ptr1_len] at this
  rw [ptr1_get hk] at hv
  obtain rfl := Option.some.inj hv
  rw [List.getElem?_map] at ht
  obtain ⟨x, hx, rfl⟩ := Option.map_eq_some_iff.1 ht
  exact h k x hk hx
theorem AllP.arms {W0 : World} : ∀ {ar : List PA} {L : List (Nat × Nat)}, (∀ (i : Nat) (a : PA), ar[i]? = some a → ∃ p, L[i]? = some p ∧ AllP W0 (Go.Proofs.YthilicmhdkmipaaGreatDoor.ptr1 301 p.1 p.2 15 a.body.length) (rtSs a.body)) → AllP W0 (kvA ar L) (rtAs ar)
  | [], L, _ => by rw [rtAs, show kvA [] L = [] from by cases L <;> rfl]; exact AllP.nil W0
  | a :: l, [], h => by
    obtain ⟨p, hp, _⟩ := h 0 a rfl
    simp at hp
  | .mk x y bo :: l, q :: L, h => by
    obtain ⟨p, hp, h1⟩ := h 0 _ rfl
    obtain rfl : q = p := by simpa using hp
    rw [rtAs, kvA, rtA]
    exact h1.append (AllP.arms fun i a ha => by
      obtain ⟨p, hp, h2⟩ := h (i + 1) a (by simpa using ha)
      exact ⟨p, by simpa using hp, h2⟩)
set_option maxHeartbeats 1000000 in
theorem stmtWeight_calls (a : Value) (hs : Sized) (w : World) : Calls Tryz.prog 269 #[.agg #[a]] w fun e w' => e = .returned (.int .i64 (1 : Nat)) ∧ Below w.heap.size w w' := by
  first
  | exact (show False from hs).elim
  | skip
    go_enter Tryz.func269, Tryz.ntmps269
    go_wp2
    go_ret
    exact ⟨rfl, alloc_below _ _⟩

theorem partS_fits (v : Value) (w : World) : (method 410 301 v "weftway/tree.fits").run Tryz.prog w = .ok (267, v) w := by kernel_rfl
theorem partS_weight (v : Value) (h : Sized) (w : World) : (method 410 301 v "weftway/tree.weight").run Tryz.prog w = .ok (269, v) w := by first | exact (show False from h).elim | kernel_rfl
theorem partS_has (v : Value) (args : Array Value) (w : World) : (callMethod (.iface 301 v) "weftway/tree.has" args).run Tryz.prog w = .ok (.enter 268 (#[v] ++ args)) w := by kernel_rfl
theorem partS_ef (v : Value) (w : World) : (callFunc 267 #[v]).run Tryz.prog w = .ok (.enter 267 #[v]) w := by kernel_rfl
theorem partS_ew (v : Value) (h : Sized) (w : World) : (callFunc 269 #[v]).run Tryz.prog w = .ok (.enter 269 #[v]) w := by first | exact (show False from h).elim | kernel_rfl
theorem inExprs_le (op : Int) : inExprs op ≤ 3 := by unfold inExprs; split <;> omega
theorem allPE {B : Nat} {W0 : World} (hB : B ≤ W0.heap.size) (hm : MaxOk W0) {xs : List PE} {v : Value} {b o st : Nat} (s : SlV B v xs.length b o) (r : PE.Row B W0 b o xs) (hst : st ≤ 3) : AllP W0 (ptrs 160 b o 8 st xs.length) (rtEs xs st) := by
  rw [rtEs_map]
  refine AllP.ptrs fun k x hk hx => ?_
  obtain ⟨_, ao, cap, _, hsl⟩ := s
  obtain ⟨_, hb1⟩ := hsl.resolve_left (by omega)
  obtain ⟨vx, cx, ix⟩ := PE.Row.get r hx
  exact partE hB hm x st b (o + k * 8) vx hst (by omega) cx ix
/-- a statement in memory is a part -/
theorem partS {B : Nat} {W0 : World} (hB : B ≤ W0.heap.size) (hm : MaxOk W0) : ∀ (t : PS) (b o : Nat) (v : VS), b < W0.heap.size → CellsAt W0 b o (t.cells v) → t.In B W0 v →
    Part W0 (.iface 301 (.agg #[.pointer (some ⟨b, o, none⟩)])) (rtS t) := by
  intro t
  generalize hn : SizeOf.sizeOf t = n
  induction n using Nat.strongRecOn generalizing t with
  | _ n ih =>
    intro b o v hb hc ht
    obtain ⟨a1, n1, c1, a2, n2, c2, a3, n3, c3, a4, n4, c4, a5, n5, c5, a6, n6, c6, a7, n7, c7, rfl⟩ := ht.shape
    obtain ⟨op, nm, sc, ns, ty, int, pl, es, bo, el, ar, pos⟩ := t
    simp only [PS.mk.sizeOf_spec] at hn
    have ht0 := ht
    obtain ⟨h1, h2, hty, h4, ⟨b4, o4, s4, r4⟩, ⟨b5, o5, s5, r5⟩, ⟨b6, o6, s6, r6⟩, b7, o7, s7, r7⟩ := ht
    obtain ⟨L, hL, hA⟩ := armRows r7
    have row : ∀ (l : List PS) (v : Value) (b o : Nat), SizeOf.sizeOf l < n → SlV B v l.length b o → PS.Row B W0 b o l → AllP W0 (ptr1 301 b o 15 l.length) (rtSs l) := fun l v b o hl s r => by
      rw [rtSs_map]
      refine AllP.ptr1 fun k x hk hx => ?_
      obtain ⟨_, ao, cap, _, hsl⟩ := s
      obtain ⟨_, hb1⟩ := hsl.resolve_left (by omega)
      obtain ⟨vx, cx, ix⟩ := PS.Row.get r hx
      have := List.sizeOf_lt_of_mem (List.mem_of_getElem? hx)
      exact ih (SizeOf.sizeOf x) (by omega) x rfl b (o + k * 15) vx (by omega) cx ix
    have all : AllP W0 ((if op = 12 then [.iface 155 (.agg #[.pointer (some ⟨b, o + 4, none⟩), .int .u8 0])] else [] : List Value) ++ (ptrs 160 b4 o4 8 (inExprs op) es.length ++ (ptr1 301 b5 o5 15 bo.length ++ (ptr1 301 b6 o6 15 el.length ++ kvA ar L))))
        ((if op = 12 then [rtT ty 0] else []) ++ (rtEs es (inExprs op) ++ (rtSs bo ++ (rtSs el ++ rtAs ar)))) := by
      refine AllP.append ?_ ((allPE hB hm s4 r4 (inExprs_le op)).append ((row bo _ b5 o5 (by omega) s5 r5).append ((row el _ b6 o6 (by omega) s6 r6).append (AllP.arms fun i a ha => ?_))))
      · by_cases hop : op = 12
        · rw [if_pos hop, if_pos hop]
          refine ⟨rfl, fun k v t hv ht => ?_⟩
          cases k with
          | zero =>
            obtain rfl := Option.some.inj hv
            obtain rfl := Option.some.inj ht
            refine partT hB hm ty 0 b (o + 4) _ (by omega) hb ?_ hty
            intro i v hi
            rcases i with _ | _ | _ | i <;> simp [PT.cells] at hi <;> subst hi
            · exact hc 4 _ rfl
            · exact hc 5 _ rfl
            · exact hc 6 _ rfl
          | succ k => simp at hv
        · rw [if_neg hop, if_neg hop]; exact AllP.nil W0
      · obtain ⟨x, y, c, p, hp, hcc, hs, hr⟩ := hA i a ha
        have h0 := List.sizeOf_lt_of_mem (List.mem_of_getElem? ha)
        obtain ⟨vn, an, bb⟩ := a
        simp only [PA.mk.sizeOf_spec] at h0
        exact ⟨p, hp, row bb _ p.1 p.2 (by omega) hs hr⟩
    rw [rtS]
    exact Part.mk 301 _ 267 268 269 _ _ _ _ (partS_fits _) (fun a w => partS_has _ a w) (partS_weight _) (partS_ef _) (partS_ew _)
      (fun W h => stmtFits_calls B op nm sc ns ty int pl es bo el ar pos a1 a2 a3 a4 a5 a6 a7 n1 n2 n3 n4 n5 n6 n7 c1 c2 c3 c4 c5 c6 c7 b o W (by have := h.size; omega) (hm.below h) (by have := h.size; omega) (hc.below hb h) (PS.In.below (h.mono hB) ht0))
      (fun hs W h => stmtWeight_calls _ hs W)
      (fun lo W g1 g2 g3 => stmtHas_hands B lo op nm sc ty int pl es bo el ar pos a1 a2 a3 a4 a5 a6 a7 n1 n2 n3 n4 n5 n6 n7 c1 c2 c3 c4 c5 c6 c7 b o W (by omega) g2 (by omega) (hc.below hb g3) b4 o4 b5 o5 b6 o6 b7 o7 s4 s5 s6 s7 L hL fun i a ha => by
        obtain ⟨x, y, c, p, hp, hcc, hs, _⟩ := hA i a ha
        have hb7 : b7 < B := by
          obtain ⟨_, _, _, _, h⟩ := s7
          exact (h.resolve_left (by have := (List.getElem?_eq_some_iff.1 ha).1; omega)).2
        exact ⟨x, y, c, p, hp, hcc.below (by omega) g3, hs⟩)
      all.1 all.2
end Go.Proofs.YthilicmhdkmipaaGreatDoor
/- The parts that a program has: (program).has hands them out; what the walk of (item).has leans on. -/
namespace Go.Proofs.YthilicmhdkmipaaGreatDoor
open Go.RowKit Go.Shelf
set_option linter.unusedVariables false
attribute [local go_sem] Oper.semAt_some

set_option maxHeartbeats 2000000 in
theorem progHas_hands (B lo : Nat) (n b1 o1 : Nat) (ao : Option Addr) (cap b : Nat) (w : World) (hB : B ≤ lo) (hlo : lo ≤ w.heap.size) (hb : b < lo) (hc : w.cell? ⟨b, 0, none⟩ = some (.slice ao n cap)) (s1 : SlV B (.slice ao n cap) n b1 o1) :
    Hands Tryz.prog lo 242 (.agg #[.pointer (some ⟨b, 0, none⟩)]) (ptr1 281 b1 o1 16 n) w := by
  intro m l J Jx hJ hJx hR h0
  obtain ⟨m1, _, _, e1, h1⟩ := s1
  injection e1 with e11 e12 e13
  subst e11; subst e13
  unfold maxLen at m1
  rw [ptr1_len]
  have hbw : b < w.heap.size := by omega
  have HJ := Lib.hid hJ
  have HJx := Lib.hid hJx
  have HR := Lib.hid hR
  have H1 := Lib.hid h1
  clear hJ hJx hR h1 e12
  refine callsIn_of_wp Tryz.func242 rfl trivial ?_ rfl
  simp only [Tryz.ntmps242, List.size_toArray, List.length_cons, List.length_nil, Nat.reduceAdd, Nat.reduceSub, Array.replicate_succ, Array.replicate_zero, List.push_toArray, List.append_toArray, List.nil_append, List.cons_append]
  gi_wp2
  gi_loopw [11] (fun i wr => ∃ k : Nat, k ≤ n ∧ i = .int .i64 k ∧ w.heap.size < wr.heap.size ∧ wr.cell? ⟨b, 0, none⟩ = some (.slice ao n cap) ∧ wr.cell? ⟨w.heap.size, 0, none⟩ = some (.pointer (some ⟨b, 0, none⟩)) ∧ Hid (J k wr))
    (fun i _ => n - (intOf i).toNat)
  case atStart => exact ⟨0, by omega, rfl, by simp, by go_simp, by go_simp, Lib.hid (HJ.out _ _ _ h0 ((Below.refl _ w).alloc (Nat.le_refl _) _))⟩
  case round =>
    obtain ⟨k, hk, rfl, hsz, hc2, hcb, HK⟩ := hrel
    by_cases hlt : k < n
    · obtain ⟨rfl, hb1⟩ := H1.out.resolve_left (by omega)
      have g : b < wr.heap.size := by omega
      obtain ⟨fn, tmps, assign, body, hy0, hRd⟩ := HR.out k _ wr (ptr1_get hlt) (by omega) HK.out
      have hy : (Instr.yield l #[.iface 281 (.agg #[.pointer (some ⟨b1, o1 + k * 16, none⟩)])]).run Tryz.prog wr = .ok (.round l fn tmps assign body) wr := hy0
      clear hy0
      gi_wp2
      refine ⟨fun h => (by simp [Fence.wide] at h), (RoundIn.anyDepth hRd).mono ?_⟩
      rintro e W' (⟨rfl, hj, hkp⟩ | ⟨rfl, hjx, _⟩)
      · have d2 := (hkp.cell (p := ⟨b, 0, none⟩) g (.inl hb)).trans hc2
        have db := (hkp.cell (p := ⟨w.heap.size, 0, none⟩) hsz (.inr (Nat.le_refl _))).trans hcb
        have hsz2 : w.heap.size < W'.heap.size := by have := hkp.size; omega
        have HK2 := Lib.hid hj
        clear hRd hy hc2 hcb hkp hj
        gi_wp2
        go_roundw
        case rel => exact ⟨k + 1, by omega, by go_num, hsz2, d2, db, HK2⟩
        case measure => simp [intOf]; omega
      · gi_wp2
        refine bodyPost_ret (results_none rfl _ _ _) rfl ?_
        exact ⟨⟨_, rfl⟩, .inr ⟨k, hlt, hjx⟩⟩
    · obtain rfl : k = n := by omega
      gi_wp2
      go_end0
      exact ⟨⟨_, rfl⟩, .inl HK.out⟩

/-- pointers to the types of a row of fields -/
def kvF (b o st n : Nat) : List Value := (List.range n).map fun k => .iface 155 (.agg #[.pointer (some ⟨b, o + k * 4 + 1, none⟩), .int .u8 st])
theorem kvF_get {b o st n k : Nat} (h : k < n) : (kvF b o st n)[k]? = some (.iface 155 (.agg #[.pointer (some ⟨b, o + k * 4 + 1, none⟩), .int .u8 st])) := by simp [kvF, h]
theorem kvF_len (b o st n : Nat) : (kvF b o st n).length = n := by simp [kvF]
/-- one round, wherever so many have come -/
theorem roundAt {m l lo hi N a : Nat} {kv : List Value} {x : Value} {J Jx : Nat → World → Prop} {W0 W : World} (hhi : hi ≤ W0.heap.size) (hv : kv[a]? = some x) (hN : kv.length = N)
    (hR : Rounds Tryz.prog m l lo hi kv J Jx) (h : StInv J lo hi W0 a W) :
    ∃ fn tmps assign body, (Instr.yield l #[x]).run Tryz.prog W = .ok (.round l fn tmps assign body) W ∧ RoundIn Fence.wide m Tryz.prog l fn tmps assign body W fun e W' => ∃ t : Bool, e = .returned (.bool t) ∧ Hid (if t = true then StInv J lo hi W0 (a + 1) W' else ((∃ k, k < N ∧ Jx k W') ∧ Keeps lo hi W0 W')) := by
  obtain ⟨fn, tmps, assign, body, hy, hRd⟩ := hR a x W hv (by have := h.size; omega) h.1
  refine ⟨fn, tmps, assign, body, hy, hRd.mono ?_⟩
  have ha : a < N := by rw [← hN]; exact (List.getElem?_eq_some_iff.1 hv).1
  rintro e W' (⟨rfl, hj, hk⟩ | ⟨rfl, hx, hk⟩)
  · exact ⟨true, rfl, Lib.hid (by rw [if_pos rfl]; exact ⟨hj, h.2.trans hk⟩)⟩
  · exact ⟨false, rfl, Lib.hid (by rw [if_neg (by simp)]; exact ⟨⟨a, ha, hx⟩, h.2.trans hk⟩)⟩
theorem take_listIn {F : Fence} {n : Nat} {P : Program} {md : Region.Mode} {l : List Oper} {Q : Exit → Act → World → Prop} {i : Nat} {oi : Oper} {v : Value} {fuel : Nat} {listed : Array Bool} {a : Act} {w : World} (hro : F.round = none) (hi : l[i]? = some oi)
    (hs : Region.noSelect l.toArray = true) (hf : Region.free md l.toArray listed i = true) (hr : (Region.ready md l.toArray listed).contains i = true)
    (hQ : ∀ c a w, Q (.panic c) (a.put oi.dst v) w → Q (.panic c) a w) (hy : YieldsFenced P l.toArray oi v a)
    (h : wpAnyIn F n P md l.toArray Q fuel (listed.setIfInBounds i true) (a.put oi.dst v) w) : wpAnyIn F n P md l.toArray Q (fuel + 1) listed a w :=
  wpAnyIn_take hro (by simpa using hi) hs hf hr hQ hy h
end Go.Proofs.YthilicmhdkmipaaGreatDoor
/- The document's own way of saying what is whole, third part: what an expression's walk asks of the ones that it calls. -/
namespace Go.Proofs.YthilicmhdkmipaaGreatDoor
open Go.RowKit
set_option linter.unusedVariables false

/-- rSh, at a form -/
def rShF (f : List UInt8) (e : PE) : Bool := manyL f e.args.length && (rInt f e && (rPlace f e && (rName f e && rSecond f e)))
def RefWEAt (n : Nat) : Prop := ∀ (B : Nat) (e : PE) (v : VE) (w : World), B ≤ w.heap.size → e.In B w v →
  Calls Tryz.prog 21 #[.agg (e.cells v).toArray, .int .i64 n] w fun r w' => r = .returned (.bool (rE n e)) ∧ Below w.heap.size w w'
end Go.Proofs.YthilicmhdkmipaaGreatDoor
