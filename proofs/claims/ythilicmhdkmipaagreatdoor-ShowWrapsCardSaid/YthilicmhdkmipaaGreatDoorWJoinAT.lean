/- Types and expressions as parts. -/
import Derived.Test.YthilicmhdkmipaaGreatDoorWJoinAS
import Derived.Test.YthilicmhdkmipaaGreatDoorWJoinAC
import Derived.Test.YthilicmhdkmipaaGreatDoorWJoinAR
import Derived.Shelf.RegionOpen
namespace Go.Proofs.YthilicmhdkmipaaGreatDoor
open Go.RowKit Go.Shelf
set_option linter.unusedVariables false
attribute [local go_sem] Oper.semAt_some

mutual
def rtT : PT → Nat → RT
  | .mk k n xs, st => .mk (fitT (.mk k n xs) st) 0 (rtTs xs)
def rtTs : List PT → List RT
  | [] => []
  | t :: l => rtT t 0 :: rtTs l
end
theorem rtTs_map : ∀ l, rtTs l = l.map (fun t => rtT t 0)
  | [] => by rw [rtTs]; rfl
  | t :: l => by rw [rtTs, rtTs_map l]; rfl
mutual
def rtE : PE → Nat → RT
  | .mk op i n s p xs pos, st => .mk (fitE (.mk op i n s p xs pos) st) (if st = 3 then 0 else 1) (rtEs xs (inArgs (.mk op i n s p [] pos) st))
def rtEs : List PE → Nat → List RT
  | [], _ => []
  | e :: l, st => rtE e st :: rtEs l st
end
theorem rtEs_map (st : Nat) : ∀ l, rtEs l st = l.map (fun t => rtE t st)
  | [] => by rw [rtEs]; rfl
  | t :: l => by rw [rtEs, rtEs_map st l]; rfl
theorem alloc_below (w : World) (o : Obj) : Below w.heap.size w (w.alloc o) := (Below.refl _ w).alloc (Nat.le_refl _) _
set_option maxHeartbeats 1000000 in
theorem typedWeight_calls (a : Value) (st : Int) (hs : Sized) (w : World) : Calls Tryz.prog 281 #[.agg #[a, .int .u8 st]] w fun e w' => e = .returned (.int .i64 (0 : Nat)) ∧ Below w.heap.size w w' := by
  first
  | exact (show False from hs).elim
  | skip
    go_enter Tryz.func281, Tryz.ntmps281
    go_wp2
    go_ret
    exact ⟨rfl, alloc_below _ _⟩

set_option maxHeartbeats 1000000 in
theorem exprWeight_calls (a : Value) (st : Nat) (hs : Sized) (w : World) : Calls Tryz.prog 282 #[.agg #[a, .int .u8 st]] w fun e w' => e = .returned (.int .i64 (if st = 3 then 0 else 1 : Nat)) ∧ Below w.heap.size w w' := by
  first
  | exact (show False from hs).elim
  | skip
    by_cases h : st = 3
    · subst h
      show Calls Tryz.prog 282 #[.agg #[a, .int .u8 3]] w _
      go_enter Tryz.func282, Tryz.ntmps282
      go_wp2
      go_ret
      exact ⟨rfl, alloc_below _ _⟩
    · rw [if_neg h]
      have n3 : ((st : Int) == 3) = false := beq_eq_false_iff_ne.2 (by omega)
      go_enter Tryz.func282, Tryz.ntmps282
      go_wp2
      go_ret
      exact ⟨rfl, alloc_below _ _⟩

theorem partT_fits (v : Value) (w : World) : (method 410 155 v "weftway/tree.fits").run Tryz.prog w = .ok (244, v) w := by kernel_rfl
theorem partT_weight (v : Value) (h : Sized) (w : World) : (method 410 155 v "weftway/tree.weight").run Tryz.prog w = .ok (281, v) w := by first | exact (show False from h).elim | kernel_rfl
theorem partT_has (v : Value) (args : Array Value) (w : World) : (callMethod (.iface 155 v) "weftway/tree.has" args).run Tryz.prog w = .ok (.enter 245 (#[v] ++ args)) w := by kernel_rfl
theorem partT_ef (v : Value) (w : World) : (callFunc 244 #[v]).run Tryz.prog w = .ok (.enter 244 #[v]) w := by kernel_rfl
theorem partT_ew (v : Value) (h : Sized) (w : World) : (callFunc 281 #[v]).run Tryz.prog w = .ok (.enter 281 #[v]) w := by first | exact (show False from h).elim | kernel_rfl
theorem partE_fits (v : Value) (w : World) : (method 410 160 v "weftway/tree.fits").run Tryz.prog w = .ok (247, v) w := by kernel_rfl
theorem partE_weight (v : Value) (h : Sized) (w : World) : (method 410 160 v "weftway/tree.weight").run Tryz.prog w = .ok (282, v) w := by first | exact (show False from h).elim | kernel_rfl
theorem partE_has (v : Value) (args : Array Value) (w : World) : (callMethod (.iface 160 v) "weftway/tree.has" args).run Tryz.prog w = .ok (.enter 248 (#[v] ++ args)) w := by kernel_rfl
theorem partE_ef (v : Value) (w : World) : (callFunc 247 #[v]).run Tryz.prog w = .ok (.enter 247 #[v]) w := by kernel_rfl
theorem partE_ew (v : Value) (h : Sized) (w : World) : (callFunc 282 #[v]).run Tryz.prog w = .ok (.enter 282 #[v]) w := by first | exact (show False from h).elim | kernel_rfl

theorem inArgs_le3 (e : PE) {st : Nat} (h : st ≤ 3) : inArgs e st ≤ 3 := by
  unfold inArgs
  split
  · omega
  · split <;> omega
/-- a type in memory is a part -/
theorem partT {B : Nat} {W0 : World} (hB : B ≤ W0.heap.size) (hm : MaxOk W0) : ∀ (t : PT) (st b o : Nat) (v : Value), st ≤ 3 → b < W0.heap.size → CellsAt W0 b o (t.cells v) → t.In B W0 v →
    Part W0 (.iface 155 (.agg #[.pointer (some ⟨b, o, none⟩), .int .u8 st])) (rtT t st) := by
  intro t
  generalize hn : SizeOf.sizeOf t = n
  induction n using Nat.strongRecOn generalizing t with
  | _ n ih =>
    intro st b o v hst hb hc ht
    obtain ⟨k, nm, xs⟩ := t
    simp only [PT.mk.sizeOf_spec] at hn
    obtain ⟨b1, o1, s1, r1⟩ : ∃ b1 o1, SlV B v xs.length b1 o1 ∧ PT.Row B W0 b1 o1 xs := ht.2
    rw [rtT]
    refine Part.mk 155 _ 244 245 281 _ _ (ptrs 155 b1 o1 3 0 xs.length) _ (partT_fits _) (fun a w => partT_has _ a w) (partT_weight _) (partT_ef _) (partT_ew _)
      (fun W h => typedFits_calls B (.mk k nm xs) st b o v W hst (by have := h.size; omega) (hm.below h) (by have := h.size; omega) (hc.below hb h) (PT.In.below (h.mono hB) ht))
      (fun hs W h => typedWeight_calls _ _ hs W)
      (fun lo W h1 h2 h3 => typedHas_hands B lo (.mk k nm xs) st b o v W (by omega) h2 (by omega) (hc.below hb h3) (PT.In.below (h3.mono hB) ht) b1 o1 s1)
      (by rw [ptrs_len, rtTs_map, List.length_map]) (fun j v' t' h1 h2 => ?_)
    have hj : j < xs.length := by
      have := (List.getElem?_eq_some_iff.1 h1).1
      rwa [ptrs_len] at this
    rw [ptrs_get hj] at h1
    obtain rfl := Option.some.inj h1
    rw [rtTs_map, List.getElem?_map] at h2
    obtain ⟨x, hx, rfl⟩ := Option.map_eq_some_iff.1 h2
    have hmem := List.mem_of_getElem? hx
    obtain ⟨_, ao, cap, _, hsl⟩ := s1
    obtain ⟨_, hb1⟩ := hsl.resolve_left (by omega)
    obtain ⟨vx, cx, ix⟩ := PT.Row.get r1 hx
    have := List.sizeOf_lt_of_mem hmem
    exact ih (SizeOf.sizeOf x) (by omega) x rfl 0 b1 (o1 + j * 3) vx (by omega) (by omega) cx ix
/-- an expression in memory is a part -/
theorem partE {B : Nat} {W0 : World} (hB : B ≤ W0.heap.size) (hm : MaxOk W0) : ∀ (t : PE) (st b o : Nat) (v : VE), st ≤ 3 → b < W0.heap.size → CellsAt W0 b o (t.cells v) → t.In B W0 v →
    Part W0 (.iface 160 (.agg #[.pointer (some ⟨b, o, none⟩), .int .u8 st])) (rtE t st) := by
  intro t
  generalize hn : SizeOf.sizeOf t = n
  induction n using Nat.strongRecOn generalizing t with
  | _ n ih =>
    intro st b o v hst hb hc ht
    obtain ⟨p0, n0, q0, p1, n1, q1, rfl⟩ := ht.shape
    obtain ⟨op, iv, nm, sc, pl, xs, ps⟩ := t
    simp only [PE.mk.sizeOf_spec] at hn
    obtain ⟨b1, o1, s1, r1⟩ : ∃ b1 o1, SlV B (.slice p1 n1 q1) xs.length b1 o1 ∧ PE.Row B W0 b1 o1 xs := ht.2.2
    rw [rtE]
    refine Part.mk 160 _ 247 248 282 _ _ (ptrs 160 b1 o1 8 (inArgs (.mk op iv nm sc pl [] ps) st) xs.length) _ (partE_fits _) (fun a w => partE_has _ a w) (partE_weight _) (partE_ef _) (partE_ew _)
      (fun W h => exprFits_calls B op iv nm sc pl xs ps p0 n0 q0 p1 n1 q1 st b o W hst (by have := h.size; omega) (hm.below h) (by have := h.size; omega) (hc.below hb h) (PE.In.below (h.mono hB) ht))
      (fun hs W h => exprWeight_calls _ _ hs W)
      (fun lo W h1 h2 h3 => exprHas_hands B lo (.mk op iv nm sc pl xs ps) st b o ⟨.slice p0 n0 q0, .slice p1 n1 q1⟩ W (by omega) h2 (by omega) hst (hc.below hb h3) (PE.In.below (h3.mono hB) ht) b1 o1 s1)
      (by rw [ptrs_len, rtEs_map, List.length_map]) (fun j v' t' h1 h2 => ?_)
    have hj : j < xs.length := by
      have := (List.getElem?_eq_some_iff.1 h1).1
      rwa [ptrs_len] at this
    rw [ptrs_get hj] at h1
    obtain rfl := Option.some.inj h1
    rw [rtEs_map, List.getElem?_map] at h2
    obtain ⟨x, hx, rfl⟩ := Option.map_eq_some_iff.1 h2
    have hmem := List.mem_of_getElem? hx
    obtain ⟨_, ao, cap, _, hsl⟩ := s1
    obtain ⟨_, hb1⟩ := hsl.resolve_left (by omega)
    obtain ⟨vx, cx, ix⟩ := PE.Row.get r1 hx
    have := List.sizeOf_lt_of_mem hmem
    exact ih (SizeOf.sizeOf x) (by omega) x rfl _ b1 (o1 + j * 8) vx (inArgs_le3 _ hst) (by omega) cx ix
end Go.Proofs.YthilicmhdkmipaaGreatDoor
/- What may be a tree, its second plain part: the shapes of statements and items, what fits; statements, items and programs as trees of parts. -/
namespace Go.Proofs.YthilicmhdkmipaaGreatDoor
open Go.RowKit
set_option linter.unusedVariables false

structure SSh where
  known : Bool
  name : Nat
  second : Nat
  names : Bool
  exprs : Nat
  pairs : Bool
  place : Bool
  queue : Bool
  body : Bool
  other : Bool
  arms : Bool
def sSh (k : Int) : SSh :=
  if k = 1 then ⟨true, 1, 0, false, 1, false, false, false, false, false, false⟩
  else if k = 2 then ⟨true, 3, 0, true, 1, false, false, false, false, false, false⟩
  else if k = 3 then ⟨true, 0, 0, false, 1, false, true, false, false, false, false⟩
  else if k = 4 then ⟨true, 0, 0, false, 1, false, false, false, false, false, false⟩
  else if k = 5 then ⟨true, 1, 0, false, 0, false, false, false, false, false, false⟩
  else if k = 6 then ⟨true, 0, 0, false, 1, false, false, false, true, true, false⟩
  else if k = 7 then ⟨true, 0, 0, false, 1, false, false, false, true, false, false⟩
  else if k = 8 then ⟨true, 1, 3, false, 0, false, false, false, false, false, true⟩
  else if k = 9 ∨ k = 13 then ⟨true, 0, 0, false, 0, false, false, false, true, false, false⟩
  else if k = 10 then ⟨true, 0, 0, false, 0, true, false, false, true, false, false⟩
  else if k = 11 then ⟨true, 1, 0, false, 0, false, true, false, true, false, false⟩
  else if k = 12 then ⟨true, 1, 1, false, 0, false, false, true, false, false, false⟩
  else ⟨false, 0, 0, false, 0, false, false, false, false, false, false⟩
def SSh.cells (h : SSh) : Array Value := #[.bool h.known, .int .u8 h.name, .int .u8 h.second, .bool h.names, .int .i64 h.exprs, .bool h.pairs, .bool h.place, .bool h.queue, .bool h.body, .bool h.other, .bool h.arms]
structure ISh where
  known : Bool
  name : Nat
  field : Nat
  body : Bool
  fields : Nat
  rest : Nat
def iSh (k : Int) : ISh :=
  if k = 1 then ⟨true, 3, 1, false, 0, 3⟩ else if k = 2 then ⟨true, 3, 3, false, 2, 3⟩ else if k = 3 then ⟨true, 1, 1, true, 0, 0⟩ else ⟨false, 0, 0, false, 0, 3⟩
def ISh.cells (h : ISh) : Array Value := #[.bool h.known, .int .u8 h.name, .int .u8 h.field, .bool h.body, .int .u8 h.fields, .int .u8 h.rest]

/-! ### what fits -/
def fitNs (ns : List ByteArray) : Bool := decide (ns.length ≤ 6) && ns.all nmB
def fitLists (h : SSh) (ns : List ByteArray) (es : List PE) : Bool :=
  if h.pairs then decide (es.length = ns.length) && fitNs ns else if h.names then decide (es.length = h.exprs) && fitNs ns else decide (es.length = h.exprs) && decide (ns.length = 0)
def fitPlS (h : SSh) (pl : PP) : Bool := if h.place then plB pl else samePl pl zeroP
def armB (a : PA) : Bool := tyB a.variant && (noB a.name || nmB a.name)
def fitArms (h : SSh) (ar : List PA) : Bool := if h.arms then decide (ar.length ≤ 6) && ar.all armB else decide (ar.length = 0)
def fitQueue (h : SSh) (ty : PT) (int : Int) : Bool := if h.queue then decide (1 ≤ int) && decide (int ≤ 8) else decide (int = 0) && sameT ty zeroT
def fitSS (h : SSh) (nm sc : ByteArray) (ns : List ByteArray) (ty : PT) (int : Int) (pl : PP) (es : List PE) (bo el : List PS) (ar : List PA) : Bool :=
  h.known && (txB h.name nm && (txB h.second sc && (fitLists h ns es && (fitPlS h pl && (fitArms h ar && ((h.body || decide (bo.length = 0)) && ((h.other || decide (el.length = 0)) && fitQueue h ty int)))))))
def fieldB (x : Nat) (f : PF) : Bool := txB x f.name
def fitII (h : ISh) (nm : ByteArray) (fs : List PF) (bo : List PS) : Bool :=
  h.known && (txB h.name nm && (decide (fs.length ≤ 6) && (fs.all (fieldB h.field) && (h.body || decide (bo.length = 0)))))
def inExprs (op : Int) : Nat := if op = 1 ∨ op = 10 then 1 else 0

/-! ### trees of parts -/
mutual
def rtS : PS → RT
  | .mk op nm sc ns ty int pl es bo el ar pos => .mk (fitSS (sSh op) nm sc ns ty int pl es bo el ar) 1 ((if op = 12 then [rtT ty 0] else []) ++ (rtEs es (inExprs op) ++ (rtSs bo ++ (rtSs el ++ rtAs ar))))
def rtSs : List PS → List RT
  | [] => []
  | s :: l => rtS s :: rtSs l
def rtAs : List PA → List RT
  | [] => []
  | a :: l => rtA a ++ rtAs l
def rtA : PA → List RT
  | .mk _ _ bo => rtSs bo
end
def rtI (x : PI) : RT :=
  .mk (fitII (iSh x.kind) x.name x.fields x.body) 1 (x.fields.map (fun f => rtT f.type (iSh x.kind).fields) ++ (rtT x.result (iSh x.kind).rest :: (rtSs x.body ++ [rtE x.ret (iSh x.kind).rest])))
def rtP (p : List PI) : RT := .mk (decide (p.length ≤ 30)) 0 (p.map rtI)
theorem rtSs_map : ∀ l, rtSs l = l.map rtS
  | [] => by rw [rtSs]; rfl
  | t :: l => by rw [rtSs, rtSs_map l]; rfl
end Go.Proofs.YthilicmhdkmipaaGreatDoor
/- The parts that a statement has: yieldStmts, (statement).inExprs, (statement).has hand them out. -/
namespace Go.Proofs.YthilicmhdkmipaaGreatDoor
open Go.RowKit Go.Shelf
set_option linter.unusedVariables false
attribute [local go_sem] Oper.semAt_some

/-- the row of pointers to things of a width, as parts that are nothing but a pointer -/
def ptr1 (T : TypeId) (b o wd : Nat) (n : Nat) : List Value := (List.range n).map fun k => .iface T (.agg #[.pointer (some ⟨b, o + k * wd, none⟩)])
theorem ptr1_get {T : TypeId} {b o wd n k : Nat} (h : k < n) : (ptr1 T b o wd n)[k]? = some (.iface T (.agg #[.pointer (some ⟨b, o + k * wd, none⟩)])) := by
  simp [ptr1, h]
theorem ptr1_len (T : TypeId) (b o wd n : Nat) : (ptr1 T b o wd n).length = n := by simp [ptr1]
/-- a stretch of the rounds -/
theorem Rounds.sub {P : Program} {m l lo hi : Nat} {A B C : List Value} {J Jx : Nat → World → Prop} (h : Rounds P m l lo hi (A ++ (B ++ C)) J Jx) :
    Rounds P m l lo hi B (fun k => J (A.length + k)) (fun k => Jx (A.length + k)) := by
  intro k v W hv hW hj
  have hk := (List.getElem?_eq_some_iff.1 hv).1
  refine h (A.length + k) v W ?_ hW hj
  rw [List.getElem?_append_right (by omega), List.getElem?_append_left (by omega)]
  rw [show A.length + k - A.length = k from by omega]; exact hv

set_option maxHeartbeats 2000000 in
theorem yieldStmts_calls (B lo hi : Nat) (n b1 o1 : Nat) (v1 : Value) (w : World) (hB : B ≤ lo) (hlo : lo ≤ hi) (hhi : hi ≤ w.heap.size) (s1 : SlV B v1 n b1 o1) (m l : Nat) (J Jx : Nat → World → Prop)
    (hR : Rounds Tryz.prog m l lo hi (ptr1 301 b1 o1 15 n) J Jx) (h0 : J 0 w) :
    CallsIn Fence.wide m Tryz.prog 265 #[v1, .func (.yield l) #[] #[]] w fun e W' =>
      (e = .returned (.bool true) ∧ J n W' ∧ Keeps lo hi w W') ∨ (e = .returned (.bool false) ∧ (∃ k, k < n ∧ Jx k W') ∧ Keeps lo hi w W') := by
  obtain ⟨m1, ao, cap, rfl, h1⟩ := s1
  unfold maxLen at m1
  have HR := Lib.hid hR
  have H1 := Lib.hid h1
  clear hR h1
  refine callsIn_of_wp Tryz.func265 rfl trivial ?_ rfl
  simp only [Tryz.ntmps265, List.size_toArray, List.length_cons, List.length_nil, Nat.reduceAdd, Nat.reduceSub, Array.replicate_succ, Array.replicate_zero, List.push_toArray, List.append_toArray, List.nil_append, List.cons_append]
  gi_wp2
  gi_loopw [8] (fun i wr => ∃ k : Nat, k ≤ n ∧ i = .int .i64 k ∧ Hid (J k wr) ∧ Hid (Keeps lo hi w wr))
    (fun i _ => n - (intOf i).toNat)
  case atStart => exact ⟨0, by omega, rfl, Lib.hid h0, Lib.hid (Keeps.refl _ _ _)⟩
  case round =>
    obtain ⟨k, hk, rfl, HK, HW⟩ := hrel
    by_cases hlt : k < n
    · obtain ⟨rfl, hb1⟩ := H1.out.resolve_left (by omega)
      have hsz := HW.out.size
      obtain ⟨fn, tmps, assign, body, hy0, hRd⟩ := HR.out k _ wr (ptr1_get hlt) (by omega) HK.out
      have hy : (Instr.yield l #[.iface 301 (.agg #[.pointer (some ⟨b1, o1 + k * 15, none⟩)])]).run Tryz.prog wr = .ok (.round l fn tmps assign body) wr := hy0
      clear hy0
      gi_wp2
      refine ⟨fun h => (by simp [Fence.wide] at h), (RoundIn.anyDepth hRd).mono ?_⟩
      rintro e W' (⟨rfl, hj, hkp⟩ | ⟨rfl, hjx, hkp⟩)
      · have HK2 := Lib.hid hj
        have HW2 := Lib.hid (HW.out.trans hkp)
        clear hRd hy hkp hj
        gi_wp2
        go_roundw
        case rel => exact ⟨k + 1, by omega, by go_num, HK2, HW2⟩
        case measure => simp [intOf]; omega
      · gi_wp2
        go_ret
        exact .inr ⟨rfl, ⟨k, hlt, hjx⟩, HW.out.trans hkp⟩
    · obtain rfl : k = n := by omega
      gi_wp2
      go_ret
      exact .inl ⟨rfl, HK.out, HW.out⟩
set_option maxHeartbeats 1000000 in
theorem inExprs_calls (op : Int) (b o : Nat) (w : World) (hb : b < w.heap.size) (c0 : w.cell? ⟨b, o, none⟩ = some (.int .u8 op)) :
    Calls Tryz.prog 272 #[.agg #[.pointer (some ⟨b, o, none⟩)]] w fun r w' => r = .returned (.int .u8 (inExprs op : Nat)) ∧ Below w.heap.size w w' := by
  unfold inExprs
  by_cases h1 : op = 1
  · subst h1
    rw [if_pos (.inl rfl)]
    go_enter Tryz.func272, Tryz.ntmps272
    go_wp2
    go_ret
    exact ⟨rfl, (Below.refl _ w).alloc (Nat.le_refl _) _⟩
  · have n1 : (op == 1) = false := beq_eq_false_iff_ne.2 h1
    by_cases h10 : op = 10
    · subst h10
      rw [if_pos (.inr rfl)]
      go_enter Tryz.func272, Tryz.ntmps272
      go_wp2
      go_ret
      exact ⟨rfl, (Below.refl _ w).alloc (Nat.le_refl _) _⟩
    · rw [if_neg (by omega)]
      have n10 : (op == 10) = false := beq_eq_false_iff_ne.2 h10
      clear h1 h10
      go_enter Tryz.func272, Tryz.ntmps272
      go_wp2
      go_ret
      exact ⟨rfl, (Below.refl _ w).alloc (Nat.le_refl _) _⟩
end Go.Proofs.YthilicmhdkmipaaGreatDoor
