/- The parts that a statement has: (statement).has (made by gen_stmthas.py). -/
import Derived.Test.YthilicmhdkmipaaGreatDoorIJoinAK
import Derived.Sort.CutIn
import Derived.Deep.RegionHeld3
namespace Go.Proofs.YthilicmhdkmipaaGreatDoor
open Go.RowKit Go.Shelf
set_option linter.unusedVariables false
attribute [local go_sem] Oper.semAt_some

/-- what a row of arms hands out: the statements of each in its turn -/
def kvA : List PA → List (Nat × Nat) → List Value
  | a :: l, p :: q => ptr1 301 p.1 p.2 15 a.body.length ++ kvA l q
  | _, _ => []
theorem kvA_at : ∀ {ar : List PA} {L : List (Nat × Nat)} {k : Nat} {a : PA} {p : Nat × Nat}, ar[k]? = some a → L[k]? = some p →
    kvA ar L = kvA (ar.take k) (L.take k) ++ (ptr1 301 p.1 p.2 15 a.body.length ++ kvA (ar.drop (k + 1)) (L.drop (k + 1)))
  | x :: l, y :: q, 0, a, p, h1, h2 => by
    obtain rfl : x = a := by simpa using h1
    obtain rfl : y = p := by simpa using h2
    simp [kvA]
  | x :: l, y :: q, k + 1, a, p, h1, h2 => by
    have ih := kvA_at (ar := l) (L := q) (k := k) (a := a) (p := p) (by simpa using h1) (by simpa using h2)
    simp only [kvA, List.take_succ_cons, List.drop_succ_cons]
    rw [ih, List.append_assoc]
def offA (ar : List PA) (L : List (Nat × Nat)) (k : Nat) : Nat := (kvA (ar.take k) (L.take k)).length
theorem offA_zero (ar : List PA) (L : List (Nat × Nat)) : offA ar L 0 = 0 := by simp [offA, kvA]
theorem offA_succ : ∀ {ar : List PA} {L : List (Nat × Nat)} {k : Nat} {a : PA} {p : Nat × Nat}, ar[k]? = some a → L[k]? = some p → offA ar L (k + 1) = offA ar L k + a.body.length
  | x :: l, y :: q, 0, a, p, h1, h2 => by
    obtain rfl : x = a := by simpa using h1
    simp [offA, kvA, ptr1]
  | x :: l, y :: q, k + 1, a, p, h1, h2 => by
    have ih := offA_succ (ar := l) (L := q) (k := k) (a := a) (p := p) (by simpa using h1) (by simpa using h2)
    simp only [offA, kvA, List.take_succ_cons, List.length_append] at ih ⊢
    omega
theorem offA_le {ar : List PA} {L : List (Nat × Nat)} {k : Nat} {a : PA} {p : Nat × Nat} (h1 : ar[k]? = some a) (h2 : L[k]? = some p) : offA ar L k + a.body.length ≤ (kvA ar L).length := by
  rw [kvA_at h1 h2, List.length_append, List.length_append, ptr1_len]; unfold offA; omega
theorem offA_all (ar : List PA) (L : List (Nat × Nat)) (h : L.length = ar.length) : offA ar L ar.length = (kvA ar L).length := by
  rw [offA, List.take_length, ← h, List.take_length]
/-- where the bodies of a row of arms lie -/
theorem armRows {B : Nat} {w : World} {b : Nat} : ∀ {ar : List PA} {o : Nat}, PA.Row B w b o ar → ∃ L : List (Nat × Nat), L.length = ar.length ∧
    ∀ (i : Nat) (a : PA), ar[i]? = some a → ∃ (x y : ByteArray) (c : Option Addr × Nat) (p : Nat × Nat), L[i]? = some p ∧ CellsAt w b (o + i * 3) [.string x, .string y, .slice c.1 a.body.length c.2] ∧ SlV B (.slice c.1 a.body.length c.2) a.body.length p.1 p.2 ∧ PS.Row B w p.1 p.2 a.body
  | [], _, _ => ⟨[], rfl, fun i a h => by simp at h⟩
  | .mk x y bo :: l, o, ⟨⟨v, h1, h2, b2, o2, s2, r2⟩, hr⟩ => by
    obtain ⟨L, hL, H⟩ := armRows hr
    refine ⟨(b2, o2) :: L, by simp [hL], fun i a h => ?_⟩
    cases i with
    | zero =>
      obtain rfl : PA.mk x y bo = a := by simpa using h
      obtain ⟨m1, ao, cap, rfl, h3⟩ := s2
      exact ⟨x, y, (ao, cap), (b2, o2), rfl, by simpa [PA.cells, PA.body] using h1, ⟨m1, ao, cap, rfl, h3⟩, r2⟩
    | succ i =>
      obtain ⟨x', y', c, p, g1, g2, g3, g4⟩ := H i a (by simpa using h)
      exact ⟨x', y', c, p, by simpa using g1, by rw [show o + (i + 1) * 3 = o + 3 + i * 3 from by omega]; exact g2, g3, g4⟩
/-- what holds between the rounds: so many have been handed out; all but [lo, hi) lies as in W0 -/
def StInv (J : Nat → World → Prop) (lo hi : Nat) (W0 : World) (k : Nat) (W : World) : Prop := J k W ∧ Keeps lo hi W0 W
theorem take_list2 {P : Program} {md : Region.Mode} {l : List Oper} {Q : Exit → Act → World → Prop} {S : World → Prop} {i : Nat} {oi : Oper} {v : Value} {fuel : Nat} {listed : Array Bool} {a : Act} {w : World} (hi : l[i]? = some oi)
    (hs : Region.noSelect l.toArray = true) (hf : Region.free md l.toArray listed i = true) (hr : (Region.ready md l.toArray listed).contains i = true)
    (hQ : ∀ c a w, Q (.panic c) (a.put oi.dst v) w → Q (.panic c) a w) (hy : YieldsIf P l.toArray S oi v a) (hS : S w)
    (h : wpAnyH P md l.toArray Q S fuel (listed.setIfInBounds i true) (a.put oi.dst v) w) : wpAnyH P md l.toArray Q S (fuel + 1) listed a w :=
  wpAnyH_take (by simpa using hi) hs hf hr hQ hy hS h
theorem StInv.cell {J : Nat → World → Prop} {lo hi : Nat} {W0 : World} {k : Nat} {W : World} (h : StInv J lo hi W0 k W) {p : Addr} (hp : p.block < W0.heap.size) (hc : p.block < lo ∨ hi ≤ p.block) : W.cell? p = W0.cell? p := h.2.cell hp hc
theorem StInv.next {J : Nat → World → Prop} {lo hi : Nat} {W0 : World} {k : Nat} {W W' : World} (hJ : Ext J) (h : StInv J lo hi W0 k W) (b : Below W.heap.size W W') : StInv J lo hi W0 k W' := ⟨hJ _ _ _ h.1 b, h.2.trans (Keeps.of_below b)⟩
theorem StInv.size {J : Nat → World → Prop} {lo hi : Nat} {W0 : World} {k : Nat} {W : World} (h : StInv J lo hi W0 k W) : W0.heap.size ≤ W.heap.size := h.2.size
theorem Rounds.at {P : Program} {m l lo hi : Nat} {kv A B C : List Value} {J Jx : Nat → World → Prop} (h : Rounds P m l lo hi kv J Jx) (e : kv = A ++ (B ++ C)) {a : Nat} (ha : A.length = a) :
    Rounds P m l lo hi B (fun k => J (a + k)) (fun k => Jx (a + k)) := by
  subst ha; subst e; exact Rounds.sub h
/-- statements handed out from where so many have been -/
theorem handS {B lo hi n b1 o1 a N m l : Nat} {v1 : Value} {J Jx : Nat → World → Prop} {W0 W : World} (hB : B ≤ lo) (hlo : lo ≤ hi) (hhi : hi ≤ W0.heap.size) (s1 : SlV B v1 n b1 o1) (hN : a + n ≤ N)
    (hR : Rounds Tryz.prog m l lo hi (ptr1 301 b1 o1 15 n) (fun k => J (a + k)) (fun k => Jx (a + k))) (h : StInv J lo hi W0 a W) :
    CallsIn Fence.wide m Tryz.prog 265 #[v1, .func (.yield l) #[] #[]] W fun e W' =>
      (e = .returned (.bool true) ∧ Hid (StInv J lo hi W0 (a + n) W')) ∨ (e = .returned (.bool false) ∧ Hid ((∃ k, k < N ∧ Jx k W') ∧ Keeps lo hi W0 W')) := by
  refine (yieldStmts_calls B lo hi n b1 o1 v1 W hB hlo (by have := h.size; omega) s1 m l _ _ hR h.1).mono ?_
  rintro e W' (⟨rfl, hj, hk⟩ | ⟨rfl, ⟨k, hk, hx⟩, hkp⟩)
  · exact .inl ⟨rfl, Lib.hid ⟨hj, h.2.trans hk⟩⟩
  · exact .inr ⟨rfl, Lib.hid ⟨⟨a + k, by omega, hx⟩, h.2.trans hkp⟩⟩
theorem handE {B lo hi st b1 o1 a N m l : Nat} {xs : List PE} {v1 : Value} {J Jx : Nat → World → Prop} {W0 W : World} (hJ : Ext J) (hB : B ≤ lo) (hlo : lo ≤ hi) (hhi : hi ≤ W0.heap.size) (s1 : SlV B v1 xs.length b1 o1) (hN : a + xs.length ≤ N)
    (hR : Rounds Tryz.prog m l lo hi (ptrs 160 b1 o1 8 st xs.length) (fun k => J (a + k)) (fun k => Jx (a + k))) (h : StInv J lo hi W0 a W) :
    CallsIn Fence.wide m Tryz.prog 251 #[v1, .int .u8 st, .func (.yield l) #[] #[]] W fun e W' =>
      (e = .returned (.bool true) ∧ Hid (StInv J lo hi W0 (a + xs.length) W')) ∨ (e = .returned (.bool false) ∧ Hid ((∃ k, k < N ∧ Jx k W') ∧ Keeps lo hi W0 W')) := by
  refine (yieldExprs_calls B lo hi xs st b1 o1 v1 W hB hlo (by have := h.size; omega) s1 m l _ _ (ext_shift hJ a) hR h.1).mono ?_
  rintro e W' (⟨rfl, hj, hk⟩ | ⟨rfl, ⟨k, hk, hx⟩, hkp⟩)
  · exact .inl ⟨rfl, Lib.hid ⟨hj, h.2.trans hk⟩⟩
  · exact .inr ⟨rfl, Lib.hid ⟨⟨a + k, by omega, hx⟩, h.2.trans hkp⟩⟩
/-- the cells that (statement).has reads -/
def StCells (b o wz : Nat) (op : Int) (a4 a5 a6 a7 : Option Addr) (n4 n5 n6 n7 c4 c5 c6 c7 : Nat) (W : World) : Prop := W.cell? ⟨wz, 0, none⟩ = some (.pointer (some ⟨b, o, none⟩)) ∧ W.cell? ⟨b, o, none⟩ = some (.int .u8 op) ∧ W.cell? ⟨b, o + 10, none⟩ = some (.slice a4 n4 c4) ∧ W.cell? ⟨b, o + 11, none⟩ = some (.slice a5 n5 c5) ∧ W.cell? ⟨b, o + 12, none⟩ = some (.slice a6 n6 c6) ∧ W.cell? ⟨b, o + 13, none⟩ = some (.slice a7 n7 c7)
set_option maxRecDepth 100000 in
set_option maxHeartbeats 8000000 in
theorem stmtHas_hands (B lo : Nat) (op : Int) (nm sc : ByteArray) (ty : PT) (int : Int) (pl : PP) (es : List PE) (bo el : List PS) (ar : List PA) (pos : Int) (a1 a2 a3 a4 a5 a6 a7 : Option Addr) (n1 n2 n3 n4 n5 n6 n7 c1 c2 c3 c4 c5 c6 c7 : Nat) (b o : Nat) (w : World) (hB : B ≤ lo) (hlo : lo ≤ w.heap.size) (hb : b < lo)
    (hc : CellsAt w b o [.int .u8 op, .string nm, .string sc, .slice a1 n1 c1, .int .u8 ty.kind, .string ty.name, .slice a2 n2 c2, .int .i64 int, .string pl.name, .slice a3 n3 c3, .slice a4 n4 c4, .slice a5 n5 c5, .slice a6 n6 c6, .slice a7 n7 c7, .int .i64 pos]) (b4 o4 b5 o5 b6 o6 b7 o7 : Nat)
    (s4 : SlV B (.slice a4 n4 c4) es.length b4 o4) (s5 : SlV B (.slice a5 n5 c5) bo.length b5 o5) (s6 : SlV B (.slice a6 n6 c6) el.length b6 o6) (s7 : SlV B (.slice a7 n7 c7) ar.length b7 o7) (L : List (Nat × Nat)) (hL : L.length = ar.length)
    (hA : ∀ (i : Nat) (a : PA), ar[i]? = some a → ∃ (x y : ByteArray) (c : Option Addr × Nat) (p : Nat × Nat), L[i]? = some p ∧ CellsAt w b7 (o7 + i * 3) [.string x, .string y, .slice c.1 a.body.length c.2] ∧ SlV B (.slice c.1 a.body.length c.2) a.body.length p.1 p.2) :
    Hands Tryz.prog lo 268 (.agg #[.pointer (some ⟨b, o, none⟩)]) ((if op = 12 then [.iface 155 (.agg #[.pointer (some ⟨b, o + 4, none⟩), .int .u8 0])] else [] : List Value) ++ (ptrs 160 b4 o4 8 (inExprs op) es.length ++ (ptr1 301 b5 o5 15 bo.length ++ (ptr1 301 b6 o6 15 el.length ++ kvA ar L)))) w := by
  intro m l J Jx hJ hJx hR h0
  have hbw : b < w.heap.size := by omega
  obtain ⟨pre, hpre⟩ : ∃ pre, pre = (if op = 12 then [.iface 155 (.agg #[.pointer (some ⟨b, o + 4, none⟩), .int .u8 0])] else [] : List Value) := ⟨_, rfl⟩
  rw [← hpre] at hR ⊢
  obtain ⟨n0, hn0⟩ : ∃ n0, pre.length = n0 := ⟨_, rfl⟩
  obtain ⟨N, hN⟩ : ∃ N, N = (pre ++ (ptrs 160 b4 o4 8 (inExprs op) es.length ++ (ptr1 301 b5 o5 15 bo.length ++ (ptr1 301 b6 o6 15 el.length ++ kvA ar L)))).length := ⟨_, rfl⟩
  rw [← hN]
  have hN2 : N = n0 + es.length + bo.length + el.length + (kvA ar L).length := by rw [hN, ← hn0]; simp only [List.length_append, ptrs_len, ptr1_len]; omega
  obtain ⟨W0, hW0⟩ : ∃ W0, W0 = w.alloc (.cells #[.pointer (some ⟨b, o, none⟩)] 301) := ⟨_, rfl⟩
  have HW := Lib.hid hW0
  have z0 : W0.heap.size = w.heap.size + 1 := by rw [hW0]; simp
  have f0 : W0.cell? ⟨w.heap.size, 0, none⟩ = some (.pointer (some ⟨b, o, none⟩)) := by rw [hW0]; go_simp
  have kc : ∀ i v, w.cell? ⟨b, i, none⟩ = some v → W0.cell? ⟨b, i, none⟩ = some v := fun i v h => by rw [hW0]; exact (Below.cell (box1 w _) (p := ⟨b, i, none⟩) hbw).trans h
  have d0 : W0.cell? ⟨b, o, none⟩ = some (.int .u8 op) := kc _ _ (hc 0 _ rfl)
  have d10 : W0.cell? ⟨b, o + 10, none⟩ = some (.slice a4 n4 c4) := kc _ _ (hc 10 _ rfl)
  have d11 : W0.cell? ⟨b, o + 11, none⟩ = some (.slice a5 n5 c5) := kc _ _ (hc 11 _ rfl)
  have d12 : W0.cell? ⟨b, o + 12, none⟩ = some (.slice a6 n6 c6) := kc _ _ (hc 12 _ rfl)
  have d13 : W0.cell? ⟨b, o + 13, none⟩ = some (.slice a7 n7 c7) := kc _ _ (hc 13 _ rfl)
  have I0 : Hid (StInv J lo w.heap.size W0 0 W0) := Lib.hid ⟨hJ _ _ _ h0 (hW0 ▸ box1 w _), Keeps.refl _ _ _⟩
  have HNX : Hid (∀ k W W', StInv J lo w.heap.size W0 k W → Below W.heap.size W W' → StInv J lo w.heap.size W0 k W') := Lib.hid fun k W W' h b => h.next hJ b
  have FV : Hid (∀ W, Keeps lo w.heap.size W0 W → w.heap.size < W.heap.size ∧ b < W.heap.size ∧ StCells b o w.heap.size op a4 a5 a6 a7 n4 n5 n6 n7 c4 c5 c6 c7 W) :=
    Lib.hid fun W h => ⟨by have := h.size; omega, by have := h.size; omega, (h.cell (p := ⟨w.heap.size, 0, none⟩) (by simp; omega) (.inr (Nat.le_refl _))).trans f0, (h.cell (p := ⟨b, o, none⟩) (by simp; omega) (.inl hb)).trans d0, (h.cell (p := ⟨b, o + 10, none⟩) (by simp; omega) (.inl hb)).trans d10,
      (h.cell (p := ⟨b, o + 11, none⟩) (by simp; omega) (.inl hb)).trans d11, (h.cell (p := ⟨b, o + 12, none⟩) (by simp; omega) (.inl hb)).trans d12, (h.cell (p := ⟨b, o + 13, none⟩) (by simp; omega) (.inl hb)).trans d13⟩
  have K1 : Hid (∀ W, b < W.heap.size → W.cell? ⟨b, o, none⟩ = some (.int .u8 op) → Calls Tryz.prog 272 #[.agg #[.pointer (some ⟨b, o, none⟩)]] W fun r w' => r = .returned (.int .u8 (inExprs op : Nat)) ∧ Below W.heap.size W w') := Lib.hid fun W h1 h2 => inExprs_calls op b o W h1 h2
  have K2 : Hid (∀ W, StInv J lo w.heap.size W0 n0 W → CallsIn Fence.wide (m - 1) Tryz.prog 251 #[.slice a4 n4 c4, .int .u8 (inExprs op : Nat), .func (.yield l) #[] #[]] W fun e W' => (e = .returned (.bool true) ∧ Hid (StInv J lo w.heap.size W0 (n0 + es.length) W')) ∨ (e = .returned (.bool false) ∧ Hid ((∃ k, k < N ∧ Jx k W') ∧ Keeps lo w.heap.size W0 W'))) :=
    Lib.hid fun W h => handE hJ hB hlo (by omega) s4 (by omega) ((hR.any _).at (A := pre) rfl hn0) h
  have K3 : Hid (∀ W, StInv J lo w.heap.size W0 (n0 + es.length) W → CallsIn Fence.wide (m - 1) Tryz.prog 265 #[.slice a5 n5 c5, .func (.yield l) #[] #[]] W fun e W' => (e = .returned (.bool true) ∧ Hid (StInv J lo w.heap.size W0 (n0 + es.length + bo.length) W')) ∨ (e = .returned (.bool false) ∧ Hid ((∃ k, k < N ∧ Jx k W') ∧ Keeps lo w.heap.size W0 W'))) :=
    Lib.hid fun W h => handS hB hlo (by omega) s5 (by omega) ((hR.any _).at (A := pre ++ ptrs 160 b4 o4 8 (inExprs op) es.length) (C := ptr1 301 b6 o6 15 el.length ++ kvA ar L) (by simp only [List.append_assoc]) (by rw [← hn0]; simp only [List.length_append, ptrs_len])) h
  have K4 : Hid (∀ W, StInv J lo w.heap.size W0 (n0 + es.length + bo.length) W → CallsIn Fence.wide (m - 1) Tryz.prog 265 #[.slice a6 n6 c6, .func (.yield l) #[] #[]] W fun e W' => (e = .returned (.bool true) ∧ Hid (StInv J lo w.heap.size W0 (n0 + es.length + bo.length + el.length) W')) ∨ (e = .returned (.bool false) ∧ Hid ((∃ k, k < N ∧ Jx k W') ∧ Keeps lo w.heap.size W0 W'))) :=
    Lib.hid fun W h => handS hB hlo (by omega) s6 (by omega) ((hR.any _).at (A := pre ++ (ptrs 160 b4 o4 8 (inExprs op) es.length ++ ptr1 301 b5 o5 15 bo.length)) (C := kvA ar L) (by simp only [List.append_assoc]) (by rw [← hn0]; simp only [List.length_append, ptrs_len, ptr1_len]; omega)) h
  have K5 : Hid (∀ k a, ar[k]? = some a → ∃ (x y : ByteArray) (c : Option Addr × Nat), (∀ j W, StInv J lo w.heap.size W0 j W → W.cell? ⟨b7, o7 + k * 3, none⟩ = some (.string x) ∧ W.cell? ⟨b7, o7 + k * 3 + 1, none⟩ = some (.string y) ∧ W.cell? ⟨b7, o7 + k * 3 + 2, none⟩ = some (.slice c.1 a.body.length c.2)) ∧
      ∀ W, StInv J lo w.heap.size W0 (n0 + es.length + bo.length + el.length + offA ar L k) W → CallsIn Fence.wide (m - 1) Tryz.prog 265 #[.slice c.1 a.body.length c.2, .func (.yield l) #[] #[]] W fun e W' => (e = .returned (.bool true) ∧ Hid (StInv J lo w.heap.size W0 (n0 + es.length + bo.length + el.length + offA ar L (k + 1)) W')) ∨ (e = .returned (.bool false) ∧ Hid ((∃ k, k < N ∧ Jx k W') ∧ Keeps lo w.heap.size W0 W'))) :=
    Lib.hid fun k a ha => by
      obtain ⟨x, y, c, p, hp, hcc, hs⟩ := hA k a ha
      have hb7 : b7 < B := by
        obtain ⟨_, _, _, _, h⟩ := s7
        exact (h.resolve_left (by have := (List.getElem?_eq_some_iff.1 ha).1; omega)).2
      have kc7 : ∀ i v, w.cell? ⟨b7, i, none⟩ = some v → W0.cell? ⟨b7, i, none⟩ = some v := fun i v h => by rw [hW0]; exact (Below.cell (box1 w _) (p := ⟨b7, i, none⟩) (by simp; omega)).trans h
      refine ⟨x, y, c, fun j W h => ⟨(h.cell (p := ⟨b7, o7 + k * 3, none⟩) (by simp; omega) (.inl (by simp; omega))).trans (kc7 _ _ (hcc 0 _ rfl)), (h.cell (p := ⟨b7, o7 + k * 3 + 1, none⟩) (by simp; omega) (.inl (by simp; omega))).trans (kc7 _ _ (hcc 1 _ rfl)), (h.cell (p := ⟨b7, o7 + k * 3 + 2, none⟩) (by simp; omega) (.inl (by simp; omega))).trans (kc7 _ _ (hcc 2 _ rfl))⟩, fun W h => ?_⟩
      have hle := offA_le ha hp
      rw [offA_succ ha hp, ← Nat.add_assoc]
      refine handS hB hlo (by omega) hs (by omega) ((hR.any _).at (A := pre ++ (ptrs 160 b4 o4 8 (inExprs op) es.length ++ (ptr1 301 b5 o5 15 bo.length ++ (ptr1 301 b6 o6 15 el.length ++ kvA (ar.take k) (L.take k))))) (C := kvA (ar.drop (k + 1)) (L.drop (k + 1))) (by rw [kvA_at ha hp]; simp only [List.append_assoc]) (by rw [← hn0]; simp only [List.length_append, ptrs_len, ptr1_len, offA]; omega)) h
  have HEnd : Hid (∀ W, StInv J lo w.heap.size W0 (n0 + es.length + bo.length + el.length + offA ar L ar.length) W → J N W) := Lib.hid fun W h => by rw [offA_all ar L hL] at h; rw [hN2]; exact h.1
  have HO := Lib.hid (offA_zero ar L)
  have HR0 : op = 12 → n0 = 1 ∧ Hid (∃ fn tmps assign body, (Instr.yield l #[.iface 155 (.agg #[.pointer (some ⟨b, o + 4, none⟩), .int .u8 0])]).run Tryz.prog W0 = .ok (.round l fn tmps assign body) W0 ∧ RoundIn Fence.wide (m - 1) Tryz.prog l fn tmps assign body W0 fun e W' => (e = .returned (.bool true) ∧ Hid (StInv J lo w.heap.size W0 1 W')) ∨ (e = .returned (.bool false) ∧ Hid ((∃ k, k < N ∧ Jx k W') ∧ Keeps lo w.heap.size W0 W'))) := by
    intro h
    rw [if_pos h] at hpre
    have h1 : n0 = 1 := by rw [← hn0, hpre]; rfl
    refine ⟨h1, Lib.hid ?_⟩
    obtain ⟨fn, tmps, assign, body, hy, hRd⟩ := (hR.any (m - 1)) 0 _ W0 (by rw [hpre]; rfl) (by omega) I0.out.1
    refine ⟨fn, tmps, assign, body, hy, hRd.mono ?_⟩
    rintro e W' (⟨rfl, hj, hk⟩ | ⟨rfl, hx, hk⟩)
    · exact .inl ⟨rfl, Lib.hid ⟨hj, hk⟩⟩
    · exact .inr ⟨rfl, Lib.hid ⟨⟨0, by omega, hx⟩, hk⟩⟩
  have HN0 : ¬ op = 12 → n0 = 0 := fun h => by rw [← hn0, hpre, if_neg h]; rfl
  obtain ⟨m7, _, _, e7, h7⟩ := s7
  injection e7 with e71 e72 e73
  subst e71; subst e72
  unfold maxLen at m7
  have H7 := Lib.hid h7
  have HLen : Hid (∀ k, k < ar.length → ∃ a, ar[k]? = some a) := Lib.hid fun k h => ⟨_, List.getElem?_eq_getElem h⟩
  have HM7 := Lib.hid m7
  clear hW0 hR hJ hJx hc hA hL s4 s5 s6 h7 hN hN2 h0 kc m7 hpre hn0 d10 d11 d12 d13
  generalize inExprs op = q at *
  generalize es.length = x1 at *
  generalize bo.length = x2 at *
  generalize el.length = x3 at *
  generalize ar.length = x4 at *
  have hmix := mixed
  refine callsIn_of_wp Tryz.func268 rfl trivial ?_ rfl
  simp only [Tryz.ntmps268, List.size_toArray, List.length_cons, List.length_nil, Nat.reduceAdd, Nat.reduceSub, Array.replicate_succ, Array.replicate_zero, List.push_toArray, List.append_toArray, List.nil_append, List.cons_append]
  gi_upto_region 1 with (fail)
  rw [← HW.out]
  gi_cut [2, 22] from 3 (fun s2 s22 wc => s2 = .pointer (some ⟨w.heap.size, 0, none⟩) ∧ ∃ t : Bool, s22 = .bool t ∧ Hid (if t = true then ((∃ k, k < N ∧ Jx k wc) ∧ Keeps lo w.heap.size W0 wc) else StInv J lo w.heap.size W0 n0 wc))
  case first =>
    by_cases hop : op = 12
    · obtain ⟨hn1, HR1⟩ := HR0 hop
      have Hn1 := Lib.hid hn1
      obtain ⟨fn, tmps, assign, body, hy, hRd⟩ := HR1.out
      have hRd := Lib.hid hRd
      subst hop
      clear HR1 hn1 HR0 HN0
      gi_wp2
      refine ⟨fun h => (by simp [Fence.wide] at h), (RoundIn.anyDepth hRd.out).mono ?_⟩
      rintro e W1 (⟨rfl, I1⟩ | ⟨rfl, hx⟩)
      · gi_wp2
        gi_meet
        case rel => exact ⟨rfl, false, rfl, Lib.hid (by rw [if_neg (by simp), Hn1.out]; exact I1.out)⟩
      · gi_wp2
        gi_meet
        case rel => exact ⟨rfl, true, rfl, Lib.hid (by rw [if_pos rfl]; exact hx.out)⟩
    · have hn1 := Lib.hid (HN0 hop)
      have nop : (op == 12) = false := beq_eq_false_iff_ne.2 hop
      clear HR0 HN0 hop
      gi_wp2
      refine ⟨fun _ _ => trivial, ?_⟩
      gi_wp2
      gi_meet
      case rel => exact ⟨rfl, false, rfl, Lib.hid (by rw [if_neg (by simp), hn1.out]; exact I0.out)⟩
  case rest =>
    obtain ⟨rfl, t, rfl, HT⟩ := hcut
    clear HR0 HN0 I0 HW f0 d0
    cases t with
    | true =>
      gi_wp2
      refine bodyPost_ret (results_none rfl _ _ _) rfl ?_
      have hx := HT.out
      first | rw [if_pos rfl] at hx | rw [if_pos trivial] at hx
      exact ⟨⟨_, rfl⟩, .inr hx.1⟩
    | false =>
      have I1 : Hid (StInv J lo w.heap.size W0 n0 wc) := Lib.hid (by have h := HT.out; rwa [if_neg (by simp)] at h)
      clear HT
      obtain ⟨W1, hW1⟩ : ∃ W1, W1 = wc := ⟨_, rfl⟩
      rw [← hW1] at I1 ⊢
      clear hW1
      gi_wp2
      gi_cut [2, 52] from 3 (fun s2 s52 wc => s2 = .pointer (some ⟨w.heap.size, 0, none⟩) ∧ ∃ t : Bool, s52 = .bool t ∧ Hid (if t = true then ((∃ k, k < N ∧ Jx k wc) ∧ Keeps lo w.heap.size W0 wc) else StInv J lo w.heap.size W0 (n0 + x1 + x2 + x3) wc))
      case first =>
        refine wpIn_wide.2 ?_
        refine wp_region_held_drew (S := fun W => StCells b o w.heap.size op a4 a5 a6 a7 n4 n5 n6 x4 c4 c5 c6 c7 W) (by kernel_rfl) ?_ (fun hHeld => ?_)
        · exact (FV.out _ I1.out.2).2.2
        refine take_list2 (i := 0) (v := ?_) rfl (by kernel_rfl) (by kernel_rfl) (by kernel_rfl) (fun _ _ _ h => h) (Or.inl ⟨by rfl, ?_⟩) hHeld ?_
        rotate_left 1
        · (intro w hSw; obtain ⟨s0, s1, s2, s3, s4, s5⟩ := hSw; go_simp; try with_reducible rfl)
        simp only [Act.put, List.setIfInBounds_toArray, List.set_cons_zero, List.set_cons_succ]
        refine take_list2 (i := 1) (v := ?_) rfl (by kernel_rfl) (by kernel_rfl) (by kernel_rfl) (fun _ _ _ h => h) (Or.inl ⟨by rfl, ?_⟩) hHeld ?_
        rotate_left 1
        · (intro w hSw; obtain ⟨s0, s1, s2, s3, s4, s5⟩ := hSw; go_simp; try with_reducible rfl)
        simp only [Act.put, List.setIfInBounds_toArray, List.set_cons_zero, List.set_cons_succ]
        refine take_list2 (i := 2) (v := ?_) rfl (by kernel_rfl) (by kernel_rfl) (by kernel_rfl) (fun _ _ _ h => h) (Or.inl ⟨by rfl, ?_⟩) hHeld ?_
        rotate_left 1
        · (intro w hSw; obtain ⟨s0, s1, s2, s3, s4, s5⟩ := hSw; go_simp; try with_reducible rfl)
        simp only [Act.put, List.setIfInBounds_toArray, List.set_cons_zero, List.set_cons_succ]
        refine take_list2 (i := 3) (v := ?_) rfl (by kernel_rfl) (by kernel_rfl) (by kernel_rfl) (fun _ _ _ h => h) (Or.inl ⟨by rfl, ?_⟩) hHeld ?_
        rotate_left 1
        · (intro w hSw; obtain ⟨s0, s1, s2, s3, s4, s5⟩ := hSw; go_simp; try with_reducible rfl)
        simp only [Act.put, List.setIfInBounds_toArray, List.set_cons_zero, List.set_cons_succ]
        refine take_list2 (i := 4) (v := ?_) rfl (by kernel_rfl) (by kernel_rfl) (by kernel_rfl) (fun _ _ _ h => h) (Or.inl ⟨by rfl, ?_⟩) hHeld ?_
        rotate_left 1
        · (intro w hSw; obtain ⟨s0, s1, s2, s3, s4, s5⟩ := hSw; go_simp; try with_reducible rfl)
        simp only [Act.put, List.setIfInBounds_toArray, List.set_cons_zero, List.set_cons_succ]
        refine take_list2 (i := 5) (v := ?_) rfl (by kernel_rfl) (by kernel_rfl) (by kernel_rfl) (fun _ _ _ h => h) (Or.inl ⟨by rfl, ?_⟩) hHeld ?_
        rotate_left 1
        · (intro w hSw; obtain ⟨s0, s1, s2, s3, s4, s5⟩ := hSw; go_simp; try with_reducible rfl)
        simp only [Act.put, List.setIfInBounds_toArray, List.set_cons_zero, List.set_cons_succ]
        refine take_list2 (i := 7) (v := ?_) rfl (by kernel_rfl) (by kernel_rfl) (by kernel_rfl) (fun _ _ _ h => h) (Or.inl ⟨by rfl, ?_⟩) hHeld ?_
        rotate_left 1
        · (intro w hSw; obtain ⟨s0, s1, s2, s3, s4, s5⟩ := hSw; go_simp; try with_reducible rfl)
        simp only [Act.put, List.setIfInBounds_toArray, List.set_cons_zero, List.set_cons_succ]
        refine wpAnyH_ready (rs := [6]) (by kernel_rfl) (by simp) ?_
        refine AllReadyH.cons rfl (fun K hK => ?_) AllReadyH.nil
        rw [if_pos (by rfl)]
        go_simp
        refine (K1.out _ ?_ ?_).mono ?_
        · exact (FV.out _ I1.out.2).2.1
        · exact (FV.out _ I1.out.2).2.2.2.1
        rintro r w2 ⟨rfl, b2⟩
        have I2 := Lib.hid (HNX.out _ _ _ (HNX.out _ _ _ I1.out (Below.refl _ W1).drew) b2)
        have hS := (FV.out _ I2.out.2).2.2
        clear b2
        refine hK.out _ _ hS (fun hHeld => ?_)
        clear hK K hS
        (try simp only [Act.put, List.setIfInBounds_toArray, List.set_cons_zero, List.set_cons_succ])
        refine wpAnyH_ready (rs := [8]) (by kernel_rfl) (by simp) ?_
        refine AllReadyH.cons rfl (fun K hK => ?_) AllReadyH.nil
        rw [if_pos (by rfl)]
        go_simp
        refine (callsIn_wide.1 (K2.out _ I2.out)).mono ?_
        rintro r w3 (⟨rfl, I3⟩ | ⟨rfl, hx⟩)
        · skip
          have hS := (FV.out _ I3.out.2).2.2
          refine hK.out _ _ hS (fun hHeld => ?_)
          clear hK K hS
          (try simp only [Act.put, List.setIfInBounds_toArray, List.set_cons_zero, List.set_cons_succ])
          refine take_list2 (i := 9) (v := ?_) rfl (by kernel_rfl) (by kernel_rfl) (by kernel_rfl) (fun _ _ _ h => h) (Or.inl ⟨by rfl, ?_⟩) hHeld ?_
          rotate_left 1
          · (intro w hSw; obtain ⟨s0, s1, s2, s3, s4, s5⟩ := hSw; go_simp; try with_reducible rfl)
          simp only [Act.put, List.setIfInBounds_toArray, List.set_cons_zero, List.set_cons_succ]
          refine take_list2 (i := 10) (v := ?_) rfl (by kernel_rfl) (by kernel_rfl) (by kernel_rfl) (fun _ _ _ h => h) (Or.inl ⟨by rfl, ?_⟩) hHeld ?_
          rotate_left 1
          · (intro w hSw; obtain ⟨s0, s1, s2, s3, s4, s5⟩ := hSw; go_simp; try with_reducible rfl)
          simp only [Act.put, List.setIfInBounds_toArray, List.set_cons_zero, List.set_cons_succ]
          refine take_list2 (i := 11) (v := ?_) rfl (by kernel_rfl) (by kernel_rfl) (by kernel_rfl) (fun _ _ _ h => h) (Or.inl ⟨by rfl, ?_⟩) hHeld ?_
          rotate_left 1
          · (intro w hSw; obtain ⟨s0, s1, s2, s3, s4, s5⟩ := hSw; go_simp; try with_reducible rfl)
          simp only [Act.put, List.setIfInBounds_toArray, List.set_cons_zero, List.set_cons_succ]
          refine take_list2 (i := 12) (v := ?_) rfl (by kernel_rfl) (by kernel_rfl) (by kernel_rfl) (fun _ _ _ h => h) (Or.inl ⟨by rfl, ?_⟩) hHeld ?_
          rotate_left 1
          · (intro w hSw; obtain ⟨s0, s1, s2, s3, s4, s5⟩ := hSw; go_simp; try with_reducible rfl)
          simp only [Act.put, List.setIfInBounds_toArray, List.set_cons_zero, List.set_cons_succ]
          refine take_list2 (i := 13) (v := ?_) rfl (by kernel_rfl) (by kernel_rfl) (by kernel_rfl) (fun _ _ _ h => h) (Or.inl ⟨by rfl, ?_⟩) hHeld ?_
          rotate_left 1
          · (intro w hSw; obtain ⟨s0, s1, s2, s3, s4, s5⟩ := hSw; go_simp; try with_reducible rfl)
          simp only [Act.put, List.setIfInBounds_toArray, List.set_cons_zero, List.set_cons_succ]
          refine take_list2 (i := 14) (v := ?_) rfl (by kernel_rfl) (by kernel_rfl) (by kernel_rfl) (fun _ _ _ h => h) (Or.inl ⟨by rfl, ?_⟩) hHeld ?_
          rotate_left 1
          · (intro w hSw; obtain ⟨s0, s1, s2, s3, s4, s5⟩ := hSw; go_simp; try with_reducible rfl)
          simp only [Act.put, List.setIfInBounds_toArray, List.set_cons_zero, List.set_cons_succ]
          refine take_list2 (i := 15) (v := ?_) rfl (by kernel_rfl) (by kernel_rfl) (by kernel_rfl) (fun _ _ _ h => h) (Or.inl ⟨by rfl, ?_⟩) hHeld ?_
          rotate_left 1
          · (intro w hSw; obtain ⟨s0, s1, s2, s3, s4, s5⟩ := hSw; go_simp; try with_reducible rfl)
          simp only [Act.put, List.setIfInBounds_toArray, List.set_cons_zero, List.set_cons_succ]
          refine take_list2 (i := 16) (v := ?_) rfl (by kernel_rfl) (by kernel_rfl) (by kernel_rfl) (fun _ _ _ h => h) (Or.inl ⟨by rfl, ?_⟩) hHeld ?_
          rotate_left 1
          · (intro w hSw; obtain ⟨s0, s1, s2, s3, s4, s5⟩ := hSw; go_simp; try with_reducible rfl)
          simp only [Act.put, List.setIfInBounds_toArray, List.set_cons_zero, List.set_cons_succ]
          refine wpAnyH_ready (rs := [17]) (by kernel_rfl) (by simp) ?_
          refine AllReadyH.cons rfl (fun K hK => ?_) AllReadyH.nil
          rw [if_pos (by rfl)]
          go_simp
          refine (callsIn_wide.1 (K3.out _ I3.out)).mono ?_
          rintro r w4 (⟨rfl, I4⟩ | ⟨rfl, hx⟩)
          · skip
            have hS := (FV.out _ I4.out.2).2.2
            refine hK.out _ _ hS (fun hHeld => ?_)
            clear hK K hS
            (try simp only [Act.put, List.setIfInBounds_toArray, List.set_cons_zero, List.set_cons_succ])
            refine take_list2 (i := 18) (v := ?_) rfl (by kernel_rfl) (by kernel_rfl) (by kernel_rfl) (fun _ _ _ h => h) (Or.inl ⟨by rfl, ?_⟩) hHeld ?_
            rotate_left 1
            · (intro w hSw; obtain ⟨s0, s1, s2, s3, s4, s5⟩ := hSw; go_simp; try with_reducible rfl)
            simp only [Act.put, List.setIfInBounds_toArray, List.set_cons_zero, List.set_cons_succ]
            refine take_list2 (i := 19) (v := ?_) rfl (by kernel_rfl) (by kernel_rfl) (by kernel_rfl) (fun _ _ _ h => h) (Or.inl ⟨by rfl, ?_⟩) hHeld ?_
            rotate_left 1
            · (intro w hSw; obtain ⟨s0, s1, s2, s3, s4, s5⟩ := hSw; go_simp; try with_reducible rfl)
            simp only [Act.put, List.setIfInBounds_toArray, List.set_cons_zero, List.set_cons_succ]
            refine take_list2 (i := 20) (v := ?_) rfl (by kernel_rfl) (by kernel_rfl) (by kernel_rfl) (fun _ _ _ h => h) (Or.inl ⟨by rfl, ?_⟩) hHeld ?_
            rotate_left 1
            · (intro w hSw; obtain ⟨s0, s1, s2, s3, s4, s5⟩ := hSw; go_simp; try with_reducible rfl)
            simp only [Act.put, List.setIfInBounds_toArray, List.set_cons_zero, List.set_cons_succ]
            refine take_list2 (i := 21) (v := ?_) rfl (by kernel_rfl) (by kernel_rfl) (by kernel_rfl) (fun _ _ _ h => h) (Or.inl ⟨by rfl, ?_⟩) hHeld ?_
            rotate_left 1
            · (intro w hSw; obtain ⟨s0, s1, s2, s3, s4, s5⟩ := hSw; go_simp; try with_reducible rfl)
            simp only [Act.put, List.setIfInBounds_toArray, List.set_cons_zero, List.set_cons_succ]
            refine take_list2 (i := 22) (v := ?_) rfl (by kernel_rfl) (by kernel_rfl) (by kernel_rfl) (fun _ _ _ h => h) (Or.inl ⟨by rfl, ?_⟩) hHeld ?_
            rotate_left 1
            · (intro w hSw; obtain ⟨s0, s1, s2, s3, s4, s5⟩ := hSw; go_simp; try with_reducible rfl)
            simp only [Act.put, List.setIfInBounds_toArray, List.set_cons_zero, List.set_cons_succ]
            refine take_list2 (i := 23) (v := ?_) rfl (by kernel_rfl) (by kernel_rfl) (by kernel_rfl) (fun _ _ _ h => h) (Or.inl ⟨by rfl, ?_⟩) hHeld ?_
            rotate_left 1
            · (intro w hSw; obtain ⟨s0, s1, s2, s3, s4, s5⟩ := hSw; go_simp; try with_reducible rfl)
            simp only [Act.put, List.setIfInBounds_toArray, List.set_cons_zero, List.set_cons_succ]
            refine take_list2 (i := 24) (v := ?_) rfl (by kernel_rfl) (by kernel_rfl) (by kernel_rfl) (fun _ _ _ h => h) (Or.inl ⟨by rfl, ?_⟩) hHeld ?_
            rotate_left 1
            · (intro w hSw; obtain ⟨s0, s1, s2, s3, s4, s5⟩ := hSw; go_simp; try with_reducible rfl)
            simp only [Act.put, List.setIfInBounds_toArray, List.set_cons_zero, List.set_cons_succ]
            refine take_list2 (i := 25) (v := ?_) rfl (by kernel_rfl) (by kernel_rfl) (by kernel_rfl) (fun _ _ _ h => h) (Or.inl ⟨by rfl, ?_⟩) hHeld ?_
            rotate_left 1
            · (intro w hSw; obtain ⟨s0, s1, s2, s3, s4, s5⟩ := hSw; go_simp; try with_reducible rfl)
            simp only [Act.put, List.setIfInBounds_toArray, List.set_cons_zero, List.set_cons_succ]
            refine take_list2 (i := 26) (v := ?_) rfl (by kernel_rfl) (by kernel_rfl) (by kernel_rfl) (fun _ _ _ h => h) (Or.inl ⟨by rfl, ?_⟩) hHeld ?_
            rotate_left 1
            · (intro w hSw; obtain ⟨s0, s1, s2, s3, s4, s5⟩ := hSw; go_simp; try with_reducible rfl)
            simp only [Act.put, List.setIfInBounds_toArray, List.set_cons_zero, List.set_cons_succ]
            refine wpAnyH_ready (rs := [27]) (by kernel_rfl) (by simp) ?_
            refine AllReadyH.cons rfl (fun K hK => ?_) AllReadyH.nil
            rw [if_pos (by rfl)]
            go_simp
            refine (callsIn_wide.1 (K4.out _ I4.out)).mono ?_
            rintro r w5 (⟨rfl, I5⟩ | ⟨rfl, hx⟩)
            · skip
              have hS := (FV.out _ I5.out.2).2.2
              refine hK.out _ _ hS (fun hHeld => ?_)
              clear hK K hS
              (try simp only [Act.put, List.setIfInBounds_toArray, List.set_cons_zero, List.set_cons_succ])
              refine take_list2 (i := 28) (v := ?_) rfl (by kernel_rfl) (by kernel_rfl) (by kernel_rfl) (fun _ _ _ h => h) (Or.inl ⟨by rfl, ?_⟩) hHeld ?_
              rotate_left 1
              · (intro w hSw; obtain ⟨s0, s1, s2, s3, s4, s5⟩ := hSw; go_simp; try with_reducible rfl)
              simp only [Act.put, List.setIfInBounds_toArray, List.set_cons_zero, List.set_cons_succ]
              refine take_list2 (i := 29) (v := ?_) rfl (by kernel_rfl) (by kernel_rfl) (by kernel_rfl) (fun _ _ _ h => h) (Or.inl ⟨by rfl, ?_⟩) hHeld ?_
              rotate_left 1
              · (intro w hSw; obtain ⟨s0, s1, s2, s3, s4, s5⟩ := hSw; go_simp; try with_reducible rfl)
              simp only [Act.put, List.setIfInBounds_toArray, List.set_cons_zero, List.set_cons_succ]
              refine wpAnyH_done (by kernel_rfl) ?_ _
              gi_wp2
              gi_meet
              case rel => exact ⟨rfl, false, rfl, Lib.hid (by rw [if_neg (by simp)]; exact I5.out)⟩
            · skip
              have hS := (FV.out _ hx.out.2).2.2
              refine hK.out _ _ hS (fun hHeld => ?_)
              clear hK K hS
              (try simp only [Act.put, List.setIfInBounds_toArray, List.set_cons_zero, List.set_cons_succ])
              refine take_list2 (i := 28) (v := ?_) rfl (by kernel_rfl) (by kernel_rfl) (by kernel_rfl) (fun _ _ _ h => h) (Or.inl ⟨by rfl, ?_⟩) hHeld ?_
              rotate_left 1
              · (intro w hSw; obtain ⟨s0, s1, s2, s3, s4, s5⟩ := hSw; go_simp; try with_reducible rfl)
              simp only [Act.put, List.setIfInBounds_toArray, List.set_cons_zero, List.set_cons_succ]
              refine take_list2 (i := 29) (v := ?_) rfl (by kernel_rfl) (by kernel_rfl) (by kernel_rfl) (fun _ _ _ h => h) (Or.inl ⟨by rfl, ?_⟩) hHeld ?_
              rotate_left 1
              · (intro w hSw; obtain ⟨s0, s1, s2, s3, s4, s5⟩ := hSw; go_simp; try with_reducible rfl)
              simp only [Act.put, List.setIfInBounds_toArray, List.set_cons_zero, List.set_cons_succ]
              refine wpAnyH_done (by kernel_rfl) ?_ _
              gi_wp2
              gi_meet
              case rel => exact ⟨rfl, true, rfl, Lib.hid (by rw [if_pos rfl]; exact hx.out)⟩
          · skip
            have hS := (FV.out _ hx.out.2).2.2
            refine hK.out _ _ hS (fun hHeld => ?_)
            clear hK K hS
            (try simp only [Act.put, List.setIfInBounds_toArray, List.set_cons_zero, List.set_cons_succ])
            refine take_list2 (i := 18) (v := ?_) rfl (by kernel_rfl) (by kernel_rfl) (by kernel_rfl) (fun _ _ _ h => h) (Or.inl ⟨by rfl, ?_⟩) hHeld ?_
            rotate_left 1
            · (intro w hSw; obtain ⟨s0, s1, s2, s3, s4, s5⟩ := hSw; go_simp; try with_reducible rfl)
            simp only [Act.put, List.setIfInBounds_toArray, List.set_cons_zero, List.set_cons_succ]
            refine take_list2 (i := 19) (v := ?_) rfl (by kernel_rfl) (by kernel_rfl) (by kernel_rfl) (fun _ _ _ h => h) (Or.inl ⟨by rfl, ?_⟩) hHeld ?_
            rotate_left 1
            · (intro w hSw; obtain ⟨s0, s1, s2, s3, s4, s5⟩ := hSw; go_simp; try with_reducible rfl)
            simp only [Act.put, List.setIfInBounds_toArray, List.set_cons_zero, List.set_cons_succ]
            refine take_list2 (i := 20) (v := ?_) rfl (by kernel_rfl) (by kernel_rfl) (by kernel_rfl) (fun _ _ _ h => h) (Or.inl ⟨by rfl, ?_⟩) hHeld ?_
            rotate_left 1
            · (intro w hSw; obtain ⟨s0, s1, s2, s3, s4, s5⟩ := hSw; go_simp; try with_reducible rfl)
            simp only [Act.put, List.setIfInBounds_toArray, List.set_cons_zero, List.set_cons_succ]
            refine take_list2 (i := 21) (v := undef) rfl (by kernel_rfl) (by kernel_rfl) (by kernel_rfl) (fun _ _ _ h => h) (Or.inr ⟨by rfl, rfl⟩) hHeld ?_
            simp only [Act.put, List.setIfInBounds_toArray, List.set_cons_zero, List.set_cons_succ]
            refine take_list2 (i := 22) (v := undef) rfl (by kernel_rfl) (by kernel_rfl) (by kernel_rfl) (fun _ _ _ h => h) (Or.inr ⟨by rfl, rfl⟩) hHeld ?_
            simp only [Act.put, List.setIfInBounds_toArray, List.set_cons_zero, List.set_cons_succ]
            refine take_list2 (i := 23) (v := undef) rfl (by kernel_rfl) (by kernel_rfl) (by kernel_rfl) (fun _ _ _ h => h) (Or.inr ⟨by rfl, rfl⟩) hHeld ?_
            simp only [Act.put, List.setIfInBounds_toArray, List.set_cons_zero, List.set_cons_succ]
            refine take_list2 (i := 24) (v := undef) rfl (by kernel_rfl) (by kernel_rfl) (by kernel_rfl) (fun _ _ _ h => h) (Or.inr ⟨by rfl, rfl⟩) hHeld ?_
            simp only [Act.put, List.setIfInBounds_toArray, List.set_cons_zero, List.set_cons_succ]
            refine take_list2 (i := 25) (v := undef) rfl (by kernel_rfl) (by kernel_rfl) (by kernel_rfl) (fun _ _ _ h => h) (Or.inr ⟨by rfl, rfl⟩) hHeld ?_
            simp only [Act.put, List.setIfInBounds_toArray, List.set_cons_zero, List.set_cons_succ]
            refine take_list2 (i := 26) (v := undef) rfl (by kernel_rfl) (by kernel_rfl) (by kernel_rfl) (fun _ _ _ h => h) (Or.inr ⟨by rfl, rfl⟩) hHeld ?_
            simp only [Act.put, List.setIfInBounds_toArray, List.set_cons_zero, List.set_cons_succ]
            refine take_list2 (i := 27) (v := undef) rfl (by kernel_rfl) (by kernel_rfl) (by kernel_rfl) (fun _ _ _ h => h) (Or.inr ⟨by rfl, rfl⟩) hHeld ?_
            simp only [Act.put, List.setIfInBounds_toArray, List.set_cons_zero, List.set_cons_succ]
            refine take_list2 (i := 28) (v := undef) rfl (by kernel_rfl) (by kernel_rfl) (by kernel_rfl) (fun _ _ _ h => h) (Or.inr ⟨by rfl, rfl⟩) hHeld ?_
            simp only [Act.put, List.setIfInBounds_toArray, List.set_cons_zero, List.set_cons_succ]
            refine take_list2 (i := 29) (v := ?_) rfl (by kernel_rfl) (by kernel_rfl) (by kernel_rfl) (fun _ _ _ h => h) (Or.inl ⟨by rfl, ?_⟩) hHeld ?_
            rotate_left 1
            · (intro w hSw; obtain ⟨s0, s1, s2, s3, s4, s5⟩ := hSw; go_simp; try with_reducible rfl)
            simp only [Act.put, List.setIfInBounds_toArray, List.set_cons_zero, List.set_cons_succ]
            refine wpAnyH_done (by kernel_rfl) ?_ _
            gi_wp2
            gi_meet
            case rel => exact ⟨rfl, true, rfl, Lib.hid (by rw [if_pos rfl]; exact hx.out)⟩
        · skip
          have hS := (FV.out _ hx.out.2).2.2
          refine hK.out _ _ hS (fun hHeld => ?_)
          clear hK K hS
          (try simp only [Act.put, List.setIfInBounds_toArray, List.set_cons_zero, List.set_cons_succ])
          refine take_list2 (i := 9) (v := ?_) rfl (by kernel_rfl) (by kernel_rfl) (by kernel_rfl) (fun _ _ _ h => h) (Or.inl ⟨by rfl, ?_⟩) hHeld ?_
          rotate_left 1
          · (intro w hSw; obtain ⟨s0, s1, s2, s3, s4, s5⟩ := hSw; go_simp; try with_reducible rfl)
          simp only [Act.put, List.setIfInBounds_toArray, List.set_cons_zero, List.set_cons_succ]
          refine take_list2 (i := 10) (v := ?_) rfl (by kernel_rfl) (by kernel_rfl) (by kernel_rfl) (fun _ _ _ h => h) (Or.inl ⟨by rfl, ?_⟩) hHeld ?_
          rotate_left 1
          · (intro w hSw; obtain ⟨s0, s1, s2, s3, s4, s5⟩ := hSw; go_simp; try with_reducible rfl)
          simp only [Act.put, List.setIfInBounds_toArray, List.set_cons_zero, List.set_cons_succ]
          refine take_list2 (i := 11) (v := undef) rfl (by kernel_rfl) (by kernel_rfl) (by kernel_rfl) (fun _ _ _ h => h) (Or.inr ⟨by rfl, rfl⟩) hHeld ?_
          simp only [Act.put, List.setIfInBounds_toArray, List.set_cons_zero, List.set_cons_succ]
          refine take_list2 (i := 12) (v := undef) rfl (by kernel_rfl) (by kernel_rfl) (by kernel_rfl) (fun _ _ _ h => h) (Or.inr ⟨by rfl, rfl⟩) hHeld ?_
          simp only [Act.put, List.setIfInBounds_toArray, List.set_cons_zero, List.set_cons_succ]
          refine take_list2 (i := 13) (v := undef) rfl (by kernel_rfl) (by kernel_rfl) (by kernel_rfl) (fun _ _ _ h => h) (Or.inr ⟨by rfl, rfl⟩) hHeld ?_
          simp only [Act.put, List.setIfInBounds_toArray, List.set_cons_zero, List.set_cons_succ]
          refine take_list2 (i := 14) (v := undef) rfl (by kernel_rfl) (by kernel_rfl) (by kernel_rfl) (fun _ _ _ h => h) (Or.inr ⟨by rfl, rfl⟩) hHeld ?_
          simp only [Act.put, List.setIfInBounds_toArray, List.set_cons_zero, List.set_cons_succ]
          refine take_list2 (i := 15) (v := undef) rfl (by kernel_rfl) (by kernel_rfl) (by kernel_rfl) (fun _ _ _ h => h) (Or.inr ⟨by rfl, rfl⟩) hHeld ?_
          simp only [Act.put, List.setIfInBounds_toArray, List.set_cons_zero, List.set_cons_succ]
          refine take_list2 (i := 16) (v := undef) rfl (by kernel_rfl) (by kernel_rfl) (by kernel_rfl) (fun _ _ _ h => h) (Or.inr ⟨by rfl, rfl⟩) hHeld ?_
          simp only [Act.put, List.setIfInBounds_toArray, List.set_cons_zero, List.set_cons_succ]
          refine take_list2 (i := 17) (v := undef) rfl (by kernel_rfl) (by kernel_rfl) (by kernel_rfl) (fun _ _ _ h => h) (Or.inr ⟨by rfl, rfl⟩) hHeld ?_
          simp only [Act.put, List.setIfInBounds_toArray, List.set_cons_zero, List.set_cons_succ]
          refine take_list2 (i := 18) (v := undef) rfl (by kernel_rfl) (by kernel_rfl) (by kernel_rfl) (fun _ _ _ h => h) (Or.inr ⟨by rfl, rfl⟩) hHeld ?_
          simp only [Act.put, List.setIfInBounds_toArray, List.set_cons_zero, List.set_cons_succ]
          refine take_list2 (i := 19) (v := ?_) rfl (by kernel_rfl) (by kernel_rfl) (by kernel_rfl) (fun _ _ _ h => h) (Or.inl ⟨by rfl, ?_⟩) hHeld ?_
          rotate_left 1
          · (intro w hSw; obtain ⟨s0, s1, s2, s3, s4, s5⟩ := hSw; go_simp; try with_reducible rfl)
          simp only [Act.put, List.setIfInBounds_toArray, List.set_cons_zero, List.set_cons_succ]
          refine take_list2 (i := 20) (v := ?_) rfl (by kernel_rfl) (by kernel_rfl) (by kernel_rfl) (fun _ _ _ h => h) (Or.inl ⟨by rfl, ?_⟩) hHeld ?_
          rotate_left 1
          · (intro w hSw; obtain ⟨s0, s1, s2, s3, s4, s5⟩ := hSw; go_simp; try with_reducible rfl)
          simp only [Act.put, List.setIfInBounds_toArray, List.set_cons_zero, List.set_cons_succ]
          refine take_list2 (i := 21) (v := undef) rfl (by kernel_rfl) (by kernel_rfl) (by kernel_rfl) (fun _ _ _ h => h) (Or.inr ⟨by rfl, rfl⟩) hHeld ?_
          simp only [Act.put, List.setIfInBounds_toArray, List.set_cons_zero, List.set_cons_succ]
          refine take_list2 (i := 22) (v := undef) rfl (by kernel_rfl) (by kernel_rfl) (by kernel_rfl) (fun _ _ _ h => h) (Or.inr ⟨by rfl, rfl⟩) hHeld ?_
          simp only [Act.put, List.setIfInBounds_toArray, List.set_cons_zero, List.set_cons_succ]
          refine take_list2 (i := 23) (v := undef) rfl (by kernel_rfl) (by kernel_rfl) (by kernel_rfl) (fun _ _ _ h => h) (Or.inr ⟨by rfl, rfl⟩) hHeld ?_
          simp only [Act.put, List.setIfInBounds_toArray, List.set_cons_zero, List.set_cons_succ]
          refine take_list2 (i := 24) (v := undef) rfl (by kernel_rfl) (by kernel_rfl) (by kernel_rfl) (fun _ _ _ h => h) (Or.inr ⟨by rfl, rfl⟩) hHeld ?_
          simp only [Act.put, List.setIfInBounds_toArray, List.set_cons_zero, List.set_cons_succ]
          refine take_list2 (i := 25) (v := undef) rfl (by kernel_rfl) (by kernel_rfl) (by kernel_rfl) (fun _ _ _ h => h) (Or.inr ⟨by rfl, rfl⟩) hHeld ?_
          simp only [Act.put, List.setIfInBounds_toArray, List.set_cons_zero, List.set_cons_succ]
          refine take_list2 (i := 26) (v := undef) rfl (by kernel_rfl) (by kernel_rfl) (by kernel_rfl) (fun _ _ _ h => h) (Or.inr ⟨by rfl, rfl⟩) hHeld ?_
          simp only [Act.put, List.setIfInBounds_toArray, List.set_cons_zero, List.set_cons_succ]
          refine take_list2 (i := 27) (v := undef) rfl (by kernel_rfl) (by kernel_rfl) (by kernel_rfl) (fun _ _ _ h => h) (Or.inr ⟨by rfl, rfl⟩) hHeld ?_
          simp only [Act.put, List.setIfInBounds_toArray, List.set_cons_zero, List.set_cons_succ]
          refine take_list2 (i := 28) (v := undef) rfl (by kernel_rfl) (by kernel_rfl) (by kernel_rfl) (fun _ _ _ h => h) (Or.inr ⟨by rfl, rfl⟩) hHeld ?_
          simp only [Act.put, List.setIfInBounds_toArray, List.set_cons_zero, List.set_cons_succ]
          refine take_list2 (i := 29) (v := ?_) rfl (by kernel_rfl) (by kernel_rfl) (by kernel_rfl) (fun _ _ _ h => h) (Or.inl ⟨by rfl, ?_⟩) hHeld ?_
          rotate_left 1
          · (intro w hSw; obtain ⟨s0, s1, s2, s3, s4, s5⟩ := hSw; go_simp; try with_reducible rfl)
          simp only [Act.put, List.setIfInBounds_toArray, List.set_cons_zero, List.set_cons_succ]
          refine wpAnyH_done (by kernel_rfl) ?_ _
          gi_wp2
          gi_meet
          case rel => exact ⟨rfl, true, rfl, Lib.hid (by rw [if_pos rfl]; exact hx.out)⟩
      case rest =>
        obtain ⟨rfl, t, rfl, HT⟩ := hcut
        clear I1
        cases t with
        | true =>
          gi_wp2
          refine bodyPost_ret (results_none rfl _ _ _) rfl ?_
          have hx := HT.out
          first | rw [if_pos rfl] at hx | rw [if_pos trivial] at hx
          exact ⟨⟨_, rfl⟩, .inr hx.1⟩
        | false =>
          have I5 : Hid (StInv J lo w.heap.size W0 (n0 + x1 + x2 + x3) wc) := Lib.hid (by have h := HT.out; rwa [if_neg (by simp)] at h)
          clear HT K1 K2 K3 K4
          obtain ⟨W5, hW5⟩ : ∃ W5, W5 = wc := ⟨_, rfl⟩
          rw [← hW5] at I5 ⊢
          clear hW5
          obtain ⟨e1, e2, e3, e4, e5, e6, e7, e8⟩ := FV.out _ I5.out.2
          gi_wp2
          gi_loopw [59] (fun i wr => ∃ k : Nat, k ≤ x4 ∧ i = .int .i64 k ∧ Hid (StInv J lo w.heap.size W0 (n0 + x1 + x2 + x3 + offA ar L k) wr))
            (fun i _ => x4 - (intOf i).toNat)
          case atStart => exact ⟨0, by omega, rfl, Lib.hid (by rw [HO.out]; exact I5.out)⟩
          case round =>
            obtain ⟨k, hk, rfl, HK⟩ := hrel
            have hm7 := HM7.out
            by_cases hlt : k < x4
            · obtain ⟨rfl, hb1⟩ := H7.out.resolve_left (by omega)
              obtain ⟨a, ha⟩ := HLen.out k hlt
              obtain ⟨xn, yn, c, hcells, hyield⟩ := K5.out k a ha
              obtain ⟨y0, y1, y2⟩ := hcells _ _ HK.out
              have hsz := HK.out.2.size
              have HY := Lib.hid hyield
              have g7 : b7 < wr.heap.size := by omega
              generalize a.body.length = ln at *
              obtain ⟨ca, cc⟩ := c
              clear hcells hyield ha e3 e4 e5 e6 e7 e8
              gi_wp2
              refine ⟨trivial, fun h => (by simp [Fence.wide] at h), ?_⟩
              refine (HY.out _ (HNX.out _ _ _ HK.out (box1 wr _))).mono ?_
              rintro r w6 (⟨rfl, I6⟩ | ⟨rfl, hx⟩)
              · clear HY y0 y1 y2
                gi_wp2
                go_roundw
                case rel => exact ⟨k + 1, by omega, by go_num, I6⟩
                case measure => simp [intOf]; omega
              · clear HY y0 y1 y2
                gi_wp2
                refine bodyPost_ret (results_none rfl _ _ _) rfl ?_
                exact ⟨⟨_, rfl⟩, .inr hx.out.1⟩
            · obtain rfl : k = x4 := by omega
              gi_wp2
              go_end0
              exact ⟨⟨_, rfl⟩, .inl (HEnd.out _ HK.out)⟩
end Go.Proofs.YthilicmhdkmipaaGreatDoor

