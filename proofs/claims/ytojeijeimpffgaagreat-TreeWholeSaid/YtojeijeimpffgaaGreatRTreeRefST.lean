/- The document's own answer, sameness: statements (made by gen_refS.py). -/
import Derived.Test.YtojeijeimpffgaaGreatRJoinR
import Derived.Deep.Cut
import Derived.Deep.CutRange
import Derived.BigRegion
import Derived.Deep.MidRow
import Derived.Deep.RegionHeld3
namespace Go.Proofs.YtojeijeimpffgaaGreat
open Go.RowKit
set_option linter.unusedVariables false

/-- the operation taken by its place in the list: the walk holds it written out, not as a place of an array -/
theorem take_listT {P : Program} {md : Region.Mode} {l : List Oper} {Q : Exit → Act → World → Prop} {S : World → Prop} {i : Nat} {oi : Oper} {v : Value} {fuel : Nat} {listed : Array Bool} {a : Act} {w : World} (hi : l[i]? = some oi)
    (hs : Region.noSelect l.toArray = true) (hf : Region.free md l.toArray listed i = true) (hr : (Region.ready md l.toArray listed).contains i = true)
    (hQ : ∀ c a w, Q (.panic c) (a.put oi.dst v) w → Q (.panic c) a w) (hy : YieldsIf P l.toArray S oi v a) (hS : S w)
    (h : wpAnyH P md l.toArray Q S fuel (listed.setIfInBounds i true) (a.put oi.dst v) w) : wpAnyH P md l.toArray Q S (fuel + 1) listed a w :=
  wpAnyH_take (by simpa using hi) hs hf hr hQ hy hS h
theorem below_setCellsT {B : Nat} {a : World} (b : Nat) (hb : B ≤ b) : ∀ (vs : List Value) (o : Nat) (w : World), Below B a w → Below B a (w.setCells b o vs)
  | [], _, _, h => h
  | v :: r, o, w, h => by rw [World.setCells]; exact below_setCellsT b hb r (o + 1) _ (h.setCell hb v)
theorem there_newT (w : World) (Z : Array Value) (T : TypeId) : (w.alloc (.cells Z T)).there w.heap.size 0 Z.size := fun j hj => by
  have hh : (w.alloc (.cells Z T)).heap[w.heap.size]? = some (.cells Z T) := by first | (simp; done) | (unfold World.alloc; simp; done) | (rw [World.alloc_eq]; simp)
  refine ⟨?_, ?_⟩
  · rw [cell_of_row _ _ _ _ _ _ hh]; simp [hj]
  · unfold World.frozen?
    simp only [hh]
    simp
theorem alloc_stepT {K : Act → World → Prop} {D : World} {a : Act} {Z : Array Value} {T : TypeId}
    (h : ∀ W : World, W.heap.size = D.heap.size + 1 → W.there D.heap.size 0 Z.size → (∀ b o cs, D.rangeAt b o cs → W.rangeAt b o cs) → (∀ b o n, D.there b o n → W.there b o n) → (∀ (B : Nat) (A : World), B ≤ D.heap.size → Below B A D → Below B A W) → K a W) :
    K a (D.alloc (.cells Z T)) :=
  h _ (by simp) (there_newT D Z T) (fun _ _ _ h => World.rangeAt_alloc h _) (fun _ _ _ h => World.there_alloc h _) (fun _ _ hB h => h.alloc hB _)
theorem size_setCellsT' (b : Nat) : ∀ (vs : List Value) (o : Nat) (w : World), (w.setCells b o vs).heap.size = w.heap.size
  | [], _, _ => rfl
  | v :: r, o, w => by rw [World.setCells, size_setCellsT' b r]; simp
theorem store_stepT {K : Act → World → Prop} {D : World} {a : Act} {b : Nat} {cs : List Value} (ht : D.there b 0 cs.length)
    (h : ∀ W : World, W.heap.size = D.heap.size → W.rangeAt b 0 cs → (∀ b' o' cs', b' ≠ b → D.rangeAt b' o' cs' → W.rangeAt b' o' cs') → (∀ b' o' n, D.there b' o' n → W.there b' o' n) → (∀ (B : Nat) (A : World), B ≤ b → Below B A D → Below B A W) → K a W) :
    K a (D.setCells b 0 cs) :=
  h _ (size_setCellsT' _ _ _ _) (World.rangeAt_setCells_same _ _ _ _ ht) (fun _ _ _ hn h => World.rangeAt_setCells_apart h _ _ _ (.inl hn)) (fun _ _ _ h => World.there_setCells h _ _ _) (fun _ _ hB h => below_setCellsT _ hB _ _ _ h)

def RefLAtT (B : Nat) (l : List PS) : Prop := ∀ (ys : List PS) (v1 v2 : Value) (b1 o1 b2 o2 : Nat) (w : World), B ≤ w.heap.size → SlV B v1 l.length b1 o1 → PS.Row B w b1 o1 l → SlV B v2 ys.length b2 o2 → PS.Row B w b2 o2 ys →
  Calls Tryz.prog 39 #[v1, v2, .bool true] w fun e w' => e = .returned (.bool (sameSs true l ys)) ∧ Below w.heap.size w w'
def SubRAT (B : Nat) : PA → Prop | .mk _ _ bo => RefLAtT B bo
def SubRST (B : Nat) : PS → Prop | .mk _ _ _ _ _ _ _ _ bo el ar _ => RefLAtT B bo ∧ RefLAtT B el ∧ ∀ a, a ∈ ar → SubRAT B a

set_option maxRecDepth 100000 in
set_option maxHeartbeats 8000000 in
theorem refS_listT (B : Nat) (xs : List PS) (H0 : ∀ a, a ∈ xs → SubRST B a) : RefLAtT B xs := by
  intro ys v1 v2 b1 o1 b2 o2 w hB s1 r1 s2 r2
  rw [sameSs_all]
  obtain ⟨m1, ao1, cap1, rfl, h1⟩ := s1
  obtain ⟨m2, ao2, cap2, rfl, h2⟩ := s2
  unfold maxLen at m1 m2
  by_cases hn : xs.length = ys.length
  · have hyes := fun h => allW_yes (f := sameS true) hn h
    obtain ⟨n, hx⟩ : ∃ n, n = xs.length := ⟨_, rfl⟩
    have hy : n = ys.length := hx.trans hn
    rw [← hx] at m1 h1 ⊢
    rw [← hy] at m2 h2 ⊢
    have Hyes := Lib.hid hyes
    have Hx := Lib.hid hx
    have Hy := Lib.hid hy
    have Hr := Lib.hid r1
    have Hs := Lib.hid r2
    have H1 := Lib.hid h1
    have H2 := Lib.hid h2
    have H := Lib.hid H0
    clear hyes hn hx hy r1 r2 h1 h2 H0
    go_enter Tryz.func39, Tryz.ntmps39
    go_wp2_with fail
    go_loopw [7] (fun i wr => ∃ k : Nat, k ≤ n ∧ i = .int .i64 k ∧ Below w.heap.size w wr ∧ Hid (∀ (j : Nat) x y, j < k → xs[j]? = some x → ys[j]? = some y → sameS true x y = true))
      (fun i _ => n - (intOf i).toNat)
    case atStart => exact ⟨0, by omega, rfl, Below.refl _ _, Lib.hid fun j x y hj => by omega⟩
    case round =>
      obtain ⟨k, hk, rfl, hbel, HK⟩ := hrel
      have hsz := hbel.size
      have hbB := hbel.mono hB
      by_cases hlt : k < n
      · obtain ⟨a, ha, hin⟩ := get_at (l := xs) (k := k) (by rw [← Hx.out]; exact hlt)
        obtain ⟨b, hb, _⟩ := get_at (l := ys) (k := k) (by rw [← Hy.out]; exact hlt)
        obtain ⟨rfl, hb1⟩ := H1.out.resolve_left (by omega)
        obtain ⟨rfl, hb2⟩ := H2.out.resolve_left (by omega)
        obtain ⟨va, ca, ia⟩ := PS.Row.get (PS.Row.below hbB (fun _ => hb1) Hr.out) ha
        obtain ⟨vb, cb, ib⟩ := PS.Row.get (PS.Row.below hbB (fun _ => hb2) Hs.out) hb
        obtain ⟨pa0, na0, qa0, pa1, na1, qa1, pa2, na2, qa2, pa3, na3, qa3, pa4, na4, qa4, pa5, na5, qa5, pa6, na6, qa6, rfl⟩ := ia.shape
        obtain ⟨pb0, nb0, qb0, pb1, nb1, qb1, pb2, nb2, qb2, pb3, nb3, qb3, pb4, nb4, qb4, pb5, nb5, qb5, pb6, nb6, qb6, rfl⟩ := ib.shape
        obtain ⟨opa, nma, sca, nsa, tya, iva, pla, esa, boa, ela, ara, ata⟩ := a
        obtain ⟨opb, nmb, scb, nsb, tyb, ivb, plb, esb, bob, elb, arb, atb⟩ := b
        have c0 : wr.cell? ⟨b1, o1 + k * 15, none⟩ = some (.int .u8 opa) := ca 0 _ rfl
        have c1 : wr.cell? ⟨b1, o1 + k * 15 + 1, none⟩ = some (.string nma) := ca 1 _ rfl
        have c2 : wr.cell? ⟨b1, o1 + k * 15 + 2, none⟩ = some (.string sca) := ca 2 _ rfl
        have c3 : wr.cell? ⟨b1, o1 + k * 15 + 3, none⟩ = some (.slice pa0 na0 qa0) := ca 3 _ rfl
        have c4 : wr.cell? ⟨b1, o1 + k * 15 + 4, none⟩ = some (.int .u8 tya.kind) := ca 4 _ rfl
        have c5 : wr.cell? ⟨b1, o1 + k * 15 + 5, none⟩ = some (.string tya.name) := ca 5 _ rfl
        have c6 : wr.cell? ⟨b1, o1 + k * 15 + 6, none⟩ = some (.slice pa1 na1 qa1) := ca 6 _ rfl
        have c7 : wr.cell? ⟨b1, o1 + k * 15 + 7, none⟩ = some (.int .i64 iva) := ca 7 _ rfl
        have c8 : wr.cell? ⟨b1, o1 + k * 15 + 8, none⟩ = some (.string pla.name) := ca 8 _ rfl
        have c9 : wr.cell? ⟨b1, o1 + k * 15 + 9, none⟩ = some (.slice pa2 na2 qa2) := ca 9 _ rfl
        have c10 : wr.cell? ⟨b1, o1 + k * 15 + 10, none⟩ = some (.slice pa3 na3 qa3) := ca 10 _ rfl
        have c11 : wr.cell? ⟨b1, o1 + k * 15 + 11, none⟩ = some (.slice pa4 na4 qa4) := ca 11 _ rfl
        have c12 : wr.cell? ⟨b1, o1 + k * 15 + 12, none⟩ = some (.slice pa5 na5 qa5) := ca 12 _ rfl
        have c13 : wr.cell? ⟨b1, o1 + k * 15 + 13, none⟩ = some (.slice pa6 na6 qa6) := ca 13 _ rfl
        have c14 : wr.cell? ⟨b1, o1 + k * 15 + 14, none⟩ = some (.int .i64 ata) := ca 14 _ rfl
        have d0 : wr.cell? ⟨b2, o2 + k * 15, none⟩ = some (.int .u8 opb) := cb 0 _ rfl
        have d1 : wr.cell? ⟨b2, o2 + k * 15 + 1, none⟩ = some (.string nmb) := cb 1 _ rfl
        have d2 : wr.cell? ⟨b2, o2 + k * 15 + 2, none⟩ = some (.string scb) := cb 2 _ rfl
        have d3 : wr.cell? ⟨b2, o2 + k * 15 + 3, none⟩ = some (.slice pb0 nb0 qb0) := cb 3 _ rfl
        have d4 : wr.cell? ⟨b2, o2 + k * 15 + 4, none⟩ = some (.int .u8 tyb.kind) := cb 4 _ rfl
        have d5 : wr.cell? ⟨b2, o2 + k * 15 + 5, none⟩ = some (.string tyb.name) := cb 5 _ rfl
        have d6 : wr.cell? ⟨b2, o2 + k * 15 + 6, none⟩ = some (.slice pb1 nb1 qb1) := cb 6 _ rfl
        have d7 : wr.cell? ⟨b2, o2 + k * 15 + 7, none⟩ = some (.int .i64 ivb) := cb 7 _ rfl
        have d8 : wr.cell? ⟨b2, o2 + k * 15 + 8, none⟩ = some (.string plb.name) := cb 8 _ rfl
        have d9 : wr.cell? ⟨b2, o2 + k * 15 + 9, none⟩ = some (.slice pb2 nb2 qb2) := cb 9 _ rfl
        have d10 : wr.cell? ⟨b2, o2 + k * 15 + 10, none⟩ = some (.slice pb3 nb3 qb3) := cb 10 _ rfl
        have d11 : wr.cell? ⟨b2, o2 + k * 15 + 11, none⟩ = some (.slice pb4 nb4 qb4) := cb 11 _ rfl
        have d12 : wr.cell? ⟨b2, o2 + k * 15 + 12, none⟩ = some (.slice pb5 nb5 qb5) := cb 12 _ rfl
        have d13 : wr.cell? ⟨b2, o2 + k * 15 + 13, none⟩ = some (.slice pb6 nb6 qb6) := cb 13 _ rfl
        have d14 : wr.cell? ⟨b2, o2 + k * 15 + 14, none⟩ = some (.int .i64 atb) := cb 14 _ rfl
        have g1 : b1 < wr.heap.size := by omega
        have g2 : b2 < wr.heap.size := by omega
        have HS := Lib.hid (H.out _ hin)
        have Ia := Lib.hid ia
        have Ib := Lib.hid ib
        have Ha := Lib.hid ha
        have Hb := Lib.hid hb
        have hk1 : (k : Int) < (n : Int) := by omega
        have hk0 : 0 ≤ (k : Int) := by omega
        clear ha hb ca cb ia ib hin
        go_upto_region 6 with (fail)
        go_cut [8, 9] from 16 to 175 (fun s8 s9 wc => ∃ x y : Nat, s8 = .pointer (some ⟨x, 0, none⟩) ∧ s9 = .pointer (some ⟨y, 0, none⟩) ∧ wr.heap.size ≤ x ∧ wr.heap.size ≤ y ∧ x < wc.heap.size ∧ y < wc.heap.size ∧ Hid (CellsAt wc x 0 [.int .u8 opa, .string nma, .string sca, .slice pa0 na0 qa0, .int .u8 tya.kind, .string tya.name, .slice pa1 na1 qa1, .int .i64 iva, .string pla.name, .slice pa2 na2 qa2, .slice pa3 na3 qa3, .slice pa4 na4 qa4, .slice pa5 na5 qa5, .slice pa6 na6 qa6, .int .i64 ata]) ∧ Hid (CellsAt wc y 0 [.int .u8 opb, .string nmb, .string scb, .slice pb0 nb0 qb0, .int .u8 tyb.kind, .string tyb.name, .slice pb1 nb1 qb1, .int .i64 ivb, .string plb.name, .slice pb2 nb2 qb2, .slice pb3 nb3 qb3, .slice pb4 nb4 qb4, .slice pb5 nb5 qb5, .slice pb6 nb6 qb6, .int .i64 atb]) ∧ Hid (Below wr.heap.size wr wc))
        case first =>
          rename_i J K' hJ hK'
          clear HS Ia Ib Ha Hb Hyes Hx Hy Hr Hs H HK
          have RA : wr.rangeAt b1 (o1 + k * 15) [.int .u8 opa, .string nma, .string sca, .slice pa0 na0 qa0, .int .u8 tya.kind, .string tya.name, .slice pa1 na1 qa1, .int .i64 iva, .string pla.name, .slice pa2 na2 qa2, .slice pa3 na3 qa3, .slice pa4 na4 qa4, .slice pa5 na5 qa5, .slice pa6 na6 qa6, .int .i64 ata] := by
            intro j v hv
            rcases j with _|_|_|_|_|_|_|_|_|_|_|_|_|_|_|j <;> simp at hv <;> subst hv <;> assumption
          have RB : wr.rangeAt b2 (o2 + k * 15) [.int .u8 opb, .string nmb, .string scb, .slice pb0 nb0 qb0, .int .u8 tyb.kind, .string tyb.name, .slice pb1 nb1 qb1, .int .i64 ivb, .string plb.name, .slice pb2 nb2 qb2, .slice pb3 nb3 qb3, .slice pb4 nb4 qb4, .slice pb5 nb5 qb5, .slice pb6 nb6 qb6, .int .i64 atb] := by
            intro j v hv
            rcases j with _|_|_|_|_|_|_|_|_|_|_|_|_|_|_|j <;> simp at hv <;> subst hv <;> assumption
          generalize hcsA : ([.int .u8 opa, .string nma, .string sca, .slice pa0 na0 qa0, .int .u8 tya.kind, .string tya.name, .slice pa1 na1 qa1, .int .i64 iva, .string pla.name, .slice pa2 na2 qa2, .slice pa3 na3 qa3, .slice pa4 na4 qa4, .slice pa5 na5 qa5, .slice pa6 na6 qa6, .int .i64 ata] : List Value) = csA at RA
          generalize hcsB : ([.int .u8 opb, .string nmb, .string scb, .slice pb0 nb0 qb0, .int .u8 tyb.kind, .string tyb.name, .slice pb1 nb1 qb1, .int .i64 ivb, .string plb.name, .slice pb2 nb2 qb2, .slice pb3 nb3 qb3, .slice pb4 nb4 qb4, .slice pb5 nb5 qb5, .slice pb6 nb6 qb6, .int .i64 atb] : List Value) = csB at RB
          have LA : csA.length = 15 := by rw [← hcsA]; rfl
          have LB : csB.length = 15 := by rw [← hcsB]; rfl
          have OA : ∀ v ∈ csA, v.oneCell' = true := by rw [← hcsA]; simp [Value.oneCell']
          have OB : ∀ v ∈ csB, v.oneCell' = true := by rw [← hcsB]; simp [Value.oneCell']
          clear c0 c1 c2 c3 c4 c5 c6 c7 c8 c9 c10 c11 c12 c13 c14 d0 d1 d2 d3 d4 d5 d6 d7 d8 d9 d10 d11 d12 d13 d14
          as_aux_lemma =>
            have FA : ∀ W : World, (W.rangeAt b1 (o1 + k * 15) csA ∧ W.rangeAt b2 (o2 + k * 15) csB) → (Instr.loadAt 92 (.pointer (some ⟨b1, o1 + k * 15, none⟩))).run Tryz.prog W = .ok (.agg csA.toArray) W := fun W h => run_loadAt_mid W b1 _ 92 csA _ h.1 rfl rfl (by rw [LA]; rfl)
            have FB : ∀ W : World, (W.rangeAt b1 (o1 + k * 15) csA ∧ W.rangeAt b2 (o2 + k * 15) csB) → (Instr.loadAt 92 (.pointer (some ⟨b2, o2 + k * 15, none⟩))).run Tryz.prog W = .ok (.agg csB.toArray) W := fun W h => run_loadAt_mid W b2 _ 92 csB _ h.2 rfl rfl (by rw [LB]; rfl)
            refine wp_region_held_drew (S := fun W => W.rangeAt b1 (o1 + k * 15) csA ∧ W.rangeAt b2 (o2 + k * 15) csB ∧ Hid (Below wr.heap.size wr W)) (by kernel_rfl) ?_ (fun hHeld => ?_)
            · exact ⟨(World.rangeAt_drew _ _ _ _).2 RA, (World.rangeAt_drew _ _ _ _).2 RB, Lib.hid (Below.refl _ _).drew⟩
            obtain ⟨D, hD⟩ : ∃ D, D = wr.drew := ⟨_, rfl⟩
            rw [← hD] at hHeld ⊢
            clear hD
            refine take_listT (i := 0) (v := ?_) rfl (by kernel_rfl) (by kernel_rfl) (by kernel_rfl) (fun _ _ _ h => h) (Or.inl ⟨by rfl, ?_⟩) hHeld ?_
            rotate_left 1
            · (intro w hSw; (try dsimp only at hSw); go_simp; try with_reducible rfl)
            simp only [Act.put, List.setIfInBounds_toArray, List.set_cons_zero, List.set_cons_succ]
            refine take_listT (i := 1) (v := ?_) rfl (by kernel_rfl) (by kernel_rfl) (by kernel_rfl) (fun _ _ _ h => h) (Or.inl ⟨by rfl, ?_⟩) hHeld ?_
            rotate_left 1
            · (intro w hSw; (try dsimp only at hSw); go_simp; try with_reducible rfl)
            simp only [Act.put, List.setIfInBounds_toArray, List.set_cons_zero, List.set_cons_succ]
            refine take_listT (i := 2) (v := ?_) rfl (by kernel_rfl) (by kernel_rfl) (by kernel_rfl) (fun _ _ _ h => h) (Or.inl ⟨by rfl, ?_⟩) hHeld ?_
            rotate_left 1
            · (intro w hSw; (try dsimp only at hSw); go_simp; try with_reducible rfl)
            simp only [Act.put, List.setIfInBounds_toArray, List.set_cons_zero, List.set_cons_succ]
            refine take_listT (i := 3) (v := .agg (List.toArray csA)) rfl (by kernel_rfl) (by kernel_rfl) (by kernel_rfl) (fun _ _ _ h => h) (yieldsIf_load_mid (by rfl) 92 _ rfl _ _ rfl csA _ (fun w hSw => by (try dsimp only at hSw); go_split_ands; assumption) rfl rfl (by rw [LA]; rfl)) hHeld ?_
            simp only [Act.put, List.setIfInBounds_toArray, List.set_cons_zero, List.set_cons_succ]
            refine take_listT (i := 4) (v := ?_) rfl (by kernel_rfl) (by kernel_rfl) (by kernel_rfl) (fun _ _ _ h => h) (Or.inl ⟨by rfl, ?_⟩) hHeld ?_
            rotate_left 1
            · (intro w hSw; (try dsimp only at hSw); go_simp; try with_reducible rfl)
            simp only [Act.put, List.setIfInBounds_toArray, List.set_cons_zero, List.set_cons_succ]
            refine take_listT (i := 5) (v := ?_) rfl (by kernel_rfl) (by kernel_rfl) (by kernel_rfl) (fun _ _ _ h => h) (Or.inl ⟨by rfl, ?_⟩) hHeld ?_
            rotate_left 1
            · (intro w hSw; (try dsimp only at hSw); go_simp; try with_reducible rfl)
            simp only [Act.put, List.setIfInBounds_toArray, List.set_cons_zero, List.set_cons_succ]
            refine take_listT (i := 6) (v := ?_) rfl (by kernel_rfl) (by kernel_rfl) (by kernel_rfl) (fun _ _ _ h => h) (Or.inl ⟨by rfl, ?_⟩) hHeld ?_
            rotate_left 1
            · (intro w hSw; (try dsimp only at hSw); go_simp; try with_reducible rfl)
            simp only [Act.put, List.setIfInBounds_toArray, List.set_cons_zero, List.set_cons_succ]
            refine take_listT (i := 7) (v := .agg (List.toArray csB)) rfl (by kernel_rfl) (by kernel_rfl) (by kernel_rfl) (fun _ _ _ h => h) (yieldsIf_load_mid (by rfl) 92 _ rfl _ _ rfl csB _ (fun w hSw => by (try dsimp only at hSw); go_split_ands; assumption) rfl rfl (by rw [LB]; rfl)) hHeld ?_
            simp only [Act.put, List.setIfInBounds_toArray, List.set_cons_zero, List.set_cons_succ]
            refine wpAnyH_ready (rs := [8, 9]) (by kernel_rfl) (by simp) ?_
            have hsD : wr.heap.size ≤ D.heap.size := hHeld.2.2.out.size
            refine AllReadyH.cons rfl (fun K hK => ?_) (AllReadyH.cons rfl (fun K hK => ?_) AllReadyH.nil)
            · rw [if_pos (by rfl)]
              go_simp
              refine alloc_stepT ?_
              intro W1 z1 t1 m1 n1 e1
              refine hK.out _ _ ⟨m1 _ _ _ hHeld.1, m1 _ _ _ hHeld.2.1, Lib.hid (e1 _ _ hsD hHeld.2.2.out)⟩ (fun hH1 => ?_)
              clear hK K
              refine wpAnyH_ready (rs := [9]) (by kernel_rfl) (by simp) ?_
              refine AllReadyH.cons rfl (fun K hK => ?_) AllReadyH.nil
              rw [if_pos (by rfl)]
              go_simp
              refine alloc_stepT ?_
              intro W2 z2 t2 m2 n2 e2
              rw [z1] at t2 z2
              refine hK.out _ _ ⟨m2 _ _ _ hH1.1, m2 _ _ _ hH1.2.1, Lib.hid (e2 _ _ (by omega) hH1.2.2.out)⟩ (fun hH2 => ?_)
              clear hK K
              refine wpAnyH_ready (rs := [10]) (by kernel_rfl) (by simp) ?_
              refine AllReadyH.cons (o := { dst := none, op := Op.store 92 (Operand.tmp 8) (Operand.tmp 25), type := 0, pos := _, after := _, guard := none }) rfl (fun K hK => ?_) AllReadyH.nil
              rw [if_pos (by rfl)]
              have tA : W2.there (D.heap.size) 0 csA.length := by rw [LA]; first | exact t2 | exact n2 _ _ _ t1
              have tB : W2.there (D.heap.size + 1) 0 csB.length := by rw [LB]; first | exact t2 | exact n2 _ _ _ t1
              refine wp_store_mid 92 _ _ rfl (D.heap.size) 0 (List.toArray csA) rfl rfl (by rw [List.size_toArray]; exact tA) (by rw [List.size_toArray, LA]; rfl) (all_oneCell_toArray OA) ?_
              simp only [Act.put]
              refine store_stepT tA ?_
              intro W3 z3 r3 m3 n3 e3
              refine hK.out _ _ ⟨m3 _ _ _ (by omega) hH2.1, m3 _ _ _ (by omega) hH2.2.1, Lib.hid (e3 _ _ (by omega) hH2.2.2.out)⟩ (fun hH3 => ?_)
              clear hK K
              refine wpAnyH_ready (rs := [11]) (by kernel_rfl) (by simp) ?_
              refine AllReadyH.cons (o := { dst := none, op := Op.store 92 (Operand.tmp 9) (Operand.tmp 29), type := 0, pos := _, after := _, guard := none }) rfl (fun K hK => ?_) AllReadyH.nil
              rw [if_pos (by rfl)]
              refine wp_store_mid 92 _ _ rfl (D.heap.size + 1) 0 (List.toArray csB) rfl rfl (by rw [List.size_toArray]; exact n3 _ _ _ tB) (by rw [List.size_toArray, LB]; rfl) (all_oneCell_toArray OB) ?_
              simp only [Act.put]
              refine store_stepT (n3 _ _ _ tB) ?_
              intro W4 z4 r4 m4 n4 e4
              refine hK.out _ _ ⟨m4 _ _ _ (by omega) hH3.1, m4 _ _ _ (by omega) hH3.2.1, Lib.hid (e4 _ _ (by omega) hH3.2.2.out)⟩ (fun hH4 => ?_)
              clear hK K
              refine wpAnyH_done (by kernel_rfl) ?_ _
              have rA : W4.rangeAt (D.heap.size) 0 csA := m4 _ _ _ (by omega) r3
              subst hcsA hcsB
              refine hK' _ _ (Met.intro (hJ _ _ ?_))
              repeat apply Exists.intro
              refine ⟨?rel, rfl⟩
              case rel => exact ⟨_, _, rfl, rfl, by omega, by omega, by omega, by omega, Lib.hid rA, Lib.hid r4, hH4.2.2⟩
            · rw [if_pos (by rfl)]
              go_simp
              refine alloc_stepT ?_
              intro W1 z1 t1 m1 n1 e1
              refine hK.out _ _ ⟨m1 _ _ _ hHeld.1, m1 _ _ _ hHeld.2.1, Lib.hid (e1 _ _ hsD hHeld.2.2.out)⟩ (fun hH1 => ?_)
              clear hK K
              refine wpAnyH_ready (rs := [8]) (by kernel_rfl) (by simp) ?_
              refine AllReadyH.cons rfl (fun K hK => ?_) AllReadyH.nil
              rw [if_pos (by rfl)]
              go_simp
              refine alloc_stepT ?_
              intro W2 z2 t2 m2 n2 e2
              rw [z1] at t2 z2
              refine hK.out _ _ ⟨m2 _ _ _ hH1.1, m2 _ _ _ hH1.2.1, Lib.hid (e2 _ _ (by omega) hH1.2.2.out)⟩ (fun hH2 => ?_)
              clear hK K
              refine wpAnyH_ready (rs := [10]) (by kernel_rfl) (by simp) ?_
              refine AllReadyH.cons (o := { dst := none, op := Op.store 92 (Operand.tmp 8) (Operand.tmp 25), type := 0, pos := _, after := _, guard := none }) rfl (fun K hK => ?_) AllReadyH.nil
              rw [if_pos (by rfl)]
              have tA : W2.there (D.heap.size + 1) 0 csA.length := by rw [LA]; first | exact t2 | exact n2 _ _ _ t1
              have tB : W2.there (D.heap.size) 0 csB.length := by rw [LB]; first | exact t2 | exact n2 _ _ _ t1
              refine wp_store_mid 92 _ _ rfl (D.heap.size + 1) 0 (List.toArray csA) rfl rfl (by rw [List.size_toArray]; exact tA) (by rw [List.size_toArray, LA]; rfl) (all_oneCell_toArray OA) ?_
              simp only [Act.put]
              refine store_stepT tA ?_
              intro W3 z3 r3 m3 n3 e3
              refine hK.out _ _ ⟨m3 _ _ _ (by omega) hH2.1, m3 _ _ _ (by omega) hH2.2.1, Lib.hid (e3 _ _ (by omega) hH2.2.2.out)⟩ (fun hH3 => ?_)
              clear hK K
              refine wpAnyH_ready (rs := [11]) (by kernel_rfl) (by simp) ?_
              refine AllReadyH.cons (o := { dst := none, op := Op.store 92 (Operand.tmp 9) (Operand.tmp 29), type := 0, pos := _, after := _, guard := none }) rfl (fun K hK => ?_) AllReadyH.nil
              rw [if_pos (by rfl)]
              refine wp_store_mid 92 _ _ rfl (D.heap.size) 0 (List.toArray csB) rfl rfl (by rw [List.size_toArray]; exact n3 _ _ _ tB) (by rw [List.size_toArray, LB]; rfl) (all_oneCell_toArray OB) ?_
              simp only [Act.put]
              refine store_stepT (n3 _ _ _ tB) ?_
              intro W4 z4 r4 m4 n4 e4
              refine hK.out _ _ ⟨m4 _ _ _ (by omega) hH3.1, m4 _ _ _ (by omega) hH3.2.1, Lib.hid (e4 _ _ (by omega) hH3.2.2.out)⟩ (fun hH4 => ?_)
              clear hK K
              refine wpAnyH_done (by kernel_rfl) ?_ _
              have rA : W4.rangeAt (D.heap.size + 1) 0 csA := m4 _ _ _ (by omega) r3
              subst hcsA hcsB
              refine hK' _ _ (Met.intro (hJ _ _ ?_))
              repeat apply Exists.intro
              refine ⟨?rel, rfl⟩
              case rel => exact ⟨_, _, rfl, rfl, by omega, by omega, by omega, by omega, Lib.hid rA, Lib.hid r4, hH4.2.2⟩
        case rest =>
          as_aux_lemma =>
            obtain ⟨x, y, rfl, rfl, hx0, hy0, hxz, hyz, HXc, HYc, HBl⟩ := hcut
            have hbl := HBl.out.size
            have x0 : wc.cell? ⟨x, 0, none⟩ = some (.int .u8 opa) := HXc.out 0 _ rfl
            have y0 : wc.cell? ⟨y, 0, none⟩ = some (.int .u8 opb) := HYc.out 0 _ rfl
            have x1 : wc.cell? ⟨x, 1, none⟩ = some (.string nma) := HXc.out 1 _ rfl
            have y1 : wc.cell? ⟨y, 1, none⟩ = some (.string nmb) := HYc.out 1 _ rfl
            have x2 : wc.cell? ⟨x, 2, none⟩ = some (.string sca) := HXc.out 2 _ rfl
            have y2 : wc.cell? ⟨y, 2, none⟩ = some (.string scb) := HYc.out 2 _ rfl
            have x3 : wc.cell? ⟨x, 3, none⟩ = some (.slice pa0 na0 qa0) := HXc.out 3 _ rfl
            have y3 : wc.cell? ⟨y, 3, none⟩ = some (.slice pb0 nb0 qb0) := HYc.out 3 _ rfl
            have x4 : wc.cell? ⟨x, 4, none⟩ = some (.int .u8 tya.kind) := HXc.out 4 _ rfl
            have y4 : wc.cell? ⟨y, 4, none⟩ = some (.int .u8 tyb.kind) := HYc.out 4 _ rfl
            have x5 : wc.cell? ⟨x, 5, none⟩ = some (.string tya.name) := HXc.out 5 _ rfl
            have y5 : wc.cell? ⟨y, 5, none⟩ = some (.string tyb.name) := HYc.out 5 _ rfl
            have x6 : wc.cell? ⟨x, 6, none⟩ = some (.slice pa1 na1 qa1) := HXc.out 6 _ rfl
            have y6 : wc.cell? ⟨y, 6, none⟩ = some (.slice pb1 nb1 qb1) := HYc.out 6 _ rfl
            have x7 : wc.cell? ⟨x, 7, none⟩ = some (.int .i64 iva) := HXc.out 7 _ rfl
            have y7 : wc.cell? ⟨y, 7, none⟩ = some (.int .i64 ivb) := HYc.out 7 _ rfl
            have x8 : wc.cell? ⟨x, 8, none⟩ = some (.string pla.name) := HXc.out 8 _ rfl
            have y8 : wc.cell? ⟨y, 8, none⟩ = some (.string plb.name) := HYc.out 8 _ rfl
            have x9 : wc.cell? ⟨x, 9, none⟩ = some (.slice pa2 na2 qa2) := HXc.out 9 _ rfl
            have y9 : wc.cell? ⟨y, 9, none⟩ = some (.slice pb2 nb2 qb2) := HYc.out 9 _ rfl
            have x10 : wc.cell? ⟨x, 10, none⟩ = some (.slice pa3 na3 qa3) := HXc.out 10 _ rfl
            have y10 : wc.cell? ⟨y, 10, none⟩ = some (.slice pb3 nb3 qb3) := HYc.out 10 _ rfl
            have x11 : wc.cell? ⟨x, 11, none⟩ = some (.slice pa4 na4 qa4) := HXc.out 11 _ rfl
            have y11 : wc.cell? ⟨y, 11, none⟩ = some (.slice pb4 nb4 qb4) := HYc.out 11 _ rfl
            have x12 : wc.cell? ⟨x, 12, none⟩ = some (.slice pa5 na5 qa5) := HXc.out 12 _ rfl
            have y12 : wc.cell? ⟨y, 12, none⟩ = some (.slice pb5 nb5 qb5) := HYc.out 12 _ rfl
            have x13 : wc.cell? ⟨x, 13, none⟩ = some (.slice pa6 na6 qa6) := HXc.out 13 _ rfl
            have y13 : wc.cell? ⟨y, 13, none⟩ = some (.slice pb6 nb6 qb6) := HYc.out 13 _ rfl
            have x14 : wc.cell? ⟨x, 14, none⟩ = some (.int .i64 ata) := HXc.out 14 _ rfl
            have y14 : wc.cell? ⟨y, 14, none⟩ = some (.int .i64 atb) := HYc.out 14 _ rfl
            have YB := Lib.hid (fun (W : World) (h : Below wc.heap.size wc W) => (show Below B wr W from (HBl.out.mono (by omega)).trans (h.mono (by omega))))
            have YF := Lib.hid (fun (W : World) (h : Below wc.heap.size wc W) => (show Below w.heap.size w W from hbel.trans ((HBl.out.mono hsz).trans (h.mono (by omega)))))
            obtain ⟨_, hna, hta, hpa, ⟨ba3, oa3, sa3, ra3⟩, ⟨ba4, oa4, sa4, ra4⟩, ⟨ba5, oa5, sa5, ra5⟩, ba6, oa6, ⟨hma, aoa, capa, hva, ka6⟩, ra6⟩ := Ia.out
            obtain ⟨_, hnb, htb, hpb, ⟨bb3, ob3, sb3, rb3⟩, ⟨bb4, ob4, sb4, rb4⟩, ⟨bb5, ob5, sb5, rb5⟩, bb6, ob6, ⟨hmb, aob, capb, hvb, kb6⟩, rb6⟩ := Ib.out
            simp only [Value.slice.injEq] at hva hvb
            obtain ⟨rfl, hla, rfl⟩ := hva
            obtain ⟨rfl, hlb, rfl⟩ := hvb
            unfold maxLen at hma hmb
            rw [← hla] at hma ka6
            rw [← hlb] at hmb kb6
            obtain ⟨HS1, HS2, HS3⟩ := HS.out
            have C1 := Lib.hid (fun W (h : Below wc.heap.size wc W) (hB' : B ≤ W.heap.size) => refN_calls B nsa nsb (.slice pa0 na0 qa0) (.slice pb0 nb0 qb0) W hB' (hna.below (YB.out W h)) (hnb.below (YB.out W h)))
            have C2 := Lib.hid (fun W (h : Below wc.heap.size wc W) (hB' : B ≤ W.heap.size) => refT_calls B tya tyb (.slice pa1 na1 qa1) (.slice pb1 nb1 qb1) W hB' (PT.In.below (YB.out W h) hta) (PT.In.below (YB.out W h) htb))
            have C3 := Lib.hid (fun W (h : Below wc.heap.size wc W) (hB' : B ≤ W.heap.size) => refP_calls B pla plb (.slice pa2 na2 qa2) (.slice pb2 nb2 qb2) W hB' (hpa.below (YB.out W h)) (hpb.below (YB.out W h)))
            have C4 := Lib.hid (fun W (h : Below wc.heap.size wc W) (hB' : B ≤ W.heap.size) => refEs_calls B true esa esb (Lib.hid fun a _ => refE_calls B true a) ba3 oa3 bb3 ob3 (.slice pa3 na3 qa3) (.slice pb3 nb3 qb3) W hB' sa3 (PE.Row.below' (YB.out W h) sa3 ra3) sb3 (PE.Row.below' (YB.out W h) sb3 rb3))
            have C5 := Lib.hid (fun W (h : Below wc.heap.size wc W) (hB' : B ≤ W.heap.size) => HS1 bob (.slice pa4 na4 qa4) (.slice pb4 nb4 qb4) ba4 oa4 bb4 ob4 W hB' sa4 (PS.Row.below' (YB.out W h) sa4 ra4) sb4 (PS.Row.below' (YB.out W h) sb4 rb4))
            have C6 := Lib.hid (fun W (h : Below wc.heap.size wc W) (hB' : B ≤ W.heap.size) => HS2 elb (.slice pa5 na5 qa5) (.slice pb5 nb5 qb5) ba5 oa5 bb5 ob5 W hB' sa5 (PS.Row.below' (YB.out W h) sa5 ra5) sb5 (PS.Row.below' (YB.out W h) sb5 rb5))
            have H3 := Lib.hid HS3
            have Ka := Lib.hid ka6
            have Kb := Lib.hid kb6
            have Ra := Lib.hid ra6
            have Rb := Lib.hid rb6
            have HLa := Lib.hid hla
            have HLb := Lib.hid hlb
            have bel0 := Below.refl wc.heap.size wc
            have HNO := Lib.hid (fun (hs : sameS true (.mk opa nma sca nsa tya iva pla esa boa ela ara ata) (.mk opb nmb scb nsb tyb ivb plb esb bob elb arb atb) = false) => (allW_no (f := sameS true) Ha.out Hb.out hs).symm)
            by_cases hlen : na6 = nb6
            · have hlenA : ara.length = arb.length := by rw [← hla, ← hlb]; exact hlen
              have HLA := Lib.hid hlenA
              subst hlen
              clear ra6 rb6 ka6 kb6 hla hlb HS1 HS2 HS3 hna hnb hta htb hpa hpb ra3 ra4 ra5 rb3 rb4 rb5 HBl hbel hlenA c0 c1 c2 c3 c4 c5 c6 c7 c8 c9 c10 c11 c12 c13 c14 d0 d1 d2 d3 d4 d5 d6 d7 d8 d9 d10 d11 d12 d13 d14
              go_wp2_with fail
              all_goals try (go_ret; exact ⟨ret_bool (HNO.out (by simp [sameS_mk, sameW_toList, *])), YF.out _ bel0⟩)
              refine (C1.out _ bel0 (by omega)).mono ?_
              rintro e w1 ⟨rfl, t1⟩
              have bel1 := bel0.trans (t1.mono (by omega))
              have hs1 : wc.heap.size ≤ w1.heap.size := bel1.size
              have hc1 := old_cells bel1
              clear t1
              go_wp2_with fail
              all_goals try (go_ret; exact ⟨ret_bool (HNO.out (by simp [sameS_mk, sameW_toList, *])), YF.out _ bel1⟩)
              refine (C2.out _ bel1 (by omega)).mono ?_
              rintro e w2 ⟨rfl, t2⟩
              have bel2 := bel1.trans (t2.mono (by omega))
              have hs2 : wc.heap.size ≤ w2.heap.size := bel2.size
              have hc2 := old_cells bel2
              clear t2 hc1
              go_wp2_with fail
              all_goals try (go_ret; exact ⟨ret_bool (HNO.out (by simp [sameS_mk, sameW_toList, *])), YF.out _ bel2⟩)
              refine (C3.out _ bel2 (by omega)).mono ?_
              rintro e w3 ⟨rfl, t3⟩
              have bel3 := bel2.trans (t3.mono (by omega))
              have hs3 : wc.heap.size ≤ w3.heap.size := bel3.size
              have hc3 := old_cells bel3
              clear t3 hc2
              go_wp2_with fail
              all_goals try (go_ret; exact ⟨ret_bool (HNO.out (by simp [sameS_mk, sameW_toList, *])), YF.out _ bel3⟩)
              refine (C4.out _ bel3 (by omega)).mono ?_
              rintro e w4 ⟨rfl, t4⟩
              have bel4 := bel3.trans (t4.mono (by omega))
              have hs4 : wc.heap.size ≤ w4.heap.size := bel4.size
              have hc4 := old_cells bel4
              clear t4 hc3
              go_wp2_with fail
              all_goals try (go_ret; exact ⟨ret_bool (HNO.out (by simp [sameS_mk, sameW_toList, *])), YF.out _ bel4⟩)
              refine (C5.out _ bel4 (by omega)).mono ?_
              rintro e w5 ⟨rfl, t5⟩
              have bel5 := bel4.trans (t5.mono (by omega))
              have hs5 : wc.heap.size ≤ w5.heap.size := bel5.size
              have hc5 := old_cells bel5
              clear t5 hc4
              go_wp2_with fail
              all_goals try (go_ret; exact ⟨ret_bool (HNO.out (by simp [sameS_mk, sameW_toList, *])), YF.out _ bel5⟩)
              refine (C6.out _ bel5 (by omega)).mono ?_
              rintro e w6 ⟨rfl, t6⟩
              have bel6 := bel5.trans (t6.mono (by omega))
              have hs6 : wc.heap.size ≤ w6.heap.size := bel6.size
              have hc6 := old_cells bel6
              clear t6 hc5
              go_wp2_with fail
              all_goals try (go_ret; exact ⟨ret_bool (HNO.out (by
                have hq6 : sameSs true ela elb = false := by
                  have hh : (!sameSs true ela elb) = true := by assumption
                  simpa using hh
                simp [sameS_mk, sameW_toList, *])), YF.out _ bel6⟩)
              have hq6 : sameSs true ela elb = true := by
                have hh : (!sameSs true ela elb) = false := by assumption
                simpa using hh
              have HS0 : Hid (sameS true (.mk opa nma sca nsa tya iva pla esa boa ela ara ata) (.mk opb nmb scb nsb tyb ivb plb esb bob elb arb atb) = sameAs true ara arb) := Lib.hid (by simp [sameS_mk, sameW_toList, *])
              have B6 := Lib.hid bel6
              clear hc6
              go_loopw [10] (fun i wi => ∃ k3 : Nat, k3 ≤ na6 ∧ i = .int .i64 k3 ∧ Below wc.heap.size wc wi ∧ Hid (∀ (j : Nat) a b, j < k3 → ara[j]? = some a → arb[j]? = some b → sameA true a b = true))
                (fun i _ => na6 - (intOf i).toNat)
              case atStart => exact ⟨0, by omega, rfl, B6.out, Lib.hid fun j x y hj => by omega⟩
              case round =>
                obtain ⟨k3, hk3, rfl, hbw, HA⟩ := hrel
                have hsw := hbw.size
                have xz : wr.cell? ⟨x, 10 + 3, none⟩ = some (.slice pa6 na6 qa6) := (hbw.cell (p := ⟨x, 13, none⟩) hxz).trans x13
                have yz : wr.cell? ⟨y, 10 + 3, none⟩ = some (.slice pb6 na6 qb6) := (hbw.cell (p := ⟨y, 13, none⟩) hyz).trans y13
                simp only [Nat.reduceAdd] at xz yz
                by_cases hlt3 : k3 < na6
                · obtain ⟨ax, hax, hxin⟩ := get_at (l := ara) (k := k3) (by rw [← HLa.out]; exact hlt3)
                  obtain ⟨bx, hbx, _⟩ := get_at (l := arb) (k := k3) (by rw [← HLb.out]; exact hlt3)
                  obtain ⟨rfl, hba⟩ := Ka.out.resolve_left (by omega)
                  obtain ⟨rfl, hbb⟩ := Kb.out.resolve_left (by omega)
                  obtain ⟨vx, cx, ix⟩ := PA.Row.get (PA.Row.below (YB.out _ hbw) (fun _ => hba) Ra.out) hax
                  obtain ⟨vy, cy, iy⟩ := PA.Row.get (PA.Row.below (YB.out _ hbw) (fun _ => hbb) Rb.out) hbx
                  obtain ⟨pc0, nc0, qc0, rfl⟩ := ix.shape
                  obtain ⟨pd0, nd0, qd0, rfl⟩ := iy.shape
                  have hsub := H3.out _ hxin
                  obtain ⟨xv, xn, xb⟩ := ax
                  obtain ⟨yv, yn, yb⟩ := bx
                  obtain ⟨_, b7, o7, s7, r7⟩ := ix
                  obtain ⟨_, b8, o8, s8, r8⟩ := iy
                  have e0 : wr.cell? ⟨ba6, oa6 + k3 * 3, none⟩ = some (.string xv) := cx 0 _ rfl
                  have e1 : wr.cell? ⟨ba6, oa6 + k3 * 3 + 1, none⟩ = some (.string xn) := cx 1 _ rfl
                  have e2 : wr.cell? ⟨ba6, oa6 + k3 * 3 + 2, none⟩ = some (.slice pc0 nc0 qc0) := cx 2 _ rfl
                  have f0 : wr.cell? ⟨bb6, ob6 + k3 * 3, none⟩ = some (.string yv) := cy 0 _ rfl
                  have f1 : wr.cell? ⟨bb6, ob6 + k3 * 3 + 1, none⟩ = some (.string yn) := cy 1 _ rfl
                  have f2 : wr.cell? ⟨bb6, ob6 + k3 * 3 + 2, none⟩ = some (.slice pd0 nd0 qd0) := cy 2 _ rfl
                  have hBr : B ≤ wr.heap.size := by omega
                  have C := Lib.hid (hsub yb (.slice pc0 nc0 qc0) (.slice pd0 nd0 qd0) b7 o7 b8 o8 wr.drew (show B ≤ wr.heap.size from hBr) s7 (PS.Row.below' (Below.refl B wr).drew s7 r7) s8 (PS.Row.below' (Below.refl B wr).drew s8 r8))
                  have Hax := Lib.hid hax
                  have Hbx := Lib.hid hbx
                  have hk31 : (k3 : Int) < (na6 : Int) := by omega
                  have hk30 : 0 ≤ (k3 : Int) := by omega
                  have HN2 := Lib.hid (fun (hs : sameA true (.mk xv xn xb) (.mk yv yn yb) = false) => HNO.out (by rw [HS0.out, sameAs_all]; exact allW_no Hax.out Hbx.out hs))
                  clear hax hbx cx cy r7 r8 hsub hxin
                  by_cases ev : xv.toList = yv.toList
                  · by_cases en : xn.toList = yn.toList
                    · have ev2 : (!xv.toList == yv.toList) = false := by rw [ev]; simp
                      have en2 : (!xn.toList == yn.toList) = false := by rw [en]; simp
                      have Ev := Lib.hid ev
                      have En := Lib.hid en
                      clear ev en
                      go_wp2_with fail
                      go_still_tail 42, (by kernel_rfl)
                      go_wp2_with fail
                      refine C.out.mono ?_
                      rintro e w9 ⟨rfl, t9⟩
                      have t10 : Below wr.heap.size wr w9 := (Below.refl _ wr).drew.trans t9
                      have hb9 := hbw.trans (t10.mono hbw.size)
                      have hsA : sameA true (.mk xv xn xb) (.mk yv yn yb) = sameSs true xb yb := by rw [sameA_mk, toList_same Ev.out, toList_same En.out]; rfl
                      clear t9 t10 e0 e1 e2 f0 f1 f2 xz yz ev2 en2
                      cases ht : sameSs true xb yb
                      · have hres := Lib.hid (HN2.out (hsA.trans ht))
                        clear hsA ht
                        go_wp2
                        go_ret
                        exact ⟨ret_bool hres.out, YF.out _ hb9⟩
                      · have HA2 := Lib.hid (allW_step HA.out Hax.out Hbx.out (hsA.trans ht))
                        clear hsA ht
                        go_wp2
                        go_roundw
                        case rel =>
                          (repeat apply Exists.intro)
                          refine ⟨?rel2, ?eq2⟩
                          case eq2 => first | (rw [hq6]; done) | (rw [hq6]; rfl)
                          case rel2 => exact ⟨k3 + 1, by omega, congrArg (Value.int .i64) (by omega), hb9, HA2⟩
                        case measure => simp [intOf]; omega
                    · have ev2 : (!xv.toList == yv.toList) = false := by rw [ev]; simp
                      have en2 : (!xn.toList == yn.toList) = true := by rw [Bool.not_eq_true', beq_eq_false_iff_ne]; exact en
                      have hres := Lib.hid (HN2.out (by rw [sameA_mk, toList_diff en, Bool.and_false, Bool.false_and]))
                      have Ev := Lib.hid ev
                      clear ev
                      go_wp2_with fail
                      go_quiet (fail)
                      go_wp2
                      go_ret
                      exact ⟨ret_bool hres.out, YF.out _ (hbw.trans (below_drewN _ _ |>.mono hbw.size))⟩
                  · have ev2 : (!xv.toList == yv.toList) = true := by rw [Bool.not_eq_true', beq_eq_false_iff_ne]; exact ev
                    have hres := Lib.hid (HN2.out (by rw [sameA_mk, toList_diff ev, Bool.false_and, Bool.false_and]))
                    go_wp2_with fail
                    go_quiet (fail)
                    go_wp2
                    go_ret
                    exact ⟨ret_bool hres.out, YF.out _ (hbw.trans (below_drewN _ _ |>.mono hbw.size))⟩
                · obtain rfl : k3 = na6 := by omega
                  have hall : sameAs true ara arb = true := by
                    rw [sameAs_all]
                    exact allW_yes HLA.out fun j a b hj hj2 => HA.out j a b (by rw [HLa.out]; exact (List.getElem?_eq_some_iff.1 hj).1) hj hj2
                  have HK2 := Lib.hid (allW_step HK.out Ha.out Hb.out (HS0.out.trans hall))
                  clear hall
                  go_wp2
                  go_roundw
                  case rel => (first | exact ⟨k + 1, by omega, by go_num, YF.out _ hbw, HK2⟩ | ((repeat apply Exists.intro); exact ⟨⟨k + 1, by omega, by go_num, YF.out _ hbw, HK2⟩, rfl⟩))
                  case measure => simp [intOf]; omega
            · have hs0 : sameAs true ara arb = false := by rw [sameAs_all]; exact allW_len (by rw [← hla, ← hlb]; exact hlen)
              have e0 : ((na6 : Int) != (nb6 : Int)) = true := by rw [bne_iff_ne]; omega
              have e1 : (!((na6 : Int) == (nb6 : Int))) = true := by rw [Bool.not_eq_true', beq_eq_false_iff_ne]; omega
              have HF := Lib.hid (HNO.out (by rw [sameS_mk, hs0, Bool.and_false]))
              clear ra6 rb6 ka6 kb6 hla hlb HS1 HS2 HS3 hna hnb hta htb hpa hpb ra3 ra4 ra5 rb3 rb4 rb5 HBl hbel hs0 c0 c1 c2 c3 c4 c5 c6 c7 c8 c9 c10 c11 c12 c13 c14 d0 d1 d2 d3 d4 d5 d6 d7 d8 d9 d10 d11 d12 d13 d14
              go_wp2
              all_goals (go_ret; exact ⟨ret_bool HF.out, YF.out _ bel0⟩)
      · obtain rfl : k = n := by omega
        have hres := Lib.hid (Hyes.out fun j x y hx hy => HK.out j x y (by rw [Hx.out]; exact (List.getElem?_eq_some_iff.1 hx).1) hx hy)
        go_wp2
        go_ret
        exact ⟨ret_bool hres.out.symm, hbel⟩
  · have e1 : ((xs.length : Int) != (ys.length : Int)) = true := by rw [bne_iff_ne]; omega
    rw [allW_len hn]
    clear hn
    go_enter Tryz.func39, Tryz.ntmps39
    go_wp2
    go_ret
    exact ⟨rfl, Below.refl _ _⟩

theorem subRS_allT (B : Nat) (a : PS) : SubRST B a :=
  PS.rec (motive_1 := SubRST B) (motive_2 := SubRAT B) (motive_3 := fun l => ∀ x, x ∈ l → SubRST B x) (motive_4 := fun l => ∀ x, x ∈ l → SubRAT B x)
    (fun op n s ns t i p es bo el ar pos h1 h2 h3 => ⟨refS_listT B bo h1, refS_listT B el h2, h3⟩) (fun v n bo h => refS_listT B bo h)
    (fun x h => by cases h) (fun a l ha hl x h => by cases h with | head => exact ha | tail _ h => exact hl x h)
    (fun x h => by cases h) (fun a l ha hl x h => by cases h with | head => exact ha | tail _ h => exact hl x h) a
theorem refS_callsT (B : Nat) (l : List PS) : RefLAtT B l := refS_listT B l (fun a _ => subRS_allT B a)
end Go.Proofs.YtojeijeimpffgaaGreat

