/- paths.With: the place, and the steps behind its own, in memory of its own. -/
import Derived.Test.YtaoalplglfdobaaDoorPathsCode1
import Derived.Test.YtaoalplglfdobaaDoorShelf
import Derived.OwnWalk
import Derived.Deep.RegionLaw
import Derived.Deep.RegionHeldLaw
import Derived.Deep.AppendLies
import Derived.Deep.DrawnRows
namespace Go.Proofs.YtaoalplglfdobaaDoor
open Go.RowKit
set_option linter.unusedVariables false

set_option maxHeartbeats 1000000 in
theorem clone_calls (s : ByteArray) (hs : s.size ≤ strMax) (w : World) : Calls Tryd.prog 39 #[.string s] w fun e w' => e = .returned (.string s) ∧ Below w.heap.size w w' := by
  have hcon := fun W => Tryd.stringslite_Clone s W (by unfold strMax at hs; omega)
  go_enter Tryd.func39, Tryd.ntmps39
  go_wp2_with fail
  refine (hcon w).mono ?_
  rintro e w' ⟨rfl, b⟩
  go_wp2
  go_ret
  exact ⟨rfl, b⟩

theorem fresh_row (w : World) (l : List ByteArray) (z : Array Value) (e : TypeId) (hz : ∀ s, s ∈ l → s.size ≤ strMax) : RowS (w.alloc (.cells ((l.map Value.string).toArray ++ z) e)) w.heap.size 0 l := fun j s hj => by
  refine ⟨hz s (List.mem_of_getElem? hj), ?_⟩
  rw [cell_of_row _ w.heap.size (0 + j) _ e _ (heap_alloc_new w _), Nat.zero_add]
  have := some_lt hj
  rw [Array.getElem?_append_left (by simpa using this)]
  simp [hj]
theorem RowS.small {w : World} {b o : Nat} {l : List ByteArray} (h : RowS w b o l) : ∀ s, s ∈ l → s.size ≤ strMax := fun s hs => by
  obtain ⟨j, hj⟩ := List.mem_iff_getElem?.1 hs
  exact (h j s hj).1
/-- what append hands back of two rows of texts, the first one full -/
theorem join_runs (ty : TypeId) (xs ys : List ByteArray) (ao : Option Addr) (v2 : Value) (B : Nat) (w : World) (hB : B ≤ w.heap.size) (h1 : SIn B w xs (.slice ao xs.length xs.length)) (h2 : SIn B w ys v2) (hl : xs.length + ys.length ≤ 1000000) :
    ∃ ap cap w', (Builtin.append_ #[23, 23] ty #[.slice ao xs.length xs.length, v2]).run Tryd.prog w = .ok (.slice ap (xs.length + ys.length) cap) w' ∧
      (∃ b o, SlP w'.heap.size (.slice ap (xs.length + ys.length) cap) (xs.length + ys.length) b o ∧ RowS w' b o (xs ++ ys) ∧ (xs.length + ys.length ≠ 0 → b < B ∨ w.heap.size ≤ b)) ∧ Below w.heap.size w w' := by
  obtain ⟨i0, hi, hz0, hz1, hz2⟩ := info_parts infoStr
  obtain ⟨b1, o1, ⟨m1, ao1, cap1, e1, c1, a1⟩, r1⟩ := h1
  obtain ⟨b2, o2, ⟨m2, ao2, cap2, rfl, c2, a2⟩, r2⟩ := h2
  cases e1
  have hnews : ∀ (W : World), Below w.heap.size w W → ∀ ad, ao2 = some ad → ∀ (j : Nat) u, (ys.map Value.string)[j]? = some u → W.cell? (ad.add j) = some u := fun W hW ad had j u hu => by
    rw [List.getElem?_map, Option.map_eq_some_iff] at hu
    obtain ⟨s, hs, rfl⟩ := hu
    obtain ⟨e2, h3⟩ := a2.resolve_left (some_pos hs)
    rw [had] at e2; injection e2 with e2; subst e2
    have hadd : (⟨b2, o2, none⟩ : Addr).add j = ⟨b2, o2 + j, none⟩ := by unfold Addr.add; split <;> simp_all
    rw [hadd, hW.cell (show b2 < w.heap.size by omega)]
    exact (r2 j s hs).2
  have holds : ∀ (W : World), Below w.heap.size w W → ∀ ad, ao = some ad → ∀ (j : Nat) u, (xs.map Value.string)[j]? = some u → W.cell? (ad.add j) = some u := fun W hW ad had j u hu => by
    rw [List.getElem?_map, Option.map_eq_some_iff] at hu
    obtain ⟨s, hs, rfl⟩ := hu
    obtain ⟨e2, h3⟩ := a1.resolve_left (some_pos hs)
    rw [had] at e2; injection e2 with e2; subst e2
    have hadd : (⟨b1, o1, none⟩ : Addr).add j = ⟨b1, o1 + j, none⟩ := by unfold Addr.add; split <;> simp_all
    rw [hadd, hW.cell (show b1 < w.heap.size by omega)]
    exact (r1 j s hs).2
  by_cases hm : ys.length = 0
  · obtain rfl : ys = [] := List.eq_nil_of_length_eq_zero hm
    refine ⟨ao, xs.length, w, ?_, ⟨b1, o1, ⟨m1, ao, xs.length, rfl, Nat.le_refl _, a1.imp id fun h => ⟨h.1, by omega⟩⟩, by simpa using r1, fun hn => .inl ((a1.resolve_left (by simpa using hn)).2)⟩, Below.refl _ _⟩
    have hf : ∀ a : Addr, (loadCells a 0).run Tryd.prog w = .ok #[] w := fun a => by simp [loadCells, loadCellsFrom]
    cases ao2 <;> cases ao <;> simp [Builtin.append_, run_underlying Tryd.underlying23, sizeOf, typeInfo, hi, hz1, Builtin.lenOf, Builtin.firstCells, hf, storeCells]
  · have hsz : 0 < ys.length := by omega
    cases ao2 with
    | none => exact absurd (a2.resolve_left hm).1 (by simp)
    | some a2' =>
      cases ao with
      | none =>
        obtain rfl : xs = [] := by
          rcases a1 with h | h
          · exact List.eq_nil_of_length_eq_zero h
          · exact absurd h.1 (by simp)
        have hr := run_append_nil (P := Tryd.prog) w 23 ty 9 i0 _ Tryd.underlying23 hi hz0 a2' ys.length cap2 (ys.map .string) (by rw [hz1]; simp) (hnews w (Below.refl _ _) a2' rfl) hsz (by simp at hl; omega) (by rw [hz2]; simp at hl; omega)
        have hg := grownCap_ge w ys.length 0 9
        refine ⟨_, _, _, by simpa using hr, ⟨w.heap.size, 0, ⟨by simpa using m2, _, _, rfl, by simpa using hg, .inr ⟨rfl, by simp⟩⟩, ?_, fun _ => .inr (Nat.le_refl _)⟩, ((Below.refl _ w).drew).alloc (Nat.le_refl _) _⟩
        exact fresh_row w.drew ys _ 9 r2.small
      | some a1' =>
        have hr := run_append_grow (P := Tryd.prog) w 23 ty 9 i0 _ Tryd.underlying23 hi hz0 a1' xs.length xs.length (xs.map .string) (by rw [hz1]; simp) (holds w (Below.refl _ _) a1' rfl) a2' ys.length cap2 (ys.map .string) (by rw [hz1]; simp) (hnews w (Below.refl _ _) a2' rfl) (by omega) (by omega)
          (by rw [hz2]; have := nextslicecap_le (need := xs.length + ys.length) (old := xs.length) (by omega); omega)
        have hg := grownCap_ge w (xs.length + ys.length) xs.length 9
        refine ⟨_, _, _, hr, ⟨w.heap.size, 0, ⟨by unfold maxLen; omega, _, _, rfl, hg, .inr ⟨rfl, by simp⟩⟩, ?_, fun _ => .inr (Nat.le_refl _)⟩, ((Below.refl _ w).drew).alloc (Nat.le_refl _) _⟩
        have := fresh_row w.drew (xs ++ ys) (Builtin.zeroCells (Value.string ⟨#[]⟩).cells (grownCap w (xs.length + ys.length) xs.length 9 - (xs.length + ys.length))) 9 (fun s hs => (List.mem_append.1 hs).elim (r1.small s) (r2.small s))
        simpa using this
/-- the same at a plain region's operation -/
theorem wpList_join {ops : Array Oper} {rest : List Oper} {o : Oper} {a : Act} {Q : Exit → Act → World → Prop} {w : World} (hgd : o.guard = none) (s x : Operand)
    (ho : o.op = .call { callee := .builtin .append, args := #[s, x], argTypes := #[23, 23] })
    (xs ys : List ByteArray) (n m N : Nat) (hn : n = xs.length) (hm : m = ys.length) (hN : N = n + m) (ao : Option Addr) (v2 : Value) (hs : a.eval s = .slice ao n n) (hx : a.eval x = v2)
    (B : Nat) (hB : B ≤ w.heap.size) (h1 : SIn B w xs (.slice ao n n)) (h2 : SIn B w ys v2) (hl : N ≤ 1000000)
    (h : ∀ ap cap w' b o', SlP w'.heap.size (.slice ap N cap) N b o' → RowS w' b o' (xs ++ ys) → (N ≠ 0 → b < B ∨ w.heap.size ≤ b) → Below w.heap.size w w' →
      wpList Tryd.prog ops Q rest (a.put o.dst (.slice ap N cap)) w') : wpList Tryd.prog ops Q (o :: rest) a w :=
  wpList_plain hgd fun _ hK => by
    subst hn hm hN
    obtain ⟨ap, cap, w', hr, ⟨b, o', g1, g2, g3⟩, g4⟩ := join_runs o.type xs ys ao v2 B w hB h1 h2 hl
    unfold Oper.wp execOp
    simp only [ho, resolve, invoke, builtin, Sem.run_bind, Sem.run_pure, Result.andThen_ok, List.map_toArray, List.map_cons, List.map_nil, hs, hx, hr]
    exact hK _ _ (h ap cap w' b o' g1 g2 g3 g4)
theorem own_next {base size : Nat} {u z : Value} {w wr w1 w2 : World} {o : Obj} {p : Addr} {e : TypeId} {k m : Nat} {xs xs' : List Value} {v : Value}
    (hown : wr.ownsRow base e size u k xs) (bel : Below w.heap.size w wr) (hbw : base ≤ wr.heap.size) (bel1 : Below wr.heap.size wr w1)
    (hgrow : (w1.alloc o).grownBy w2 u.ownBlock) (hown1 : w2.ownsRow base e size v m xs') (hp : w.heap.size ≤ p.block ∧ p.block < base) :
    (w2.setCell p z).ownsRow base e size v m xs' ∧ Below w.heap.size w (w2.setCell p z) ∧ ∀ i, i < base → i ≠ p.block → (w2.setCell p z).heap[i]? = wr.heap[i]? := by
  have hsz := bel1.size
  refine ⟨own_set hown1 hp.2 z, ?_, fun i h1 h2 => ?_⟩
  · have b1 : Below w.heap.size w w1 := bel.trans (bel1.mono bel.size)
    exact ((b1.alloc (by have := bel.size; omega) o).grown hgrow (by have := bel.size; simp; omega) (fun i hi => by have := (hown.lt i hi).1; have := bel.size; omega)).setCell hp.1 z
  · exact (((Below.heap_setCell w2 p z i h2).trans (hgrow.block i (by simp; omega) (own_ne hown h1))).trans (Below.heap_alloc w1 o i (by omega))).trans (bel1.block i (by omega))

attribute [local go_sem ↓] Go.wp_at_zero Go.wp_at_succ
set_option maxRecDepth 100000 in
set_option maxHeartbeats 1600000 in
theorem with_core (nm : ByteArray) (xs st : List ByteArray) (n m : Nat) (Hn : Hid (n = xs.length)) (Hm : Hid (m = st.length)) (hl : n + m ≤ 1000000) (B : Nat) (ao : Option Addr) (cap : Nat) (ap : Option Addr) (cp : Nat) (w : World) (HB : Hid (B ≤ w.heap.size)) (hcap : n ≤ cap)
    (Hup : Hid (∀ W : World, Calls Tryd.prog 40 #[.agg #[.string nm, .slice ao n cap], .int .i64 (n : Int)] W fun e W' => e = .returned (.agg #[.string nm, .slice ao n n]) ∧ Below W.heap.size W W'))
    (Hfull : Hid (SIn B w xs (.slice ao n n))) (Hst : Hid (SIn B w st (.slice ap m cp)))
    (HC : Hid (∀ W : World, Calls Tryd.prog 39 #[.string nm] W fun e W' => e = .returned (.string nm) ∧ Below W.heap.size W W')) :
    Calls Tryd.prog 27 #[.agg #[.string nm, .slice ao n cap], .slice ap m cp] w fun e w' => ∃ v', e = .returned (.agg #[.string nm, v']) ∧ w'.ownsRow w.heap.size 9 1 v' (n + m) ((xs ++ st).map .string) ∧ Below w.heap.size w w' := by
  obtain ⟨i0, hi, hz0, hz1, hz2⟩ := info_parts infoStr
  have hfld : ∀ W : World, (Instr.field 25 (.agg #[.string nm, .slice ao n n]) 1).run Tryd.prog W = .ok (.slice ao n n) W := fun W => by rfl
  obtain ⟨N, hN⟩ : ∃ N, N = n + m := ⟨_, rfl⟩
  have HN := Lib.hid hN
  rw [← hN] at hl ⊢
  clear hN
  go_enter Tryd.func27, Tryd.ntmps27
  go_wp2_with fail
  obtain ⟨W0, hW⟩ : ∃ W, W = (w.alloc (.cells #[.string nm, .slice ao n cap] 25)).alloc (.cells #[.string ⟨#[]⟩, .slice none 0 0] 25) := ⟨_, rfl⟩
  have p0 : W0.cell? ⟨w.heap.size, 0, none⟩ = some (.string nm) := by rw [hW]; go_simp
  have p1 : W0.cell? ⟨w.heap.size, 1, none⟩ = some (.slice ao n cap) := by rw [hW]; go_simp
  have hres : W0.heap[w.heap.size + 1]? = some (.cells #[.string ⟨#[]⟩, .slice none 0 0] 25) := by
    rw [hW]
    exact (by simp : w.heap.size + 1 = (w.alloc (Obj.cells #[.string nm, .slice ao n cap] 25)).heap.size) ▸ heap_alloc_new _ _
  have z2 : w.heap.size + 1 < W0.heap.size := by rw [hW]; simp
  have bel0 : Below w.heap.size w W0 := by rw [hW]; exact box2 _ _ _
  rw [← hW]
  clear hW
  refine (HC.out W0).mono ?_
  rintro e w1 ⟨rfl, b1⟩
  have p0 := (b1.cell (p := ⟨w.heap.size, 0, none⟩) (show w.heap.size < W0.heap.size by omega)).trans p0
  have p1 := (b1.cell (p := ⟨w.heap.size, 1, none⟩) (show w.heap.size < W0.heap.size by omega)).trans p1
  have hres := (b1.block _ z2).trans hres
  have bel1 := bel0.trans (b1.mono bel0.size)
  have z2 : w.heap.size + 1 < w1.heap.size := by have := b1.size; omega
  have z1 : w.heap.size < w1.heap.size := by omega
  clear b1 bel0
  have Hres := Lib.hid hres
  have Hbel := Lib.hid bel1
  clear hres bel1
  obtain ⟨L, hL⟩ : ∃ L, L = w1.heap.size := ⟨_, rfl⟩
  go_wp2_with fail
  obtain ⟨W2, hW⟩ : ∃ W, W = w1.alloc (.cells #[.string nm, .slice none 0 0] 25) := ⟨_, rfl⟩
  have q0 : W2.cell? ⟨L, 0, none⟩ = some (.string nm) := by rw [hW, hL]; go_simp
  have q1 : W2.cell? ⟨L, 1, none⟩ = some (.slice none 0 0) := by rw [hW, hL]; go_simp
  have fz : W2.frozen? ⟨L, 1, none⟩ = false := by rw [hW, hL]; go_simp
  have zL : L < W2.heap.size := by rw [hW, hL]; simp
  have Hres := Lib.hid (show W2.heap[w.heap.size + 1]? = some (.cells #[.string ⟨#[]⟩, .slice none 0 0] 25) from by rw [hW]; exact (Below.heap_alloc w1 _ _ z2).trans Hres.out)
  have Hbel := Lib.hid (show Below w.heap.size w W2 from by rw [hW]; exact Hbel.out.alloc Hbel.out.size _)
  have zw : w.heap.size + 1 < L := by omega
  rw [← hW, ← hL]
  clear hW hL z1 z2 p0 p1 HC
  refine (Hup.out W2).mono ?_
  rintro e w2 ⟨rfl, b2⟩
  have q0 := (b2.cell (p := ⟨L, 0, none⟩) zL).trans q0
  have q1 := (b2.cell (p := ⟨L, 1, none⟩) zL).trans q1
  have fz := (b2.frozen (p := ⟨L, 1, none⟩) zL).trans fz
  have Hres := Lib.hid ((b2.block (w.heap.size + 1) (by omega)).trans Hres.out)
  have Hbel := Lib.hid (Hbel.out.trans (b2.mono Hbel.out.size))
  have zL : L < w2.heap.size := by have := b2.size; omega
  clear b2 Hup
  go_wp2_with (at_builtin
               refine wpList_join rfl _ _ rfl xs st n m N Hn.out Hm.out HN.out ao (.slice ap m cp) rfl rfl B (Nat.le_trans HB.out Hbel.out.size) (Hfull.out.below (Hbel.out.mono HB.out)) (Hst.out.below (Hbel.out.mono HB.out)) (by omega) ?_
               intro aT cT w3 bT oT g1 g2 g3 b3
               go_loud (have q0 := (b3.cell (p := ⟨L, 0, none⟩) zL).trans q0
                        have q1 := (b3.cell (p := ⟨L, 1, none⟩) zL).trans q1
                        have fz := (b3.frozen (p := ⟨L, 1, none⟩) zL).trans fz
                        have Hres := Lib.hid ((b3.block (w.heap.size + 1) (by omega)).trans Hres.out)
                        have Hbel := Lib.hid (Hbel.out.trans (b3.mono Hbel.out.size))
                        have zL2 : L < w3.heap.size := by have := b3.size; omega
                        have G1 := Lib.hid g1
                        have G2 := Lib.hid g2
                        have G3 : Hid (N ≠ 0 → bT ≠ L) := Lib.hid fun h => by have := g3 h; have := HB.out; omega
                        clear g1 g2 g3 b3))
  obtain ⟨base, hb⟩ : ∃ b, b = w3.heap.size := ⟨_, rfl⟩
  have HG1 := Lib.hid (show SlP base (.slice aT N cT) N bT oT from by rw [hb]; exact G1.out)
  have zb : L < base := by omega
  have zr : w.heap.size + 1 < L := zw
  have Hb := Lib.hid hb
  clear hb G1
  go_loopw [21] (fun i wr => ∃ (k : Nat) (u : Value), k ≤ N ∧ i = .int .i64 k ∧ L < wr.heap.size ∧ wr.cell? ⟨L, 1, none⟩ = some u ∧ wr.frozen? ⟨L, 1, none⟩ = false ∧ wr.cell? ⟨L, 0, none⟩ = some (.string nm) ∧
      Hid (wr.ownsRow base 9 1 u k (((xs ++ st).take k).map .string) ∧ Below w.heap.size w wr ∧ base ≤ wr.heap.size ∧ ∀ i, i < base → i ≠ L → wr.heap[i]? = w3.heap[i]?))
    (fun i _ => N - (intOf i).toNat)
  case atStart =>
    exact ⟨0, .slice none 0 0, Nat.zero_le _, rfl, zL2, q1, fz, q0, Lib.hid ⟨by simpa using World.ownsRow_nil _ base 9 1, Hbel.out, by rw [Hb.out]; exact Nat.le_refl _, fun i _ _ => rfl⟩⟩
  case round =>
    obtain ⟨k, u, hk, rfl, hz, c1, d1, c0, HH⟩ := hrel
    by_cases hlt : k < N
    · obtain ⟨s, hs, _⟩ := get_at (l := xs ++ st) (k := k) (by rw [List.length_append, ← Hn.out, ← Hm.out, ← HN.out]; exact hlt)
      obtain ⟨hown, hbel, hbw, hres⟩ := HH.out
      obtain ⟨_, aT', cT', e1, c3, g1⟩ := HG1.out
      cases e1
      obtain ⟨rfl, hbT⟩ := g1.resolve_left (by omega)
      have ks := (World.cell?_of_block (w := w3) (a := ⟨bT, oT + k, none⟩) (hres bT hbT (G3.out (by omega)))).trans (G2.out k s hs).2
      have hsz := (G2.out k s hs).1
      clear g1
      have g1 : bT < wr.heap.size := by omega
      have hk0 : (0 : Int) ≤ (k : Int) := Int.natCast_nonneg _
      have hk1 : (k : Int) < (N : Int) := by omega
      have n2 := own_ne hown (b := L) zb
      have Hown := Lib.hid hown
      have Hs := Lib.hid hs
      have Hsz := Lib.hid hsz
      have Hbel2 := Lib.hid hbel
      have Hres2 := Lib.hid hres
      clear hown hbel hres hs hsz HH
      go_wp2_with fail
      go_region_law
        (first
          | (go_simp; go_at_call 39; refine (clone_calls s Hsz.out wr.drew).mono ?_
             rintro e w1' ⟨rfl, bel1⟩
             have y1 : wr.heap.size ≤ w1'.heap.size := bel1.size
             have r1 : w1'.cell? ⟨L, 1, none⟩ = some u := by rw [bel1.cell (show L < wr.heap.size by omega)]; exact c1
             have r0 : w1'.cell? ⟨L, 0, none⟩ = some (.string nm) := by rw [bel1.cell (show L < wr.heap.size by omega)]; exact c0
             have r6 : w1'.frozen? ⟨L, 1, none⟩ = false := by rw [bel1.frozen (show L < wr.heap.size by omega)]; exact d1
             have r7 := World.new_ne w1' _ r1
             have r8 : ∀ o : Obj, (w1'.alloc o).cell? ⟨L, 1, none⟩ = some u := fun o => (((Below.refl _ w1').alloc (Nat.le_refl _) o).cell (show L < w1'.heap.size by omega)).trans r1
             have Hown1 := Lib.hid (own_below Hown.out (show Below wr.heap.size wr w1' from ((Below.refl _ wr).drew).trans bel1)))
          | (refine step_append_lies _ (by rfl) _ _ _ (by rfl) base 9 i0 _ 1 16 Tryd.underlying23 hi hz0 hz1 hz2 rfl (by omega) u k _ (by rfl) (Hown1.out.alloc _) ⟨w1'.heap.size, 0, none⟩ 1 1 [.string s] (by rfl) (by rfl) (World.news_of_block (cs := #[.string s]) (t := 9) (fr := (0, 0)) (heap_alloc_new w1' _)) (by simp [Value.oneCell'])
              (by omega) (by unfold maxLen; omega) (by omega) (by simp; omega) (w1'.heap.size + 1) (by simp) ?_
             intro gg cap1 w2' hown1 hgrow hat hlt2
             have t1 : w2'.cell? ⟨L, 1, none⟩ = some u := grown_cell hgrow r1 n2
             have t0 : w2'.cell? ⟨L, 0, none⟩ = some (.string nm) := grown_cell hgrow r0 n2
             have t6 : w2'.frozen? ⟨L, 1, none⟩ = false := grown_frozen hgrow r6 (by simp; omega) n2))
      all_goals
        have Hnx := Lib.hid (own_next (p := ⟨L, 1, none⟩) (z := .slice (some ⟨gg, 0, none⟩) (k + 1) cap1) Hown.out Hbel2.out hbw (show Below wr.heap.size wr w1' from ((Below.refl _ wr).drew).trans bel1) hgrow hown1 ⟨by simp; omega, by simp; omega⟩)
        have y2 : w1'.heap.size + 1 ≤ w2'.heap.size := by have := hgrow.size; simpa using this
        clear hown1 hgrow hat Hown Hown1 r7 r8 bel1
        go_wp2_with fail
        go_round
        case rel =>
          obtain ⟨y4, y5, y6⟩ := Hnx.out
          refine ⟨k + 1, .slice (some ⟨gg, 0, none⟩) (k + 1) cap1, by omega, by go_num, by simp; omega, ?_, ?_, ?_, Lib.hid ⟨?_, y5, by simp; omega, fun i h1 h2 => (y6 i h1 h2).trans (Hres2.out i h1 h2)⟩⟩
          · go_simp
          · go_simp
          · go_simp
          · rw [List.take_add_one, Hs.out]; simpa using y4
        case measure => simp [intOf]; omega
    · obtain rfl : k = N := by omega
      obtain ⟨hown, hbel, hbw, hres⟩ := HH.out
      obtain ⟨ua, uc, rfl⟩ := own_shape hown
      have h24 : wr.heap[w.heap.size + 1]? = some (.cells #[.string ⟨#[]⟩, .slice none 0 0] 25) := (hres _ (by omega) (by omega)).trans Hres.out
      have s0 : wr.cell? ⟨w.heap.size + 1, 0, none⟩ = some (.string ⟨#[]⟩) := cell_of_row wr _ 0 _ _ _ h24
      have s1 : wr.cell? ⟨w.heap.size + 1, 1, none⟩ = some (.slice none 0 0) := cell_of_row wr _ 1 _ _ _ h24
      have x0 : wr.frozen? ⟨w.heap.size + 1, 0, none⟩ = false := by simp [World.frozen?, h24]
      have x1 : wr.frozen? ⟨w.heap.size + 1, 1, none⟩ = false := by simp [World.frozen?, h24]
      have Hown := Lib.hid hown
      have Hbel2 := Lib.hid hbel
      clear hown hbel hres h24 HH
      go_wp2_with fail
      (try simp only [Exit.inBlock, Exit.then])
      refine bodyPost_ret (v := .agg #[.string nm, .slice ua k uc]) (by rw [results_cell1 rfl]; go_simp) rfl ⟨.slice ua k uc, rfl, ?_, ?_⟩
      · have hl' : (xs ++ st).length = k := by rw [List.length_append, ← Hn.out, ← Hm.out, ← HN.out]
        have := Hown.out
        rw [← hl', List.take_length, hl'] at this
        exact own_mono (own_set (own_set this (p := ⟨w.heap.size + 1, 0, none⟩) (by show w.heap.size + 1 < base; omega) _) (p := ⟨w.heap.size + 1, 1, none⟩) (by show w.heap.size + 1 < base; omega) _) (by omega)
      · exact (Hbel2.out.setCell (p := ⟨w.heap.size + 1, 0, none⟩) (by simp) _).setCell (p := ⟨w.heap.size + 1, 1, none⟩) (by simp) _
theorem SIn.shape {B : Nat} {w : World} {l : List ByteArray} {v : Value} (h : SIn B w l v) : ∃ ao cap, v = .slice ao l.length cap := by
  obtain ⟨b, o, hs, _⟩ := h
  exact hs.shape
theorem with_calls (x : PP) (st : List ByteArray) (hl : x.path.length + st.length ≤ 1000000) (B : Nat) (v vs : Value) (w : World) (hB : B ≤ w.heap.size) (hx : x.In B w v) (hst : SIn B w st vs) :
    Calls Tryd.prog 27 #[.agg #[.string x.name, v], vs] w fun e w' => ∃ v', e = .returned (.agg #[.string x.name, v']) ∧ w'.ownsRow w.heap.size 9 1 v' (x.path.length + st.length) ((x.path ++ st).map .string) ∧ Below w.heap.size w w' := by
  obtain ⟨ao, cap, rfl⟩ := hx.shape
  obtain ⟨ap, cp, rfl⟩ := hst.shape
  have hcap : x.path.length ≤ cap := by
    obtain ⟨_, _, _, ⟨_, _, _, h, h3, _⟩, _⟩ := hx
    cases h; exact h3
  have hf := (hx.upTo (Nat.le_refl _)).2
  rw [show (⟨x.name, x.path.take x.path.length⟩ : PP).path = x.path from List.take_length] at hf
  exact with_core x.name x.path st _ _ (Lib.hid rfl) (Lib.hid rfl) hl B ao cap ap cp w (Lib.hid hB) hcap (Lib.hid fun W => upTo_calls x.name ao x.path.length cap x.path.length hcap W) (Lib.hid hf) (Lib.hid hst) (Lib.hid fun W => clone_calls x.name hx.1 W)
theorem with_in {x : PP} {st : List ByteArray} {B base : Nat} {v vs v' : Value} {w w' : World} (hx : x.In B w v) (hst : SIn B w st vs) (hl : x.path.length + st.length ≤ 1000000)
    (h : w'.ownsRow base 9 1 v' (x.path.length + st.length) ((x.path ++ st).map .string)) : PP.In w'.heap.size w' ⟨x.name, x.path ++ st⟩ v' := by
  obtain ⟨h0, b1, o1, _, r1⟩ := hx
  obtain ⟨b2, o2, _, r2⟩ := hst
  exact ⟨h0, own_S h (fun s hs => (List.mem_append.1 hs).elim (r1.small s) (r2.small s)) (by unfold maxLen; omega)⟩

end Go.Proofs.YtaoalplglfdobaaDoor
