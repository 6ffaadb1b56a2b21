/- The document's own copies: types. -/
import Derived.Test.YtojeijeimpffgaaGreatRJoinD
import Derived.Test.YtojeijeimpffgaaGreatRJoinA
import Derived.Deep.RegionLaw
import Derived.Deep.RegionHeldLaw
import Derived.Deep.AppendLies
import Derived.Deep.DrawnRows
namespace Go.Proofs.YtojeijeimpffgaaGreat
open Go.RowKit
set_option linter.unusedVariables false

theorem infoType : (Tryz.prog.info? 38).map (fun i => (i.zero, i.size, i.bytes)) = some (some (.agg #[.int .u8 0, .string ⟨#[]⟩, .slice none 0 0]), 3, 48) := by kernel_rfl
/-- v' is the Args of a copy of t that lies in new memory alone -/
def FreshT (n : Nat) (w' : World) (t : PT) (v' : Value) : Prop := t.In w'.heap.size (only (fun i => decide (n ≤ i)) w') v'
/-- no list in it is longer than can be copied -/
inductive FewT (m : Nat) : PT → Prop
  | mk (k : Int) (n : ByteArray) (l : List PT) (h : l.length ≤ m) (h2 : ∀ t, t ∈ l → FewT m t) : FewT m (.mk k n l)
def CopyTAt (t : PT) : Prop := ∀ (B : Nat) (v : Value) (w : World), B ≤ w.heap.size → t.In B w v →
  Calls Tryz.prog 24 #[.agg #[.int .u8 t.kind, .string t.name, v]] w fun e w' => ∃ v', e = .returned (.agg #[.int .u8 t.kind, .string t.name, v']) ∧ FreshT w.heap.size w' t v' ∧ Below w.heap.size w w'
attribute [local go_sem ↓] Go.wp_at_zero Go.wp_at_succ
set_option maxRecDepth 100000 in
set_option maxHeartbeats 3200000 in
theorem copyT_step (kd : Int) (nm : ByteArray) (l : List PT) (hl : l.length ≤ 1000000) (ih : ∀ t, t ∈ l → CopyTAt t) : CopyTAt (.mk kd nm l) := by
  intro B v w hB ht
  obtain ⟨⟨hu, hs⟩, b1, o1, ⟨m1, ao, cap, rfl, h1⟩, r1⟩ := ht
  obtain ⟨i0, hi, hz0, hz1, hz2⟩ := info_parts infoType
  unfold maxLen at m1
  obtain ⟨n, hn⟩ : ∃ n, n = l.length := ⟨_, rfl⟩
  rw [← hn] at m1 h1 hl
  have Hn := Lib.hid hn
  have H1 := Lib.hid h1
  have Hr := Lib.hid r1
  have IH := Lib.hid ih
  rw [← hn]
  clear hn h1 r1 ih
  show Calls Tryz.prog 24 #[.agg #[.int .u8 kd, .string nm, .slice ao n cap]] w _
  go_enter Tryz.func24, Tryz.ntmps24
  go_wp2_with fail
  go_loopw [4] (fun i wr => ∃ (k : Nat) (u : Value), k ≤ n ∧ i = .int .i64 k ∧ w.heap.size + 2 < wr.heap.size ∧ wr.cell? ⟨w.heap.size, 2, none⟩ = some (.slice ao n cap) ∧
      wr.cell? ⟨w.heap.size + 2, 2, none⟩ = some u ∧ wr.frozen? ⟨w.heap.size + 2, 2, none⟩ = false ∧ wr.cell? ⟨w.heap.size + 2, 0, none⟩ = some (.int .u8 kd) ∧ wr.cell? ⟨w.heap.size + 2, 1, none⟩ = some (.string nm) ∧
      Hid (∃ vs : List Value, vs.length = k ∧ wr.ownsRow (w.heap.size + 3) 38 3 u k (cellsTs (l.take k) vs) ∧ (∀ (j : Nat) t x, j < k → l[j]? = some t → vs[j]? = some x → t.In wr.heap.size (only (fun i => decide (w.heap.size + 3 ≤ i) && decide (some i ≠ u.ownBlock)) wr) x) ∧ Below w.heap.size w wr ∧ wr.heap[w.heap.size + 1]? = some (.cells #[.int .u8 0, .string ⟨#[]⟩, .slice none 0 0] 38)))
    (fun i _ => n - (intOf i).toNat)
  case atStart =>
    refine ⟨0, .slice none 0 0, Nat.zero_le _, rfl, by simp, ?_, ?_, ?_, ?_, ?_, Lib.hid ⟨[], rfl, ?_, ?_, ?_, ?_⟩⟩
    · go_simp
    · go_simp
    · go_simp
    · go_simp
    · go_simp
    · simpa [cellsTs] using World.ownsRow_nil _ (w.heap.size + 3) 38 3
    · intro j t x h; omega
    · exact (((Below.refl _ w).alloc (Nat.le_refl _) _).alloc (by simp) _).alloc (by simp; omega) _
    · rw [Below.heap_alloc _ _ _ (by simp)]
      exact (by simp : w.heap.size + 1 = (w.alloc (Obj.cells #[Value.int IntKind.u8 kd, Value.string nm, Value.slice ao n cap] 38)).heap.size) ▸ heap_alloc_new _ _
  case round =>
    obtain ⟨k, u, hk, rfl, hz, c2, d2, f2, d0, d1, HH⟩ := hrel
    by_cases hlt : k < n
    · obtain ⟨t, ht, hin⟩ := get_at (l := l) (k := k) (by rw [← Hn.out]; exact hlt)
      obtain ⟨rfl, hb1⟩ := H1.out.resolve_left (by omega)
      obtain ⟨vs, hvs, hown, hall, hbel, hres⟩ := HH.out
      obtain ⟨vt, ct, it⟩ := PT.Row.get (PT.Row.below (hbel.mono hB) hb1 Hr.out) ht
      obtain ⟨ta, tn, tc, rfl⟩ := it.shape
      have g1 : b1 < wr.heap.size := by omega
      have e0 : wr.cell? ⟨b1, o1 + k * 3, none⟩ = some (.int .u8 t.kind) := ct 0 _ rfl
      have e1 : wr.cell? ⟨b1, o1 + k * 3 + 1, none⟩ = some (.string t.name) := ct 1 _ rfl
      have e2 : wr.cell? ⟨b1, o1 + k * 3 + 2, none⟩ = some (.slice ta tn tc) := ct 2 _ rfl
      have hk0 : (0 : Int) ≤ (k : Int) := Int.natCast_nonneg _
      have hk1 : (k : Int) < (n : Int) := by omega
      have n1 := own_ne hown (b := w.heap.size) (by omega)
      have n2 := own_ne hown (b := w.heap.size + 2) (by omega)
      have n3 := own_ne hown (b := b1) (by omega)
      have Hall := Lib.hid hall
      have Hown := Lib.hid hown
      have Hit := Lib.hid (it.below (w' := wr.drew) ((Below.refl B wr).drew))
      clear hall hown it ct
      go_wp2_with fail
      go_region_law
        (first
          | (go_simp; go_at_call 24; refine ((IH.out t hin) B (.slice ta tn tc) wr.drew (show B ≤ wr.heap.size from Nat.le_trans hB hbel.size) Hit.out).mono ?_
             rintro e w1 ⟨x1, rfl, hf1, bel1⟩
             obtain ⟨xa, xn, xc, rfl⟩ := PT.In.shape hf1
             have z1 : wr.heap.size ≤ w1.heap.size := bel1.size
             have q1 : w1.cell? ⟨w.heap.size, 2, none⟩ = some (.slice (some ⟨b1, o1, none⟩) n cap) := by rw [bel1.cell (show w.heap.size < wr.heap.size by omega)]; exact c2
             have q2 : w1.cell? ⟨w.heap.size + 2, 2, none⟩ = some u := by rw [bel1.cell (show w.heap.size + 2 < wr.heap.size by omega)]; exact d2
             have q20 : w1.cell? ⟨w.heap.size + 2, 0, none⟩ = some (.int .u8 kd) := by rw [bel1.cell (show w.heap.size + 2 < wr.heap.size by omega)]; exact d0
             have q21 : w1.cell? ⟨w.heap.size + 2, 1, none⟩ = some (.string nm) := by rw [bel1.cell (show w.heap.size + 2 < wr.heap.size by omega)]; exact d1
             have q6 : w1.frozen? ⟨w.heap.size + 2, 2, none⟩ = false := by rw [bel1.frozen (show w.heap.size + 2 < wr.heap.size by omega)]; exact f2
             have q7 := World.new_ne w1 _ q2
             have q8 : ∀ o : Obj, (w1.alloc o).cell? ⟨w.heap.size + 2, 2, none⟩ = some u := fun o => (((Below.refl _ w1).alloc (Nat.le_refl _) o).cell (show w.heap.size + 2 < w1.heap.size by omega)).trans q2
             have Hown1 := Lib.hid (own_below Hown.out (show Below wr.heap.size wr w1 from ((Below.refl _ wr).drew).trans bel1)))
          | (refine step_append_lies _ (by rfl) _ _ _ (by rfl) (w.heap.size + 3) 38 i0 _ 3 48 Tryz.underlying36 hi hz0 hz1 hz2 rfl (by omega) u k _ (by rfl) (Hown1.out.alloc _) ⟨w1.heap.size, 0, none⟩ 1 1 [.int .u8 t.kind, .string t.name, (.slice xa xn xc)] (by rfl) (by rfl) (World.news_of_block (cs := #[.int .u8 t.kind, .string t.name, (.slice xa xn xc)]) (t := 38) (fr := (0, 0)) (heap_alloc_new w1 _)) (by simp [Value.oneCell'])
              (by omega) (by unfold maxLen; omega) (by omega) (by simp; omega) (w1.heap.size + 1) (by simp) ?_
             intro gg cap1 w2 hown1 hgrow hat hlt2
             have r1 : w2.cell? ⟨w.heap.size, 2, none⟩ = some (.slice (some ⟨b1, o1, none⟩) n cap) := grown_cell hgrow q1 n1
             have r2 : w2.cell? ⟨w.heap.size + 2, 2, none⟩ = some u := grown_cell hgrow q2 n2
             have r20 : w2.cell? ⟨w.heap.size + 2, 0, none⟩ = some (.int .u8 kd) := grown_cell hgrow q20 n2
             have r21 : w2.cell? ⟨w.heap.size + 2, 1, none⟩ = some (.string nm) := grown_cell hgrow q21 n2
             have r6 : w2.frozen? ⟨w.heap.size + 2, 2, none⟩ = false := grown_frozen hgrow q6 (by simp; omega) n2))
      all_goals
        have Hnx := Lib.hid (rowsT_next (p := ⟨w.heap.size + 1 + 1, 2, none⟩) (z := .slice (some ⟨gg, 0, none⟩) (k + 1) cap1) ht hvs Hall.out Hown.out hbel (by omega) (show Below wr.heap.size wr w1 from ((Below.refl _ wr).drew).trans bel1) hf1 hgrow hat hown1 ⟨by simp; omega, by simp⟩)
        have z2 : w1.heap.size + 1 ≤ w2.heap.size := by have := hgrow.size; simpa using this
        clear hown1 hgrow hat Hall Hown Hown1 Hit q7 q8 bel1 hf1
        have Hres := Lib.hid hres
        clear hres
        go_wp2_with fail
        go_round
        case rel =>
          obtain ⟨vs', y1, y2, y3, y4, y5⟩ := Hnx.out
          refine ⟨k + 1, .slice (some ⟨gg, 0, none⟩) (k + 1) cap1, by omega, by go_num, by simp; omega, ?_, ?_, ?_, ?_, ?_, Lib.hid ⟨vs', y1, y2, y3, y4, (y5 _ (by omega) (by simp)).trans Hres.out⟩⟩
          · exact (World.cell?_of_block (y5 w.heap.size (by omega) (by simp; omega))).trans c2
          · go_simp
          · go_simp
          · go_simp
          · go_simp
        case measure => simp [intOf]; omega
    · obtain rfl : k = n := by omega
      obtain ⟨vs, hvs, hown, hall, hbel, hres⟩ := HH.out
      obtain ⟨ua, un, uc, rfl⟩ := own_shape hown
      have Hall := Lib.hid hall
      have Hown := Lib.hid hown
      have s0 : wr.cell? ⟨w.heap.size + 1, 0, none⟩ = some (.int .u8 0) := cell_of_row wr _ 0 _ _ _ hres
      have s1 : wr.cell? ⟨w.heap.size + 1, 1, none⟩ = some (.string ⟨#[]⟩) := cell_of_row wr _ 1 _ _ _ hres
      have s2 : wr.cell? ⟨w.heap.size + 1, 2, none⟩ = some (.slice none 0 0) := cell_of_row wr _ 2 _ _ _ hres
      have z0 : wr.frozen? ⟨w.heap.size + 1, 0, none⟩ = false := by simp [World.frozen?, hres]
      have z1 : wr.frozen? ⟨w.heap.size + 1, 1, none⟩ = false := by simp [World.frozen?, hres]
      have z2 : wr.frozen? ⟨w.heap.size + 1, 2, none⟩ = false := by simp [World.frozen?, hres]
      clear hall hown hres
      go_wp2_with fail
      (try simp only [Exit.inBlock, Exit.then])
      refine bodyPost_ret (v := .agg #[.int .u8 kd, .string nm, .slice ua un uc]) (by rw [results_cell1 rfl]; go_simp) rfl ⟨.slice ua un uc, rfl, ?_, ?_⟩
      · exact rowsT_end Hn.out hvs (by unfold maxLen; omega) hu hs Hall.out Hown.out (by omega) (fun i h1 h2 => (Below.heap_setCell _ _ _ i (by simp; omega)).trans ((Below.heap_setCell _ _ _ i (by simp; omega)).trans (Below.heap_setCell _ _ _ i (by simp; omega)))) (by simp)
      · exact ((hbel.setCell (p := ⟨w.heap.size + 1, 0, none⟩) (by simp) _).setCell (p := ⟨w.heap.size + 1, 1, none⟩) (by simp) _).setCell (p := ⟨w.heap.size + 1, 2, none⟩) (by simp) _
/-- types, as deep as they are -/
theorem copyT_calls : ∀ {t : PT}, FewT 1000000 t → CopyTAt t := fun h => by
  induction h with
  | mk k n l hl h2 ih => exact copyT_step k n l hl ih
end Go.Proofs.YtojeijeimpffgaaGreat
/- The document's own copies: places. -/
namespace Go.Proofs.YtojeijeimpffgaaGreat
open Go.RowKit
set_option linter.unusedVariables false
theorem infoName : (Tryz.prog.info? 9).map (fun i => (i.zero, i.size, i.bytes)) = some (some (.string ⟨#[]⟩), 1, 16) := by kernel_rfl
attribute [local go_sem ↓] Go.wp_at_zero Go.wp_at_succ
set_option maxRecDepth 100000 in
set_option maxHeartbeats 3200000 in
theorem copyP_calls (x : PP) (hl : x.path.length ≤ 1000000) (B : Nat) (v : Value) (w : World) (hB : B ≤ w.heap.size) (hx : x.In B w v) :
    Calls Tryz.prog 52 #[.agg #[.string x.name, v]] w fun e w' => ∃ v', e = .returned (.agg #[.string x.name, v']) ∧ x.In w'.heap.size (only (fun i => decide (w.heap.size ≤ i)) w') v' ∧ Below w.heap.size w w' := by
  obtain ⟨hs, b1, o1, ⟨m1, ao, cap, rfl, h1⟩, r1⟩ := hx
  obtain ⟨i0, hi, hz0, hz1, hz2⟩ := info_parts infoName
  obtain ⟨n, hn⟩ : ∃ n, n = x.path.length := ⟨_, rfl⟩
  rw [← hn] at m1 h1 hl
  rw [← hn]
  have Hn := Lib.hid hn
  have Hr := Lib.hid r1
  unfold maxLen at m1
  have hlen : (x.path.map Value.string).length = n * 1 := by simp [hn]
  clear hn
  cases ao with
  | none =>
    obtain rfl : n = 0 := h1.resolve_right (by simp)
    clear h1 r1
    go_enter Tryz.func52, Tryz.ntmps52
    go_wp2_with fail
    (try simp only [Exit.inBlock, Exit.then])
    refine bodyPost_ret (v := .agg #[.string x.name, .slice none 0 0]) (by rw [results_cell1 rfl]; go_simp) rfl ⟨.slice none 0 0, rfl, ⟨hs, 0, 0, ⟨by rw [← Hn.out]; unfold maxLen; omega, none, 0, by rw [← Hn.out], .inl Hn.out.symm⟩, ?_⟩, ?_⟩
    · cases hp : x.path with
      | nil => trivial
      | cons a b => have := Hn.out; rw [hp] at this; simp at this
    · exact (((Below.refl _ w).alloc (Nat.le_refl _) _).alloc (by simp) _).alloc (by simp <;> omega) _
  | some ad =>
    have hcells : ∀ W : World, Below w.heap.size w W → ∀ (j : Nat) u, (x.path.map Value.string)[j]? = some u → W.cell? (ad.add j) = some u := fun W hW j u hu => by
      have hj : n ≠ 0 := by
        have := (List.getElem?_eq_some_iff.1 hu).1
        rw [hlen] at this; omega
      obtain ⟨e1, e2⟩ := h1.resolve_left hj
      injection e1 with e1
      subst e1
      have h3 := NRow.cellsAt r1 j u hu
      have hadd : (⟨b1, o1, none⟩ : Addr).add j = ⟨b1, o1 + j, none⟩ := by unfold Addr.add; split <;> simp_all
      rw [hadd, hW.cell (show b1 < w.heap.size by omega)]
      exact h3
    have hone : ∀ u ∈ x.path.map Value.string, u.oneCell' = true := fun u hu => by
      obtain ⟨s, _, rfl⟩ := List.mem_map.1 hu; rfl
    have HC := Lib.hid hcells
    have HO := Lib.hid hone
    have HL := Lib.hid hlen
    clear hcells hone hlen h1 r1
    go_enter Tryz.func52, Tryz.ntmps52
    go_wp2_with (at_builtin
                 refine wpList_append_own_at _ rfl _ _ _ rfl (w.heap.size + 3) 9 i0 _ 1 16 Tryz.underlying40 hi hz0 hz1 hz2 rfl (by omega) (.slice none 0 0) 0 [] rfl (World.ownsRow_nil _ _ _ _) ad n cap (x.path.map Value.string) rfl HL.out (HC.out _ ((((Below.refl _ w).alloc (Nat.le_refl _) _).alloc (by simp) _).alloc (by simp <;> omega) _)) HO.out (by unfold maxLen; omega) (by omega) (by simp) ?_
                 intro u w1 hown hgrow hnil hat
                 go_loud (obtain ⟨ua, un, uc, rfl⟩ := own_shape hown
                          have c0 : w1.cell? ⟨w.heap.size + 1, 0, none⟩ = some (.string ⟨#[]⟩) := hgrow.cell (by go_simp) (by simp [Value.ownBlock])
                          have c1 : w1.cell? ⟨w.heap.size + 1, 1, none⟩ = some (.slice none 0 0) := hgrow.cell (by go_simp) (by simp [Value.ownBlock])
                          have c2 : w1.cell? ⟨w.heap.size + 2, 0, none⟩ = some (.string x.name) := hgrow.cell (by go_simp) (by simp [Value.ownBlock])
                          have c3 : w1.cell? ⟨w.heap.size + 2, 1, none⟩ = some (.slice none 0 0) := hgrow.cell (by go_simp) (by simp [Value.ownBlock])
                          have f0 : w1.frozen? ⟨w.heap.size + 1, 0, none⟩ = false := (World.frozen?_of_block (hgrow.block (w.heap.size + 1) (by simp <;> omega) (by simp [Value.ownBlock]))).trans (by go_simp)
                          have f1 : w1.frozen? ⟨w.heap.size + 1, 1, none⟩ = false := (World.frozen?_of_block (hgrow.block (w.heap.size + 1) (by simp <;> omega) (by simp [Value.ownBlock]))).trans (by go_simp)
                          have f3 : w1.frozen? ⟨w.heap.size + 2, 1, none⟩ = false := (World.frozen?_of_block (hgrow.block (w.heap.size + 2) (by simp) (by simp [Value.ownBlock]))).trans (by go_simp)
                          have Hown := Lib.hid hown
                          have Hbel := Lib.hid ((((((Below.refl _ w).alloc (Nat.le_refl _) _).alloc (by simp) _).alloc (by simp <;> omega) _).grown hgrow (by simp <;> omega) (fun k hk => by simp [Value.ownBlock] at hk) : Below w.heap.size w w1))
                          clear hown hgrow hnil hat))
    (try simp only [Exit.inBlock, Exit.then])
    refine bodyPost_ret (v := .agg #[.string x.name, .slice ua un uc]) (by rw [results_cell1 rfl]; go_simp) rfl ⟨.slice ua un uc, rfl, ⟨hs, ?_⟩, ?_⟩
    · exact nIn_own Hn.out (by unfold maxLen; omega) Hr.out.small (by simpa using Hown.out) (by omega) (fun i h1 h2 => (Below.heap_setCell _ _ _ i (by simp <;> omega)).trans ((Below.heap_setCell _ _ _ i (by simp <;> omega)).trans (Below.heap_setCell _ _ _ i (by simp <;> omega)))) (by simp)
    · exact ((Hbel.out.setCell (p := ⟨w.heap.size + 1 + 1, 1, none⟩) (by simp <;> omega) _).setCell (p := ⟨w.heap.size + 1, 0, none⟩) (by simp) _).setCell (p := ⟨w.heap.size + 1, 1, none⟩) (by simp) _
end Go.Proofs.YtojeijeimpffgaaGreat
/- The document's own copies: expressions. -/
namespace Go.Proofs.YtojeijeimpffgaaGreat
open Go.RowKit
set_option linter.unusedVariables false

mutual
/-- without its places in the text, where at is false -/
def erE (at' : Bool) : PE → PE
  | .mk op i n s p l pos => .mk op i n s p (erEs at' l) (if at' then pos else 0)
def erEs (at' : Bool) : List PE → List PE
  | [] => []
  | t :: l => erE at' t :: erEs at' l
end
theorem erEs_get (at' : Bool) : ∀ (l : List PE) (k : Nat), (erEs at' l)[k]? = (l[k]?).map (erE at')
  | [], k => by simp [erEs]
  | t :: l, 0 => by simp [erEs]
  | t :: l, k + 1 => by simp [erEs, erEs_get at' l k]
theorem erEs_len (at' : Bool) : ∀ (l : List PE), (erEs at' l).length = l.length
  | [] => rfl
  | t :: l => by simp [erEs, erEs_len at' l]
theorem infoExpr : (Tryz.prog.info? 45).map (fun i => (i.zero, i.size, i.bytes)) = some (some (.agg #[.int .u8 0, .int .i64 0, .string ⟨#[]⟩, .string ⟨#[]⟩, .string ⟨#[]⟩, .slice none 0 0, .slice none 0 0, .int .i64 0]), 8, 120) := by kernel_rfl
/-- v' holds a copy of e in new memory alone -/
def FreshE (n : Nat) (w' : World) (t : PE) (v' : VE) : Prop := t.In w'.heap.size (only (fun i => decide (n ≤ i)) w') v'
inductive FewE (m : Nat) : PE → Prop
  | mk (op i : Int) (n s : ByteArray) (p : PP) (l : List PE) (pos : Int) (h : l.length ≤ m) (hp : p.path.length ≤ m) (h2 : ∀ t, t ∈ l → FewE m t) : FewE m (.mk op i n s p l pos)
def CopyEAt (at' : Bool) (t : PE) : Prop := ∀ (B : Nat) (v : VE) (w : World), B ≤ w.heap.size → t.In B w v →
  Calls Tryz.prog 26 #[.agg #[.int .u8 t.op, .int .i64 t.int, .string t.name, .string t.second, .string t.place.name, v.path, v.args, .int .i64 t.pos], .bool at'] w fun e w' => ∃ v' : VE, e = .returned (.agg #[.int .u8 (erE at' t).op, .int .i64 (erE at' t).int, .string (erE at' t).name, .string (erE at' t).second, .string (erE at' t).place.name, v'.path, v'.args, .int .i64 (erE at' t).pos]) ∧ FreshE w.heap.size w' (erE at' t) v' ∧ Below w.heap.size w w'
attribute [local go_sem ↓] Go.wp_at_zero Go.wp_at_succ
set_option maxRecDepth 100000 in
set_option maxHeartbeats 6400000 in
theorem copyE_step (at' : Bool) (op int : Int) (nm sc : ByteArray) (pl : PP) (l : List PE) (pos : Int) (hl : l.length ≤ 1000000) (hpl : pl.path.length ≤ 1000000) (ih : ∀ t, t ∈ l → CopyEAt at' t) : CopyEAt at' (.mk op int nm sc pl l pos) := by
  intro B v w hB ht
  obtain ⟨pv, av⟩ := v
  obtain ⟨⟨hu, hin, hpos, hs1, hs2⟩, hp, b1, o1, ⟨m1, ao, cap, rfl, h1⟩, r1⟩ := ht
  obtain ⟨pa, pn, pc, rfl⟩ := hp.2.shape
  obtain ⟨i0, hi, hz0, hz1, hz2⟩ := info_parts infoExpr
  unfold maxLen at m1
  obtain ⟨n, hn⟩ : ∃ n, n = l.length := ⟨_, rfl⟩
  rw [← hn] at m1 h1 hl
  have Hn := Lib.hid hn
  have H1 := Lib.hid h1
  have Hr := Lib.hid r1
  have IH := Lib.hid ih
  have HP := Lib.hid hp
  rw [← hn]
  clear hn h1 r1 ih hp
  show Calls Tryz.prog 26 #[.agg #[.int .u8 op, .int .i64 int, .string nm, .string sc, .string pl.name, .slice pa pn pc, .slice ao n cap, .int .i64 pos], .bool at'] w _
  go_enter Tryz.func26, Tryz.ntmps26
  go_wp2_with fail
  have b3 := Lib.hid ((((Below.refl _ w).alloc (Nat.le_refl _) (Obj.cells #[.int .u8 op, .int .i64 int, .string nm, .string sc, .string pl.name, .slice pa pn pc, .slice ao n cap, .int .i64 pos] 45)).alloc (by simp) (Obj.cells #[.int .u8 0, .int .i64 0, .string ⟨#[]⟩, .string ⟨#[]⟩, .string ⟨#[]⟩, .slice none 0 0, .slice none 0 0, .int .i64 0] 45)).alloc (by simp <;> omega) (Obj.cells #[.int .u8 op, .int .i64 int, .string nm, .string sc, .string pl.name, .slice pa pn pc, .slice ao n cap, .int .i64 pos] 45))
  refine (copyP_calls pl hpl B (.slice pa pn pc) _ (by simp <;> omega) (HP.out.below (b3.out.mono hB))).mono ?_
  rintro e w1 ⟨pv', rfl, hf, bel⟩
  obtain ⟨qa, qn, qc, rfl⟩ := hf.2.shape
  have Hf := Lib.hid hf
  have bel0 := Lib.hid (b3.out.trans (bel.mono (by simp <;> omega)))
  have sz1 : w.heap.size + 3 ≤ w1.heap.size := by have := bel.size; simpa using this
  have pa6 : w1.cell? ⟨w.heap.size, 6, none⟩ = some (.slice ao n cap) := (bel.cell (p := ⟨w.heap.size, 6, none⟩) (by simp <;> omega)).trans (by go_simp)
  have p0 : w1.cell? ⟨w.heap.size + 2, 0, none⟩ = some (.int .u8 op) := (bel.cell (p := ⟨w.heap.size + 2, 0, none⟩) (by simp <;> omega)).trans (by go_simp)
  have p1 : w1.cell? ⟨w.heap.size + 2, 1, none⟩ = some (.int .i64 int) := (bel.cell (p := ⟨w.heap.size + 2, 1, none⟩) (by simp <;> omega)).trans (by go_simp)
  have p2 : w1.cell? ⟨w.heap.size + 2, 2, none⟩ = some (.string nm) := (bel.cell (p := ⟨w.heap.size + 2, 2, none⟩) (by simp <;> omega)).trans (by go_simp)
  have p3 : w1.cell? ⟨w.heap.size + 2, 3, none⟩ = some (.string sc) := (bel.cell (p := ⟨w.heap.size + 2, 3, none⟩) (by simp <;> omega)).trans (by go_simp)
  have p4 : w1.cell? ⟨w.heap.size + 2, 4, none⟩ = some (.string pl.name) := (bel.cell (p := ⟨w.heap.size + 2, 4, none⟩) (by simp <;> omega)).trans (by go_simp)
  have p5 : w1.cell? ⟨w.heap.size + 2, 5, none⟩ = some (.slice pa pn pc) := (bel.cell (p := ⟨w.heap.size + 2, 5, none⟩) (by simp <;> omega)).trans (by go_simp)
  have p6 : w1.cell? ⟨w.heap.size + 2, 6, none⟩ = some (.slice ao n cap) := (bel.cell (p := ⟨w.heap.size + 2, 6, none⟩) (by simp <;> omega)).trans (by go_simp)
  have p7 : w1.cell? ⟨w.heap.size + 2, 7, none⟩ = some (.int .i64 pos) := (bel.cell (p := ⟨w.heap.size + 2, 7, none⟩) (by simp <;> omega)).trans (by go_simp)
  have pf4 : w1.frozen? ⟨w.heap.size + 2, 4, none⟩ = false := (bel.frozen (p := ⟨w.heap.size + 2, 4, none⟩) (by simp <;> omega)).trans (by go_simp)
  have pf5 : w1.frozen? ⟨w.heap.size + 2, 5, none⟩ = false := (bel.frozen (p := ⟨w.heap.size + 2, 5, none⟩) (by simp <;> omega)).trans (by go_simp)
  have pf6 : w1.frozen? ⟨w.heap.size + 2, 6, none⟩ = false := (bel.frozen (p := ⟨w.heap.size + 2, 6, none⟩) (by simp <;> omega)).trans (by go_simp)
  have pf7 : w1.frozen? ⟨w.heap.size + 2, 7, none⟩ = false := (bel.frozen (p := ⟨w.heap.size + 2, 7, none⟩) (by simp <;> omega)).trans (by go_simp)
  have hres : w1.heap[w.heap.size + 1]? = some (.cells #[.int .u8 0, .int .i64 0, .string ⟨#[]⟩, .string ⟨#[]⟩, .string ⟨#[]⟩, .slice none 0 0, .slice none 0 0, .int .i64 0] 45) := by
    rw [bel.block _ (by simp <;> omega), Below.heap_alloc _ _ _ (by simp)]
    exact (by simp : w.heap.size + 1 = (w.alloc (Obj.cells #[.int .u8 op, .int .i64 int, .string nm, .string sc, .string pl.name, .slice pa pn pc, .slice ao n cap, .int .i64 pos] 45)).heap.size) ▸ heap_alloc_new _ _
  have Hres := Lib.hid hres
  clear hf bel hres
  go_wp2_with fail
  go_loopw [6] (fun i wr => ∃ (k : Nat) (u : Value), k ≤ n ∧ i = .int .i64 k ∧ w1.heap.size ≤ wr.heap.size ∧ wr.cell? ⟨w.heap.size, 6, none⟩ = some (.slice ao n cap) ∧ wr.cell? ⟨w.heap.size + 2, 0, none⟩ = some (.int .u8 op) ∧ wr.cell? ⟨w.heap.size + 2, 1, none⟩ = some (.int .i64 int) ∧ wr.cell? ⟨w.heap.size + 2, 2, none⟩ = some (.string nm) ∧ wr.cell? ⟨w.heap.size + 2, 3, none⟩ = some (.string sc) ∧ wr.cell? ⟨w.heap.size + 2, 4, none⟩ = some (.string pl.name) ∧ wr.cell? ⟨w.heap.size + 2, 5, none⟩ = some (.slice qa qn qc) ∧ wr.cell? ⟨w.heap.size + 2, 6, none⟩ = some u ∧ wr.cell? ⟨w.heap.size + 2, 7, none⟩ = some (.int .i64 pos) ∧
      wr.frozen? ⟨w.heap.size + 2, 6, none⟩ = false ∧ wr.frozen? ⟨w.heap.size + 2, 7, none⟩ = false ∧
      Hid (∃ vs : List VE, vs.length = k ∧ wr.ownsRow w1.heap.size 45 8 u k (cellsEs ((erEs at' l).take k) vs) ∧ (∀ (j : Nat) t x, j < k → (erEs at' l)[j]? = some t → vs[j]? = some x → t.In wr.heap.size (only (fun i => decide (w1.heap.size ≤ i) && decide (some i ≠ u.ownBlock)) wr) x) ∧
        Below w.heap.size w wr ∧ ∀ i, i < w1.heap.size → i ≠ w.heap.size + 2 → wr.heap[i]? = w1.heap[i]?))
    (fun i _ => n - (intOf i).toNat)
  case atStart =>
    refine ⟨0, .slice none 0 0, Nat.zero_le _, rfl, by simp, ?_, ?_, ?_, ?_, ?_, ?_, ?_, ?_, ?_, ?_, ?_, Lib.hid ⟨[], rfl, ?_, ?_, ?_, ?_⟩⟩
    any_goals go_simp
    · simpa [cellsEs] using World.ownsRow_nil _ w1.heap.size 45 8
    · exact ((bel0.out.setCell (p := ⟨w.heap.size + 1 + 1, 4, none⟩) (by simp <;> omega) _).setCell (p := ⟨w.heap.size + 1 + 1, 5, none⟩) (by simp <;> omega) _).setCell (p := ⟨w.heap.size + 1 + 1, 6, none⟩) (by simp <;> omega) _
    · intro i h1 h2
      exact (Below.heap_setCell _ _ _ i (by simp <;> omega)).trans ((Below.heap_setCell _ _ _ i (by simp <;> omega)).trans (Below.heap_setCell _ _ _ i (by simp <;> omega)))
  case round =>
    obtain ⟨k, u, hk, rfl, hz, c6, d0, d1, d2, d3, d4, d5, d6, d7, f6, f7, HH⟩ := hrel
    clear pa6 p0 p1 p2 p3 p4 p5 p6 p7 pf4 pf5 pf6 pf7
    by_cases hlt : k < n
    · obtain ⟨t, ht, hin⟩ := get_at (l := l) (k := k) (by rw [← Hn.out]; exact hlt)
      obtain ⟨rfl, hb1⟩ := H1.out.resolve_left (by omega)
      obtain ⟨vs, hvs, hown, hall, hbel, hkeep⟩ := HH.out
      obtain ⟨vt, ct, it⟩ := PE.Row.get (PE.Row.below (hbel.mono hB) hb1 Hr.out) ht
      obtain ⟨ta, tn, tc, ya, yn, yc, rfl⟩ := it.shape
      have g1 : b1 < wr.heap.size := by omega
      have e0 : wr.cell? ⟨b1, o1 + k * 8, none⟩ = some (.int .u8 t.op) := ct 0 _ rfl
      have e1 : wr.cell? ⟨b1, o1 + k * 8 + 1, none⟩ = some (.int .i64 t.int) := ct 1 _ rfl
      have e2 : wr.cell? ⟨b1, o1 + k * 8 + 2, none⟩ = some (.string t.name) := ct 2 _ rfl
      have e3 : wr.cell? ⟨b1, o1 + k * 8 + 3, none⟩ = some (.string t.second) := ct 3 _ rfl
      have e4 : wr.cell? ⟨b1, o1 + k * 8 + 4, none⟩ = some (.string t.place.name) := ct 4 _ rfl
      have e5 : wr.cell? ⟨b1, o1 + k * 8 + 5, none⟩ = some (.slice ta tn tc) := ct 5 _ rfl
      have e6 : wr.cell? ⟨b1, o1 + k * 8 + 6, none⟩ = some (.slice ya yn yc) := ct 6 _ rfl
      have e7 : wr.cell? ⟨b1, o1 + k * 8 + 7, none⟩ = some (.int .i64 t.pos) := ct 7 _ rfl
      have hk0 : (0 : Int) ≤ (k : Int) := Int.natCast_nonneg _
      have hk1 : (k : Int) < (n : Int) := by omega
      have n1 := own_ne hown (b := w.heap.size) (by omega)
      have n2 := own_ne hown (b := w.heap.size + 2) (by omega)
      have Hall := Lib.hid hall
      have Hown := Lib.hid hown
      have Hkeep := Lib.hid hkeep
      have Hit := Lib.hid (it.below (w' := wr.drew) ((Below.refl B wr).drew))
      have ht' : (erEs at' l)[k]? = some (erE at' t) := by rw [erEs_get, ht]; rfl
      clear hall hown it ct hkeep
      go_wp2_with fail
      go_region_law
        (first
          | (go_simp; go_at_call 26; refine ((IH.out t hin) B ⟨.slice ta tn tc, .slice ya yn yc⟩ wr.drew (show B ≤ wr.heap.size from Nat.le_trans hB hbel.size) Hit.out).mono ?_
             rintro e wc ⟨x1, rfl, hf1, bel1⟩
             obtain ⟨xa, xn, xc, za, zn, zc, rfl⟩ := PE.In.shape hf1
             have z1 : wr.heap.size ≤ wc.heap.size := bel1.size
             have q0 : wc.cell? ⟨w.heap.size, 6, none⟩ = some (.slice (some ⟨b1, o1, none⟩) n cap) := by rw [bel1.cell (show w.heap.size < wr.heap.size by omega)]; exact c6
             have Q1 : ∀ i, wc.cell? ⟨w.heap.size + 2, i, none⟩ = wr.cell? ⟨w.heap.size + 2, i, none⟩ := fun i => bel1.cell (show w.heap.size + 2 < wr.heap.size by omega)
             have Q2 : ∀ i, wc.frozen? ⟨w.heap.size + 2, i, none⟩ = wr.frozen? ⟨w.heap.size + 2, i, none⟩ := fun i => bel1.frozen (show w.heap.size + 2 < wr.heap.size by omega)
             have q6 : wc.cell? ⟨w.heap.size + 2, 6, none⟩ = some u := (Q1 6).trans d6
             have q7 := World.new_ne wc _ q6
             have q8 : ∀ o : Obj, (wc.alloc o).cell? ⟨w.heap.size + 2, 6, none⟩ = some u := fun o => (((Below.refl _ wc).alloc (Nat.le_refl _) o).cell (show w.heap.size + 2 < wc.heap.size by omega)).trans q6
             have Hown1 := Lib.hid (own_below Hown.out (show Below wr.heap.size wr wc from ((Below.refl _ wr).drew).trans bel1)))
          | (refine step_append_lies _ (by rfl) _ _ _ (by rfl) w1.heap.size 45 i0 _ 8 120 Tryz.underlying43 hi hz0 hz1 hz2 rfl (by omega) u k _ (by rfl) (Hown1.out.alloc _) ⟨wc.heap.size, 0, none⟩ 1 1 [.int .u8 (erE at' t).op, .int .i64 (erE at' t).int, .string (erE at' t).name, .string (erE at' t).second, .string (erE at' t).place.name, .slice xa xn xc, .slice za zn zc, .int .i64 (erE at' t).pos] (by rfl) (by rfl) (World.news_of_block (cs := #[.int .u8 (erE at' t).op, .int .i64 (erE at' t).int, .string (erE at' t).name, .string (erE at' t).second, .string (erE at' t).place.name, .slice xa xn xc, .slice za zn zc, .int .i64 (erE at' t).pos]) (t := 45) (fr := (0, 0)) (heap_alloc_new wc _)) (by simp [Value.oneCell'])
              (by omega) (by unfold maxLen; omega) (by omega) (by simp; omega) (wc.heap.size + 1) (by simp) ?_
             intro gg cap1 wd hown1 hgrow hat hlt2
             have r0 : wd.cell? ⟨w.heap.size, 6, none⟩ = some (.slice (some ⟨b1, o1, none⟩) n cap) := grown_cell hgrow q0 n1
             have r10 : wd.cell? ⟨w.heap.size + 2, 0, none⟩ = some (.int .u8 op) := grown_cell hgrow ((Q1 0).trans d0) n2
             have r11 : wd.cell? ⟨w.heap.size + 2, 1, none⟩ = some (.int .i64 int) := grown_cell hgrow ((Q1 1).trans d1) n2
             have r12 : wd.cell? ⟨w.heap.size + 2, 2, none⟩ = some (.string nm) := grown_cell hgrow ((Q1 2).trans d2) n2
             have r13 : wd.cell? ⟨w.heap.size + 2, 3, none⟩ = some (.string sc) := grown_cell hgrow ((Q1 3).trans d3) n2
             have r14 : wd.cell? ⟨w.heap.size + 2, 4, none⟩ = some (.string pl.name) := grown_cell hgrow ((Q1 4).trans d4) n2
             have r15 : wd.cell? ⟨w.heap.size + 2, 5, none⟩ = some (.slice qa qn qc) := grown_cell hgrow ((Q1 5).trans d5) n2
             have r16 : wd.cell? ⟨w.heap.size + 2, 6, none⟩ = some (u) := grown_cell hgrow ((Q1 6).trans d6) n2
             have r17 : wd.cell? ⟨w.heap.size + 2, 7, none⟩ = some (.int .i64 pos) := grown_cell hgrow ((Q1 7).trans d7) n2
             have r26 : wd.frozen? ⟨w.heap.size + 2, 6, none⟩ = false := grown_frozen hgrow ((Q2 6).trans f6) (by simp <;> omega) n2
             have r27 : wd.frozen? ⟨w.heap.size + 2, 7, none⟩ = false := grown_frozen hgrow ((Q2 7).trans f7) (by simp <;> omega) n2))
      all_goals
        have Hnx := Lib.hid (rowsE_next (p := ⟨w.heap.size + 1 + 1, 6, none⟩) (z := .slice (some ⟨gg, 0, none⟩) (k + 1) cap1) ht' hvs Hall.out Hown.out hbel (by omega) (show Below wr.heap.size wr wc from ((Below.refl _ wr).drew).trans bel1) hf1 hgrow hat hown1 ⟨by simp; omega, by simp; omega⟩)
        have z2 : wc.heap.size + 1 ≤ wd.heap.size := by have := hgrow.size; simpa using this
        clear hown1 hgrow hat Hall Hown Hown1 Hit q7 q8 bel1 hf1 Q1 Q2
        go_wp2_with fail
        go_round
        case rel =>
          obtain ⟨vs', y1, y2, y3, y4, y5⟩ := Hnx.out
          refine ⟨k + 1, .slice (some ⟨gg, 0, none⟩) (k + 1) cap1, by omega, by go_num, by simp; omega, ?_, ?_, ?_, ?_, ?_, ?_, ?_, ?_, ?_, ?_, ?_, Lib.hid ⟨vs', y1, y2, y3, y4, fun i h1 h2 => (y5 i h1 (by simp; omega)).trans (Hkeep.out i h1 h2)⟩⟩
          · exact (World.cell?_of_block (y5 w.heap.size (by omega) (by simp; omega))).trans c6
          all_goals go_simp
        case measure => simp [intOf]; omega
    · obtain rfl : k = n := by omega
      obtain ⟨vs, hvs, hown, hall, hbel, hkeep⟩ := HH.out
      obtain ⟨ua, un, uc, rfl⟩ := own_shape hown
      have hres := (hkeep (w.heap.size + 1) (by omega) (by omega)).trans Hres.out
      have s0 : wr.cell? ⟨w.heap.size + 1, 0, none⟩ = some (.int .u8 0) := cell_of_row wr _ 0 _ _ _ hres
      have s1 : wr.cell? ⟨w.heap.size + 1, 1, none⟩ = some (.int .i64 0) := cell_of_row wr _ 1 _ _ _ hres
      have s2 : wr.cell? ⟨w.heap.size + 1, 2, none⟩ = some (.string ⟨#[]⟩) := cell_of_row wr _ 2 _ _ _ hres
      have s3 : wr.cell? ⟨w.heap.size + 1, 3, none⟩ = some (.string ⟨#[]⟩) := cell_of_row wr _ 3 _ _ _ hres
      have s4 : wr.cell? ⟨w.heap.size + 1, 4, none⟩ = some (.string ⟨#[]⟩) := cell_of_row wr _ 4 _ _ _ hres
      have s5 : wr.cell? ⟨w.heap.size + 1, 5, none⟩ = some (.slice none 0 0) := cell_of_row wr _ 5 _ _ _ hres
      have s6 : wr.cell? ⟨w.heap.size + 1, 6, none⟩ = some (.slice none 0 0) := cell_of_row wr _ 6 _ _ _ hres
      have s7 : wr.cell? ⟨w.heap.size + 1, 7, none⟩ = some (.int .i64 0) := cell_of_row wr _ 7 _ _ _ hres
      have z0 : wr.frozen? ⟨w.heap.size + 1, 0, none⟩ = false := by simp [World.frozen?, hres]
      have z1 : wr.frozen? ⟨w.heap.size + 1, 1, none⟩ = false := by simp [World.frozen?, hres]
      have z2 : wr.frozen? ⟨w.heap.size + 1, 2, none⟩ = false := by simp [World.frozen?, hres]
      have z3 : wr.frozen? ⟨w.heap.size + 1, 3, none⟩ = false := by simp [World.frozen?, hres]
      have z4 : wr.frozen? ⟨w.heap.size + 1, 4, none⟩ = false := by simp [World.frozen?, hres]
      have z5 : wr.frozen? ⟨w.heap.size + 1, 5, none⟩ = false := by simp [World.frozen?, hres]
      have z6 : wr.frozen? ⟨w.heap.size + 1, 6, none⟩ = false := by simp [World.frozen?, hres]
      have z7 : wr.frozen? ⟨w.heap.size + 1, 7, none⟩ = false := by simp [World.frozen?, hres]
      have Hall := Lib.hid hall
      have Hown := Lib.hid hown
      have Hkeep := Lib.hid hkeep
      clear hall hown hres hkeep
      cases at' with
      | true =>
        go_wp2_with fail
        (try simp only [Exit.inBlock, Exit.then])
        refine bodyPost_ret (v := .agg #[.int .u8 op, .int .i64 int, .string nm, .string sc, .string pl.name, .slice qa qn qc, .slice ua un uc, .int .i64 pos]) (by rw [results_cell1 rfl]; go_simp) rfl ⟨⟨.slice qa qn qc, .slice ua un uc⟩, rfl, ⟨⟨hu, hin, hpos, hs1, hs2⟩, PP.In.reads (by simp; omega) (reads_of (fun i hi => by simp at hi; omega) (fun i hi h2 => ?_)) Hf.out, rowsE_end (by rw [erEs_len]; exact Hn.out) hvs (by unfold maxLen; omega) Hall.out Hown.out (by omega) (fun i h1 h2 => ?_) (by simp)⟩, ?_⟩
        · have hi2 : w.heap.size + 3 ≤ i := by simpa using hi
          repeat rw [Below.heap_setCell _ _ _ i (by simp; omega)]
          exact Hkeep.out i h2 (by omega)
        · repeat rw [Below.heap_setCell _ _ _ i (by simp; omega)]
        · repeat refine Below.setCell ?_ (by simp <;> omega) _
          exact hbel
      | false =>
        go_wp2_with fail
        (try simp only [Exit.inBlock, Exit.then])
        refine bodyPost_ret (v := .agg #[.int .u8 op, .int .i64 int, .string nm, .string sc, .string pl.name, .slice qa qn qc, .slice ua un uc, .int .i64 0]) (by rw [results_cell1 rfl]; go_simp) rfl ⟨⟨.slice qa qn qc, .slice ua un uc⟩, rfl, ⟨⟨hu, hin, (rfl : I64 0), hs1, hs2⟩, PP.In.reads (by simp; omega) (reads_of (fun i hi => by simp at hi; omega) (fun i hi h2 => ?_)) Hf.out, rowsE_end (by rw [erEs_len]; exact Hn.out) hvs (by unfold maxLen; omega) Hall.out Hown.out (by omega) (fun i h1 h2 => ?_) (by simp)⟩, ?_⟩
        · have hi2 : w.heap.size + 3 ≤ i := by simpa using hi
          repeat rw [Below.heap_setCell _ _ _ i (by simp; omega)]
          exact Hkeep.out i h2 (by omega)
        · repeat rw [Below.heap_setCell _ _ _ i (by simp; omega)]
        · repeat refine Below.setCell ?_ (by simp <;> omega) _
          exact hbel
/-- expressions, as deep as they are -/
theorem copyE_calls (at' : Bool) : ∀ {t : PE}, FewE 1000000 t → CopyEAt at' t := fun h => by
  induction h with
  | mk op i n s p l pos hl hp h2 ih => exact copyE_step at' op i n s p l pos hl hp ih
end Go.Proofs.YtojeijeimpffgaaGreat
/- The document's own copies: fields. -/
namespace Go.Proofs.YtojeijeimpffgaaGreat
open Go.RowKit
set_option linter.unusedVariables false
theorem infoField : (Tryz.prog.info? 68).map (fun i => (i.zero, i.size, i.bytes)) = some (some (.agg #[.string ⟨#[]⟩, .int .u8 0, .string ⟨#[]⟩, .slice none 0 0]), 4, 64) := by kernel_rfl
attribute [local go_sem ↓] Go.wp_at_zero Go.wp_at_succ
set_option maxRecDepth 100000 in
set_option maxHeartbeats 3200000 in
theorem copyF_calls (l : List PF) (hl : l.length ≤ 1000000) (hfew : ∀ f, f ∈ l → FewT 1000000 f.type) (B : Nat) (b1 o1 : Nat) (v : Value) (w : World) (hB : B ≤ w.heap.size) (hv : SlV B v l.length b1 o1) (hr : PF.Row B w b1 o1 l) :
    Calls Tryz.prog 23 #[v] w fun e w' => ∃ v', e = .returned v' ∧ (∃ b o, SlV w'.heap.size v' l.length b o ∧ PF.Row w'.heap.size (only (fun i => decide (w.heap.size ≤ i)) w') b o l) ∧ Below w.heap.size w w' := by
  obtain ⟨m1, ao, cap, rfl, h1⟩ := hv
  obtain ⟨i0, hi, hz0, hz1, hz2⟩ := info_parts infoField
  unfold maxLen at m1
  obtain ⟨n, hn⟩ : ∃ n, n = l.length := ⟨_, rfl⟩
  rw [← hn] at m1 h1 hl
  have Hn := Lib.hid hn
  have H1 := Lib.hid h1
  have Hr := Lib.hid hr
  have Hfew := Lib.hid hfew
  rw [← hn]
  clear hn h1 hr hfew
  go_enter Tryz.func23, Tryz.ntmps23
  go_wp2_with fail
  go_loopw [3, 4] (fun o i wr => ∃ (k : Nat) (u : Value), k ≤ n ∧ o = u ∧ i = .int .i64 k ∧ w.heap.size ≤ wr.heap.size ∧
      Hid (∃ vs : List Value, vs.length = k ∧ wr.ownsRow w.heap.size 68 4 u k (cellsFs (l.take k) vs) ∧ (∀ (j : Nat) t x, j < k → l[j]? = some t → vs[j]? = some x → t.In wr.heap.size (only (fun i => decide (w.heap.size ≤ i) && decide (some i ≠ u.ownBlock)) wr) x) ∧ Below w.heap.size w wr))
    (fun _ i _ => n - (intOf i).toNat)
  case atStart =>
    refine ⟨0, .slice none 0 0, Nat.zero_le _, rfl, rfl, Nat.le_refl _, Lib.hid ⟨[], rfl, ?_, ?_, Below.refl _ _⟩⟩
    · simpa [cellsFs] using World.ownsRow_nil _ w.heap.size 68 4
    · intro j t x h; omega
  case round =>
    obtain ⟨k, u, hk, hou, rfl, hz, HH⟩ := hrel
    have hou' := hou.symm
    subst hou'
    by_cases hlt : k < n
    · obtain ⟨t, ht, hin⟩ := get_at (l := l) (k := k) (by rw [← Hn.out]; exact hlt)
      obtain ⟨rfl, hb1⟩ := H1.out.resolve_left (by omega)
      obtain ⟨vs, hvs, hown, hall, hbel⟩ := HH.out
      obtain ⟨vt, ct, it⟩ := PF.Row.get (PF.Row.below (hbel.mono hB) hb1 Hr.out) ht
      obtain ⟨ta, tn, tc, rfl⟩ := it.shape
      have g1 : b1 < wr.heap.size := by omega
      have e0 : wr.cell? ⟨b1, o1 + k * 4, none⟩ = some (.string t.name) := ct 0 _ rfl
      have e1 : wr.cell? ⟨b1, o1 + k * 4 + 1, none⟩ = some (.int .u8 t.type.kind) := ct 1 _ rfl
      have e2 : wr.cell? ⟨b1, o1 + k * 4 + 2, none⟩ = some (.string t.type.name) := ct 2 _ rfl
      have e3 : wr.cell? ⟨b1, o1 + k * 4 + 3, none⟩ = some (.slice ta tn tc) := ct 3 _ rfl
      have hk0 : (0 : Int) ≤ (k : Int) := Int.natCast_nonneg _
      have hk1 : (k : Int) < (n : Int) := by omega
      have Hall := Lib.hid hall
      have Hown := Lib.hid hown
      have Hit := Lib.hid (it.2.below (w' := wr.drew) ((Below.refl B wr).drew))
      have hnm := it.1
      clear hall hown it ct
      go_wp2_with fail
      go_region_held_law (fun w' => w'.cell? ⟨b1, o1 + k * 4, none⟩ = some (.string t.name) ∧ w'.cell? ⟨b1, o1 + k * 4 + 1, none⟩ = some (.int .u8 t.type.kind) ∧ w'.cell? ⟨b1, o1 + k * 4 + 2, none⟩ = some (.string t.type.name) ∧ w'.cell? ⟨b1, o1 + k * 4 + 3, none⟩ = some (.slice ta tn tc))
        (go_keep)
        (first
          | (go_at_call 24; refine ((copyT_calls (Hfew.out t hin)) B (.slice ta tn tc) wr.drew (show B ≤ wr.heap.size from Nat.le_trans hB hbel.size) Hit.out).mono ?_
             rintro e wc ⟨x1, rfl, hf1, bel1⟩
             obtain ⟨xa, xn, xc, rfl⟩ := PT.In.shape hf1
             have z1 : wr.heap.size ≤ wc.heap.size := bel1.size
             have q0 : wc.cell? ⟨b1, o1 + k * 4, none⟩ = some (.string t.name) := by rw [bel1.cell (show b1 < wr.heap.size by omega)]; exact e0
             have q1 : wc.cell? ⟨b1, o1 + k * 4 + 1, none⟩ = some (.int .u8 t.type.kind) := by rw [bel1.cell (show b1 < wr.heap.size by omega)]; exact e1
             have q2 : wc.cell? ⟨b1, o1 + k * 4 + 2, none⟩ = some (.string t.type.name) := by rw [bel1.cell (show b1 < wr.heap.size by omega)]; exact e2
             have q3 : wc.cell? ⟨b1, o1 + k * 4 + 3, none⟩ = some (.slice ta tn tc) := by rw [bel1.cell (show b1 < wr.heap.size by omega)]; exact e3
             have q7 := World.new_ne wc _ q0
             have Hown1 := Lib.hid (own_below Hown.out (show Below wr.heap.size wr wc from ((Below.refl _ wr).drew).trans bel1)))
          | (refine step_append_lies _ (by rfl) _ _ _ (by rfl) w.heap.size 68 i0 _ 4 64 Tryz.underlying35 hi hz0 hz1 hz2 rfl (by omega) u k _ (by rfl) (Hown1.out.alloc _) ⟨wc.heap.size, 0, none⟩ 1 1 [.string t.name, .int .u8 t.type.kind, .string t.type.name, .slice xa xn xc] (by rfl) (by rfl) (World.news_of_block (cs := #[.string t.name, .int .u8 t.type.kind, .string t.type.name, .slice xa xn xc]) (t := 68) (fr := (0, 0)) (heap_alloc_new wc _)) (by simp [Value.oneCell'])
              (by omega) (by unfold maxLen; omega) (by omega) (by simp <;> omega) (wc.heap.size + 1) (by simp) ?_
             intro gg cap1 wd hown1 hgrow hat hlt2
             have n3 := own_ne Hown.out (b := b1) (by omega)
             have r0 := grown_cell hgrow q0 n3
             have r1 := grown_cell hgrow q1 n3
             have r2 := grown_cell hgrow q2 n3
             have r3 := grown_cell hgrow q3 n3))
      have Hnx := Lib.hid (rowsF_next (x := .slice xa xn xc) ht hvs Hall.out Hown.out hz (show Below wr.heap.size wr wc from ((Below.refl _ wr).drew).trans bel1) ⟨hnm, hf1⟩ hgrow hat hown1)
      have z2 : wc.heap.size + 1 ≤ wd.heap.size := by have := hgrow.size; simpa using this
      clear hown1 hgrow hat Hall Hown Hown1 Hit q7 bel1 hf1
      go_wp2_with fail
      go_round
      case rel =>
        obtain ⟨vs', y1, y2, y3, y4⟩ := Hnx.out
        exact ⟨k + 1, .slice (some ⟨gg, 0, none⟩) (k + 1) cap1, by omega, rfl, by go_num, by omega, Lib.hid ⟨vs', y1, y2, y3, hbel.trans y4⟩⟩
      case measure => simp [intOf]; omega
    · obtain rfl : k = n := by omega
      obtain ⟨vs, hvs, hown, hall, hbel⟩ := HH.out
      have Hall := Lib.hid hall
      have Hown := Lib.hid hown
      clear hall hown
      go_wp2_with fail
      go_ret
      have hend := rowsF_end (W := wr) (m := w.heap.size) Hn.out hvs (by unfold maxLen; omega) Hall.out Hown.out (Nat.le_refl _) (fun _ _ _ => rfl) (Nat.le_refl _)
      rw [← Hn.out] at hend
      exact ⟨u, rfl, hend, hbel⟩
end Go.Proofs.YtojeijeimpffgaaGreat
