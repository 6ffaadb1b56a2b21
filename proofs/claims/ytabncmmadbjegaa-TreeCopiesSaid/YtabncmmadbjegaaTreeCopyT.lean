/- The document's own copies: types. -/
import Derived.Test.YtabncmmadbjegaaJoinD
import Derived.Test.YtabncmmadbjegaaJoinA
import Derived.Deep.RegionLaw
import Derived.Deep.RegionHeldLaw
import Derived.Deep.AppendLies
import Derived.Deep.DrawnRows
namespace Go.Proofs.Ytabncmmadbjegaa
open Go.RowKit
set_option linter.unusedVariables false

theorem infoType : (Try.prog.info? 36).map (fun i => (i.zero, i.size, i.bytes)) = some (some (.agg #[.int .u8 0, .string ⟨#[]⟩, .slice none 0 0]), 3, 48) := by kernel_rfl
/-- v' is the Args of a copy of t that lies in new memory alone -/
def FreshT (n : Nat) (w' : World) (t : PT) (v' : Value) : Prop := t.In w'.heap.size (only (fun i => decide (n ≤ i)) w') v'
/-- no list in it is longer than can be copied -/
inductive FewT (m : Nat) : PT → Prop
  | mk (k : Int) (n : ByteArray) (l : List PT) (h : l.length ≤ m) (h2 : ∀ t, t ∈ l → FewT m t) : FewT m (.mk k n l)
def CopyTAt (t : PT) : Prop := ∀ (B : Nat) (v : Value) (w : World), B ≤ w.heap.size → t.In B w v →
  Calls Try.prog 16 #[.agg #[.int .u8 t.kind, .string t.name, v]] w fun e w' => ∃ v', e = .returned (.agg #[.int .u8 t.kind, .string t.name, v']) ∧ FreshT w.heap.size w' t v' ∧ Below w.heap.size w w'
attribute [local go_sem ↓] Go.wp_at_zero Go.wp_at_succ
set_option maxRecDepth 100000 in
set_option maxHeartbeats 3200000 in
theorem copyT_step (kd : Int) (nm : ByteArray) (l : List PT) (hl : l.length ≤ 1000000) (ih : ∀ t, t ∈ l → CopyTAt t) : CopyTAt (.mk kd nm l) := by
  intro B v w hB ht
  obtain ⟨⟨hu, hs⟩, b1, o1, ⟨m1, ao, cap, rfl, h1⟩, r1⟩ := ht
  obtain ⟨i0, hi, hz0, hz1, hz2⟩ := info_parts infoType
  unfold maxLen at m1
  obtain ⟨n, hn⟩ : ∃ n, n = l.length := ⟨_, rfl⟩
  rw [← hn] at m1 h1 hl
  have Hn := Lib.hid hn
  have H1 := Lib.hid h1
  have Hr := Lib.hid r1
  have IH := Lib.hid ih
  rw [← hn]
  clear hn h1 r1 ih
  show Calls Try.prog 16 #[.agg #[.int .u8 kd, .string nm, .slice ao n cap]] w _
  go_enter Try.func16, Try.ntmps16
  go_wp2_with fail
  go_loopw [4] (fun i wr => ∃ (k : Nat) (u : Value), k ≤ n ∧ i = .int .i64 k ∧ w.heap.size + 2 < wr.heap.size ∧ wr.cell? ⟨w.heap.size, 2, none⟩ = some (.slice ao n cap) ∧
      wr.cell? ⟨w.heap.size + 2, 2, none⟩ = some u ∧ wr.frozen? ⟨w.heap.size + 2, 2, none⟩ = false ∧ wr.cell? ⟨w.heap.size + 2, 0, none⟩ = some (.int .u8 kd) ∧ wr.cell? ⟨w.heap.size + 2, 1, none⟩ = some (.string nm) ∧
      Hid (∃ vs : List Value, vs.length = k ∧ wr.ownsRow (w.heap.size + 3) 36 3 u k (cellsTs (l.take k) vs) ∧ (∀ (j : Nat) t x, j < k → l[j]? = some t → vs[j]? = some x → t.In wr.heap.size (only (fun i => decide (w.heap.size + 3 ≤ i) && decide (some i ≠ u.ownBlock)) wr) x) ∧ Below w.heap.size w wr ∧ wr.heap[w.heap.size + 1]? = some (.cells #[.int .u8 0, .string ⟨#[]⟩, .slice none 0 0] 36)))
    (fun i _ => n - (intOf i).toNat)
  case atStart =>
    refine ⟨0, .slice none 0 0, Nat.zero_le _, rfl, by simp, ?_, ?_, ?_, ?_, ?_, Lib.hid ⟨[], rfl, ?_, ?_, ?_, ?_⟩⟩
    · go_simp
    · go_simp
    · go_simp
    · go_simp
    · go_simp
    · simpa [cellsTs] using World.ownsRow_nil _ (w.heap.size + 3) 36 3
    · intro j t x h; omega
    · exact (((Below.refl _ w).alloc (Nat.le_refl _) _).alloc (by simp) _).alloc (by simp; omega) _
    · rw [Below.heap_alloc _ _ _ (by simp)]
      exact (by simp : w.heap.size + 1 = (w.alloc (Obj.cells #[Value.int IntKind.u8 kd, Value.string nm, Value.slice ao n cap] 36)).heap.size) ▸ heap_alloc_new _ _
  case round =>
    obtain ⟨k, u, hk, rfl, hz, c2, d2, f2, d0, d1, HH⟩ := hrel
    by_cases hlt : k < n
    · obtain ⟨t, ht, hin⟩ := get_at (l := l) (k := k) (by rw [← Hn.out]; exact hlt)
      obtain ⟨rfl, hb1⟩ := H1.out.resolve_left (by omega)
      obtain ⟨vs, hvs, hown, hall, hbel, hres⟩ := HH.out
      obtain ⟨vt, ct, it⟩ := PT.Row.get (PT.Row.below (hbel.mono hB) hb1 Hr.out) ht
      obtain ⟨ta, tn, tc, rfl⟩ := it.shape
      have g1 : b1 < wr.heap.size := by omega
      have e0 : wr.cell? ⟨b1, o1 + k * 3, none⟩ = some (.int .u8 t.kind) := ct 0 _ rfl
      have e1 : wr.cell? ⟨b1, o1 + k * 3 + 1, none⟩ = some (.string t.name) := ct 1 _ rfl
      have e2 : wr.cell? ⟨b1, o1 + k * 3 + 2, none⟩ = some (.slice ta tn tc) := ct 2 _ rfl
      have hk0 : (0 : Int) ≤ (k : Int) := Int.natCast_nonneg _
      have hk1 : (k : Int) < (n : Int) := by omega
      have n1 := own_ne hown (b := w.heap.size) (by omega)
      have n2 := own_ne hown (b := w.heap.size + 2) (by omega)
      have n3 := own_ne hown (b := b1) (by omega)
      have Hall := Lib.hid hall
      have Hown := Lib.hid hown
      have Hit := Lib.hid (it.below (w' := wr.drew) ((Below.refl B wr).drew))
      clear hall hown it ct
      go_wp2_with fail
      go_region_law
        (first
          | (go_simp; go_at_call 16; refine ((IH.out t hin) B (.slice ta tn tc) wr.drew (show B ≤ wr.heap.size from Nat.le_trans hB hbel.size) Hit.out).mono ?_
             rintro e w1 ⟨x1, rfl, hf1, bel1⟩
             obtain ⟨xa, xn, xc, rfl⟩ := PT.In.shape hf1
             have z1 : wr.heap.size ≤ w1.heap.size := bel1.size
             have q1 : w1.cell? ⟨w.heap.size, 2, none⟩ = some (.slice (some ⟨b1, o1, none⟩) n cap) := by rw [bel1.cell (show w.heap.size < wr.heap.size by omega)]; exact c2
             have q2 : w1.cell? ⟨w.heap.size + 2, 2, none⟩ = some u := by rw [bel1.cell (show w.heap.size + 2 < wr.heap.size by omega)]; exact d2
             have q20 : w1.cell? ⟨w.heap.size + 2, 0, none⟩ = some (.int .u8 kd) := by rw [bel1.cell (show w.heap.size + 2 < wr.heap.size by omega)]; exact d0
             have q21 : w1.cell? ⟨w.heap.size + 2, 1, none⟩ = some (.string nm) := by rw [bel1.cell (show w.heap.size + 2 < wr.heap.size by omega)]; exact d1
             have q6 : w1.frozen? ⟨w.heap.size + 2, 2, none⟩ = false := by rw [bel1.frozen (show w.heap.size + 2 < wr.heap.size by omega)]; exact f2
             have q7 := World.new_ne w1 _ q2
             have q8 : ∀ o : Obj, (w1.alloc o).cell? ⟨w.heap.size + 2, 2, none⟩ = some u := fun o => (((Below.refl _ w1).alloc (Nat.le_refl _) o).cell (show w.heap.size + 2 < w1.heap.size by omega)).trans q2
             have Hown1 := Lib.hid (own_below Hown.out (show Below wr.heap.size wr w1 from ((Below.refl _ wr).drew).trans bel1)))
          | (refine step_append_lies _ (by rfl) _ _ _ (by rfl) (w.heap.size + 3) 36 i0 _ 3 48 Try.underlying34 hi hz0 hz1 hz2 rfl (by omega) u k _ (by rfl) (Hown1.out.alloc _) ⟨w1.heap.size, 0, none⟩ 1 1 [.int .u8 t.kind, .string t.name, (.slice xa xn xc)] (by rfl) (by rfl) (World.news_of_block (cs := #[.int .u8 t.kind, .string t.name, (.slice xa xn xc)]) (t := 36) (fr := (0, 0)) (heap_alloc_new w1 _)) (by simp [Value.oneCell'])
              (by omega) (by unfold maxLen; omega) (by omega) (by simp; omega) (w1.heap.size + 1) (by simp) ?_
             intro gg cap1 w2 hown1 hgrow hat hlt2
             have r1 : w2.cell? ⟨w.heap.size, 2, none⟩ = some (.slice (some ⟨b1, o1, none⟩) n cap) := grown_cell hgrow q1 n1
             have r2 : w2.cell? ⟨w.heap.size + 2, 2, none⟩ = some u := grown_cell hgrow q2 n2
             have r20 : w2.cell? ⟨w.heap.size + 2, 0, none⟩ = some (.int .u8 kd) := grown_cell hgrow q20 n2
             have r21 : w2.cell? ⟨w.heap.size + 2, 1, none⟩ = some (.string nm) := grown_cell hgrow q21 n2
             have r6 : w2.frozen? ⟨w.heap.size + 2, 2, none⟩ = false := grown_frozen hgrow q6 (by simp; omega) n2))
      all_goals
        have Hnx := Lib.hid (rowsT_next (p := ⟨w.heap.size + 1 + 1, 2, none⟩) (z := .slice (some ⟨gg, 0, none⟩) (k + 1) cap1) ht hvs Hall.out Hown.out hbel (by omega) (show Below wr.heap.size wr w1 from ((Below.refl _ wr).drew).trans bel1) hf1 hgrow hat hown1 ⟨by simp; omega, by simp⟩)
        have z2 : w1.heap.size + 1 ≤ w2.heap.size := by have := hgrow.size; simpa using this
        clear hown1 hgrow hat Hall Hown Hown1 Hit q7 q8 bel1 hf1
        have Hres := Lib.hid hres
        clear hres
        go_wp2_with fail
        go_round
        case rel =>
          obtain ⟨vs', y1, y2, y3, y4, y5⟩ := Hnx.out
          refine ⟨k + 1, .slice (some ⟨gg, 0, none⟩) (k + 1) cap1, by omega, by go_num, by simp; omega, ?_, ?_, ?_, ?_, ?_, Lib.hid ⟨vs', y1, y2, y3, y4, (y5 _ (by omega) (by simp)).trans Hres.out⟩⟩
          · exact (World.cell?_of_block (y5 w.heap.size (by omega) (by simp; omega))).trans c2
          · go_simp
          · go_simp
          · go_simp
          · go_simp
        case measure => simp [intOf]; omega
    · obtain rfl : k = n := by omega
      obtain ⟨vs, hvs, hown, hall, hbel, hres⟩ := HH.out
      obtain ⟨ua, un, uc, rfl⟩ := own_shape hown
      have Hall := Lib.hid hall
      have Hown := Lib.hid hown
      have s0 : wr.cell? ⟨w.heap.size + 1, 0, none⟩ = some (.int .u8 0) := cell_of_row wr _ 0 _ _ _ hres
      have s1 : wr.cell? ⟨w.heap.size + 1, 1, none⟩ = some (.string ⟨#[]⟩) := cell_of_row wr _ 1 _ _ _ hres
      have s2 : wr.cell? ⟨w.heap.size + 1, 2, none⟩ = some (.slice none 0 0) := cell_of_row wr _ 2 _ _ _ hres
      have z0 : wr.frozen? ⟨w.heap.size + 1, 0, none⟩ = false := by simp [World.frozen?, hres]
      have z1 : wr.frozen? ⟨w.heap.size + 1, 1, none⟩ = false := by simp [World.frozen?, hres]
      have z2 : wr.frozen? ⟨w.heap.size + 1, 2, none⟩ = false := by simp [World.frozen?, hres]
      clear hall hown hres
      go_wp2_with fail
      (try simp only [Exit.inBlock, Exit.then])
      refine bodyPost_ret (v := .agg #[.int .u8 kd, .string nm, .slice ua un uc]) (by rw [results_cell1 rfl]; go_simp) rfl ⟨.slice ua un uc, rfl, ?_, ?_⟩
      · exact rowsT_end Hn.out hvs (by unfold maxLen; omega) hu hs Hall.out Hown.out (by omega) (fun i h1 h2 => (Below.heap_setCell _ _ _ i (by simp; omega)).trans ((Below.heap_setCell _ _ _ i (by simp; omega)).trans (Below.heap_setCell _ _ _ i (by simp; omega)))) (by simp)
      · exact ((hbel.setCell (p := ⟨w.heap.size + 1, 0, none⟩) (by simp) _).setCell (p := ⟨w.heap.size + 1, 1, none⟩) (by simp) _).setCell (p := ⟨w.heap.size + 1, 2, none⟩) (by simp) _
/-- types, as deep as they are -/
theorem copyT_calls : ∀ {t : PT}, FewT 1000000 t → CopyTAt t := fun h => by
  induction h with
  | mk k n l hl h2 ih => exact copyT_step k n l hl ih
end Go.Proofs.Ytabncmmadbjegaa
