/- The document's own copies: fields. -/
import Derived.Test.YtabncmmadbjegaaTreeCopyE
import Derived.Test.YtabncmmadbjegaaJoinA
namespace Go.Proofs.Ytabncmmadbjegaa
open Go.RowKit
set_option linter.unusedVariables false
theorem infoField : (Try.prog.info? 70).map (fun i => (i.zero, i.size, i.bytes)) = some (some (.agg #[.string ⟨#[]⟩, .int .u8 0, .string ⟨#[]⟩, .slice none 0 0]), 4, 64) := by kernel_rfl
attribute [local go_sem ↓] Go.wp_at_zero Go.wp_at_succ
set_option maxRecDepth 100000 in
set_option maxHeartbeats 3200000 in
theorem copyF_calls (l : List PF) (hl : l.length ≤ 1000000) (hfew : ∀ f, f ∈ l → FewT 1000000 f.type) (B : Nat) (b1 o1 : Nat) (v : Value) (w : World) (hB : B ≤ w.heap.size) (hv : SlV B v l.length b1 o1) (hr : PF.Row B w b1 o1 l) :
    Calls Try.prog 15 #[v] w fun e w' => ∃ v', e = .returned v' ∧ (∃ b o, SlV w'.heap.size v' l.length b o ∧ PF.Row w'.heap.size (only (fun i => decide (w.heap.size ≤ i)) w') b o l) ∧ Below w.heap.size w w' := by
  obtain ⟨m1, ao, cap, rfl, h1⟩ := hv
  obtain ⟨i0, hi, hz0, hz1, hz2⟩ := info_parts infoField
  unfold maxLen at m1
  obtain ⟨n, hn⟩ : ∃ n, n = l.length := ⟨_, rfl⟩
  rw [← hn] at m1 h1 hl
  have Hn := Lib.hid hn
  have H1 := Lib.hid h1
  have Hr := Lib.hid hr
  have Hfew := Lib.hid hfew
  rw [← hn]
  clear hn h1 hr hfew
  go_enter Try.func15, Try.ntmps15
  go_wp2_with fail
  go_loopw [3, 4] (fun o i wr => ∃ (k : Nat) (u : Value), k ≤ n ∧ o = u ∧ i = .int .i64 k ∧ w.heap.size ≤ wr.heap.size ∧
      Hid (∃ vs : List Value, vs.length = k ∧ wr.ownsRow w.heap.size 70 4 u k (cellsFs (l.take k) vs) ∧ (∀ (j : Nat) t x, j < k → l[j]? = some t → vs[j]? = some x → t.In wr.heap.size (only (fun i => decide (w.heap.size ≤ i) && decide (some i ≠ u.ownBlock)) wr) x) ∧ Below w.heap.size w wr))
    (fun _ i _ => n - (intOf i).toNat)
  case atStart =>
    refine ⟨0, .slice none 0 0, Nat.zero_le _, rfl, rfl, Nat.le_refl _, Lib.hid ⟨[], rfl, ?_, ?_, Below.refl _ _⟩⟩
    · simpa [cellsFs] using World.ownsRow_nil _ w.heap.size 70 4
    · intro j t x h; omega
  case round =>
    obtain ⟨k, u, hk, hou, rfl, hz, HH⟩ := hrel
    have hou' := hou.symm
    subst hou'
    by_cases hlt : k < n
    · obtain ⟨t, ht, hin⟩ := get_at (l := l) (k := k) (by rw [← Hn.out]; exact hlt)
      obtain ⟨rfl, hb1⟩ := H1.out.resolve_left (by omega)
      obtain ⟨vs, hvs, hown, hall, hbel⟩ := HH.out
      obtain ⟨vt, ct, it⟩ := PF.Row.get (PF.Row.below (hbel.mono hB) hb1 Hr.out) ht
      obtain ⟨ta, tn, tc, rfl⟩ := it.shape
      have g1 : b1 < wr.heap.size := by omega
      have e0 : wr.cell? ⟨b1, o1 + k * 4, none⟩ = some (.string t.name) := ct 0 _ rfl
      have e1 : wr.cell? ⟨b1, o1 + k * 4 + 1, none⟩ = some (.int .u8 t.type.kind) := ct 1 _ rfl
      have e2 : wr.cell? ⟨b1, o1 + k * 4 + 2, none⟩ = some (.string t.type.name) := ct 2 _ rfl
      have e3 : wr.cell? ⟨b1, o1 + k * 4 + 3, none⟩ = some (.slice ta tn tc) := ct 3 _ rfl
      have hk0 : (0 : Int) ≤ (k : Int) := Int.natCast_nonneg _
      have hk1 : (k : Int) < (n : Int) := by omega
      have Hall := Lib.hid hall
      have Hown := Lib.hid hown
      have Hit := Lib.hid (it.2.below (w' := wr.drew) ((Below.refl B wr).drew))
      have hnm := it.1
      clear hall hown it ct
      go_wp2_with fail
      go_region_held_law (fun w' => w'.cell? ⟨b1, o1 + k * 4, none⟩ = some (.string t.name) ∧ w'.cell? ⟨b1, o1 + k * 4 + 1, none⟩ = some (.int .u8 t.type.kind) ∧ w'.cell? ⟨b1, o1 + k * 4 + 2, none⟩ = some (.string t.type.name) ∧ w'.cell? ⟨b1, o1 + k * 4 + 3, none⟩ = some (.slice ta tn tc))
        (go_keep)
        (first
          | (go_at_call 16; refine ((copyT_calls (Hfew.out t hin)) B (.slice ta tn tc) wr.drew (show B ≤ wr.heap.size from Nat.le_trans hB hbel.size) Hit.out).mono ?_
             rintro e wc ⟨x1, rfl, hf1, bel1⟩
             obtain ⟨xa, xn, xc, rfl⟩ := PT.In.shape hf1
             have z1 : wr.heap.size ≤ wc.heap.size := bel1.size
             have q0 : wc.cell? ⟨b1, o1 + k * 4, none⟩ = some (.string t.name) := by rw [bel1.cell (show b1 < wr.heap.size by omega)]; exact e0
             have q1 : wc.cell? ⟨b1, o1 + k * 4 + 1, none⟩ = some (.int .u8 t.type.kind) := by rw [bel1.cell (show b1 < wr.heap.size by omega)]; exact e1
             have q2 : wc.cell? ⟨b1, o1 + k * 4 + 2, none⟩ = some (.string t.type.name) := by rw [bel1.cell (show b1 < wr.heap.size by omega)]; exact e2
             have q3 : wc.cell? ⟨b1, o1 + k * 4 + 3, none⟩ = some (.slice ta tn tc) := by rw [bel1.cell (show b1 < wr.heap.size by omega)]; exact e3
             have q7 := World.new_ne wc _ q0
             have Hown1 := Lib.hid (own_below Hown.out (show Below wr.heap.size wr wc from ((Below.refl _ wr).drew).trans bel1)))
          | (refine step_append_lies _ (by rfl) _ _ _ (by rfl) w.heap.size 70 i0 _ 4 64 Try.underlying33 hi hz0 hz1 hz2 rfl (by omega) u k _ (by rfl) (Hown1.out.alloc _) ⟨wc.heap.size, 0, none⟩ 1 1 [.string t.name, .int .u8 t.type.kind, .string t.type.name, .slice xa xn xc] (by rfl) (by rfl) (World.news_of_block (cs := #[.string t.name, .int .u8 t.type.kind, .string t.type.name, .slice xa xn xc]) (t := 70) (fr := (0, 0)) (heap_alloc_new wc _)) (by simp [Value.oneCell'])
              (by omega) (by unfold maxLen; omega) (by omega) (by simp <;> omega) (wc.heap.size + 1) (by simp) ?_
             intro gg cap1 wd hown1 hgrow hat hlt2
             have n3 := own_ne Hown.out (b := b1) (by omega)
             have r0 := grown_cell hgrow q0 n3
             have r1 := grown_cell hgrow q1 n3
             have r2 := grown_cell hgrow q2 n3
             have r3 := grown_cell hgrow q3 n3))
      have Hnx := Lib.hid (rowsF_next (x := .slice xa xn xc) ht hvs Hall.out Hown.out hz (show Below wr.heap.size wr wc from ((Below.refl _ wr).drew).trans bel1) ⟨hnm, hf1⟩ hgrow hat hown1)
      have z2 : wc.heap.size + 1 ≤ wd.heap.size := by have := hgrow.size; simpa using this
      clear hown1 hgrow hat Hall Hown Hown1 Hit q7 bel1 hf1
      go_wp2_with fail
      go_round
      case rel =>
        obtain ⟨vs', y1, y2, y3, y4⟩ := Hnx.out
        exact ⟨k + 1, .slice (some ⟨gg, 0, none⟩) (k + 1) cap1, by omega, rfl, by go_num, by omega, Lib.hid ⟨vs', y1, y2, y3, hbel.trans y4⟩⟩
      case measure => simp [intOf]; omega
    · obtain rfl : k = n := by omega
      obtain ⟨vs, hvs, hown, hall, hbel⟩ := HH.out
      have Hall := Lib.hid hall
      have Hown := Lib.hid hown
      clear hall hown
      go_wp2_with fail
      go_ret
      have hend := rowsF_end (W := wr) (m := w.heap.size) Hn.out hvs (by unfold maxLen; omega) Hall.out Hown.out (Nat.le_refl _) (fun _ _ _ => rfl) (Nat.le_refl _)
      rw [← Hn.out] at hend
      exact ⟨u, rfl, hend, hbel⟩
end Go.Proofs.Ytabncmmadbjegaa
