/- The document's own copies: places. -/
import Derived.Test.YtabncmmadbjegaaTreeCopyT
namespace Go.Proofs.Ytabncmmadbjegaa
open Go.RowKit
set_option linter.unusedVariables false
theorem infoName : (Try.prog.info? 9).map (fun i => (i.zero, i.size, i.bytes)) = some (some (.string ⟨#[]⟩), 1, 16) := by kernel_rfl
attribute [local go_sem ↓] Go.wp_at_zero Go.wp_at_succ
set_option maxRecDepth 100000 in
set_option maxHeartbeats 3200000 in
theorem copyP_calls (x : PP) (hl : x.path.length ≤ 1000000) (B : Nat) (v : Value) (w : World) (hB : B ≤ w.heap.size) (hx : x.In B w v) :
    Calls Try.prog 28 #[.agg #[.string x.name, v]] w fun e w' => ∃ v', e = .returned (.agg #[.string x.name, v']) ∧ x.In w'.heap.size (only (fun i => decide (w.heap.size ≤ i)) w') v' ∧ Below w.heap.size w w' := by
  obtain ⟨hs, b1, o1, ⟨m1, ao, cap, rfl, h1⟩, r1⟩ := hx
  obtain ⟨i0, hi, hz0, hz1, hz2⟩ := info_parts infoName
  obtain ⟨n, hn⟩ : ∃ n, n = x.path.length := ⟨_, rfl⟩
  rw [← hn] at m1 h1 hl
  rw [← hn]
  have Hn := Lib.hid hn
  have Hr := Lib.hid r1
  unfold maxLen at m1
  have hlen : (x.path.map Value.string).length = n * 1 := by simp [hn]
  clear hn
  cases ao with
  | none =>
    obtain rfl : n = 0 := h1.resolve_right (by simp)
    clear h1 r1
    go_enter Try.func28, Try.ntmps28
    go_wp2_with fail
    (try simp only [Exit.inBlock, Exit.then])
    refine bodyPost_ret (v := .agg #[.string x.name, .slice none 0 0]) (by rw [results_cell1 rfl]; go_simp) rfl ⟨.slice none 0 0, rfl, ⟨hs, 0, 0, ⟨by rw [← Hn.out]; unfold maxLen; omega, none, 0, by rw [← Hn.out], .inl Hn.out.symm⟩, ?_⟩, ?_⟩
    · cases hp : x.path with
      | nil => trivial
      | cons a b => have := Hn.out; rw [hp] at this; simp at this
    · exact (((Below.refl _ w).alloc (Nat.le_refl _) _).alloc (by simp) _).alloc (by simp <;> omega) _
  | some ad =>
    have hcells : ∀ W : World, Below w.heap.size w W → ∀ (j : Nat) u, (x.path.map Value.string)[j]? = some u → W.cell? (ad.add j) = some u := fun W hW j u hu => by
      have hj : n ≠ 0 := by
        have := (List.getElem?_eq_some_iff.1 hu).1
        rw [hlen] at this; omega
      obtain ⟨e1, e2⟩ := h1.resolve_left hj
      injection e1 with e1
      subst e1
      have h3 := NRow.cellsAt r1 j u hu
      have hadd : (⟨b1, o1, none⟩ : Addr).add j = ⟨b1, o1 + j, none⟩ := by unfold Addr.add; split <;> simp_all
      rw [hadd, hW.cell (show b1 < w.heap.size by omega)]
      exact h3
    have hone : ∀ u ∈ x.path.map Value.string, u.oneCell' = true := fun u hu => by
      obtain ⟨s, _, rfl⟩ := List.mem_map.1 hu; rfl
    have HC := Lib.hid hcells
    have HO := Lib.hid hone
    have HL := Lib.hid hlen
    clear hcells hone hlen h1 r1
    go_enter Try.func28, Try.ntmps28
    go_wp2_with (at_builtin
                 refine wpList_append_own_at _ rfl _ _ _ rfl (w.heap.size + 3) 9 i0 _ 1 16 Try.underlying38 hi hz0 hz1 hz2 rfl (by omega) (.slice none 0 0) 0 [] rfl (World.ownsRow_nil _ _ _ _) ad n cap (x.path.map Value.string) rfl HL.out (HC.out _ ((((Below.refl _ w).alloc (Nat.le_refl _) _).alloc (by simp) _).alloc (by simp <;> omega) _)) HO.out (by unfold maxLen; omega) (by omega) (by simp) ?_
                 intro u w1 hown hgrow hnil hat
                 go_loud (obtain ⟨ua, un, uc, rfl⟩ := own_shape hown
                          have c0 : w1.cell? ⟨w.heap.size + 1, 0, none⟩ = some (.string ⟨#[]⟩) := hgrow.cell (by go_simp) (by simp [Value.ownBlock])
                          have c1 : w1.cell? ⟨w.heap.size + 1, 1, none⟩ = some (.slice none 0 0) := hgrow.cell (by go_simp) (by simp [Value.ownBlock])
                          have c2 : w1.cell? ⟨w.heap.size + 2, 0, none⟩ = some (.string x.name) := hgrow.cell (by go_simp) (by simp [Value.ownBlock])
                          have c3 : w1.cell? ⟨w.heap.size + 2, 1, none⟩ = some (.slice none 0 0) := hgrow.cell (by go_simp) (by simp [Value.ownBlock])
                          have f0 : w1.frozen? ⟨w.heap.size + 1, 0, none⟩ = false := (World.frozen?_of_block (hgrow.block (w.heap.size + 1) (by simp <;> omega) (by simp [Value.ownBlock]))).trans (by go_simp)
                          have f1 : w1.frozen? ⟨w.heap.size + 1, 1, none⟩ = false := (World.frozen?_of_block (hgrow.block (w.heap.size + 1) (by simp <;> omega) (by simp [Value.ownBlock]))).trans (by go_simp)
                          have f3 : w1.frozen? ⟨w.heap.size + 2, 1, none⟩ = false := (World.frozen?_of_block (hgrow.block (w.heap.size + 2) (by simp) (by simp [Value.ownBlock]))).trans (by go_simp)
                          have Hown := Lib.hid hown
                          have Hbel := Lib.hid ((((((Below.refl _ w).alloc (Nat.le_refl _) _).alloc (by simp) _).alloc (by simp <;> omega) _).grown hgrow (by simp <;> omega) (fun k hk => by simp [Value.ownBlock] at hk) : Below w.heap.size w w1))
                          clear hown hgrow hnil hat))
    (try simp only [Exit.inBlock, Exit.then])
    refine bodyPost_ret (v := .agg #[.string x.name, .slice ua un uc]) (by rw [results_cell1 rfl]; go_simp) rfl ⟨.slice ua un uc, rfl, ⟨hs, ?_⟩, ?_⟩
    · exact nIn_own Hn.out (by unfold maxLen; omega) Hr.out.small (by simpa using Hown.out) (by omega) (fun i h1 h2 => (Below.heap_setCell _ _ _ i (by simp <;> omega)).trans ((Below.heap_setCell _ _ _ i (by simp <;> omega)).trans (Below.heap_setCell _ _ _ i (by simp <;> omega)))) (by simp)
    · exact ((Hbel.out.setCell (p := ⟨w.heap.size + 1 + 1, 1, none⟩) (by simp <;> omega) _).setCell (p := ⟨w.heap.size + 1, 0, none⟩) (by simp) _).setCell (p := ⟨w.heap.size + 1, 1, none⟩) (by simp) _
end Go.Proofs.Ytabncmmadbjegaa
