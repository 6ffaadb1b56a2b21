/- The law's Copy: a place in memory of its own. -/
import Derived.Test.YtipiiaghjkhkbaaPathsKit
namespace Go.Proofs.Ytipiiaghjkhkbaa
open Go.RowKit
set_option linter.unusedVariables false

/-- what append hands back of two rows of texts, the first one full, at an operation of a region -/
theorem step_join {ops : Array Oper} {o : Oper} {a : Act} {K : Act → World → Prop} {Q : Exit → Act → World → Prop} {w : World} {E : Prop} (hgd : o.guard = none) (s x : Operand)
    (ho : o.op = .call { callee := .builtin .append, args := #[s, x], argTypes := #[22, 22] })
    (xs ys : List ByteArray) (n m N : Nat) (hn : n = xs.length) (hm : m = ys.length) (hN : N = n + m) (ao : Option Addr) (v2 : Value) (hs : a.eval s = .slice ao n n) (hx : a.eval x = v2)
    (B : Nat) (hB : B ≤ w.heap.size) (h1 : SIn B w xs (.slice ao n n)) (h2 : SIn B w ys v2) (hl : N ≤ 1000000)
    (h : ∀ ap cap w', Hid (∃ b o', SlP w'.heap.size (.slice ap N cap) N b o' ∧ RowS w' b o' (xs ++ ys) ∧ (N ≠ 0 → b < B ∨ w.heap.size ≤ b)) → Below w.heap.size w w' → K (a.put o.dst (.slice ap N cap)) w') :
    if Region.wanted o (yielded ops a.tmps) = true then Oper.wp Try.prog o a w K Q else E := by
  have hw : Region.wanted o (yielded ops a.tmps) = true := by simp [Region.wanted, hgd]
  rw [if_pos hw]
  subst hn hm hN
  obtain ⟨ap, cap, w', hr, ⟨b, o', g1, g2, g3⟩, g4⟩ := join_runs o.type xs ys ao v2 B w hB h1 h2 hl
  unfold Oper.wp execOp
  simp only [ho, resolve, invoke, builtin, Sem.run_bind, Sem.run_pure, Result.andThen_ok, List.map_toArray, List.map_cons, List.map_nil, hs, hx, hr]
  exact h ap cap w' (Lib.hid ⟨b, o', g1, g2, g3⟩) g4

set_option maxRecDepth 100000 in
set_option maxHeartbeats 2000000 in
theorem copy_calls (x : PP) (hl : x.path.length ≤ 1000000) (B : Nat) (v : Value) (w : World) (hB : B ≤ w.heap.size) (hx : x.In B w v) :
    Calls Try.prog 26 #[.agg #[.string x.name, v]] w fun e w' => ∃ ao cap, e = .returned (.agg #[.string x.name, .slice ao x.path.length cap]) ∧ Hid (PP.In w'.heap.size w' x (.slice ao x.path.length cap)) ∧ Below w.heap.size w w' := by
  obtain ⟨ao, cap, rfl⟩ := hx.shape
  obtain ⟨nm, p⟩ := x
  obtain ⟨n, hn⟩ : ∃ n, n = p.length := ⟨_, rfl⟩
  change n = (⟨nm, p⟩ : PP).path.length at hn
  rw [← hn] at hx hl ⊢
  obtain ⟨hnm, hp⟩ := hx
  have Hnm := Lib.hid hnm
  have Hp := Lib.hid hp
  have Hn : Hid (n = p.length) := Lib.hid hn
  have HP : Hid (∀ W : World, Below w.heap.size w W → SIn w.heap.size W p (.slice ao n cap)) := Lib.hid fun W h => (hp.below (h.mono hB)).mono hB
  clear hn hnm hp
  go_enter Try.func26, Try.ntmps26
  go_wp2_with fail
  have bx := Lib.hid (box2 w (.cells #[.string nm, .slice ao n cap] 24) (.cells #[.string ⟨#[]⟩, .slice none 0 0] 24))
  go_region_law
    (refine step_join (by rfl) _ _ (by rfl) [] p 0 n n rfl Hn.out (by omega) _ _ rfl rfl w.heap.size (by simp; omega) ⟨0, 0, ⟨Nat.zero_le _, _, 0, rfl, Nat.le_refl _, .inl rfl⟩, fun j s h => by cases h⟩ (HP.out _ ((bx.out.alloc (by simp; omega) _).drew)) hl ?_
     intro ap' cap' wj HJ bj
     have c0 : wj.cell? ⟨w.heap.size + 1, 0, none⟩ = some (.string ⟨#[]⟩) := (bj.cell (p := ⟨w.heap.size + 1, 0, none⟩) (by simp)).trans (by go_simp)
     have y0 : wj.cell? ⟨w.heap.size, 0, none⟩ = some (.string nm) := (bj.cell (p := ⟨w.heap.size, 0, none⟩) (by simp; omega)).trans (by go_simp)
     have c1 : wj.cell? ⟨w.heap.size + 1, 1, none⟩ = some (.slice none 0 0) := (bj.cell (p := ⟨w.heap.size + 1, 1, none⟩) (by simp)).trans (by go_simp)
     have x0 : wj.frozen? ⟨w.heap.size + 1, 0, none⟩ = false := (bj.frozen (p := ⟨w.heap.size + 1, 0, none⟩) (by simp)).trans (by go_simp)
     have x1 : wj.frozen? ⟨w.heap.size + 1, 1, none⟩ = false := (bj.frozen (p := ⟨w.heap.size + 1, 1, none⟩) (by simp)).trans (by go_simp))
  all_goals
    have hz := bj.size
    have hz2 : w.heap.size + 1 < wj.heap.size := by have := hz; simp at this; omega
    have HF : Hid (PP.In wj.heap.size ((wj.setCell ⟨w.heap.size + 1, 0, none⟩ (.string nm)).setCell ⟨w.heap.size + 1, 1, none⟩ (.slice ap' n cap')) ⟨nm, p⟩ (.slice ap' n cap')) := Lib.hid (by
      obtain ⟨b, o', g1, g2, g3⟩ := HJ.out
      refine ⟨Hnm.out, b, o', by rw [← Hn.out]; exact g1, fun j s hj => ?_⟩
      have hne : b ≠ w.heap.size + 1 := by
        have h0 : n ≠ 0 := by rw [Hn.out]; exact some_pos hj
        have h1 := g3 h0
        simp at h1
        omega
      have := g2 j s hj
      refine ⟨this.1, ?_⟩
      rw [World.cell?_setCell_other _ _ _ _ (by intro e; simp only [Addr.mk.injEq] at e; exact hne e.1.symm), World.cell?_setCell_other _ _ _ _ (by intro e; simp only [Addr.mk.injEq] at e; exact hne e.1.symm)]
      exact this.2)
    have Hbw : Hid (Below w.heap.size w ((wj.setCell ⟨w.heap.size + 1, 0, none⟩ (.string nm)).setCell ⟨w.heap.size + 1, 1, none⟩ (.slice ap' n cap'))) := Lib.hid
      ((((bx.out.alloc (by simp; omega) _).drew.trans (bj.mono (by simp; omega))).setCell (p := ⟨w.heap.size + 1, 0, none⟩) (by simp) _).setCell (p := ⟨w.heap.size + 1, 1, none⟩) (by simp) _)
    clear hz bj HJ bx HP
    go_wp2_with fail
    (try simp only [Exit.inBlock, Exit.then])
    refine bodyPost_ret (v := .agg #[.string nm, .slice ap' n cap']) (by rw [results_cell1 rfl]; go_simp) rfl ⟨ap', cap', rfl, Lib.hid ?_, Hbw.out⟩
    exact (HF.out).mono (by simp)
end Go.Proofs.Ytipiiaghjkhkbaa
