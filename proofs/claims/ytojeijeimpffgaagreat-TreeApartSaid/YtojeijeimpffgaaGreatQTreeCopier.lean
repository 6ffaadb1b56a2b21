/- tree.Copy, tree.Erase: what is answered is a copy in new memory that may be written. -/
import Derived.Test.YtojeijeimpffgaaGreatQTreeCloI
import Derived.Laws.EntriesVeiled
namespace Go.Proofs.YtojeijeimpffgaaGreat
open Go.RowKit
set_option linter.unusedVariables false

theorem cells_last {w : World} {cs : List Value} {t : TypeId} {b : Nat} (h : w.heap.size = b) : CellsAt (w.alloc (.cells cs.toArray t)) b 0 cs := by
  subst h; intro i v hi
  rw [cell_of_row _ _ _ cs.toArray t (0, 0) (heap_alloc_new w _)]
  simpa using hi
theorem field_prog (C K : Nat) (W1 : World) : (Instr.field 85 (.agg #[.func (.func 65) #[] #[], .func (.func 68) #[] #[.pointer (some ⟨C, 0, none⟩)], .func (.func 70) #[] #[.pointer (some ⟨C, 0, none⟩), .pointer (some ⟨K, 0, none⟩)], .func (.func 72) #[] #[.pointer (some ⟨C, 0, none⟩)], .func (.func 74) #[] #[.pointer (some ⟨C, 0, none⟩), .pointer (some ⟨K, 0, none⟩)], .func (.func 76) #[] #[.pointer (some ⟨C, 0, none⟩)], .func (.func 77) #[] #[.pointer (some ⟨C, 0, none⟩), .pointer (some ⟨K, 0, none⟩)], .func (.func 79) #[] #[.pointer (some ⟨C, 0, none⟩)]]) 7).run Tryz.prog W1 = .ok (.func (.func 79) #[] #[.pointer (some ⟨C, 0, none⟩)]) W1 := by kernel_rfl
theorem erI_map_len (at' : Bool) (l : List PI) : (l.map (erI at')).length = l.length := List.length_map _
attribute [local go_sem ↓] Go.wp_at_zero Go.wp_at_succ
set_option maxRecDepth 100000 in
set_option maxHeartbeats 3200000 in
theorem cloProg_calls (kf : FuncId) (C K : Nat) (at' : Bool) (HKF : KeepOf kf at') (l : List PI) (hl : l.length ≤ 1000000) (hS : ∀ x, x ∈ l → SmI x) (B : Nat) (v : Value) (W : World) (hB : B ≤ W.heap.size) (hbe : BenchAt kf C K W) (hp : ProgIn B W l v) :
    Calls Tryz.prog 79 #[.agg #[v], .pointer (some ⟨C, 0, none⟩)] W fun e w' => ∃ ua uc, e = .returned (.agg #[.slice ua l.length uc]) ∧ Hid (IsF W.heap.size w' (l.map (erI at')) (.slice ua l.length uc)) ∧ Below W.heap.size W w' := by
  obtain ⟨b1, o1, s1, r1⟩ := hp
  obtain ⟨ao, cap, rfl⟩ := s1.shape
  obtain ⟨n, hn⟩ : ∃ n, n = l.length := ⟨_, rfl⟩
  have S1 : Hid (SlV B (.slice ao n cap) l.length b1 o1) := Lib.hid (by rw [hn]; exact s1)
  rw [← hn]
  have Hr := Lib.hid r1
  have HBe := Lib.hid hbe
  have HS := Lib.hid hS
  have Hn := Lib.hid hn
  clear s1 r1 hbe hS
  have c6 : W.cell? ⟨C, 6, none⟩ = some (.func (.func 77) #[] #[.pointer (some ⟨C, 0, none⟩), .pointer (some ⟨K, 0, none⟩)]) := by have := HBe.out.c 6 _ rfl; rwa [Nat.zero_add] at this
  have hC : C < W.heap.size := HBe.out.hc
  rw [hn]
  clear hn
  have hnn := Hn.out
  go_enter Tryz.func79, Tryz.ntmps79
  go_wp2_with fail
  obtain ⟨W0, hW0⟩ : ∃ W0, W0 = (W.alloc (Obj.cells #[.slice ao l.length cap] 24)).alloc (Obj.cells #[.slice none 0 0] 24) := ⟨_, rfl⟩
  rw [← hW0]
  have sz : W0.heap.size = W.heap.size + 2 := by rw [hW0]; simp
  have BB : Below W.heap.size W W0 := hW0 ▸ ((Below.refl _ W).alloc (Nat.le_refl _) _).alloc (by simp) _
  have r0 : W0.cell? ⟨W.heap.size + 1, 0, none⟩ = some (.slice none 0 0) := by rw [hW0]; go_simp
  have g0 : W0.frozen? ⟨W.heap.size + 1, 0, none⟩ = false := by rw [hW0]; go_simp
  clear hW0
  have S2 : SlV B (.slice ao l.length cap) l.length b1 o1 := by have := S1.out; rwa [hnn] at this
  refine (eachI_calls (B := B) (lb := #[.pointer (some ⟨C, 0, none⟩), .pointer (some ⟨K, 0, none⟩)]) (erI at') l (.slice ao l.length cap) b1 o1 W0 clo7_enters (fun t ht W2 x hW hx => ?_) (by omega) S2 (PI.Row.below' (BB.mono hB) S2 Hr.out) hl).mono ?_
  · obtain ⟨kd, nm, fs, ty, bo, ret, pos⟩ := t
    exact cloI_calls kf C K at' HKF kd nm fs ty bo ret pos (HS.out _ ht) B x W2 (by have := hW.size; omega) (HBe.out.below (BB.trans (hW.mono (by omega)))) hx
  rintro e W3 ⟨ua, uc, rfl, h1, b3⟩
  have s0 : W3.cell? ⟨W.heap.size + 1, 0, none⟩ = some (.slice none 0 0) := (b3.cell (p := ⟨W.heap.size + 1, 0, none⟩) (by simp; omega)).trans r0
  have t0 : W3.frozen? ⟨W.heap.size + 1, 0, none⟩ = false := (b3.frozen (p := ⟨W.heap.size + 1, 0, none⟩) (by simp; omega)).trans g0
  have B3 := Lib.hid b3
  have B0 := Lib.hid BB
  clear b3 BB r0 g0 S2
  go_wp2_with fail
  (try simp only [Exit.inBlock, Exit.then])
  have z3 := B3.out.size
  have KP : Kp (W.heap.size + 1) W3 (W3.setCell ⟨W.heap.size + 1, 0, none⟩ (.slice ua l.length uc)) := (Kp.refl _ _).set _
  refine bodyPost_ret (v := .agg #[.slice ua l.length uc]) (by rw [results_cell1 rfl]; go_simp) rfl ⟨ua, uc, rfl, Lib.hid ?_, (B0.out.trans (B3.out.mono (by omega))).setCell (by simp) _⟩
  obtain ⟨b2, o2, k1, k2⟩ := h1.out
  exact IsF.up KP.1 (Fr.kp KP (by omega) (by omega)) ⟨b2, o2, by rw [List.length_map]; exact k1, k2⟩

set_option maxRecDepth 100000 in
set_option maxHeartbeats 3200000 in
theorem makeCopier_calls (kf : FuncId) (w : World) : Calls Tryz.prog 45 #[.func (.func kf) #[] #[]] w fun e w' => ∃ C K, e = .returned (.agg #[.func (.func 65) #[] #[], .func (.func 68) #[] #[.pointer (some ⟨C, 0, none⟩)], .func (.func 70) #[] #[.pointer (some ⟨C, 0, none⟩), .pointer (some ⟨K, 0, none⟩)], .func (.func 72) #[] #[.pointer (some ⟨C, 0, none⟩)], .func (.func 74) #[] #[.pointer (some ⟨C, 0, none⟩), .pointer (some ⟨K, 0, none⟩)], .func (.func 76) #[] #[.pointer (some ⟨C, 0, none⟩)], .func (.func 77) #[] #[.pointer (some ⟨C, 0, none⟩), .pointer (some ⟨K, 0, none⟩)], .func (.func 79) #[] #[.pointer (some ⟨C, 0, none⟩)]]) ∧ Hid (BenchAt kf C K w') ∧ Below w.heap.size w w' := by
  go_enter Tryz.func45, Tryz.ntmps45
  go_wp2_with fail
  (try simp only [Exit.inBlock, Exit.then])
  refine bodyPost_ret (v := .agg #[.func (.func 65) #[] #[], .func (.func 68) #[] #[.pointer (some ⟨w.heap.size + 2, 0, none⟩)], .func (.func 70) #[] #[.pointer (some ⟨w.heap.size + 2, 0, none⟩), .pointer (some ⟨w.heap.size, 0, none⟩)], .func (.func 72) #[] #[.pointer (some ⟨w.heap.size + 2, 0, none⟩)], .func (.func 74) #[] #[.pointer (some ⟨w.heap.size + 2, 0, none⟩), .pointer (some ⟨w.heap.size, 0, none⟩)], .func (.func 76) #[] #[.pointer (some ⟨w.heap.size + 2, 0, none⟩)], .func (.func 77) #[] #[.pointer (some ⟨w.heap.size + 2, 0, none⟩), .pointer (some ⟨w.heap.size, 0, none⟩)], .func (.func 79) #[] #[.pointer (some ⟨w.heap.size + 2, 0, none⟩)]]) (by rw [results_cell1 rfl]; go_simp) rfl ⟨w.heap.size + 2, w.heap.size, rfl, Lib.hid ⟨?_, ?_, by simp, by simp; omega⟩, ?_⟩
  · exact cells_last (by simp)
  · exact (cells_last rfl).below (Nat.lt_succ_self _) (((Below.refl _ _).alloc (by simp) _).alloc (by simp) _)
  · exact (((Below.refl _ w).alloc (Nat.le_refl _) _).alloc (by simp) _).alloc (by simp <;> omega) _
set_option maxRecDepth 100000 in
set_option maxHeartbeats 3200000 in
theorem copy_calls (l : List PI) (hl : l.length ≤ 1000000) (hS : ∀ x, x ∈ l → SmI x) (B : Nat) (v : Value) (W : World) (hB : B ≤ W.heap.size) (hp : ProgIn B W l v) :
    Calls Tryz.prog 15 #[.agg #[v]] W fun e w' => ∃ ua uc, e = .returned (.agg #[.slice ua l.length uc]) ∧ Hid (IsF W.heap.size w' (l.map (erI true)) (.slice ua l.length uc)) ∧ Below W.heap.size W w' := by
  obtain ⟨b1, o1, s1, r1⟩ := hp
  obtain ⟨ao, cap, rfl⟩ := s1.shape
  have HP : Hid (ProgIn B W l (.slice ao l.length cap)) := Lib.hid ⟨b1, o1, s1, r1⟩
  have HS := Lib.hid hS
  obtain ⟨n, hn⟩ : ∃ n, n = l.length := ⟨_, rfl⟩
  clear s1 r1 hS
  rw [← hn] at HP ⊢
  have Hn := Lib.hid hn
  rw [← hn] at hl
  clear hn
  go_enter Tryz.func15, Tryz.ntmps15
  go_wp2_with fail
  obtain ⟨W0, hW0⟩ : ∃ W0, W0 = (W.alloc (Obj.cells #[.slice ao n cap] 24)).alloc (Obj.cells #[.slice none 0 0] 24) := ⟨_, rfl⟩
  rw [← hW0]
  have sz : W0.heap.size = W.heap.size + 2 := by rw [hW0]; simp
  have BB : Hid (Below W.heap.size W W0) := Lib.hid (hW0 ▸ ((Below.refl _ W).alloc (Nat.le_refl _) _).alloc (by simp) _)
  have x0 : W0.cell? ⟨W.heap.size, 0, none⟩ = some (.slice ao n cap) := by rw [hW0]; go_simp
  have r0 : W0.cell? ⟨W.heap.size + 1, 0, none⟩ = some (.slice none 0 0) := by rw [hW0]; go_simp
  have g0 : W0.frozen? ⟨W.heap.size + 1, 0, none⟩ = false := by rw [hW0]; go_simp
  have hX : W.heap.size < W.heap.size + 1 := by omega
  clear hW0
  have K1 : Hid (∀ W1, Calls Tryz.prog 45 #[.func (.func 46) #[] #[]] W1 fun e w' => ∃ C K, e = .returned (.agg #[.func (.func 65) #[] #[], .func (.func 68) #[] #[.pointer (some ⟨C, 0, none⟩)], .func (.func 70) #[] #[.pointer (some ⟨C, 0, none⟩), .pointer (some ⟨K, 0, none⟩)], .func (.func 72) #[] #[.pointer (some ⟨C, 0, none⟩)], .func (.func 74) #[] #[.pointer (some ⟨C, 0, none⟩), .pointer (some ⟨K, 0, none⟩)], .func (.func 76) #[] #[.pointer (some ⟨C, 0, none⟩)], .func (.func 77) #[] #[.pointer (some ⟨C, 0, none⟩), .pointer (some ⟨K, 0, none⟩)], .func (.func 79) #[] #[.pointer (some ⟨C, 0, none⟩)]]) ∧ Hid (BenchAt 46 C K w') ∧ Below W1.heap.size W1 w') := Lib.hid fun W1 => makeCopier_calls 46 W1
  have K2 : Hid (∀ W1 C K, Hid (Below W0.heap.size W0 W1) → Hid (BenchAt 46 C K W1) → Calls Tryz.prog 79 #[.agg #[.slice ao n cap], .pointer (some ⟨C, 0, none⟩)] W1 fun e w' => ∃ ua uc, e = .returned (.agg #[.slice ua n uc]) ∧ Hid (IsF W1.heap.size w' (l.map (erI true)) (.slice ua n uc)) ∧ Below W1.heap.size W1 w') := Lib.hid fun W1 C K h hbe => by
    have bw : Below W.heap.size W W1 := BB.out.trans (h.out.mono (by omega))
    have z := bw.size
    have h3 := cloProg_calls 46 C K true keep_copy l (by rw [← Hn.out]; exact hl) HS.out B (.slice ao n cap) W1 (by omega) hbe.out (by obtain ⟨b2, o2, k1, k2⟩ := HP.out; exact ⟨b2, o2, k1, PI.Row.below' (bw.mono hB) k1 k2⟩)
    rw [← Hn.out] at h3
    exact h3
  have HFP := field_prog
  have HB : Hid (Below W0.heap.size W0 W0.drew) := Lib.hid (Below.refl _ W0).drew
  have XB : ∀ b o, b < W.heap.size + 1 → W0.drew.cell? ⟨b, o, none⟩ = W0.cell? ⟨b, o, none⟩ := fun b o _ => rfl
  go_region_held3 (fun w' => ∀ b o, b < W.heap.size + 1 → w'.cell? ⟨b, o, none⟩ = W0.cell? ⟨b, o, none⟩) (first | with_reducible exact XB | ((repeat (with_reducible refine low_set ?_ (Nat.le_refl _))); with_reducible exact XB))
    (first
      | (go_at_call 45; (with_reducible refine (K1.out _).mono ?_)
         rintro e w1 ⟨C, K, rfl, hbe, bj⟩
         have zj := bj.size
         have zh := HB.out.size
         have HBe := hbe
         have HB : Hid (Below W0.heap.size W0 w1) := Lib.hid (HB.out.trans (bj.mono zh))
         have XB : ∀ b o, b < W.heap.size + 1 → w1.cell? ⟨b, o, none⟩ = W0.cell? ⟨b, o, none⟩ := low_of HB.out (by omega)
         clear bj zj zh)
      | (go_at_call 79; (with_reducible refine (K2.out _ _ _ HB HBe).mono ?_)
         rintro e w2 ⟨ua, uc, rfl, hf2, bj⟩
         have zj := bj.size
         have zh := HB.out.size
         have HF2 : Hid (IsF W0.heap.size w2 (l.map (erI true)) (.slice ua n uc)) := Lib.hid (IsF.up (Nat.le_refl _) (Fr.reads zh (fun _ _ _ => rfl)) hf2.out)
         have HB : Hid (Below W0.heap.size W0 w2) := Lib.hid (HB.out.trans (bj.mono zh))
         have XB : ∀ b o, b < W.heap.size + 1 → w2.cell? ⟨b, o, none⟩ = W0.cell? ⟨b, o, none⟩ := low_of HB.out (by omega)
         have s0 : w2.cell? ⟨W.heap.size + 1, 0, none⟩ = some (.slice none 0 0) := (HB.out.cell (p := ⟨W.heap.size + 1, 0, none⟩) (by simp; omega)).trans r0
         have t0 : w2.frozen? ⟨W.heap.size + 1, 0, none⟩ = false := (HB.out.frozen (p := ⟨W.heap.size + 1, 0, none⟩) (by simp; omega)).trans g0
         clear bj zj zh hf2))
  go_wp2_with fail
  (try simp only [Exit.inBlock, Exit.then])
  have KP : Kp (W.heap.size + 1) w2 (w2.setCell ⟨W.heap.size + 1, 0, none⟩ (.slice ua n uc)) := (Kp.refl _ _).set _
  refine bodyPost_ret (v := .agg #[.slice ua n uc]) (by rw [results_cell1 rfl]; go_simp) rfl ⟨ua, uc, rfl, Lib.hid (IsF.up KP.1 (Fr.kp KP (by omega) (by omega)) HF2.out), (BB.out.trans (HB.out.mono (by omega))).setCell (by simp) _⟩

set_option maxRecDepth 100000 in
set_option maxHeartbeats 3200000 in
theorem erase_calls (l : List PI) (hl : l.length ≤ 1000000) (hS : ∀ x, x ∈ l → SmI x) (B : Nat) (v : Value) (W : World) (hB : B ≤ W.heap.size) (hp : ProgIn B W l v) :
    Calls Tryz.prog 16 #[.agg #[v]] W fun e w' => ∃ ua uc, e = .returned (.agg #[.slice ua l.length uc]) ∧ Hid (IsF W.heap.size w' (l.map (erI false)) (.slice ua l.length uc)) ∧ Below W.heap.size W w' := by
  obtain ⟨b1, o1, s1, r1⟩ := hp
  obtain ⟨ao, cap, rfl⟩ := s1.shape
  have HP : Hid (ProgIn B W l (.slice ao l.length cap)) := Lib.hid ⟨b1, o1, s1, r1⟩
  have HS := Lib.hid hS
  obtain ⟨n, hn⟩ : ∃ n, n = l.length := ⟨_, rfl⟩
  clear s1 r1 hS
  rw [← hn] at HP ⊢
  have Hn := Lib.hid hn
  rw [← hn] at hl
  clear hn
  go_enter Tryz.func16, Tryz.ntmps16
  go_wp2_with fail
  obtain ⟨W0, hW0⟩ : ∃ W0, W0 = (W.alloc (Obj.cells #[.slice ao n cap] 24)).alloc (Obj.cells #[.slice none 0 0] 24) := ⟨_, rfl⟩
  rw [← hW0]
  have sz : W0.heap.size = W.heap.size + 2 := by rw [hW0]; simp
  have BB : Hid (Below W.heap.size W W0) := Lib.hid (hW0 ▸ ((Below.refl _ W).alloc (Nat.le_refl _) _).alloc (by simp) _)
  have x0 : W0.cell? ⟨W.heap.size, 0, none⟩ = some (.slice ao n cap) := by rw [hW0]; go_simp
  have r0 : W0.cell? ⟨W.heap.size + 1, 0, none⟩ = some (.slice none 0 0) := by rw [hW0]; go_simp
  have g0 : W0.frozen? ⟨W.heap.size + 1, 0, none⟩ = false := by rw [hW0]; go_simp
  have hX : W.heap.size < W.heap.size + 1 := by omega
  clear hW0
  have K1 : Hid (∀ W1, Calls Tryz.prog 45 #[.func (.func 47) #[] #[]] W1 fun e w' => ∃ C K, e = .returned (.agg #[.func (.func 65) #[] #[], .func (.func 68) #[] #[.pointer (some ⟨C, 0, none⟩)], .func (.func 70) #[] #[.pointer (some ⟨C, 0, none⟩), .pointer (some ⟨K, 0, none⟩)], .func (.func 72) #[] #[.pointer (some ⟨C, 0, none⟩)], .func (.func 74) #[] #[.pointer (some ⟨C, 0, none⟩), .pointer (some ⟨K, 0, none⟩)], .func (.func 76) #[] #[.pointer (some ⟨C, 0, none⟩)], .func (.func 77) #[] #[.pointer (some ⟨C, 0, none⟩), .pointer (some ⟨K, 0, none⟩)], .func (.func 79) #[] #[.pointer (some ⟨C, 0, none⟩)]]) ∧ Hid (BenchAt 47 C K w') ∧ Below W1.heap.size W1 w') := Lib.hid fun W1 => makeCopier_calls 47 W1
  have K2 : Hid (∀ W1 C K, Hid (Below W0.heap.size W0 W1) → Hid (BenchAt 47 C K W1) → Calls Tryz.prog 79 #[.agg #[.slice ao n cap], .pointer (some ⟨C, 0, none⟩)] W1 fun e w' => ∃ ua uc, e = .returned (.agg #[.slice ua n uc]) ∧ Hid (IsF W1.heap.size w' (l.map (erI false)) (.slice ua n uc)) ∧ Below W1.heap.size W1 w') := Lib.hid fun W1 C K h hbe => by
    have bw : Below W.heap.size W W1 := BB.out.trans (h.out.mono (by omega))
    have z := bw.size
    have h3 := cloProg_calls 47 C K false keep_erase l (by rw [← Hn.out]; exact hl) HS.out B (.slice ao n cap) W1 (by omega) hbe.out (by obtain ⟨b2, o2, k1, k2⟩ := HP.out; exact ⟨b2, o2, k1, PI.Row.below' (bw.mono hB) k1 k2⟩)
    rw [← Hn.out] at h3
    exact h3
  have HFP := field_prog
  have HB : Hid (Below W0.heap.size W0 W0.drew) := Lib.hid (Below.refl _ W0).drew
  have XB : ∀ b o, b < W.heap.size + 1 → W0.drew.cell? ⟨b, o, none⟩ = W0.cell? ⟨b, o, none⟩ := fun b o _ => rfl
  go_region_held3 (fun w' => ∀ b o, b < W.heap.size + 1 → w'.cell? ⟨b, o, none⟩ = W0.cell? ⟨b, o, none⟩) (first | with_reducible exact XB | ((repeat (with_reducible refine low_set ?_ (Nat.le_refl _))); with_reducible exact XB))
    (first
      | (go_at_call 45; (with_reducible refine (K1.out _).mono ?_)
         rintro e w1 ⟨C, K, rfl, hbe, bj⟩
         have zj := bj.size
         have zh := HB.out.size
         have HBe := hbe
         have HB : Hid (Below W0.heap.size W0 w1) := Lib.hid (HB.out.trans (bj.mono zh))
         have XB : ∀ b o, b < W.heap.size + 1 → w1.cell? ⟨b, o, none⟩ = W0.cell? ⟨b, o, none⟩ := low_of HB.out (by omega)
         clear bj zj zh)
      | (go_at_call 79; (with_reducible refine (K2.out _ _ _ HB HBe).mono ?_)
         rintro e w2 ⟨ua, uc, rfl, hf2, bj⟩
         have zj := bj.size
         have zh := HB.out.size
         have HF2 : Hid (IsF W0.heap.size w2 (l.map (erI false)) (.slice ua n uc)) := Lib.hid (IsF.up (Nat.le_refl _) (Fr.reads zh (fun _ _ _ => rfl)) hf2.out)
         have HB : Hid (Below W0.heap.size W0 w2) := Lib.hid (HB.out.trans (bj.mono zh))
         have XB : ∀ b o, b < W.heap.size + 1 → w2.cell? ⟨b, o, none⟩ = W0.cell? ⟨b, o, none⟩ := low_of HB.out (by omega)
         have s0 : w2.cell? ⟨W.heap.size + 1, 0, none⟩ = some (.slice none 0 0) := (HB.out.cell (p := ⟨W.heap.size + 1, 0, none⟩) (by simp; omega)).trans r0
         have t0 : w2.frozen? ⟨W.heap.size + 1, 0, none⟩ = false := (HB.out.frozen (p := ⟨W.heap.size + 1, 0, none⟩) (by simp; omega)).trans g0
         clear bj zj zh hf2))
  go_wp2_with fail
  (try simp only [Exit.inBlock, Exit.then])
  have KP : Kp (W.heap.size + 1) w2 (w2.setCell ⟨W.heap.size + 1, 0, none⟩ (.slice ua n uc)) := (Kp.refl _ _).set _
  refine bodyPost_ret (v := .agg #[.slice ua n uc]) (by rw [results_cell1 rfl]; go_simp) rfl ⟨ua, uc, rfl, Lib.hid (IsF.up KP.1 (Fr.kp KP (by omega) (by omega)) HF2.out), (BB.out.trans (HB.out.mono (by omega))).setCell (by simp) _⟩
end Go.Proofs.YtojeijeimpffgaaGreat
