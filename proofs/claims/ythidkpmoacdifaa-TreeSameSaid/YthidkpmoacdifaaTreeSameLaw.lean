/- TreeSame: the walk (made by gen_law_same.py). -/
import Derived.Test.YthidkpmoacdifaaTreeTop
import Derived.Test.YthidkpmoacdifaaTreeGreat
import Derived.Test.YthidkpmoacdifaaTreeRefE
import Derived.Deep.RegionHeld3
namespace Go.Proofs.Ythidkpmoacdifaa
open Go.RowKit
set_option linter.unusedVariables false

set_option maxRecDepth 100000 in
set_option maxHeartbeats 8000000 in
theorem treeSame_walk (p q : List PI) (p1 : Option Addr) (n1 q1 : Nat) (p2 : Option Addr) (n2 q2 : Nat) (t u : PT) (pt : Option Addr) (nt qt : Nat) (pu : Option Addr) (nu qu : Nat) (ope ive : Int) (nme sce : ByteArray) (ple : PP) (ese : List PE) (ate : Int) (pe0 : Option Addr) (ne0 qe0 : Nat) (pe1 : Option Addr) (ne1 qe1 : Nat)
    (opf ivf : Int) (nmf scf : ByteArray) (plf : PP) (esf : List PE) (atf : Int) (pf0 : Option Addr) (nf0 qf0 : Nat) (pf1 : Option Addr) (nf1 qf1 : Nat) (w : World) (hp : ProgIn w.heap.size w p (.slice p1 n1 q1)) (hq : ProgIn w.heap.size w q (.slice p2 n2 q2)) (ht : t.In w.heap.size w (.slice pt nt qt)) (hu : u.In w.heap.size w (.slice pu nu qu))
    (he : PE.In w.heap.size w (.mk ope ive nme sce ple ese ate) ⟨.slice pe0 ne0 qe0, .slice pe1 ne1 qe1⟩) (hf : PE.In w.heap.size w (.mk opf ivf nmf scf plf esf atf) ⟨.slice pf0 nf0 qf0, .slice pf1 nf1 qf1⟩)
    (HRS : Hid (∀ w', w.heap.size ≤ w'.heap.size → Below w.heap.size w w' → Calls Try.prog 19 #[.agg #[.slice p1 n1 q1], .agg #[.slice p2 n2 q2], .bool false] w' fun e w'' => e = .returned (.bool (sameProg false p q)) ∧ Below w'.heap.size w' w'')) :
    Calls Try.prog 5 #[.agg #[.slice p1 n1 q1], .agg #[.slice p2 n2 q2], .agg #[.int .u8 t.kind, .string t.name, .slice pt nt qt], .agg #[.int .u8 u.kind, .string u.name, .slice pu nu qu], .agg #[.int .u8 ope, .int .i64 ive, .string nme, .string sce, .string ple.name, .slice pe0 ne0 qe0, .slice pe1 ne1 qe1, .int .i64 ate], .agg #[.int .u8 opf, .int .i64 ivf, .string nmf, .string scf, .string plf.name, .slice pf0 nf0 qf0, .slice pf1 nf1 qf1, .int .i64 atf]] w fun e w' => e = .returned (.bool true) ∧ Below w.heap.size w w' := by
  have G1 : Hid (∀ w', w.heap.size ≤ w'.heap.size → Below w.heap.size w w' → Calls Try.prog 15 #[.agg #[.slice p1 n1 q1]] w' fun e w'' => e = .returned (.bool (decide (progR p 20000 < 0))) ∧ Below w'.heap.size w' w'') := Lib.hid (fun w' hB h => great_calls w.heap.size p _ w' hB (hp.below h))
  have G2 : Hid (∀ w', w.heap.size ≤ w'.heap.size → Below w.heap.size w w' → Calls Try.prog 15 #[.agg #[.slice p2 n2 q2]] w' fun e w'' => e = .returned (.bool (decide (progR q 20000 < 0))) ∧ Below w'.heap.size w' w'') := Lib.hid (fun w' hB h => great_calls w.heap.size q _ w' hB (hq.below h))
  have G3 : Hid (∀ w', w.heap.size ≤ w'.heap.size → Below w.heap.size w w' → Calls Try.prog 6 #[.agg #[.int .u8 t.kind, .string t.name, .slice pt nt qt]] w' fun e w'' => e = .returned (.bool (decide (typeR t 20000 < 0))) ∧ Below w'.heap.size w' w'') := Lib.hid (fun w' hB h => greatT_calls w.heap.size t _ w' hB (PT.In.below h ht))
  have G4 : Hid (∀ w', w.heap.size ≤ w'.heap.size → Below w.heap.size w w' → Calls Try.prog 6 #[.agg #[.int .u8 u.kind, .string u.name, .slice pu nu qu]] w' fun e w'' => e = .returned (.bool (decide (typeR u 20000 < 0))) ∧ Below w'.heap.size w' w'') := Lib.hid (fun w' hB h => greatT_calls w.heap.size u _ w' hB (PT.In.below h hu))
  have G5 : Hid (∀ w', w.heap.size ≤ w'.heap.size → Below w.heap.size w w' → Calls Try.prog 7 #[.agg #[.int .u8 ope, .int .i64 ive, .string nme, .string sce, .string ple.name, .slice pe0 ne0 qe0, .slice pe1 ne1 qe1, .int .i64 ate]] w' fun e w'' => e = .returned (.bool (decide (exprR (.mk ope ive nme sce ple ese ate) 20000 < 0))) ∧ Below w'.heap.size w' w'') := Lib.hid (fun w' hB h => greatE_calls w.heap.size _ _ _ _ _ _ _ _ _ _ _ _ _ w' hB (PE.In.below h he))
  have G6 : Hid (∀ w', w.heap.size ≤ w'.heap.size → Below w.heap.size w w' → Calls Try.prog 7 #[.agg #[.int .u8 opf, .int .i64 ivf, .string nmf, .string scf, .string plf.name, .slice pf0 nf0 qf0, .slice pf1 nf1 qf1, .int .i64 atf]] w' fun e w'' => e = .returned (.bool (decide (exprR (.mk opf ivf nmf scf plf esf atf) 20000 < 0))) ∧ Below w'.heap.size w' w'') := Lib.hid (fun w' hB h => greatE_calls w.heap.size _ _ _ _ _ _ _ _ _ _ _ _ _ w' hB (PE.In.below h hf))
  have T1 : Hid (∀ w', w.heap.size ≤ w'.heap.size → Below w.heap.size w w' → Calls Try.prog 21 #[.agg #[.slice p1 n1 q1], .agg #[.slice p2 n2 q2]] w' fun e w'' => e = .returned (.bool (sameProg false p q)) ∧ Below w'.heap.size w' w'') := Lib.hid (fun w' hB h => topSame_calls w.heap.size p q _ _ w' hB (hp.below h) (hq.below h))
  have T3 : Hid (∀ w', w.heap.size ≤ w'.heap.size → Below w.heap.size w w' → Calls Try.prog 22 #[.agg #[.int .u8 t.kind, .string t.name, .slice pt nt qt], .agg #[.int .u8 u.kind, .string u.name, .slice pu nu qu]] w' fun e w'' => e = .returned (.bool (sameT t u)) ∧ Below w'.heap.size w' w'') := Lib.hid (fun w' hB h => topType_calls w.heap.size t u _ _ w' hB (PT.In.below h ht) (PT.In.below h hu))
  have T4 : Hid (∀ w', w.heap.size ≤ w'.heap.size → Below w.heap.size w w' → Calls Try.prog 23 #[.agg #[.int .u8 t.kind, .string t.name, .slice pt nt qt], .agg #[.int .u8 u.kind, .string u.name, .slice pu nu qu]] w' fun e w'' => e = .returned (.bool (sameT t u)) ∧ Below w'.heap.size w' w'') := Lib.hid (fun w' hB h => refT_calls w.heap.size t u _ _ w' hB (PT.In.below h ht) (PT.In.below h hu))
  have T5 : Hid (∀ w', w.heap.size ≤ w'.heap.size → Below w.heap.size w w' → Calls Try.prog 24 #[.agg #[.int .u8 ope, .int .i64 ive, .string nme, .string sce, .string ple.name, .slice pe0 ne0 qe0, .slice pe1 ne1 qe1, .int .i64 ate], .agg #[.int .u8 opf, .int .i64 ivf, .string nmf, .string scf, .string plf.name, .slice pf0 nf0 qf0, .slice pf1 nf1 qf1, .int .i64 atf]] w' fun e w'' => e = .returned (.bool (sameE false (.mk ope ive nme sce ple ese ate) (.mk opf ivf nmf scf plf esf atf))) ∧ Below w'.heap.size w' w'') := Lib.hid (fun w' hB h => topExpr_calls w.heap.size _ _ _ _ _ _ _ _ _ _ _ _ _ _ _ _ _ _ _ _ _ _ _ _ _ _ w' hB (PE.In.below h he) (PE.In.below h hf))
  have T6 : Hid (∀ w', w.heap.size ≤ w'.heap.size → Below w.heap.size w w' → Calls Try.prog 25 #[.agg #[.int .u8 ope, .int .i64 ive, .string nme, .string sce, .string ple.name, .slice pe0 ne0 qe0, .slice pe1 ne1 qe1, .int .i64 ate], .agg #[.int .u8 opf, .int .i64 ivf, .string nmf, .string scf, .string plf.name, .slice pf0 nf0 qf0, .slice pf1 nf1 qf1, .int .i64 atf], .bool false] w' fun e w'' => e = .returned (.bool (sameE false (.mk ope ive nme sce ple ese ate) (.mk opf ivf nmf scf plf esf atf))) ∧ Below w'.heap.size w' w'') := Lib.hid (fun w' hB h => refE_calls w.heap.size false (.mk ope ive nme sce ple ese ate) (.mk opf ivf nmf scf plf esf atf) ⟨.slice pe0 ne0 qe0, .slice pe1 ne1 qe1⟩ ⟨.slice pf0 nf0 qf0, .slice pf1 nf1 qf1⟩ w' hB (PE.In.below h he) (PE.In.below h hf))
  have T2 := HRS
  clear hp hq ht hu he hf HRS
  generalize decide (progR p 20000 < 0) = x1 at *
  generalize decide (progR q 20000 < 0) = x2 at *
  generalize decide (typeR t 20000 < 0) = x3 at *
  generalize decide (typeR u 20000 < 0) = x4 at *
  generalize decide (exprR (.mk ope ive nme sce ple ese ate) 20000 < 0) = x5 at *
  generalize decide (exprR (.mk opf ivf nmf scf plf esf atf) 20000 < 0) = x6 at *
  generalize sameProg false p q = y1 at *
  generalize sameT t u = y2 at *
  generalize sameE false (.mk ope ive nme sce ple ese ate) (.mk opf ivf nmf scf plf esf atf) = y3 at *
  go_enter Try.func5, Try.ntmps5
  go_wp2_with fail
  obtain ⟨W0, hW0⟩ : ∃ W0, W0 = ((((((w.alloc (.cells #[.slice p1 n1 q1] 39)).alloc (.cells #[.slice p2 n2 q2] 39)).alloc (.cells #[.int .u8 t.kind, .string t.name, .slice pt nt qt] 24)).alloc (.cells #[.int .u8 u.kind, .string u.name, .slice pu nu qu] 24)).alloc (.cells #[.int .u8 ope, .int .i64 ive, .string nme, .string sce, .string ple.name, .slice pe0 ne0 qe0, .slice pe1 ne1 qe1, .int .i64 ate] 30)).alloc (.cells #[.int .u8 opf, .int .i64 ivf, .string nmf, .string scf, .string plf.name, .slice pf0 nf0 qf0, .slice pf1 nf1 qf1, .int .i64 atf] 30)) := ⟨_, rfl⟩
  rw [← hW0]
  have c0_0 : W0.cell? ⟨w.heap.size, 0, none⟩ = some (.slice p1 n1 q1) := by rw [hW0]; go_simp
  have c1_0 : W0.cell? ⟨w.heap.size + 1, 0, none⟩ = some (.slice p2 n2 q2) := by rw [hW0]; go_simp
  have c2_0 : W0.cell? ⟨w.heap.size + 1 + 1, 0, none⟩ = some (.int .u8 t.kind) := by rw [hW0]; go_simp
  have c2_1 : W0.cell? ⟨w.heap.size + 1 + 1, 1, none⟩ = some (.string t.name) := by rw [hW0]; go_simp
  have c2_2 : W0.cell? ⟨w.heap.size + 1 + 1, 2, none⟩ = some (.slice pt nt qt) := by rw [hW0]; go_simp
  have c3_0 : W0.cell? ⟨w.heap.size + 1 + 1 + 1, 0, none⟩ = some (.int .u8 u.kind) := by rw [hW0]; go_simp
  have c3_1 : W0.cell? ⟨w.heap.size + 1 + 1 + 1, 1, none⟩ = some (.string u.name) := by rw [hW0]; go_simp
  have c3_2 : W0.cell? ⟨w.heap.size + 1 + 1 + 1, 2, none⟩ = some (.slice pu nu qu) := by rw [hW0]; go_simp
  have c4_0 : W0.cell? ⟨w.heap.size + 1 + 1 + 1 + 1, 0, none⟩ = some (.int .u8 ope) := by rw [hW0]; go_simp
  have c4_1 : W0.cell? ⟨w.heap.size + 1 + 1 + 1 + 1, 1, none⟩ = some (.int .i64 ive) := by rw [hW0]; go_simp
  have c4_2 : W0.cell? ⟨w.heap.size + 1 + 1 + 1 + 1, 2, none⟩ = some (.string nme) := by rw [hW0]; go_simp
  have c4_3 : W0.cell? ⟨w.heap.size + 1 + 1 + 1 + 1, 3, none⟩ = some (.string sce) := by rw [hW0]; go_simp
  have c4_4 : W0.cell? ⟨w.heap.size + 1 + 1 + 1 + 1, 4, none⟩ = some (.string ple.name) := by rw [hW0]; go_simp
  have c4_5 : W0.cell? ⟨w.heap.size + 1 + 1 + 1 + 1, 5, none⟩ = some (.slice pe0 ne0 qe0) := by rw [hW0]; go_simp
  have c4_6 : W0.cell? ⟨w.heap.size + 1 + 1 + 1 + 1, 6, none⟩ = some (.slice pe1 ne1 qe1) := by rw [hW0]; go_simp
  have c4_7 : W0.cell? ⟨w.heap.size + 1 + 1 + 1 + 1, 7, none⟩ = some (.int .i64 ate) := by rw [hW0]; go_simp
  have c5_0 : W0.cell? ⟨w.heap.size + 1 + 1 + 1 + 1 + 1, 0, none⟩ = some (.int .u8 opf) := by rw [hW0]; go_simp
  have c5_1 : W0.cell? ⟨w.heap.size + 1 + 1 + 1 + 1 + 1, 1, none⟩ = some (.int .i64 ivf) := by rw [hW0]; go_simp
  have c5_2 : W0.cell? ⟨w.heap.size + 1 + 1 + 1 + 1 + 1, 2, none⟩ = some (.string nmf) := by rw [hW0]; go_simp
  have c5_3 : W0.cell? ⟨w.heap.size + 1 + 1 + 1 + 1 + 1, 3, none⟩ = some (.string scf) := by rw [hW0]; go_simp
  have c5_4 : W0.cell? ⟨w.heap.size + 1 + 1 + 1 + 1 + 1, 4, none⟩ = some (.string plf.name) := by rw [hW0]; go_simp
  have c5_5 : W0.cell? ⟨w.heap.size + 1 + 1 + 1 + 1 + 1, 5, none⟩ = some (.slice pf0 nf0 qf0) := by rw [hW0]; go_simp
  have c5_6 : W0.cell? ⟨w.heap.size + 1 + 1 + 1 + 1 + 1, 6, none⟩ = some (.slice pf1 nf1 qf1) := by rw [hW0]; go_simp
  have c5_7 : W0.cell? ⟨w.heap.size + 1 + 1 + 1 + 1 + 1, 7, none⟩ = some (.int .i64 atf) := by rw [hW0]; go_simp
  have hz : W0.heap.size = w.heap.size + 6 := by rw [hW0]; simp
  have B0 : Below w.heap.size w W0 := by rw [hW0]; exact (((((((Below.refl _ w).alloc (Nat.le_refl _) _).alloc (by simp) _).alloc (by simp; omega) _).alloc (by simp; omega) _).alloc (by simp; omega) _).alloc (by simp; omega) _)
  clear hW0
  have z0 : w.heap.size < W0.heap.size := by omega
  have z1 : w.heap.size + 1 < W0.heap.size := by omega
  have z2 : w.heap.size + 1 + 1 < W0.heap.size := by omega
  have z3 : w.heap.size + 1 + 1 + 1 < W0.heap.size := by omega
  have z4 : w.heap.size + 1 + 1 + 1 + 1 < W0.heap.size := by omega
  have z5 : w.heap.size + 1 + 1 + 1 + 1 + 1 < W0.heap.size := by omega
  have bel0 := Below.refl W0.heap.size W0
  refine (G1.out _ (by omega) (B0.trans (bel0.mono (by omega)))).mono ?_
  rintro r w1 ⟨rfl, b1⟩
  have hs1 : W0.heap.size ≤ w1.heap.size := by have := b1.size; omega
  have bel1 := bel0.trans (b1.mono (by omega))
  have hc1 := old_cells bel1
  clear b1
  go_wp2_with fail
  · go_ret
    exact ⟨rfl, B0.trans (bel1.mono (by omega))⟩
  refine (G2.out _ (by omega) (B0.trans (bel1.mono (by omega)))).mono ?_
  rintro r w2 ⟨rfl, b2⟩
  have hs2 : W0.heap.size ≤ w2.heap.size := by have := b2.size; omega
  have bel2 := bel1.trans (b2.mono (by omega))
  have hc2 := old_cells bel2
  clear b2 hc1
  go_wp2_with fail
  · go_ret
    exact ⟨rfl, B0.trans (bel2.mono (by omega))⟩
  refine (G3.out _ (by omega) (B0.trans (bel2.mono (by omega)))).mono ?_
  rintro r w3 ⟨rfl, b3⟩
  have hs3 : W0.heap.size ≤ w3.heap.size := by have := b3.size; omega
  have bel3 := bel2.trans (b3.mono (by omega))
  have hc3 := old_cells bel3
  clear b3 hc2
  go_wp2_with fail
  · go_ret
    exact ⟨rfl, B0.trans (bel3.mono (by omega))⟩
  refine (G4.out _ (by omega) (B0.trans (bel3.mono (by omega)))).mono ?_
  rintro r w4 ⟨rfl, b4⟩
  have hs4 : W0.heap.size ≤ w4.heap.size := by have := b4.size; omega
  have bel4 := bel3.trans (b4.mono (by omega))
  have hc4 := old_cells bel4
  clear b4 hc3
  go_wp2_with fail
  · go_ret
    exact ⟨rfl, B0.trans (bel4.mono (by omega))⟩
  refine (G5.out _ (by omega) (B0.trans (bel4.mono (by omega)))).mono ?_
  rintro r w5 ⟨rfl, b5⟩
  have hs5 : W0.heap.size ≤ w5.heap.size := by have := b5.size; omega
  have bel5 := bel4.trans (b5.mono (by omega))
  have hc5 := old_cells bel5
  clear b5 hc4
  go_wp2_with fail
  · go_ret
    exact ⟨rfl, B0.trans (bel5.mono (by omega))⟩
  refine (G6.out _ (by omega) (B0.trans (bel5.mono (by omega)))).mono ?_
  rintro r w6 ⟨rfl, b6⟩
  have hs6 : W0.heap.size ≤ w6.heap.size := by have := b6.size; omega
  have bel6 := bel5.trans (b6.mono (by omega))
  have hc6 := old_cells bel6
  clear b6 hc5
  go_wp2_with fail
  · go_ret
    exact ⟨rfl, B0.trans (bel6.mono (by omega))⟩
  have HB := Lib.hid bel6
  clear hc6 bel6
  have K1 := Lib.hid (fun (W : World) (h : Hid (Below W0.heap.size W0 W)) => (show w.heap.size ≤ W.heap.size from Nat.le_trans (by omega) h.out.size))
  have K2 := Lib.hid (fun (W : World) (h : Hid (Below W0.heap.size W0 W)) => (show Below w.heap.size w W from B0.trans (h.out.mono (by omega))))
  have K3 := Lib.hid (fun (W W2 : World) (h : Hid (Below W0.heap.size W0 W)) (k : Below W.heap.size W W2) => (show Hid (Below W0.heap.size W0 W2) from Lib.hid (h.out.trans (k.mono h.out.size))))
  go_region_held3 (fun w' => (∀ b o, b < W0.heap.size → w'.cell? ⟨b, o, none⟩ = W0.cell? ⟨b, o, none⟩) ∧ Hid (Below W0.heap.size W0 w')) ((first | exact ⟨old_cells (Hid.out XB), XB⟩ | exact ⟨old_cells ((Hid.out HB).drew), Lib.hid ((Hid.out HB).drew)⟩ | assumption)) (first | (go_at_call 21; go_split_ands; have HX : Hid (Below W0.heap.size W0 _) := (by assumption); refine (T1.out _ (K1.out _ HX) (K2.out _ HX)).mono ?_; rintro r wn ⟨rfl, bn⟩; have XB := K3.out _ _ HX bn; clear bn HX) | (go_at_call 19; go_split_ands; have HX : Hid (Below W0.heap.size W0 _) := (by assumption); refine (T2.out _ (K1.out _ HX) (K2.out _ HX)).mono ?_; rintro r wn ⟨rfl, bn⟩; have XB := K3.out _ _ HX bn; clear bn HX) | (go_at_call 22; go_split_ands; have HX : Hid (Below W0.heap.size W0 _) := (by assumption); refine (T3.out _ (K1.out _ HX) (K2.out _ HX)).mono ?_; rintro r wn ⟨rfl, bn⟩; have XB := K3.out _ _ HX bn; clear bn HX) | (go_at_call 23; go_split_ands; have HX : Hid (Below W0.heap.size W0 _) := (by assumption); refine (T4.out _ (K1.out _ HX) (K2.out _ HX)).mono ?_; rintro r wn ⟨rfl, bn⟩; have XB := K3.out _ _ HX bn; clear bn HX) | (go_at_call 24; go_split_ands; have HX : Hid (Below W0.heap.size W0 _) := (by assumption); refine (T5.out _ (K1.out _ HX) (K2.out _ HX)).mono ?_; rintro r wn ⟨rfl, bn⟩; have XB := K3.out _ _ HX bn; clear bn HX) | (go_at_call 25; go_split_ands; have HX : Hid (Below W0.heap.size W0 _) := (by assumption); refine (T6.out _ (K1.out _ HX) (K2.out _ HX)).mono ?_; rintro r wn ⟨rfl, bn⟩; have XB := K3.out _ _ HX bn; clear bn HX))
  have HX : Hid (Below W0.heap.size W0 _) := XB
  have HF := Lib.hid (K2.out _ HX)
  go_wp2
  go_ret
  exact ⟨ret_bool (by simp), HF.out⟩
end Go.Proofs.Ythidkpmoacdifaa
