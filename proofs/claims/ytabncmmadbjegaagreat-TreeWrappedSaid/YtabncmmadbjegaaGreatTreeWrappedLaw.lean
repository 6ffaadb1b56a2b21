/- TreeWrapped: the walk. -/
import Derived.Test.YtabncmmadbjegaaGreatTreeAwake
import Derived.Test.YtabncmmadbjegaaGreatJoinL
import Derived.Test.YtabncmmadbjegaaGreatTreeGreat
import Derived.Deep.Cut
import Derived.Test.YtabncmmadbjegaaGreatJoinD
namespace Go.Proofs.YtabncmmadbjegaaGreat
open Go.RowKit Go.Shelf
set_option linter.unusedVariables false

theorem typeT_bound {t : PT} (h : ¬ typeR t 20000 < 0) : depthR (rtT t 0) ≤ 20000 := by
  have := typeR_n t 0 20000 (by omega) (by omega)
  have := depth_nodes (rtT t 0); omega
theorem exprE_bound {t : PE} (h : ¬ exprR t 20000 < 0) : depthR (rtE t 0) ≤ 20000 := by
  have := exprR_n t 0 20000 (by omega) (by omega)
  have := depth_nodes (rtE t 0); omega
set_option maxRecDepth 100000 in
set_option maxHeartbeats 8000000 in
theorem treeWrapped_walk (t : PT) (pt : Option Addr) (nt qt : Nat) (op iv : Int) (nm sc : ByteArray) (pl : PP) (es : List PE) (ps : Int) (p0 : Option Addr) (n0 q0 : Nat) (p1 : Option Addr) (n1 q1 : Nat) (w : World) (hm : MaxOk w)
    (ht : t.In w.heap.size w (.slice pt nt qt)) (he : PE.In w.heap.size w (.mk op iv nm sc pl es ps) ⟨.slice p0 n0 q0, .slice p1 n1 q1⟩) :
    Calls Tryz.prog 6 #[.agg #[.int .u8 t.kind, .string t.name, .slice pt nt qt], .agg #[.int .u8 op, .int .i64 iv, .string nm, .string sc, .string pl.name, .slice p0 n0 q0, .slice p1 n1 q1, .int .i64 ps]] w fun r w' => r = .returned (.bool true) ∧ Below w.heap.size w w' := by
  have AW : Hid (∀ W, Below w.heap.size w W → Calls Tryz.prog 17 #[] W fun e w' => e = .returned (.bool true) ∧ Below W.heap.size W w') := Lib.hid fun W h => awake_calls W (hm.below h)
  have G1 : Hid (∀ W, Below w.heap.size w W → Calls Tryz.prog 21 #[.agg #[.int .u8 t.kind, .string t.name, .slice pt nt qt]] W fun e w' => e = .returned (.bool (decide (typeR t 20000 < 0))) ∧ Below W.heap.size W w') := Lib.hid fun W h => greatT_calls w.heap.size t _ W h.size (PT.In.below h ht)
  have G2 : Hid (∀ W, Below w.heap.size w W → Calls Tryz.prog 22 #[.agg #[.int .u8 op, .int .i64 iv, .string nm, .string sc, .string pl.name, .slice p0 n0 q0, .slice p1 n1 q1, .int .i64 ps]] W fun e w' => e = .returned (.bool (decide (exprR (.mk op iv nm sc pl es ps) 20000 < 0))) ∧ Below W.heap.size W w') := Lib.hid fun W h => greatE_calls w.heap.size op iv nm sc pl es ps p0 n0 q0 p1 n1 q1 W h.size (PE.In.below h he)
  have bx := Lib.hid (box2 w (.cells #[.int .u8 t.kind, .string t.name, .slice pt nt qt] 34) (.cells #[.int .u8 op, .int .i64 iv, .string nm, .string sc, .string pl.name, .slice p0 n0 q0, .slice p1 n1 q1, .int .i64 ps] 40))
  by_cases ht0 : typeR t 20000 < 0
  · rw [decide_eq_true ht0] at G1
    clear ht he hm ht0 G2
    go_enter Tryz.func6, Tryz.ntmps6
    go_wp2_with fail
    refine (AW.out _ bx.out).mono ?_; rintro e w1 ⟨rfl, b1⟩
    have bel1 := Lib.hid (up_tr bx.out b1)
    have hc1 := old_cells b1
    clear b1
    go_wp2_with fail
    refine (G1.out _ bel1.out).mono ?_; rintro e w2 ⟨rfl, b2⟩
    have bel2 := Lib.hid (up_tr bel1.out b2)
    clear b2
    go_wp2
    go_ret
    exact ⟨rfl, bel2.out⟩
  · rw [decide_eq_false ht0] at G1
    by_cases he0 : exprR (.mk op iv nm sc pl es ps) 20000 < 0
    · rw [decide_eq_true he0] at G2
      clear ht he hm ht0 he0
      go_enter Tryz.func6, Tryz.ntmps6
      go_wp2_with fail
      refine (AW.out _ bx.out).mono ?_; rintro e w1 ⟨rfl, b1⟩
      have bel1 := Lib.hid (up_tr bx.out b1)
      have hc1 := old_cells b1
      go_wp2_with fail
      refine (G1.out _ bel1.out).mono ?_; rintro e w2 ⟨rfl, b2⟩
      have bel2 := Lib.hid (up_tr bel1.out b2)
      have qq := up_tr b1 b2
      have hc2 := old_cells qq
      clear hc1 b1 b2 qq
      go_wp2_with fail
      refine (G2.out _ bel2.out).mono ?_; rintro e w3 ⟨rfl, b3⟩
      have bel3 := Lib.hid (up_tr bel2.out b3)
      clear b3
      go_wp2
      go_ret
      exact ⟨rfl, bel3.out⟩
    · rw [decide_eq_false he0] at G2
      have dT := typeT_bound ht0
      have dE := exprE_bound he0
      have HT := Lib.hid ht
      have HE := Lib.hid he
      have HM := Lib.hid hm
      clear ht0 he0 ht he hm
      go_enter Tryz.func6, Tryz.ntmps6
      go_wp2_with fail
      refine (AW.out _ bx.out).mono ?_; rintro e w1 ⟨rfl, b1⟩
      have bel1 := Lib.hid (up_tr bx.out b1)
      have hc1 := old_cells b1
      go_wp2_with fail
      refine (G1.out _ bel1.out).mono ?_; rintro e w2 ⟨rfl, b2⟩
      have bel2 := Lib.hid (up_tr bel1.out b2)
      have qq := up_tr b1 b2
      have hc2 := old_cells qq
      clear hc1 b1 b2
      go_wp2_with fail
      refine (G2.out _ bel2.out).mono ?_; rintro e w3 ⟨rfl, b3⟩
      have bel3 := Lib.hid (up_tr bel2.out b3)
      have q3 := up_tr qq b3
      have z0 : w.heap.size + 2 ≤ w3.heap.size := by have := q3.size; simpa using this
      have c20 : w3.cell? ⟨w.heap.size, 0, none⟩ = some (.int .u8 t.kind) := (q3.cell (p := ⟨w.heap.size, 0, none⟩) (by first | (simp; done) | (simp; omega))).trans (by go_simp)
      have c21 : w3.cell? ⟨w.heap.size, 1, none⟩ = some (.string t.name) := (q3.cell (p := ⟨w.heap.size, 1, none⟩) (by first | (simp; done) | (simp; omega))).trans (by go_simp)
      have c22 : w3.cell? ⟨w.heap.size, 2, none⟩ = some (.slice pt nt qt) := (q3.cell (p := ⟨w.heap.size, 2, none⟩) (by first | (simp; done) | (simp; omega))).trans (by go_simp)
      have c30 : w3.cell? ⟨w.heap.size + 1, 0, none⟩ = some (.int .u8 op) := (q3.cell (p := ⟨w.heap.size + 1, 0, none⟩) (by first | (simp; done) | (simp; omega))).trans (by go_simp)
      have c31 : w3.cell? ⟨w.heap.size + 1, 1, none⟩ = some (.int .i64 iv) := (q3.cell (p := ⟨w.heap.size + 1, 1, none⟩) (by first | (simp; done) | (simp; omega))).trans (by go_simp)
      have c32 : w3.cell? ⟨w.heap.size + 1, 2, none⟩ = some (.string nm) := (q3.cell (p := ⟨w.heap.size + 1, 2, none⟩) (by first | (simp; done) | (simp; omega))).trans (by go_simp)
      have c33 : w3.cell? ⟨w.heap.size + 1, 3, none⟩ = some (.string sc) := (q3.cell (p := ⟨w.heap.size + 1, 3, none⟩) (by first | (simp; done) | (simp; omega))).trans (by go_simp)
      have c34 : w3.cell? ⟨w.heap.size + 1, 4, none⟩ = some (.string pl.name) := (q3.cell (p := ⟨w.heap.size + 1, 4, none⟩) (by first | (simp; done) | (simp; omega))).trans (by go_simp)
      have c35 : w3.cell? ⟨w.heap.size + 1, 5, none⟩ = some (.slice p0 n0 q0) := (q3.cell (p := ⟨w.heap.size + 1, 5, none⟩) (by first | (simp; done) | (simp; omega))).trans (by go_simp)
      have c36 : w3.cell? ⟨w.heap.size + 1, 6, none⟩ = some (.slice p1 n1 q1) := (q3.cell (p := ⟨w.heap.size + 1, 6, none⟩) (by first | (simp; done) | (simp; omega))).trans (by go_simp)
      have c37 : w3.cell? ⟨w.heap.size + 1, 7, none⟩ = some (.int .i64 ps) := (q3.cell (p := ⟨w.heap.size + 1, 7, none⟩) (by first | (simp; done) | (simp; omega))).trans (by go_simp)
      have z1 : w.heap.size < w3.heap.size := by omega
      have z2 : w.heap.size + 1 < w3.heap.size := by omega
      clear hc2 b3 qq q3 bel1 bel2 G1 G2 AW bx
      go_upto_region 7 with (fail)
      obtain ⟨s3, hs3⟩ : ∃ s3, s3 = w3.heap.size := ⟨_, rfl⟩
      obtain ⟨W4, hW4⟩ : ∃ W4, W4 = (((w3.alloc (.cells #[.int .u8 op, .int .i64 iv, .string nm, .string sc, .string pl.name, .slice p0 n0 q0, .slice p1 n1 q1, .int .i64 ps] 40)).alloc (.cells #[.int .u8 8, .int .i64 0, .string ⟨#[]⟩, .string ⟨#[]⟩, .string ⟨#[]⟩, .slice none 0 0, .slice (some ⟨s3, 0, none⟩) 1 1, .int .i64 0] 40)).alloc (.cells #[.int .u8 t.kind, .string t.name, .slice pt nt qt] 34)).alloc (.cells #[.int .u8 5, .string ⟨#[]⟩, .slice (some ⟨s3 + 1 + 1, 0, none⟩) 1 1] 34) := ⟨_, rfl⟩
      rw [← hs3, ← hW4]
      have zw : s3 + 4 ≤ W4.heap.size := by rw [hW4, hs3]; simp
      have b34 : Below w3.heap.size w3 W4 := by rw [hW4]; exact ((((Below.refl _ w3).alloc (Nat.le_refl _) _).alloc (by simp) _).alloc (by first | (simp; done) | (simp; omega)) _).alloc (by first | (simp; done) | (simp; omega)) _
      replace c20 := (b34.cell (p := ⟨w.heap.size, 0, none⟩) (by simp; omega)).trans c20
      replace c21 := (b34.cell (p := ⟨w.heap.size, 1, none⟩) (by simp; omega)).trans c21
      replace c22 := (b34.cell (p := ⟨w.heap.size, 2, none⟩) (by simp; omega)).trans c22
      replace c30 := (b34.cell (p := ⟨w.heap.size + 1, 0, none⟩) (by simp; omega)).trans c30
      replace c31 := (b34.cell (p := ⟨w.heap.size + 1, 1, none⟩) (by simp; omega)).trans c31
      replace c32 := (b34.cell (p := ⟨w.heap.size + 1, 2, none⟩) (by simp; omega)).trans c32
      replace c33 := (b34.cell (p := ⟨w.heap.size + 1, 3, none⟩) (by simp; omega)).trans c33
      replace c34 := (b34.cell (p := ⟨w.heap.size + 1, 4, none⟩) (by simp; omega)).trans c34
      replace c35 := (b34.cell (p := ⟨w.heap.size + 1, 5, none⟩) (by simp; omega)).trans c35
      replace c36 := (b34.cell (p := ⟨w.heap.size + 1, 6, none⟩) (by simp; omega)).trans c36
      replace c37 := (b34.cell (p := ⟨w.heap.size + 1, 7, none⟩) (by simp; omega)).trans c37
      have re : CellsAt W4 s3 0 [.int .u8 op, .int .i64 iv, .string nm, .string sc, .string pl.name, .slice p0 n0 q0, .slice p1 n1 q1, .int .i64 ps] := by
        rw [hW4, hs3]; exact (cells_box w3 _ _).below (by simp) ((((Below.refl _ _).alloc (Nat.le_refl _) _).alloc (by first | (simp; done) | (simp; omega)) _).alloc (by first | (simp; done) | (simp; omega)) _)
      have rt : CellsAt W4 (s3 + 1 + 1) 0 [.int .u8 t.kind, .string t.name, .slice pt nt qt] := by
        have := cells_box ((w3.alloc (.cells #[.int .u8 op, .int .i64 iv, .string nm, .string sc, .string pl.name, .slice p0 n0 q0, .slice p1 n1 q1, .int .i64 ps] 40)).alloc (.cells #[.int .u8 8, .int .i64 0, .string ⟨#[]⟩, .string ⟨#[]⟩, .string ⟨#[]⟩, .slice none 0 0, .slice (some ⟨s3, 0, none⟩) 1 1, .int .i64 0] 40)) [.int .u8 t.kind, .string t.name, .slice pt nt qt] 34
        rw [show ((w3.alloc (.cells #[.int .u8 op, .int .i64 iv, .string nm, .string sc, .string pl.name, .slice p0 n0 q0, .slice p1 n1 q1, .int .i64 ps] 40)).alloc (.cells #[.int .u8 8, .int .i64 0, .string ⟨#[]⟩, .string ⟨#[]⟩, .string ⟨#[]⟩, .slice none 0 0, .slice (some ⟨s3, 0, none⟩) 1 1, .int .i64 0] 40)).heap.size = s3 + 1 + 1 from by rw [hs3]; simp] at this
        rw [hW4]; exact this.below (B := s3 + 1 + 1 + 1) (by omega) ((Below.refl _ _).alloc (by rw [hs3]; simp) _)
      have f0 : W4.cell? ⟨s3 + 1, 0, none⟩ = some (.int .u8 8) := by rw [hW4, hs3]; go_simp
      have f1 : W4.cell? ⟨s3 + 1, 1, none⟩ = some (.int .i64 0) := by rw [hW4, hs3]; go_simp
      have f2 : W4.cell? ⟨s3 + 1, 2, none⟩ = some (.string ⟨#[]⟩) := by rw [hW4, hs3]; go_simp
      have f3 : W4.cell? ⟨s3 + 1, 3, none⟩ = some (.string ⟨#[]⟩) := by rw [hW4, hs3]; go_simp
      have f4 : W4.cell? ⟨s3 + 1, 4, none⟩ = some (.string ⟨#[]⟩) := by rw [hW4, hs3]; go_simp
      have f5 : W4.cell? ⟨s3 + 1, 5, none⟩ = some (.slice none 0 0) := by rw [hW4, hs3]; go_simp
      have f6 : W4.cell? ⟨s3 + 1, 6, none⟩ = some (.slice (some ⟨s3, 0, none⟩) 1 1) := by rw [hW4, hs3]; go_simp
      have f7 : W4.cell? ⟨s3 + 1, 7, none⟩ = some (.int .i64 0) := by rw [hW4, hs3]; go_simp
      have u0 : W4.cell? ⟨s3 + 1 + 1 + 1, 0, none⟩ = some (.int .u8 5) := by rw [hW4, hs3]; go_simp
      have u1 : W4.cell? ⟨s3 + 1 + 1 + 1, 1, none⟩ = some (.string ⟨#[]⟩) := by rw [hW4, hs3]; go_simp
      have u2 : W4.cell? ⟨s3 + 1 + 1 + 1, 2, none⟩ = some (.slice (some ⟨s3 + 1 + 1, 0, none⟩) 1 1) := by rw [hW4, hs3]; go_simp
      have BW4 : Hid (Below w.heap.size w W4) := Lib.hid (bel3.out.trans (b34.mono (by omega)))
      have RE := Lib.hid re
      have RT := Lib.hid rt
      rw [← hs3] at z0 z1 z2
      have y1 : w.heap.size < W4.heap.size := by omega
      have y2 : w.heap.size + 1 < W4.heap.size := by omega
      have y3 : s3 + 1 < W4.heap.size := by omega
      have y4 : s3 + 1 + 1 + 1 < W4.heap.size := by omega
      clear hW4 hs3 b34 re rt bel3
      have EI : Hid (∀ W, Below w.heap.size w W → PE.In W.heap.size W (.mk op iv nm sc pl es ps) ⟨.slice p0 n0 q0, .slice p1 n1 q1⟩) := Lib.hid fun W h => PE.In.reads h.size (fun a v hc => (h.cell (World.block_lt_of_cell? w a hc)).trans hc) HE.out
      have TI : Hid (∀ W, Below w.heap.size w W → t.In W.heap.size W (.slice pt nt qt)) := Lib.hid fun W h => PT.In.reads h.size (fun a v hc => (h.cell (World.block_lt_of_cell? w a hc)).trans hc) HT.out
      have D1 : Hid (Calls Tryz.prog 12 #[.agg #[.slice (some ⟨W4.heap.size, 0, none⟩) 1 1]] (W4.alloc (.cells #[.int .u8 0, .string ⟨#[]⟩, .slice none 0 0, .int .u8 0, .string ⟨#[]⟩, .slice none 0 0, .slice none 0 0, .int .u8 op, .int .i64 iv, .string nm, .string sc, .string pl.name, .slice p0 n0 q0, .slice p1 n1 q1, .int .i64 ps, .int .i64 0] 46)) fun e w' => e = .returned (.int .i64 ((depthR (rtE (.mk op iv nm sc pl es ps) 0) : Int) + 2)) ∧ Below (W4.alloc (.cells #[.int .u8 0, .string ⟨#[]⟩, .slice none 0 0, .int .u8 0, .string ⟨#[]⟩, .slice none 0 0, .slice none 0 0, .int .u8 op, .int .i64 iv, .string nm, .string sc, .string pl.name, .slice p0 n0 q0, .slice p1 n1 q1, .int .i64 ps, .int .i64 0] 46)).heap.size (W4.alloc (.cells #[.int .u8 0, .string ⟨#[]⟩, .slice none 0 0, .int .u8 0, .string ⟨#[]⟩, .slice none 0 0, .slice none 0 0, .int .u8 op, .int .i64 iv, .string nm, .string sc, .string pl.name, .slice p0 n0 q0, .slice p1 n1 q1, .int .i64 ps, .int .i64 0] 46)) w') := Lib.hid (by
        have bb : Below w.heap.size w (W4.alloc (.cells #[.int .u8 0, .string ⟨#[]⟩, .slice none 0 0, .int .u8 0, .string ⟨#[]⟩, .slice none 0 0, .slice none 0 0, .int .u8 op, .int .i64 iv, .string nm, .string sc, .string pl.name, .slice p0 n0 q0, .slice p1 n1 q1, .int .i64 ps, .int .i64 0] 46)) := BW4.out.alloc (by omega) _
        have hin := EI.out _ bb
        have := topDepth_calls (W4.alloc (.cells #[.int .u8 0, .string ⟨#[]⟩, .slice none 0 0, .int .u8 0, .string ⟨#[]⟩, .slice none 0 0, .slice none 0 0, .int .u8 op, .int .i64 iv, .string nm, .string sc, .string pl.name, .slice p0 n0 q0, .slice p1 n1 q1, .int .i64 ps, .int .i64 0] 46)).heap.size [retI (.mk op iv nm sc pl es ps)] (some ⟨W4.heap.size, 0, none⟩) 1 1 _ (Nat.le_refl _) (HM.out.below bb)
          ⟨W4.heap.size, 0, ⟨by unfold maxLen; simp, _, 1, rfl, .inr ⟨rfl, by simp⟩⟩, ⟨⟨⟨.slice none 0 0, .slice none 0 0, .slice none 0 0, ⟨.slice p0 n0 q0, .slice p1 n1 q1⟩⟩, cells_box W4 _ _, ⟨(by unfold U8; decide : U8 0), (by unfold I64; decide : I64 0), (by show ByteArray.empty.size ≤ maxLen; decide)⟩, ⟨0, 0, nil_sl _, trivial⟩, ⟨⟨by unfold U8; decide, by decide⟩, 0, 0, nil_sl _, trivial⟩, ⟨0, 0, nil_sl _, trivial⟩, hin⟩, trivial⟩⟩ (by rw [depth_ret]; omega)
        rw [depth_ret] at this
        exact this)
      go_upto_region 8 with (go_at_call 12; (with_reducible refine D1.out.mono ?_); rintro e w5 ⟨rfl, b5⟩)
      have b45 : Below W4.heap.size W4 w5 := up_tr (box1 W4 _) b5
      have zz5 := b45.size
      replace c20 := (b45.cell (p := ⟨w.heap.size, 0, none⟩) (by first | (simp; done) | (simp; omega))).trans c20
      replace c21 := (b45.cell (p := ⟨w.heap.size, 1, none⟩) (by first | (simp; done) | (simp; omega))).trans c21
      replace c22 := (b45.cell (p := ⟨w.heap.size, 2, none⟩) (by first | (simp; done) | (simp; omega))).trans c22
      replace c30 := (b45.cell (p := ⟨w.heap.size + 1, 0, none⟩) (by first | (simp; done) | (simp; omega))).trans c30
      replace c31 := (b45.cell (p := ⟨w.heap.size + 1, 1, none⟩) (by first | (simp; done) | (simp; omega))).trans c31
      replace c32 := (b45.cell (p := ⟨w.heap.size + 1, 2, none⟩) (by first | (simp; done) | (simp; omega))).trans c32
      replace c33 := (b45.cell (p := ⟨w.heap.size + 1, 3, none⟩) (by first | (simp; done) | (simp; omega))).trans c33
      replace c34 := (b45.cell (p := ⟨w.heap.size + 1, 4, none⟩) (by first | (simp; done) | (simp; omega))).trans c34
      replace c35 := (b45.cell (p := ⟨w.heap.size + 1, 5, none⟩) (by first | (simp; done) | (simp; omega))).trans c35
      replace c36 := (b45.cell (p := ⟨w.heap.size + 1, 6, none⟩) (by first | (simp; done) | (simp; omega))).trans c36
      replace c37 := (b45.cell (p := ⟨w.heap.size + 1, 7, none⟩) (by first | (simp; done) | (simp; omega))).trans c37
      replace f0 := (b45.cell (p := ⟨s3 + 1, 0, none⟩) (by first | (simp; done) | (simp; omega))).trans f0
      replace f1 := (b45.cell (p := ⟨s3 + 1, 1, none⟩) (by first | (simp; done) | (simp; omega))).trans f1
      replace f2 := (b45.cell (p := ⟨s3 + 1, 2, none⟩) (by first | (simp; done) | (simp; omega))).trans f2
      replace f3 := (b45.cell (p := ⟨s3 + 1, 3, none⟩) (by first | (simp; done) | (simp; omega))).trans f3
      replace f4 := (b45.cell (p := ⟨s3 + 1, 4, none⟩) (by first | (simp; done) | (simp; omega))).trans f4
      replace f5 := (b45.cell (p := ⟨s3 + 1, 5, none⟩) (by first | (simp; done) | (simp; omega))).trans f5
      replace f6 := (b45.cell (p := ⟨s3 + 1, 6, none⟩) (by first | (simp; done) | (simp; omega))).trans f6
      replace f7 := (b45.cell (p := ⟨s3 + 1, 7, none⟩) (by first | (simp; done) | (simp; omega))).trans f7
      replace u0 := (b45.cell (p := ⟨s3 + 1 + 1 + 1, 0, none⟩) (by first | (simp; done) | (simp; omega))).trans u0
      replace u1 := (b45.cell (p := ⟨s3 + 1 + 1 + 1, 1, none⟩) (by first | (simp; done) | (simp; omega))).trans u1
      replace u2 := (b45.cell (p := ⟨s3 + 1 + 1 + 1, 2, none⟩) (by first | (simp; done) | (simp; omega))).trans u2
      have BW5 : Hid (Below w.heap.size w w5) := Lib.hid (BW4.out.trans (b45.mono (by omega)))
      have RE5 : Hid (CellsAt w5 s3 0 [.int .u8 op, .int .i64 iv, .string nm, .string sc, .string pl.name, .slice p0 n0 q0, .slice p1 n1 q1, .int .i64 ps]) := Lib.hid (RE.out.below (by omega) b45)
      have RT5 : Hid (CellsAt w5 (s3 + 1 + 1) 0 [.int .u8 t.kind, .string t.name, .slice pt nt qt]) := Lib.hid (RT.out.below (by omega) b45)
      have x1 : w.heap.size < w5.heap.size := by omega
      have x2 : w.heap.size + 1 < w5.heap.size := by omega
      clear b5 b45 D1 RE RT BW4
      have D2 : Hid (Calls Tryz.prog 12 #[.agg #[.slice (some ⟨w5.heap.size, 0, none⟩) 1 1]] (w5.alloc (.cells #[.int .u8 0, .string ⟨#[]⟩, .slice none 0 0, .int .u8 t.kind, .string t.name, .slice pt nt qt, .slice none 0 0, .int .u8 0, .int .i64 0, .string ⟨#[]⟩, .string ⟨#[]⟩, .string ⟨#[]⟩, .slice none 0 0, .slice none 0 0, .int .i64 0, .int .i64 0] 46)) fun e w' => e = .returned (.int .i64 ((depthR (rtT t 0) : Int) + 2)) ∧ Below (w5.alloc (.cells #[.int .u8 0, .string ⟨#[]⟩, .slice none 0 0, .int .u8 t.kind, .string t.name, .slice pt nt qt, .slice none 0 0, .int .u8 0, .int .i64 0, .string ⟨#[]⟩, .string ⟨#[]⟩, .string ⟨#[]⟩, .slice none 0 0, .slice none 0 0, .int .i64 0, .int .i64 0] 46)).heap.size (w5.alloc (.cells #[.int .u8 0, .string ⟨#[]⟩, .slice none 0 0, .int .u8 t.kind, .string t.name, .slice pt nt qt, .slice none 0 0, .int .u8 0, .int .i64 0, .string ⟨#[]⟩, .string ⟨#[]⟩, .string ⟨#[]⟩, .slice none 0 0, .slice none 0 0, .int .i64 0, .int .i64 0] 46)) w') := Lib.hid (by
        have bb : Below w.heap.size w (w5.alloc (.cells #[.int .u8 0, .string ⟨#[]⟩, .slice none 0 0, .int .u8 t.kind, .string t.name, .slice pt nt qt, .slice none 0 0, .int .u8 0, .int .i64 0, .string ⟨#[]⟩, .string ⟨#[]⟩, .string ⟨#[]⟩, .slice none 0 0, .slice none 0 0, .int .i64 0, .int .i64 0] 46)) := BW5.out.alloc (by omega) _
        have hin := TI.out _ bb
        have := topDepth_calls (w5.alloc (.cells #[.int .u8 0, .string ⟨#[]⟩, .slice none 0 0, .int .u8 t.kind, .string t.name, .slice pt nt qt, .slice none 0 0, .int .u8 0, .int .i64 0, .string ⟨#[]⟩, .string ⟨#[]⟩, .string ⟨#[]⟩, .slice none 0 0, .slice none 0 0, .int .i64 0, .int .i64 0] 46)).heap.size [resI t] (some ⟨w5.heap.size, 0, none⟩) 1 1 _ (Nat.le_refl _) (HM.out.below bb)
          ⟨w5.heap.size, 0, ⟨by unfold maxLen; simp, _, 1, rfl, .inr ⟨rfl, by simp⟩⟩, ⟨⟨⟨.slice none 0 0, .slice pt nt qt, .slice none 0 0, ⟨.slice none 0 0, .slice none 0 0⟩⟩, cells_box w5 _ _, ⟨(by unfold U8; decide : U8 0), (by unfold I64; decide : I64 0), (by show ByteArray.empty.size ≤ maxLen; decide)⟩, ⟨0, 0, nil_sl _, trivial⟩, hin, ⟨0, 0, nil_sl _, trivial⟩, zeroE_in _ _⟩, trivial⟩⟩ (by rw [depth_res]; omega)
        rw [depth_res] at this
        exact this)
      go_upto_region 9 with (go_at_call 12; (with_reducible refine D2.out.mono ?_); rintro e w6 ⟨rfl, b6⟩)
      have b56 : Below w5.heap.size w5 w6 := up_tr (box1 w5 _) b6
      have zz6 := b56.size
      replace c20 := (b56.cell (p := ⟨w.heap.size, 0, none⟩) (by first | (simp; done) | (simp; omega))).trans c20
      replace c21 := (b56.cell (p := ⟨w.heap.size, 1, none⟩) (by first | (simp; done) | (simp; omega))).trans c21
      replace c22 := (b56.cell (p := ⟨w.heap.size, 2, none⟩) (by first | (simp; done) | (simp; omega))).trans c22
      replace c30 := (b56.cell (p := ⟨w.heap.size + 1, 0, none⟩) (by first | (simp; done) | (simp; omega))).trans c30
      replace c31 := (b56.cell (p := ⟨w.heap.size + 1, 1, none⟩) (by first | (simp; done) | (simp; omega))).trans c31
      replace c32 := (b56.cell (p := ⟨w.heap.size + 1, 2, none⟩) (by first | (simp; done) | (simp; omega))).trans c32
      replace c33 := (b56.cell (p := ⟨w.heap.size + 1, 3, none⟩) (by first | (simp; done) | (simp; omega))).trans c33
      replace c34 := (b56.cell (p := ⟨w.heap.size + 1, 4, none⟩) (by first | (simp; done) | (simp; omega))).trans c34
      replace c35 := (b56.cell (p := ⟨w.heap.size + 1, 5, none⟩) (by first | (simp; done) | (simp; omega))).trans c35
      replace c36 := (b56.cell (p := ⟨w.heap.size + 1, 6, none⟩) (by first | (simp; done) | (simp; omega))).trans c36
      replace c37 := (b56.cell (p := ⟨w.heap.size + 1, 7, none⟩) (by first | (simp; done) | (simp; omega))).trans c37
      replace f0 := (b56.cell (p := ⟨s3 + 1, 0, none⟩) (by first | (simp; done) | (simp; omega))).trans f0
      replace f1 := (b56.cell (p := ⟨s3 + 1, 1, none⟩) (by first | (simp; done) | (simp; omega))).trans f1
      replace f2 := (b56.cell (p := ⟨s3 + 1, 2, none⟩) (by first | (simp; done) | (simp; omega))).trans f2
      replace f3 := (b56.cell (p := ⟨s3 + 1, 3, none⟩) (by first | (simp; done) | (simp; omega))).trans f3
      replace f4 := (b56.cell (p := ⟨s3 + 1, 4, none⟩) (by first | (simp; done) | (simp; omega))).trans f4
      replace f5 := (b56.cell (p := ⟨s3 + 1, 5, none⟩) (by first | (simp; done) | (simp; omega))).trans f5
      replace f6 := (b56.cell (p := ⟨s3 + 1, 6, none⟩) (by first | (simp; done) | (simp; omega))).trans f6
      replace f7 := (b56.cell (p := ⟨s3 + 1, 7, none⟩) (by first | (simp; done) | (simp; omega))).trans f7
      replace u0 := (b56.cell (p := ⟨s3 + 1 + 1 + 1, 0, none⟩) (by first | (simp; done) | (simp; omega))).trans u0
      replace u1 := (b56.cell (p := ⟨s3 + 1 + 1 + 1, 1, none⟩) (by first | (simp; done) | (simp; omega))).trans u1
      replace u2 := (b56.cell (p := ⟨s3 + 1 + 1 + 1, 2, none⟩) (by first | (simp; done) | (simp; omega))).trans u2
      have BW6 : Hid (Below w.heap.size w w6) := Lib.hid (BW5.out.trans (b56.mono (by omega)))
      have RE6 : Hid (CellsAt w6 s3 0 [.int .u8 op, .int .i64 iv, .string nm, .string sc, .string pl.name, .slice p0 n0 q0, .slice p1 n1 q1, .int .i64 ps]) := Lib.hid (RE5.out.below (by omega) b56)
      have RT6 : Hid (CellsAt w6 (s3 + 1 + 1) 0 [.int .u8 t.kind, .string t.name, .slice pt nt qt]) := Lib.hid (RT5.out.below (by omega) b56)
      have v1 : w.heap.size < w6.heap.size := by omega
      have v2 : w.heap.size + 1 < w6.heap.size := by omega
      have v3 : s3 + 1 < w6.heap.size := by omega
      have v4 : s3 + 1 + 1 + 1 < w6.heap.size := by omega
      clear b6 b56 D2 RE5 RT5 BW5
      have hF := Over.cells (W0 := w6)
      have KO := Lib.hid (fun (n : Over w6) => (show Below w.heap.size w n.w from BW6.out.trans (n.h.mono (by omega))))
      have A1 : Hid (∀ n : Over w6, Calls Tryz.prog 23 #[.agg #[.int .u8 8, .int .i64 0, .string ⟨#[]⟩, .string ⟨#[]⟩, .string ⟨#[]⟩, .slice none 0 0, .slice (some ⟨s3, 0, none⟩) 1 1, .int .i64 0]] n.w fun e w'' => e = .returned (.bool (wholeR 40 (rtE (.mk op iv nm sc pl es ps) 0) && decide (depthR (rtE (.mk op iv nm sc pl es ps) 0) < 40))) ∧ ∃ m : Over w6, w'' = m.w) := Lib.hid fun n => over_calls (by
        have h := topWholeE_calls n.w.heap.size 8 0 ByteArray.empty ByteArray.empty ⟨ByteArray.empty, []⟩ [.mk op iv nm sc pl es ps] 0 none 0 0 (some ⟨s3, 0, none⟩) 1 1 n.w (Nat.le_refl _) (HM.out.below (KO.out n)) ⟨⟨by unfold U8; decide, by unfold I64; decide, by unfold I64; decide, by decide, by decide⟩, ⟨by decide, 0, 0, nil_sl _, trivial⟩, s3, 0, ⟨by unfold maxLen; simp, _, 1, rfl, .inr ⟨rfl, by have := n.h.size; omega⟩⟩, ⟨⟨⟨.slice p0 n0 q0, .slice p1 n1 q1⟩, RE6.out.below (by omega) n.h, EI.out _ (KO.out n)⟩, trivial⟩⟩
        rwa [whole_not] at h)
      have A2 : Hid (∀ n : Over w6, Calls Tryz.prog 23 #[.agg #[.int .u8 op, .int .i64 iv, .string nm, .string sc, .string pl.name, .slice p0 n0 q0, .slice p1 n1 q1, .int .i64 ps]] n.w fun e w'' => e = .returned (.bool (wholeR 40 (rtE (.mk op iv nm sc pl es ps) 0))) ∧ ∃ m : Over w6, w'' = m.w) := Lib.hid fun n => over_calls (topWholeE_calls n.w.heap.size op iv nm sc pl es ps p0 n0 q0 p1 n1 q1 n.w (Nat.le_refl _) (HM.out.below (KO.out n)) (EI.out _ (KO.out n)))
      have A3 : Hid (∀ n : Over w6, Calls Tryz.prog 24 #[.agg #[.int .u8 5, .string ⟨#[]⟩, .slice (some ⟨s3 + 1 + 1, 0, none⟩) 1 1]] n.w fun e w'' => e = .returned (.bool (wholeR 40 (rtT t 0) && decide (depthR (rtT t 0) < 40))) ∧ ∃ m : Over w6, w'' = m.w) := Lib.hid fun n => over_calls (by
        have h := topWholeT_calls n.w.heap.size (.mk 5 ByteArray.empty [t]) (some ⟨s3 + 1 + 1, 0, none⟩) 1 1 n.w (Nat.le_refl _) (HM.out.below (KO.out n)) ⟨⟨by unfold U8; decide, by decide⟩, s3 + 1 + 1, 0, ⟨by unfold maxLen; simp, _, 1, rfl, .inr ⟨rfl, by have := n.h.size; omega⟩⟩, ⟨⟨.slice pt nt qt, RT6.out.below (by omega) n.h, TI.out _ (KO.out n)⟩, trivial⟩⟩
        rwa [whole_box] at h)
      have A4 : Hid (∀ n : Over w6, Calls Tryz.prog 24 #[.agg #[.int .u8 t.kind, .string t.name, .slice pt nt qt]] n.w fun e w'' => e = .returned (.bool (wholeR 40 (rtT t 0))) ∧ ∃ m : Over w6, w'' = m.w) := Lib.hid fun n => over_calls (topWholeT_calls n.w.heap.size t pt nt qt n.w (Nat.le_refl _) (HM.out.below (KO.out n)) (TI.out _ (KO.out n)))
      clear EI TI HM HE HT RE6 RT6 zz5 zz6 y1 y2 y3 y4 x1 x2 z0 z1 z2 zw
      clear dE dT
      generalize depthR (rtE (.mk op iv nm sc pl es ps) 0) = mE at *
      generalize depthR (rtT t 0) = mT at *
      generalize wholeR 40 (rtE (.mk op iv nm sc pl es ps) 0) = g1 at *
      generalize wholeR 40 (rtT t 0) = g2 at *
      cases g1
      · simp only [Bool.false_and] at A1
        cases g2
        · simp only [Bool.false_and] at A3
          as_aux_lemma =>
            refine wp_region_over (by kernel_rfl) (by kernel_rfl) ?_
            repeat (go_big_quiet_step ((first | (go_at_call 23; exact A1.out _) | (go_at_call 23; exact A2.out _) | (go_at_call 24; exact A3.out _) | (go_at_call 24; exact A4.out _))))
            refine wpQuiet_nil ?_
            rintro _ ⟨m, rfl⟩
            have HFm := Lib.hid (KO.out m)
            go_wp2
            go_ret
            exact ⟨rfl, HFm.out⟩
        · by_cases hT : mT < 40
          · rw [decide_eq_true hT, Bool.true_and] at A3
            have lT : decide ((mT : Int) < 40) = true := by simpa using (by omega : (mT : Int) < 40)
            clear hT
            as_aux_lemma =>
              refine wp_region_over (by kernel_rfl) (by kernel_rfl) ?_
              repeat (go_big_quiet_step ((first | (go_at_call 23; exact A1.out _) | (go_at_call 23; exact A2.out _) | (go_at_call 24; exact A3.out _) | (go_at_call 24; exact A4.out _))))
              refine wpQuiet_nil ?_
              rintro _ ⟨m, rfl⟩
              have HFm := Lib.hid (KO.out m)
              go_wp2
              go_ret
              exact ⟨rfl, HFm.out⟩
          · rw [decide_eq_false hT, Bool.and_false] at A3
            have lT : decide ((mT : Int) < 40) = false := by simpa using (by omega : 40 ≤ (mT : Int))
            clear hT
            as_aux_lemma =>
              refine wp_region_over (by kernel_rfl) (by kernel_rfl) ?_
              repeat (go_big_quiet_step ((first | (go_at_call 23; exact A1.out _) | (go_at_call 23; exact A2.out _) | (go_at_call 24; exact A3.out _) | (go_at_call 24; exact A4.out _))))
              refine wpQuiet_nil ?_
              rintro _ ⟨m, rfl⟩
              have HFm := Lib.hid (KO.out m)
              go_wp2
              go_ret
              exact ⟨rfl, HFm.out⟩
      · by_cases hE : mE < 40
        · rw [decide_eq_true hE, Bool.true_and] at A1
          have lE : decide ((mE : Int) < 40) = true := by simpa using (by omega : (mE : Int) < 40)
          clear hE
          cases g2
          · simp only [Bool.false_and] at A3
            as_aux_lemma =>
              refine wp_region_over (by kernel_rfl) (by kernel_rfl) ?_
              repeat (go_big_quiet_step ((first | (go_at_call 23; exact A1.out _) | (go_at_call 23; exact A2.out _) | (go_at_call 24; exact A3.out _) | (go_at_call 24; exact A4.out _))))
              refine wpQuiet_nil ?_
              rintro _ ⟨m, rfl⟩
              have HFm := Lib.hid (KO.out m)
              go_wp2
              go_ret
              exact ⟨rfl, HFm.out⟩
          · by_cases hT : mT < 40
            · rw [decide_eq_true hT, Bool.true_and] at A3
              have lT : decide ((mT : Int) < 40) = true := by simpa using (by omega : (mT : Int) < 40)
              clear hT
              as_aux_lemma =>
                refine wp_region_over (by kernel_rfl) (by kernel_rfl) ?_
                repeat (go_big_quiet_step ((first | (go_at_call 23; exact A1.out _) | (go_at_call 23; exact A2.out _) | (go_at_call 24; exact A3.out _) | (go_at_call 24; exact A4.out _))))
                refine wpQuiet_nil ?_
                rintro _ ⟨m, rfl⟩
                have HFm := Lib.hid (KO.out m)
                go_wp2
                go_ret
                exact ⟨rfl, HFm.out⟩
            · rw [decide_eq_false hT, Bool.and_false] at A3
              have lT : decide ((mT : Int) < 40) = false := by simpa using (by omega : 40 ≤ (mT : Int))
              clear hT
              as_aux_lemma =>
                refine wp_region_over (by kernel_rfl) (by kernel_rfl) ?_
                repeat (go_big_quiet_step ((first | (go_at_call 23; exact A1.out _) | (go_at_call 23; exact A2.out _) | (go_at_call 24; exact A3.out _) | (go_at_call 24; exact A4.out _))))
                refine wpQuiet_nil ?_
                rintro _ ⟨m, rfl⟩
                have HFm := Lib.hid (KO.out m)
                go_wp2
                go_ret
                exact ⟨rfl, HFm.out⟩
        · rw [decide_eq_false hE, Bool.and_false] at A1
          have lE : decide ((mE : Int) < 40) = false := by simpa using (by omega : 40 ≤ (mE : Int))
          clear hE
          cases g2
          · simp only [Bool.false_and] at A3
            as_aux_lemma =>
              refine wp_region_over (by kernel_rfl) (by kernel_rfl) ?_
              repeat (go_big_quiet_step ((first | (go_at_call 23; exact A1.out _) | (go_at_call 23; exact A2.out _) | (go_at_call 24; exact A3.out _) | (go_at_call 24; exact A4.out _))))
              refine wpQuiet_nil ?_
              rintro _ ⟨m, rfl⟩
              have HFm := Lib.hid (KO.out m)
              go_wp2
              go_ret
              exact ⟨rfl, HFm.out⟩
          · by_cases hT : mT < 40
            · rw [decide_eq_true hT, Bool.true_and] at A3
              have lT : decide ((mT : Int) < 40) = true := by simpa using (by omega : (mT : Int) < 40)
              clear hT
              as_aux_lemma =>
                refine wp_region_over (by kernel_rfl) (by kernel_rfl) ?_
                repeat (go_big_quiet_step ((first | (go_at_call 23; exact A1.out _) | (go_at_call 23; exact A2.out _) | (go_at_call 24; exact A3.out _) | (go_at_call 24; exact A4.out _))))
                refine wpQuiet_nil ?_
                rintro _ ⟨m, rfl⟩
                have HFm := Lib.hid (KO.out m)
                go_wp2
                go_ret
                exact ⟨rfl, HFm.out⟩
            · rw [decide_eq_false hT, Bool.and_false] at A3
              have lT : decide ((mT : Int) < 40) = false := by simpa using (by omega : 40 ≤ (mT : Int))
              clear hT
              as_aux_lemma =>
                refine wp_region_over (by kernel_rfl) (by kernel_rfl) ?_
                repeat (go_big_quiet_step ((first | (go_at_call 23; exact A1.out _) | (go_at_call 23; exact A2.out _) | (go_at_call 24; exact A3.out _) | (go_at_call 24; exact A4.out _))))
                refine wpQuiet_nil ?_
                rintro _ ⟨m, rfl⟩
                have HFm := Lib.hid (KO.out m)
                go_wp2
                go_ret
                exact ⟨rfl, HFm.out⟩
end Go.Proofs.YtabncmmadbjegaaGreat
