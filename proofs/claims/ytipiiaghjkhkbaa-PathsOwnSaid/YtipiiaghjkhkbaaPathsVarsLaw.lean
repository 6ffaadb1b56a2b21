/- PathsVars: places of unlike variables never meet; a variable alone begins all its places. -/
import Derived.Test.YtipiiaghjkhkbaaPathsKit
namespace Go.Proofs.Ytipiiaghjkhkbaa
open Go.RowKit
set_option linter.unusedVariables false

theorem meet_comm (a b : PP) : meetP a b = meetP b a := by unfold meetP; exact Bool.or_comm _ _
theorem root_begins {x y : PP} (h : keyS x.name = keyS y.name) : begP ⟨x.name, []⟩ y = true :=
  beg_yes (a := ⟨x.name, []⟩) h (Nat.zero_le _) fun j u v hu => by cases hu
theorem meet_no_name {x y : PP} (h : ¬ keyS x.name = keyS y.name) : meetP x y = false := by
  unfold meetP
  rw [beg_no_name h, beg_no_name (fun e => h e.symm)]
  rfl
theorem meet_root {x y : PP} (h : keyS x.name = keyS y.name) : meetP ⟨x.name, []⟩ y = true := by
  unfold meetP
  rw [root_begins h]
  rfl
theorem root_row (x : PP) (B : Nat) (v : Value) (w : World) (hB : B ≤ w.heap.size) (hx : x.In B w v) :
    Calls Try.prog 28 #[.agg #[.string x.name, v]] w fun e w' => ∃ ao cap, e = .returned (.agg #[.string x.name, .slice ao 0 cap]) ∧ Hid (PP.In w'.heap.size w' ⟨x.name, []⟩ (.slice ao 0 cap)) ∧ Below w.heap.size w w' := by
  refine (root_calls x B v w hB hx).mono ?_
  rintro e w' ⟨v', he, ho, hb⟩
  have hi : PP.In w'.heap.size w' ⟨x.name, []⟩ v' := ⟨hx.1, own_S (l := []) ho (fun s hs => by cases hs) (Nat.zero_le _)⟩
  obtain ⟨ao, cap, rfl⟩ := hi.shape
  exact ⟨ao, cap, he, Lib.hid hi, hb⟩

set_option maxRecDepth 100000 in
set_option maxHeartbeats 4000000 in
theorem pathsVars_walk (w : World) (x : PP) (va : Value) (h1 : x.In w.heap.size w va) (y : PP) (vb : Value) (h2 : y.In w.heap.size w vb) :
    Calls Try.prog 9 #[.agg #[.string x.name, va], .agg #[.string y.name, vb]] w fun e w' => e = .returned (.bool true) ∧ Below w.heap.size w w' := by
  have L1 := Lib.hid fun W (h : Below w.heap.size w W) => long_calls x w.heap.size va W h.size (h1.below h)
  have L2 := Lib.hid fun W (h : Below w.heap.size w W) => long_calls y w.heap.size vb W h.size (h2.below h)
  have C0 := Lib.hid fun W (h : Below w.heap.size w W) => root_row x w.heap.size va W h.size (h1.below h)
  have C1 := Lib.hid fun W (h : Below w.heap.size w W) => meets_calls w.heap.size x y va vb W h.size (h1.below h) (h2.below h)
  have C2 := Lib.hid fun W (h : Below w.heap.size w W) => meets_calls w.heap.size y x vb va W h.size (h2.below h) (h1.below h)
  have C3 : Hid (∀ (W1 W : World) v, Hid (PP.In W1.heap.size W1 ⟨x.name, []⟩ v) → Below W1.heap.size W1 W → Below w.heap.size w W → Calls Try.prog 14 #[.agg #[.string x.name, v], .agg #[.string x.name, va]] W fun e w' => e = .returned (.bool true) ∧ Below W.heap.size W w') := Lib.hid fun W1 W v hv hb hw => by
    have := begins_calls W.heap.size ⟨x.name, []⟩ x v va W (Nat.le_refl _) ((hv.out.below hb).mono hb.size) ((h1.below hw).mono hw.size)
    rwa [root_begins rfl] at this
  have C4 : Hid (∀ (W1 W : World) v, Hid (PP.In W1.heap.size W1 ⟨x.name, []⟩ v) → Below W1.heap.size W1 W → Below w.heap.size w W → Calls Try.prog 16 #[.agg #[.string x.name, v], .agg #[.string y.name, vb]] W fun e w' => e = .returned (.bool (meetP ⟨x.name, []⟩ y)) ∧ Below W.heap.size W w') := Lib.hid fun W1 W v hv hb hw =>
    meets_calls W.heap.size ⟨x.name, []⟩ y v vb W (Nat.le_refl _) ((hv.out.below hb).mono hb.size) ((h2.below hw).mono hw.size)
  rw [meet_comm y x] at C2
  have T1 := Lib.hid (@meet_root x y)
  have T2 := Lib.hid (@meet_no_name x y)
  have T3 := Lib.hid (@meet_no_name ⟨x.name, []⟩ y)
  obtain ⟨ao1, cap1, rfl⟩ := h1.shape
  obtain ⟨ao2, cap2, rfl⟩ := h2.shape
  generalize longP x = l1 at *
  generalize longP y = l2 at *
  generalize meetP ⟨x.name, []⟩ y = r0 at *
  generalize meetP x y = rm at *
  generalize x.path.length = n1 at *
  generalize y.path.length = n2 at *
  have hxx : (⟨x.name, []⟩ : PP).name = x.name := rfl
  generalize hs1 : x.name = s1 at *
  generalize y.name = s2 at *
  clear h1 h2 hs1 hxx
  go_enter Try.func9, Try.ntmps9
  go_wp2_with fail
  obtain ⟨W0, hW⟩ : ∃ W, W = (w.alloc (.cells #[.string s1, .slice ao1 n1 cap1] 24)).alloc (.cells #[.string s2, .slice ao2 n2 cap2] 24) := ⟨_, rfl⟩
  have f0 : W0.cell? ⟨w.heap.size, 0, none⟩ = some (.string s1) := by rw [hW]; go_simp
  have f1 : W0.cell? ⟨w.heap.size, 1, none⟩ = some (.slice ao1 n1 cap1) := by rw [hW]; go_simp
  have g0 : W0.cell? ⟨w.heap.size + 1, 0, none⟩ = some (.string s2) := by rw [hW]; go_simp
  have g1 : W0.cell? ⟨w.heap.size + 1, 1, none⟩ = some (.slice ao2 n2 cap2) := by rw [hW]; go_simp
  have z2 : w.heap.size + 1 < W0.heap.size := by rw [hW]; simp
  have z1 : w.heap.size < W0.heap.size := by omega
  have bel0 : Below w.heap.size w W0 := by rw [hW]; exact box2 _ _ _
  rw [← hW]
  clear hW
  refine (L1.out W0 bel0).mono ?_
  rintro e w1 ⟨rfl, b1⟩
  obtain ⟨f0, f1, z1⟩ := pl_up z1 b1 f0 f1
  obtain ⟨g0, g1, z2⟩ := pl_up z2 b1 g0 g1
  have Hb := Lib.hid (bel0.trans (b1.mono bel0.size))
  clear b1 L1 bel0
  cases l1
  rotate_left
  · go_wp2_with fail
    refine (awake_calls w1).mono ?_
    rintro e w2 ⟨rfl, b1⟩
    have Hb := Lib.hid (Hb.out.trans (b1.mono Hb.out.size))
    clear b1
    go_wp2_with fail
    go_ret
    exact ⟨rfl, Hb.out⟩
  go_wp2_with fail
  refine (L2.out w1 Hb.out).mono ?_
  rintro e w2 ⟨rfl, b1⟩
  obtain ⟨f0, f1, z1⟩ := pl_up z1 b1 f0 f1
  obtain ⟨g0, g1, z2⟩ := pl_up z2 b1 g0 g1
  have Hb := Lib.hid (Hb.out.trans (b1.mono Hb.out.size))
  clear b1 L2
  cases l2
  rotate_left
  · go_wp2_with fail
    refine (awake_calls w2).mono ?_
    rintro e w3 ⟨rfl, b1⟩
    have Hb := Lib.hid (Hb.out.trans (b1.mono Hb.out.size))
    clear b1
    go_wp2_with fail
    go_ret
    exact ⟨rfl, Hb.out⟩
  go_wp2_with fail
  refine (C0.out w2 Hb.out).mono ?_
  rintro e w3 ⟨ao3, cap3, rfl, HR, b1⟩
  obtain ⟨f0, f1, z1⟩ := pl_up z1 b1 f0 f1
  obtain ⟨g0, g1, z2⟩ := pl_up z2 b1 g0 g1
  have Hb := Lib.hid (Hb.out.trans (b1.mono Hb.out.size))
  obtain ⟨W4, hW⟩ : ∃ W, W = w3.alloc (.cells #[.string s1, .slice ao3 0 cap3] 24) := ⟨_, rfl⟩
  have k0 : W4.cell? ⟨w3.heap.size, 0, none⟩ = some (.string s1) := by rw [hW]; go_simp
  have k1 : W4.cell? ⟨w3.heap.size, 1, none⟩ = some (.slice ao3 0 cap3) := by rw [hW]; go_simp
  have z3 : w3.heap.size < W4.heap.size := by rw [hW]; simp
  have b4 : Below w3.heap.size w3 W4 := by rw [hW]; exact box1 _ _
  obtain ⟨f0, f1, z1⟩ := pl_up z1 b4 f0 f1
  obtain ⟨g0, g1, z2⟩ := pl_up z2 b4 g0 g1
  have Hb := Lib.hid (Hb.out.trans (b4.mono Hb.out.size))
  have K : ∀ m : Over W4, Below w.heap.size w m.w := fun m => Hb.out.trans (m.h.mono Hb.out.size)
  have K2 : ∀ m : Over W4, Below w3.heap.size w3 m.w := fun m => b4.trans (m.h.mono b4.size)
  have hF := Over.cells (W0 := W4)
  have A1 := Lib.hid fun m : Over W4 => over_calls (C1.out m.w (K m))
  have A2 := Lib.hid fun m : Over W4 => over_calls (C2.out m.w (K m))
  have A3 := Lib.hid fun m : Over W4 => over_calls (C3.out w3 m.w _ HR (K2 m) (K m))
  have A4 := Lib.hid fun m : Over W4 => over_calls (C4.out w3 m.w _ HR (K2 m) (K m))
  have A7 := Lib.hid fun m : Over W4 => over_calls (awake_calls m.w)
  have HK := Lib.hid K
  clear b1 C0 C3 C4 HR K K2
  go_wp2_with fail
  rw [← hW]
  clear hW b4
  by_cases hn : keyS s1 = keyS s2
  · obtain rfl : r0 = true := T1.out hn
    have e1 := str_eq hn
    clear hn T1 T2 T3
    refine wp_region_over (by kernel_rfl) (by kernel_rfl) ?_
    repeat (go_big_quiet_step ((first | (go_at_call 14; exact A3.out _) | (go_at_call 16; with_reducible exact A4.out _))))
    refine wpQuiet_nil ?_
    rintro _ ⟨q, rfl⟩
    obtain ⟨f0, f1, z1⟩ := pl_up z1 q.h f0 f1
    obtain ⟨g0, g1, z2⟩ := pl_up z2 q.h g0 g1
    have Hb := Lib.hid (HK.out q)
    generalize q.w = W5 at *
    have hF := Over.cells (W0 := W5)
    have K : ∀ m : Over W5, Below w.heap.size w m.w := fun m => Hb.out.trans (m.h.mono Hb.out.size)
    have A1 := Lib.hid fun m : Over W5 => over_calls (C1.out m.w (K m))
    have A2 := Lib.hid fun m : Over W5 => over_calls (C2.out m.w (K m))
    have A7 := Lib.hid fun m : Over W5 => over_calls (awake_calls m.w)
    have HK := Lib.hid K
    clear K A3 A4
    go_wp2_with fail
    refine wp_region_over (by kernel_rfl) (by kernel_rfl) ?_
    repeat (go_big_quiet_step ((first | (go_at_call 16; with_reducible exact A1.out _) | (go_at_call 16; with_reducible exact A2.out _) | (go_at_call 18; exact A7.out _))))
    refine wpQuiet_nil ?_
    rintro _ ⟨q', rfl⟩
    have HF := Lib.hid (HK.out q')
    clear A1 A2 A7 HK hF
    go_wp2_with fail
    go_ret
    exact ⟨rfl, HF.out⟩
  · obtain rfl : r0 = false := T3.out hn
    obtain rfl : rm = false := T2.out hn
    have e1 := str_ne hn
    clear hn T1 T2 T3
    refine wp_region_over (by kernel_rfl) (by kernel_rfl) ?_
    repeat (go_big_quiet_step ((first | (go_at_call 14; exact A3.out _) | (go_at_call 16; with_reducible exact A4.out _))))
    refine wpQuiet_nil ?_
    rintro _ ⟨q, rfl⟩
    obtain ⟨f0, f1, z1⟩ := pl_up z1 q.h f0 f1
    obtain ⟨g0, g1, z2⟩ := pl_up z2 q.h g0 g1
    have Hb := Lib.hid (HK.out q)
    generalize q.w = W5 at *
    have hF := Over.cells (W0 := W5)
    have K : ∀ m : Over W5, Below w.heap.size w m.w := fun m => Hb.out.trans (m.h.mono Hb.out.size)
    have A1 := Lib.hid fun m : Over W5 => over_calls (C1.out m.w (K m))
    have A2 := Lib.hid fun m : Over W5 => over_calls (C2.out m.w (K m))
    have A7 := Lib.hid fun m : Over W5 => over_calls (awake_calls m.w)
    have HK := Lib.hid K
    clear K A3 A4
    go_wp2_with fail
    refine wp_region_over (by kernel_rfl) (by kernel_rfl) ?_
    repeat (go_big_quiet_step ((first | (go_at_call 16; with_reducible exact A1.out _) | (go_at_call 16; with_reducible exact A2.out _) | (go_at_call 18; exact A7.out _))))
    refine wpQuiet_nil ?_
    rintro _ ⟨q', rfl⟩
    have HF := Lib.hid (HK.out q')
    clear A1 A2 A7 HK hF
    go_wp2_with fail
    go_ret
    exact ⟨rfl, HF.out⟩
end Go.Proofs.Ytipiiaghjkhkbaa
