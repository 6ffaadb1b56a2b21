/- Code: Instr. -/
import Derived.Test.YtlbdoomknjiilaaDoorCodeUnit
import Derived.Test.YtlbdoomknjiilaaDoorOver
namespace Go.Proofs.YtlbdoomknjiilaaDoor
open Go.RowKit
set_option linter.unusedVariables false

theorem instrB_out {u : UU} {fn : Int} {x : JJ} (h : ¬ (0 ≤ fn ∧ fn < u.funcs.length)) : instrB u fn x = false := by
  unfold instrB
  by_cases h0 : 0 ≤ fn
  · rw [if_pos h0, List.getElem?_eq_none (by omega)]
  · rw [if_neg h0]
theorem instrB_in {u : UU} {k : Nat} {f : FF} {x : JJ} (h : u.funcs[k]? = some f) : instrB u k x = mayJ u f x := by
  unfold instrB
  rw [if_pos (by omega), Int.toNat_natCast, h]
set_option maxRecDepth 100000 in
set_option maxHeartbeats 4000000 in
theorem instr0_no (a1 a2 a4 a5 a6 : Option Addr) (n1 n2 n4 n5 n6 c1 c2 c4 c5 c6 : Nat) (mn fn op xa xb xc xi : Int) (nm : ByteArray) (w : World)
    (K0 : Hid (∀ W, Calls Tryd.prog 25 #[.int .i64 fn, .slice a1 n1 c1] W fun e w' => e = .returned (.bool false) ∧ W = w')) :
    Calls Tryd.prog 15 #[.agg #[.slice a1 n1 c1, .int .i64 mn, .slice a2 n2 c2], .int .i64 fn, .agg #[.int .u8 op, .int .i64 xa, .int .i64 xb, .int .i64 xc, .slice a4 n4 c4, .slice a5 n5 c5, .int .i64 xi, .string nm, .slice a6 n6 c6]] w fun e w' =>
      e = .returned (.int .i64 170) ∧ Below w.heap.size w w' := by
  go_enter Tryd.func15, Tryd.ntmps15
  go_wp2_with fail
  obtain ⟨W0, hW⟩ : ∃ W, W = (w.alloc (.cells #[.slice a1 n1 c1, .int .i64 mn, .slice a2 n2 c2] 25)).alloc (.cells #[.int .u8 op, .int .i64 xa, .int .i64 xb, .int .i64 xc, .slice a4 n4 c4, .slice a5 n5 c5, .int .i64 xi, .string nm, .slice a6 n6 c6] 34) := ⟨_, rfl⟩
  have bel0 : Below w.heap.size w W0 := by rw [hW]; exact box2 _ _ _
  have F0 : W0.cell? ⟨w.heap.size, 0, none⟩ = some (.slice a1 n1 c1) := by rw [hW]; go_simp
  have z0 := World.block_lt_of_cell? W0 _ F0
  have f0 : ∀ m : Over W0, m.w.cell? ⟨w.heap.size, 0, none⟩ = some (.slice a1 n1 c1) := fun m => (m.cells _ _ z0).trans F0
  have A0 := Lib.hid fun m : Over W0 => over_calls (n := m) ((K0.out m.w).mono fun e w' ⟨h1, h2⟩ => ⟨h1, h2 ▸ Below.refl _ _⟩)
  rw [← hW]
  clear hW K0 F0
  refine wp_region_over (by kernel_rfl) (by kernel_rfl) ?_
  repeat (go_big_quiet_step ((go_at_call 25; with_reducible exact A0.out _)))
  refine wpQuiet_nil ?_
  rintro _ ⟨m, rfl⟩
  have HB := Lib.hid (bel0.trans (m.h.mono bel0.size))
  generalize m.w = W1 at *
  clear f0 A0 bel0
  go_wp2_with fail
  go_ret
  exact ⟨rfl, HB.out⟩
set_option maxRecDepth 100000 in
set_option maxHeartbeats 4000000 in
theorem instr0_yes (a1 a2 a3 a4 a5 a6 : Option Addr) (n1 n2 n3 n4 n5 n6 c1 c2 c3 c4 c5 c6 : Nat) (mn op xa xb xc xi : Int) (nm : ByteArray) (k b o : Nat) (fnm : ByteArray) (pa sl : Int) (t : Bool) (w : World) (hk : k < n1) (hm : n1 ≤ maxLen) (ha : a1 = some ⟨b, o, none⟩)
    (g0 : w.cell? ⟨b, o + k * 4, none⟩ = some (.string fnm)) (g1 : w.cell? ⟨b, o + k * 4 + 1, none⟩ = some (.int .i64 pa)) (g2 : w.cell? ⟨b, o + k * 4 + 2, none⟩ = some (.int .i64 sl)) (g3 : w.cell? ⟨b, o + k * 4 + 3, none⟩ = some (.slice a3 n3 c3))
    (K0 : Hid (∀ W, Calls Tryd.prog 25 #[.int .i64 k, .slice a1 n1 c1] W fun e w' => e = .returned (.bool true) ∧ W = w'))
    (K1 : Hid (∀ W, Below w.heap.size w W → Calls Tryd.prog 26 #[.agg #[.slice a1 n1 c1, .int .i64 mn, .slice a2 n2 c2, .string fnm, .int .i64 pa, .int .i64 sl, .slice a3 n3 c3], .agg #[.int .u8 op, .int .i64 xa, .int .i64 xb, .int .i64 xc, .slice a4 n4 c4, .slice a5 n5 c5, .int .i64 xi, .string nm, .slice a6 n6 c6]] W fun e w' => e = .returned (.bool t) ∧ Below W.heap.size W w')) :
    Calls Tryd.prog 15 #[.agg #[.slice a1 n1 c1, .int .i64 mn, .slice a2 n2 c2], .int .i64 k, .agg #[.int .u8 op, .int .i64 xa, .int .i64 xb, .int .i64 xc, .slice a4 n4 c4, .slice a5 n5 c5, .int .i64 xi, .string nm, .slice a6 n6 c6]] w fun e w' =>
      e = .returned (.int .i64 (errB t)) ∧ Below w.heap.size w w' := by
  subst ha
  unfold maxLen at hm
  have hk0 : 0 ≤ (k : Int) := by omega
  have hk1 : (k : Int) < (n1 : Int) := by omega
  go_enter Tryd.func15, Tryd.ntmps15
  go_wp2_with fail
  obtain ⟨W0, hW⟩ : ∃ W, W = (w.alloc (.cells #[.slice (some ⟨b, o, none⟩) n1 c1, .int .i64 mn, .slice a2 n2 c2] 25)).alloc (.cells #[.int .u8 op, .int .i64 xa, .int .i64 xb, .int .i64 xc, .slice a4 n4 c4, .slice a5 n5 c5, .int .i64 xi, .string nm, .slice a6 n6 c6] 34) := ⟨_, rfl⟩
  have bel0 : Below w.heap.size w W0 := by rw [hW]; exact box2 _ _ _
  have ov : ∀ (m : Over W0) (p q : Nat) (v : Value), W0.cell? ⟨p, q, none⟩ = some v → m.w.cell? ⟨p, q, none⟩ = some v := fun m p q v h => (m.cells _ _ (World.block_lt_of_cell? W0 _ h)).trans h
  have q0 := fun m => ov m _ _ _ (cell_over g0 bel0)
  have q1 := fun m => ov m _ _ _ (cell_over g1 bel0)
  have q2 := fun m => ov m _ _ _ (cell_over g2 bel0)
  have q3 := fun m => ov m _ _ _ (cell_over g3 bel0)
  have u0 := fun m => ov m w.heap.size 0 (.slice (some ⟨b, o, none⟩) n1 c1) (by rw [hW]; go_simp)
  have u1 := fun m => ov m w.heap.size 1 (.int .i64 mn) (by rw [hW]; go_simp)
  have u2 := fun m => ov m w.heap.size 2 (.slice a2 n2 c2) (by rw [hW]; go_simp)
  have i0 := fun m => ov m (w.heap.size + 1) 0 (.int .u8 op) (by rw [hW]; go_simp)
  have i1 := fun m => ov m (w.heap.size + 1) 1 (.int .i64 xa) (by rw [hW]; go_simp)
  have i2 := fun m => ov m (w.heap.size + 1) 2 (.int .i64 xb) (by rw [hW]; go_simp)
  have i3 := fun m => ov m (w.heap.size + 1) 3 (.int .i64 xc) (by rw [hW]; go_simp)
  have i4 := fun m => ov m (w.heap.size + 1) 4 (.slice a4 n4 c4) (by rw [hW]; go_simp)
  have i5 := fun m => ov m (w.heap.size + 1) 5 (.slice a5 n5 c5) (by rw [hW]; go_simp)
  have i6 := fun m => ov m (w.heap.size + 1) 6 (.int .i64 xi) (by rw [hW]; go_simp)
  have i7 := fun m => ov m (w.heap.size + 1) 7 (.string nm) (by rw [hW]; go_simp)
  have i8 := fun m => ov m (w.heap.size + 1) 8 (.slice a6 n6 c6) (by rw [hW]; go_simp)
  have A0 := Lib.hid fun m : Over W0 => over_calls (n := m) ((K0.out m.w).mono fun e w' ⟨h1, h2⟩ => ⟨h1, h2 ▸ Below.refl _ _⟩)
  have A1 := Lib.hid fun m : Over W0 => over_calls (n := m) (K1.out m.w (bel0.trans (m.h.mono bel0.size)))
  rw [← hW]
  clear hW K0 K1 g0 g1 g2 g3 ov
  cases t with
  | true =>
    refine wp_region_over (by kernel_rfl) (by kernel_rfl) ?_
    repeat (go_big_quiet_step ((first | (go_at_call 25; with_reducible exact A0.out _) | (go_at_call 26; with_reducible exact A1.out _))))
    refine wpQuiet_nil ?_
    rintro _ ⟨m, rfl⟩
    have HB := Lib.hid (bel0.trans (m.h.mono bel0.size))
    generalize m.w = W1 at *
    clear q0 q1 q2 q3 u0 u1 u2 i0 i1 i2 i3 i4 i5 i6 i7 i8 A0 A1 bel0
    go_wp2_with fail
    go_ret
    exact ⟨rfl, HB.out⟩
  | false =>
    refine wp_region_over (by kernel_rfl) (by kernel_rfl) ?_
    repeat (go_big_quiet_step ((first | (go_at_call 25; with_reducible exact A0.out _) | (go_at_call 26; with_reducible exact A1.out _))))
    refine wpQuiet_nil ?_
    rintro _ ⟨m, rfl⟩
    have HB := Lib.hid (bel0.trans (m.h.mono bel0.size))
    generalize m.w = W1 at *
    clear q0 q1 q2 q3 u0 u1 u2 i0 i1 i2 i3 i4 i5 i6 i7 i8 A0 A1 bel0
    go_wp2_with fail
    go_ret
    exact ⟨rfl, HB.out⟩
theorem instr_calls (B : Nat) (u : UU) (vu : VU) (fn : Int) (x : JJ) (v : VJ) (w : World) (hB : B ≤ w.heap.size) (hu : u.In B w vu) (hx : x.In B w v) (hT : RTab w.heap.size w) :
    Calls Tryd.prog 15 #[u.val vu, .int .i64 fn, x.val v] w fun e w' => e = .returned (.int .i64 (errB (instrB u fn x))) ∧ Below w.heap.size w w' := by
  by_cases h : 0 ≤ fn ∧ fn < u.funcs.length
  · obtain ⟨k, rfl⟩ : ∃ k : Nat, fn = k := ⟨fn.toNat, by omega⟩
    obtain ⟨f, hf, hfm⟩ := get_at (l := u.funcs) (k := k) (by omega)
    rw [instrB_in hf]
    obtain ⟨b, o, ⟨hm, ao, cap, hv, hc, h4⟩, hr⟩ := hu.1
    obtain ⟨hao, hbB⟩ := h4.resolve_left (by omega)
    obtain ⟨vc, hcs, hfi⟩ := hr k f hf
    have K0 := fun W => (isNumber_calls k ao u.funcs.length cap W)
    rw [decide_eq_true h.1, decide_eq_true h.2] at K0
    have K1 := fun W (hW : Below w.heap.size w W) => site_calls B u vu f vc x v W (Nat.le_trans hB hW.size) (hu.below (hW.mono hB)) (hfi.below (hW.mono hB)) (hx.below (hW.mono hB)) (fun e => by rw [e] at hf; cases hf) (hT.up hW)
    obtain ⟨a1, c1, a2, c2, rfl⟩ := hu.shape
    obtain ⟨a3, c3, rfl⟩ := GIn.shape hfi.2
    obtain ⟨a4, c4, a5, c5, a6, c6, rfl⟩ := hx.shape
    obtain ⟨rfl, _, rfl⟩ := Value.slice.inj hv
    exact instr0_yes _ a2 a3 a4 a5 a6 _ _ _ _ _ _ _ c2 c3 c4 c5 c6 _ _ _ _ _ _ _ k b o _ _ _ _ w (by omega) hm hao (hcs 0 _ rfl) (hcs 1 _ rfl) (hcs 2 _ rfl) (hcs 3 _ rfl) (Lib.hid K0) (Lib.hid K1)
  · rw [instrB_out h]
    have e2 : (decide (0 ≤ fn) && decide (fn < u.funcs.length)) = false := by
      rw [Bool.and_eq_false_iff, decide_eq_false_iff_not, decide_eq_false_iff_not]; omega
    obtain ⟨a1, c1, a2, c2, rfl⟩ := hu.shape
    obtain ⟨a4, c4, a5, c5, a6, c6, rfl⟩ := hx.shape
    have K0 := fun W => (isNumber_calls fn a1 u.funcs.length c1 W)
    rw [e2] at K0
    exact instr0_no a1 a2 a4 a5 a6 _ _ _ _ _ c1 c2 c4 c5 c6 _ _ _ _ _ _ _ _ w (Lib.hid K0)
end Go.Proofs.YtlbdoomknjiilaaDoor
