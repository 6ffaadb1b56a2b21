/- Text of an instruction whose Op is known (made by gen_codetext.py). -/
import Derived.Test.YtlbdoomknjiilaaDoorCodeText2
import Derived.Test.YtlbdoomknjiilaaDoorCodeFunc
import Derived.Test.YtlbdoomknjiilaaDoorOver
import Derived.Test.YtlbdoomknjiilaaDoorHead
namespace Go.Proofs.YtlbdoomknjiilaaDoor
open Go.RowKit
set_option linter.unusedVariables false

theorem wp_region_overn {P : Program} {id : Nat} {Q : Exit → Act → World → Prop} {a : Act} {w : World} {l : List Oper} (n : Nat)
    (hm : P.follows .mixedOrders = true) (hB : headB l n = true)
    (h : wpQuiet P l.toArray (fun w' => ∃ m : Over w, w' = m.w) (fun a' => ∀ w', (∃ m : Over w, w' = m.w) → wpList P l.toArray Q (l.drop n) a' w') (l.take n) a) : (Code.region id l.toArray true).wp P Q a w :=
  wp_region_headn (C := fun w' => ∃ m : Over w, w' = m.w) n hm hB ⟨⟨w.drew, (Below.refl _ w).drew⟩, rfl⟩ h
theorem putT_len (l : List UInt8) (h : Bool) (s : List UInt8) : (putT l h s).length ≤ l.length + s.length + 1 := by
  unfold putT
  split
  · simp; omega
  · omega
theorem dsize (s : ByteArray) : s.data.toList.length = s.size := by rw [Array.length_toList]; rfl
set_option maxRecDepth 100000 in
set_option maxHeartbeats 8000000 in
theorem text0_walk (a4 a5 a6 : Option Addr) (n4 n5 n6 c4 c5 c6 : Nat) (op xa xb xc xi ra rb ri : Int) (rp rs rn : Bool) (nm S sA sB sI sP sS : ByteArray) (w : World)
    (z1 : S.size ≤ 1000000) (z2 : sA.size ≤ 1000000) (z3 : sB.size ≤ 1000000) (z4 : sI.size ≤ 1000000) (z5 : sP.size ≤ 1000000) (z6 : sS.size ≤ 1000000) (z7 : nm.size ≤ 1000000)
    (R1 : Hid (∀ W, Hid (Below w.heap.size w W) → Calls Tryd.prog 39 #[.int .u8 op] W fun e w' => e = .returned (.agg #[.string S, .int .u8 ra, .int .u8 rb, .int .u8 ri, .bool rp, .bool rs, .bool rn]) ∧ Below W.heap.size W w'))
    (K0 : Hid (∀ W, Hid (Below w.heap.size w W) → Calls Tryd.prog 40 #[.agg #[.string S, .int .u8 ra, .int .u8 rb, .int .u8 ri, .bool rp, .bool rs, .bool rn]] W fun e w' => e = .returned (.bool true) ∧ Below W.heap.size W w'))
    (KA : Hid (∀ W, Hid (Below w.heap.size w W) → Calls Tryd.prog 44 #[.int .i64 xa] W fun e w' => e = .returned (.string sA) ∧ w' = W))
    (KB : Hid (∀ W, Hid (Below w.heap.size w W) → Calls Tryd.prog 44 #[.int .i64 xb] W fun e w' => e = .returned (.string sB) ∧ w' = W))
    (KI : Hid (∀ W, Hid (Below w.heap.size w W) → Calls Tryd.prog 47 #[.int .i64 xi, .int .i64 10] W fun e w' => e = .returned (.string sI) ∧ w' = W))
    (KP : Hid (∀ W, Hid (Below w.heap.size w W) → Calls Tryd.prog 45 #[.slice a5 n5 c5] W fun e w' => e = .returned (.string sP) ∧ Below W.heap.size W w'))
    (KS : Hid (∀ W, Hid (Below w.heap.size w W) → Calls Tryd.prog 46 #[.slice a4 n4 c4] W fun e w' => e = .returned (.string sS) ∧ Below W.heap.size W w')) :
    Calls Tryd.prog 24 #[.agg #[.int .u8 op, .int .i64 xa, .int .i64 xb, .int .i64 xc, .slice a4 n4 c4, .slice a5 n5 c5, .int .i64 xi, .string nm, .slice a6 n6 c6]] w fun e w' => e = .returned (.string ⟨(putT (putT (putT (putT (putT (putT S.data.toList (ra != 0) sA.data.toList) rp sP.data.toList) (rb != 0) sB.data.toList) rs sS.data.toList) (ri != 0) sI.data.toList) rn nm.data.toList).toArray⟩) ∧ Below w.heap.size w w' := by
  have hE := put_enters
  obtain ⟨l1, e1⟩ : ∃ l, l = putT S.data.toList (ra != 0) sA.data.toList := ⟨_, rfl⟩
  obtain ⟨l2, e2⟩ : ∃ l, l = putT l1 rp sP.data.toList := ⟨_, rfl⟩
  obtain ⟨l3, e3⟩ : ∃ l, l = putT l2 (rb != 0) sB.data.toList := ⟨_, rfl⟩
  obtain ⟨l4, e4⟩ : ∃ l, l = putT l3 rs sS.data.toList := ⟨_, rfl⟩
  obtain ⟨l5, e5⟩ : ∃ l, l = putT l4 (ri != 0) sI.data.toList := ⟨_, rfl⟩
  obtain ⟨l6, e6⟩ : ∃ l, l = putT l5 rn nm.data.toList := ⟨_, rfl⟩
  rw [← e1, ← e2, ← e3, ← e4, ← e5, ← e6]
  have y1 := putT_len S.data.toList (ra != 0) sA.data.toList
  have y2 := putT_len l1 rp sP.data.toList
  have y3 := putT_len l2 (rb != 0) sB.data.toList
  have y4 := putT_len l3 rs sS.data.toList
  have y5 := putT_len l4 (ri != 0) sI.data.toList
  rw [← e1, dsize, dsize] at y1
  rw [← e2, dsize] at y2
  rw [← e3, dsize] at y3
  rw [← e4, dsize] at y4
  rw [← e5, dsize] at y5
  have E1 := Lib.hid e1
  have E2 := Lib.hid e2
  have E3 := Lib.hid e3
  have E4 := Lib.hid e4
  have E5 := Lib.hid e5
  have E6 := Lib.hid e6
  clear e1 e2 e3 e4 e5 e6
  have mB := Lib.hid (box1 w (.cells #[.int .u8 op, .int .i64 xa, .int .i64 xb, .int .i64 xc, .slice a4 n4 c4, .slice a5 n5 c5, .int .i64 xi, .string nm, .slice a6 n6 c6] 34))
  have z0 : w.heap.size < (w.alloc (.cells #[.int .u8 op, .int .i64 xa, .int .i64 xb, .int .i64 xc, .slice a4 n4 c4, .slice a5 n5 c5, .int .i64 xi, .string nm, .slice a6 n6 c6] 34)).heap.size := by simp
  go_enter Tryd.func24, Tryd.ntmps24
  go_wp2_with fail
  (with_reducible refine (R1.out _ mB).mono ?_)
  rintro e w1 ⟨rfl, b1⟩
  have H1 := hid_upC mB b1
  have i0 := (b1.cell (p := ⟨w.heap.size, 0, none⟩) z0).trans (show _ = some (Value.int .u8 op) by go_simp)
  have i1 := (b1.cell (p := ⟨w.heap.size, 1, none⟩) z0).trans (show _ = some (Value.int .i64 xa) by go_simp)
  have i2 := (b1.cell (p := ⟨w.heap.size, 2, none⟩) z0).trans (show _ = some (Value.int .i64 xb) by go_simp)
  have i3 := (b1.cell (p := ⟨w.heap.size, 3, none⟩) z0).trans (show _ = some (Value.int .i64 xc) by go_simp)
  have i4 := (b1.cell (p := ⟨w.heap.size, 4, none⟩) z0).trans (show _ = some (Value.slice a4 n4 c4) by go_simp)
  have i5 := (b1.cell (p := ⟨w.heap.size, 5, none⟩) z0).trans (show _ = some (Value.slice a5 n5 c5) by go_simp)
  have i6 := (b1.cell (p := ⟨w.heap.size, 6, none⟩) z0).trans (show _ = some (Value.int .i64 xi) by go_simp)
  have i7 := (b1.cell (p := ⟨w.heap.size, 7, none⟩) z0).trans (show _ = some (Value.string nm) by go_simp)
  have i8 := (b1.cell (p := ⟨w.heap.size, 8, none⟩) z0).trans (show _ = some (Value.slice a6 n6 c6) by go_simp)
  have zz : w.heap.size < w1.heap.size := Nat.lt_of_lt_of_le z0 b1.size
  clear b1 mB z0 R1
  go_wp2_with fail
  have mR := hid_upC H1 (box1 w1 (.cells #[.string S, .int .u8 ra, .int .u8 rb, .int .u8 ri, .bool rp, .bool rs, .bool rn] 79))
  have zr : w1.heap.size < (w1.alloc (.cells #[.string S, .int .u8 ra, .int .u8 rb, .int .u8 ri, .bool rp, .bool rs, .bool rn] 79)).heap.size := by simp
  (with_reducible refine (K0.out _ mR).mono ?_)
  rintro e w2 ⟨rfl, b2⟩
  have H2 := hid_upC mR b2
  have r0 := (b2.cell (p := ⟨w1.heap.size, 0, none⟩) zr).trans (show _ = some (Value.string S) by go_simp)
  have r1 := (b2.cell (p := ⟨w1.heap.size, 1, none⟩) zr).trans (show _ = some (Value.int .u8 ra) by go_simp)
  have r2 := (b2.cell (p := ⟨w1.heap.size, 2, none⟩) zr).trans (show _ = some (Value.int .u8 rb) by go_simp)
  have r3 := (b2.cell (p := ⟨w1.heap.size, 3, none⟩) zr).trans (show _ = some (Value.int .u8 ri) by go_simp)
  have r4 := (b2.cell (p := ⟨w1.heap.size, 4, none⟩) zr).trans (show _ = some (Value.bool rp) by go_simp)
  have r5 := (b2.cell (p := ⟨w1.heap.size, 5, none⟩) zr).trans (show _ = some (Value.bool rs) by go_simp)
  have r6 := (b2.cell (p := ⟨w1.heap.size, 6, none⟩) zr).trans (show _ = some (Value.bool rn) by go_simp)
  have i0 := cell_over (cell_over i0 (box1 w1 (.cells #[.string S, .int .u8 ra, .int .u8 rb, .int .u8 ri, .bool rp, .bool rs, .bool rn] 79))) b2
  have i1 := cell_over (cell_over i1 (box1 w1 (.cells #[.string S, .int .u8 ra, .int .u8 rb, .int .u8 ri, .bool rp, .bool rs, .bool rn] 79))) b2
  have i2 := cell_over (cell_over i2 (box1 w1 (.cells #[.string S, .int .u8 ra, .int .u8 rb, .int .u8 ri, .bool rp, .bool rs, .bool rn] 79))) b2
  have i3 := cell_over (cell_over i3 (box1 w1 (.cells #[.string S, .int .u8 ra, .int .u8 rb, .int .u8 ri, .bool rp, .bool rs, .bool rn] 79))) b2
  have i4 := cell_over (cell_over i4 (box1 w1 (.cells #[.string S, .int .u8 ra, .int .u8 rb, .int .u8 ri, .bool rp, .bool rs, .bool rn] 79))) b2
  have i5 := cell_over (cell_over i5 (box1 w1 (.cells #[.string S, .int .u8 ra, .int .u8 rb, .int .u8 ri, .bool rp, .bool rs, .bool rn] 79))) b2
  have i6 := cell_over (cell_over i6 (box1 w1 (.cells #[.string S, .int .u8 ra, .int .u8 rb, .int .u8 ri, .bool rp, .bool rs, .bool rn] 79))) b2
  have i7 := cell_over (cell_over i7 (box1 w1 (.cells #[.string S, .int .u8 ra, .int .u8 rb, .int .u8 ri, .bool rp, .bool rs, .bool rn] 79))) b2
  have i8 := cell_over (cell_over i8 (box1 w1 (.cells #[.string S, .int .u8 ra, .int .u8 rb, .int .u8 ri, .bool rp, .bool rs, .bool rn] 79))) b2
  have zq : w1.heap.size < w2.heap.size := Nat.lt_of_lt_of_le zr b2.size
  have zx : w.heap.size < w2.heap.size := by omega
  clear b2 mR zr K0 H1
  go_upto_region 5 with (fail)
  obtain ⟨W3, hW⟩ : ∃ W, W = w2.alloc (.cells #[.pointer none, .slice none 0 0] 84) := ⟨_, rfl⟩
  have hI0 : IsB w2.heap.size w2.heap.size [] W3 := by rw [hW]; exact IsB.new
  have H3 : Hid (Below w.heap.size w W3) := by rw [hW]; exact hid_upC H2 (box1 _ _)
  have z3' : w2.heap.size ≤ W3.heap.size := by rw [hW]; simp
  have i0 := step_of hW i0
  have i1 := step_of hW i1
  have i2 := step_of hW i2
  have i3 := step_of hW i3
  have i4 := step_of hW i4
  have i5 := step_of hW i5
  have i6 := step_of hW i6
  have i7 := step_of hW i7
  have i8 := step_of hW i8
  have r0 := step_of hW r0
  have r1 := step_of hW r1
  have r2 := step_of hW r2
  have r3 := step_of hW r3
  have r4 := step_of hW r4
  have r5 := step_of hW r5
  have r6 := step_of hW r6
  rw [← hW]
  clear hW H2
  obtain ⟨G, hG⟩ : ∃ G, G = w2.heap.size := ⟨_, rfl⟩
  have HG := Lib.hid hG
  rw [← hG] at hI0 z3' zq zx ⊢
  have HGw : Hid (w.heap.size ≤ G) := Lib.hid (by omega)
  clear hG
  go_wp2_with fail
  refine (writeString_calls G G _ S W3 hI0.cells (by rw [Lib.byteCells_length]; simp; omega) z3').mono ?_
  rintro e v0 ⟨rfl, h0, b0⟩
  have I0 : Hid (IsB G G S.data.toList v0) := Lib.hid (by have := IsB.wrote h0; simpa using this)
  have B0 := Lib.hid b0
  have s0 : G ≤ v0.heap.size := Nat.le_trans z3' b0.size
  have i0 := (b0.cell (p := ⟨w.heap.size, 0, none⟩) zx).trans i0
  have i1 := (b0.cell (p := ⟨w.heap.size, 1, none⟩) zx).trans i1
  have i2 := (b0.cell (p := ⟨w.heap.size, 2, none⟩) zx).trans i2
  have i3 := (b0.cell (p := ⟨w.heap.size, 3, none⟩) zx).trans i3
  have i4 := (b0.cell (p := ⟨w.heap.size, 4, none⟩) zx).trans i4
  have i5 := (b0.cell (p := ⟨w.heap.size, 5, none⟩) zx).trans i5
  have i6 := (b0.cell (p := ⟨w.heap.size, 6, none⟩) zx).trans i6
  have i7 := (b0.cell (p := ⟨w.heap.size, 7, none⟩) zx).trans i7
  have i8 := (b0.cell (p := ⟨w.heap.size, 8, none⟩) zx).trans i8
  have r0 := (b0.cell (p := ⟨w1.heap.size, 0, none⟩) zq).trans r0
  have r1 := (b0.cell (p := ⟨w1.heap.size, 1, none⟩) zq).trans r1
  have r2 := (b0.cell (p := ⟨w1.heap.size, 2, none⟩) zq).trans r2
  have r3 := (b0.cell (p := ⟨w1.heap.size, 3, none⟩) zq).trans r3
  have r4 := (b0.cell (p := ⟨w1.heap.size, 4, none⟩) zq).trans r4
  have r5 := (b0.cell (p := ⟨w1.heap.size, 5, none⟩) zq).trans r5
  have r6 := (b0.cell (p := ⟨w1.heap.size, 6, none⟩) zq).trans r6
  clear b0 h0 hI0
  go_wp2_with fail
  have ox := fun m : Over v0 => cell_over i1 m.h
  have or := fun m : Over v0 => cell_over r1 m.h
  have HD0 := Lib.hid (H3.out.trans (B0.out.mono HGw.out))
  have K := Lib.hid fun m : Over v0 => over_calls (n := m) ((KA.out m.w (Lib.hid (HD0.out.trans (m.h.mono HD0.out.size)))).mono fun e w' ⟨h1, h2⟩ => ⟨h1, h2 ▸ Below.refl _ _⟩)
  refine wp_region_overn 7 (by kernel_rfl) (by kernel_rfl) ?_
  simp only [List.take_succ_cons, List.take_zero, List.drop_succ_cons, List.drop_zero]
  repeat (go_big_quiet_step ((go_at_call 44; with_reducible exact K.out _)))
  refine wpQuiet_nil ?_
  rintro _ ⟨m, rfl⟩
  have J := Lib.hid (I0.out.stays m.h)
  have BJ := Lib.hid (B0.out.trans (m.h.mono s0))
  have sj : G ≤ m.w.heap.size := Nat.le_trans s0 m.h.size
  generalize m.w = mw at *
  clear ox or K m
  go_wp2_with fail
  refine (put_calls G G S.data.toList (ra != 0) sA mw J.out (by first | (rw [dsize]; omega) | omega) sj).mono ?_
  rintro e v1 ⟨rfl, hk, bk⟩
  have I1 : Hid (IsB G G l1 v1) := Lib.hid (by rw [E1.out]; exact hk)
  have B1 := Lib.hid (BJ.out.trans bk)
  have s1 : G ≤ v1.heap.size := Nat.le_trans sj bk.size
  have i0 : v1.cell? ⟨w.heap.size, 0, none⟩ = some _ := (B1.out.cell (p := ⟨w.heap.size, 0, none⟩) zx).trans ((B0.out.cell (p := ⟨w.heap.size, 0, none⟩) zx).symm.trans i0)
  have i1 : v1.cell? ⟨w.heap.size, 1, none⟩ = some _ := (B1.out.cell (p := ⟨w.heap.size, 1, none⟩) zx).trans ((B0.out.cell (p := ⟨w.heap.size, 1, none⟩) zx).symm.trans i1)
  have i2 : v1.cell? ⟨w.heap.size, 2, none⟩ = some _ := (B1.out.cell (p := ⟨w.heap.size, 2, none⟩) zx).trans ((B0.out.cell (p := ⟨w.heap.size, 2, none⟩) zx).symm.trans i2)
  have i3 : v1.cell? ⟨w.heap.size, 3, none⟩ = some _ := (B1.out.cell (p := ⟨w.heap.size, 3, none⟩) zx).trans ((B0.out.cell (p := ⟨w.heap.size, 3, none⟩) zx).symm.trans i3)
  have i4 : v1.cell? ⟨w.heap.size, 4, none⟩ = some _ := (B1.out.cell (p := ⟨w.heap.size, 4, none⟩) zx).trans ((B0.out.cell (p := ⟨w.heap.size, 4, none⟩) zx).symm.trans i4)
  have i5 : v1.cell? ⟨w.heap.size, 5, none⟩ = some _ := (B1.out.cell (p := ⟨w.heap.size, 5, none⟩) zx).trans ((B0.out.cell (p := ⟨w.heap.size, 5, none⟩) zx).symm.trans i5)
  have i6 : v1.cell? ⟨w.heap.size, 6, none⟩ = some _ := (B1.out.cell (p := ⟨w.heap.size, 6, none⟩) zx).trans ((B0.out.cell (p := ⟨w.heap.size, 6, none⟩) zx).symm.trans i6)
  have i7 : v1.cell? ⟨w.heap.size, 7, none⟩ = some _ := (B1.out.cell (p := ⟨w.heap.size, 7, none⟩) zx).trans ((B0.out.cell (p := ⟨w.heap.size, 7, none⟩) zx).symm.trans i7)
  have i8 : v1.cell? ⟨w.heap.size, 8, none⟩ = some _ := (B1.out.cell (p := ⟨w.heap.size, 8, none⟩) zx).trans ((B0.out.cell (p := ⟨w.heap.size, 8, none⟩) zx).symm.trans i8)
  have r0 : v1.cell? ⟨w1.heap.size, 0, none⟩ = some _ := (B1.out.cell (p := ⟨w1.heap.size, 0, none⟩) zq).trans ((B0.out.cell (p := ⟨w1.heap.size, 0, none⟩) zq).symm.trans r0)
  have r1 : v1.cell? ⟨w1.heap.size, 1, none⟩ = some _ := (B1.out.cell (p := ⟨w1.heap.size, 1, none⟩) zq).trans ((B0.out.cell (p := ⟨w1.heap.size, 1, none⟩) zq).symm.trans r1)
  have r2 : v1.cell? ⟨w1.heap.size, 2, none⟩ = some _ := (B1.out.cell (p := ⟨w1.heap.size, 2, none⟩) zq).trans ((B0.out.cell (p := ⟨w1.heap.size, 2, none⟩) zq).symm.trans r2)
  have r3 : v1.cell? ⟨w1.heap.size, 3, none⟩ = some _ := (B1.out.cell (p := ⟨w1.heap.size, 3, none⟩) zq).trans ((B0.out.cell (p := ⟨w1.heap.size, 3, none⟩) zq).symm.trans r3)
  have r4 : v1.cell? ⟨w1.heap.size, 4, none⟩ = some _ := (B1.out.cell (p := ⟨w1.heap.size, 4, none⟩) zq).trans ((B0.out.cell (p := ⟨w1.heap.size, 4, none⟩) zq).symm.trans r4)
  have r5 : v1.cell? ⟨w1.heap.size, 5, none⟩ = some _ := (B1.out.cell (p := ⟨w1.heap.size, 5, none⟩) zq).trans ((B0.out.cell (p := ⟨w1.heap.size, 5, none⟩) zq).symm.trans r5)
  have r6 : v1.cell? ⟨w1.heap.size, 6, none⟩ = some _ := (B1.out.cell (p := ⟨w1.heap.size, 6, none⟩) zq).trans ((B0.out.cell (p := ⟨w1.heap.size, 6, none⟩) zq).symm.trans r6)
  clear hk bk J BJ sj I0 B0 HD0
  go_wp2_with fail
  have ox := fun m : Over v1 => cell_over i5 m.h
  have or := fun m : Over v1 => cell_over r4 m.h
  have HD1 := Lib.hid (H3.out.trans (B1.out.mono HGw.out))
  have K := Lib.hid fun m : Over v1 => over_calls (n := m) (KP.out m.w (Lib.hid (HD1.out.trans (m.h.mono HD1.out.size))))
  refine wp_region_overn 6 (by kernel_rfl) (by kernel_rfl) ?_
  simp only [List.take_succ_cons, List.take_zero, List.drop_succ_cons, List.drop_zero]
  repeat (go_big_quiet_step ((go_at_call 45; with_reducible exact K.out _)))
  refine wpQuiet_nil ?_
  rintro _ ⟨m, rfl⟩
  have J := Lib.hid (I1.out.stays m.h)
  have BJ := Lib.hid (B1.out.trans (m.h.mono s1))
  have sj : G ≤ m.w.heap.size := Nat.le_trans s1 m.h.size
  generalize m.w = mw at *
  clear ox or K m
  go_wp2_with fail
  refine (put_calls G G l1 rp sP mw J.out (by first | (rw [dsize]; omega) | omega) sj).mono ?_
  rintro e v2 ⟨rfl, hk, bk⟩
  have I2 : Hid (IsB G G l2 v2) := Lib.hid (by rw [E2.out]; exact hk)
  have B2 := Lib.hid (BJ.out.trans bk)
  have s2 : G ≤ v2.heap.size := Nat.le_trans sj bk.size
  have i0 : v2.cell? ⟨w.heap.size, 0, none⟩ = some _ := (B2.out.cell (p := ⟨w.heap.size, 0, none⟩) zx).trans ((B1.out.cell (p := ⟨w.heap.size, 0, none⟩) zx).symm.trans i0)
  have i1 : v2.cell? ⟨w.heap.size, 1, none⟩ = some _ := (B2.out.cell (p := ⟨w.heap.size, 1, none⟩) zx).trans ((B1.out.cell (p := ⟨w.heap.size, 1, none⟩) zx).symm.trans i1)
  have i2 : v2.cell? ⟨w.heap.size, 2, none⟩ = some _ := (B2.out.cell (p := ⟨w.heap.size, 2, none⟩) zx).trans ((B1.out.cell (p := ⟨w.heap.size, 2, none⟩) zx).symm.trans i2)
  have i3 : v2.cell? ⟨w.heap.size, 3, none⟩ = some _ := (B2.out.cell (p := ⟨w.heap.size, 3, none⟩) zx).trans ((B1.out.cell (p := ⟨w.heap.size, 3, none⟩) zx).symm.trans i3)
  have i4 : v2.cell? ⟨w.heap.size, 4, none⟩ = some _ := (B2.out.cell (p := ⟨w.heap.size, 4, none⟩) zx).trans ((B1.out.cell (p := ⟨w.heap.size, 4, none⟩) zx).symm.trans i4)
  have i5 : v2.cell? ⟨w.heap.size, 5, none⟩ = some _ := (B2.out.cell (p := ⟨w.heap.size, 5, none⟩) zx).trans ((B1.out.cell (p := ⟨w.heap.size, 5, none⟩) zx).symm.trans i5)
  have i6 : v2.cell? ⟨w.heap.size, 6, none⟩ = some _ := (B2.out.cell (p := ⟨w.heap.size, 6, none⟩) zx).trans ((B1.out.cell (p := ⟨w.heap.size, 6, none⟩) zx).symm.trans i6)
  have i7 : v2.cell? ⟨w.heap.size, 7, none⟩ = some _ := (B2.out.cell (p := ⟨w.heap.size, 7, none⟩) zx).trans ((B1.out.cell (p := ⟨w.heap.size, 7, none⟩) zx).symm.trans i7)
  have i8 : v2.cell? ⟨w.heap.size, 8, none⟩ = some _ := (B2.out.cell (p := ⟨w.heap.size, 8, none⟩) zx).trans ((B1.out.cell (p := ⟨w.heap.size, 8, none⟩) zx).symm.trans i8)
  have r0 : v2.cell? ⟨w1.heap.size, 0, none⟩ = some _ := (B2.out.cell (p := ⟨w1.heap.size, 0, none⟩) zq).trans ((B1.out.cell (p := ⟨w1.heap.size, 0, none⟩) zq).symm.trans r0)
  have r1 : v2.cell? ⟨w1.heap.size, 1, none⟩ = some _ := (B2.out.cell (p := ⟨w1.heap.size, 1, none⟩) zq).trans ((B1.out.cell (p := ⟨w1.heap.size, 1, none⟩) zq).symm.trans r1)
  have r2 : v2.cell? ⟨w1.heap.size, 2, none⟩ = some _ := (B2.out.cell (p := ⟨w1.heap.size, 2, none⟩) zq).trans ((B1.out.cell (p := ⟨w1.heap.size, 2, none⟩) zq).symm.trans r2)
  have r3 : v2.cell? ⟨w1.heap.size, 3, none⟩ = some _ := (B2.out.cell (p := ⟨w1.heap.size, 3, none⟩) zq).trans ((B1.out.cell (p := ⟨w1.heap.size, 3, none⟩) zq).symm.trans r3)
  have r4 : v2.cell? ⟨w1.heap.size, 4, none⟩ = some _ := (B2.out.cell (p := ⟨w1.heap.size, 4, none⟩) zq).trans ((B1.out.cell (p := ⟨w1.heap.size, 4, none⟩) zq).symm.trans r4)
  have r5 : v2.cell? ⟨w1.heap.size, 5, none⟩ = some _ := (B2.out.cell (p := ⟨w1.heap.size, 5, none⟩) zq).trans ((B1.out.cell (p := ⟨w1.heap.size, 5, none⟩) zq).symm.trans r5)
  have r6 : v2.cell? ⟨w1.heap.size, 6, none⟩ = some _ := (B2.out.cell (p := ⟨w1.heap.size, 6, none⟩) zq).trans ((B1.out.cell (p := ⟨w1.heap.size, 6, none⟩) zq).symm.trans r6)
  clear hk bk J BJ sj I1 B1 HD1
  go_wp2_with fail
  have ox := fun m : Over v2 => cell_over i2 m.h
  have or := fun m : Over v2 => cell_over r2 m.h
  have HD2 := Lib.hid (H3.out.trans (B2.out.mono HGw.out))
  have K := Lib.hid fun m : Over v2 => over_calls (n := m) ((KB.out m.w (Lib.hid (HD2.out.trans (m.h.mono HD2.out.size)))).mono fun e w' ⟨h1, h2⟩ => ⟨h1, h2 ▸ Below.refl _ _⟩)
  refine wp_region_overn 7 (by kernel_rfl) (by kernel_rfl) ?_
  simp only [List.take_succ_cons, List.take_zero, List.drop_succ_cons, List.drop_zero]
  repeat (go_big_quiet_step ((go_at_call 44; with_reducible exact K.out _)))
  refine wpQuiet_nil ?_
  rintro _ ⟨m, rfl⟩
  have J := Lib.hid (I2.out.stays m.h)
  have BJ := Lib.hid (B2.out.trans (m.h.mono s2))
  have sj : G ≤ m.w.heap.size := Nat.le_trans s2 m.h.size
  generalize m.w = mw at *
  clear ox or K m
  go_wp2_with fail
  refine (put_calls G G l2 (rb != 0) sB mw J.out (by first | (rw [dsize]; omega) | omega) sj).mono ?_
  rintro e v3 ⟨rfl, hk, bk⟩
  have I3 : Hid (IsB G G l3 v3) := Lib.hid (by rw [E3.out]; exact hk)
  have B3 := Lib.hid (BJ.out.trans bk)
  have s3 : G ≤ v3.heap.size := Nat.le_trans sj bk.size
  have i0 : v3.cell? ⟨w.heap.size, 0, none⟩ = some _ := (B3.out.cell (p := ⟨w.heap.size, 0, none⟩) zx).trans ((B2.out.cell (p := ⟨w.heap.size, 0, none⟩) zx).symm.trans i0)
  have i1 : v3.cell? ⟨w.heap.size, 1, none⟩ = some _ := (B3.out.cell (p := ⟨w.heap.size, 1, none⟩) zx).trans ((B2.out.cell (p := ⟨w.heap.size, 1, none⟩) zx).symm.trans i1)
  have i2 : v3.cell? ⟨w.heap.size, 2, none⟩ = some _ := (B3.out.cell (p := ⟨w.heap.size, 2, none⟩) zx).trans ((B2.out.cell (p := ⟨w.heap.size, 2, none⟩) zx).symm.trans i2)
  have i3 : v3.cell? ⟨w.heap.size, 3, none⟩ = some _ := (B3.out.cell (p := ⟨w.heap.size, 3, none⟩) zx).trans ((B2.out.cell (p := ⟨w.heap.size, 3, none⟩) zx).symm.trans i3)
  have i4 : v3.cell? ⟨w.heap.size, 4, none⟩ = some _ := (B3.out.cell (p := ⟨w.heap.size, 4, none⟩) zx).trans ((B2.out.cell (p := ⟨w.heap.size, 4, none⟩) zx).symm.trans i4)
  have i5 : v3.cell? ⟨w.heap.size, 5, none⟩ = some _ := (B3.out.cell (p := ⟨w.heap.size, 5, none⟩) zx).trans ((B2.out.cell (p := ⟨w.heap.size, 5, none⟩) zx).symm.trans i5)
  have i6 : v3.cell? ⟨w.heap.size, 6, none⟩ = some _ := (B3.out.cell (p := ⟨w.heap.size, 6, none⟩) zx).trans ((B2.out.cell (p := ⟨w.heap.size, 6, none⟩) zx).symm.trans i6)
  have i7 : v3.cell? ⟨w.heap.size, 7, none⟩ = some _ := (B3.out.cell (p := ⟨w.heap.size, 7, none⟩) zx).trans ((B2.out.cell (p := ⟨w.heap.size, 7, none⟩) zx).symm.trans i7)
  have i8 : v3.cell? ⟨w.heap.size, 8, none⟩ = some _ := (B3.out.cell (p := ⟨w.heap.size, 8, none⟩) zx).trans ((B2.out.cell (p := ⟨w.heap.size, 8, none⟩) zx).symm.trans i8)
  have r0 : v3.cell? ⟨w1.heap.size, 0, none⟩ = some _ := (B3.out.cell (p := ⟨w1.heap.size, 0, none⟩) zq).trans ((B2.out.cell (p := ⟨w1.heap.size, 0, none⟩) zq).symm.trans r0)
  have r1 : v3.cell? ⟨w1.heap.size, 1, none⟩ = some _ := (B3.out.cell (p := ⟨w1.heap.size, 1, none⟩) zq).trans ((B2.out.cell (p := ⟨w1.heap.size, 1, none⟩) zq).symm.trans r1)
  have r2 : v3.cell? ⟨w1.heap.size, 2, none⟩ = some _ := (B3.out.cell (p := ⟨w1.heap.size, 2, none⟩) zq).trans ((B2.out.cell (p := ⟨w1.heap.size, 2, none⟩) zq).symm.trans r2)
  have r3 : v3.cell? ⟨w1.heap.size, 3, none⟩ = some _ := (B3.out.cell (p := ⟨w1.heap.size, 3, none⟩) zq).trans ((B2.out.cell (p := ⟨w1.heap.size, 3, none⟩) zq).symm.trans r3)
  have r4 : v3.cell? ⟨w1.heap.size, 4, none⟩ = some _ := (B3.out.cell (p := ⟨w1.heap.size, 4, none⟩) zq).trans ((B2.out.cell (p := ⟨w1.heap.size, 4, none⟩) zq).symm.trans r4)
  have r5 : v3.cell? ⟨w1.heap.size, 5, none⟩ = some _ := (B3.out.cell (p := ⟨w1.heap.size, 5, none⟩) zq).trans ((B2.out.cell (p := ⟨w1.heap.size, 5, none⟩) zq).symm.trans r5)
  have r6 : v3.cell? ⟨w1.heap.size, 6, none⟩ = some _ := (B3.out.cell (p := ⟨w1.heap.size, 6, none⟩) zq).trans ((B2.out.cell (p := ⟨w1.heap.size, 6, none⟩) zq).symm.trans r6)
  clear hk bk J BJ sj I2 B2 HD2
  go_wp2_with fail
  have ox := fun m : Over v3 => cell_over i4 m.h
  have or := fun m : Over v3 => cell_over r5 m.h
  have HD3 := Lib.hid (H3.out.trans (B3.out.mono HGw.out))
  have K := Lib.hid fun m : Over v3 => over_calls (n := m) (KS.out m.w (Lib.hid (HD3.out.trans (m.h.mono HD3.out.size))))
  refine wp_region_overn 6 (by kernel_rfl) (by kernel_rfl) ?_
  simp only [List.take_succ_cons, List.take_zero, List.drop_succ_cons, List.drop_zero]
  repeat (go_big_quiet_step ((go_at_call 46; with_reducible exact K.out _)))
  refine wpQuiet_nil ?_
  rintro _ ⟨m, rfl⟩
  have J := Lib.hid (I3.out.stays m.h)
  have BJ := Lib.hid (B3.out.trans (m.h.mono s3))
  have sj : G ≤ m.w.heap.size := Nat.le_trans s3 m.h.size
  generalize m.w = mw at *
  clear ox or K m
  go_wp2_with fail
  refine (put_calls G G l3 rs sS mw J.out (by first | (rw [dsize]; omega) | omega) sj).mono ?_
  rintro e v4 ⟨rfl, hk, bk⟩
  have I4 : Hid (IsB G G l4 v4) := Lib.hid (by rw [E4.out]; exact hk)
  have B4 := Lib.hid (BJ.out.trans bk)
  have s4 : G ≤ v4.heap.size := Nat.le_trans sj bk.size
  have i0 : v4.cell? ⟨w.heap.size, 0, none⟩ = some _ := (B4.out.cell (p := ⟨w.heap.size, 0, none⟩) zx).trans ((B3.out.cell (p := ⟨w.heap.size, 0, none⟩) zx).symm.trans i0)
  have i1 : v4.cell? ⟨w.heap.size, 1, none⟩ = some _ := (B4.out.cell (p := ⟨w.heap.size, 1, none⟩) zx).trans ((B3.out.cell (p := ⟨w.heap.size, 1, none⟩) zx).symm.trans i1)
  have i2 : v4.cell? ⟨w.heap.size, 2, none⟩ = some _ := (B4.out.cell (p := ⟨w.heap.size, 2, none⟩) zx).trans ((B3.out.cell (p := ⟨w.heap.size, 2, none⟩) zx).symm.trans i2)
  have i3 : v4.cell? ⟨w.heap.size, 3, none⟩ = some _ := (B4.out.cell (p := ⟨w.heap.size, 3, none⟩) zx).trans ((B3.out.cell (p := ⟨w.heap.size, 3, none⟩) zx).symm.trans i3)
  have i4 : v4.cell? ⟨w.heap.size, 4, none⟩ = some _ := (B4.out.cell (p := ⟨w.heap.size, 4, none⟩) zx).trans ((B3.out.cell (p := ⟨w.heap.size, 4, none⟩) zx).symm.trans i4)
  have i5 : v4.cell? ⟨w.heap.size, 5, none⟩ = some _ := (B4.out.cell (p := ⟨w.heap.size, 5, none⟩) zx).trans ((B3.out.cell (p := ⟨w.heap.size, 5, none⟩) zx).symm.trans i5)
  have i6 : v4.cell? ⟨w.heap.size, 6, none⟩ = some _ := (B4.out.cell (p := ⟨w.heap.size, 6, none⟩) zx).trans ((B3.out.cell (p := ⟨w.heap.size, 6, none⟩) zx).symm.trans i6)
  have i7 : v4.cell? ⟨w.heap.size, 7, none⟩ = some _ := (B4.out.cell (p := ⟨w.heap.size, 7, none⟩) zx).trans ((B3.out.cell (p := ⟨w.heap.size, 7, none⟩) zx).symm.trans i7)
  have i8 : v4.cell? ⟨w.heap.size, 8, none⟩ = some _ := (B4.out.cell (p := ⟨w.heap.size, 8, none⟩) zx).trans ((B3.out.cell (p := ⟨w.heap.size, 8, none⟩) zx).symm.trans i8)
  have r0 : v4.cell? ⟨w1.heap.size, 0, none⟩ = some _ := (B4.out.cell (p := ⟨w1.heap.size, 0, none⟩) zq).trans ((B3.out.cell (p := ⟨w1.heap.size, 0, none⟩) zq).symm.trans r0)
  have r1 : v4.cell? ⟨w1.heap.size, 1, none⟩ = some _ := (B4.out.cell (p := ⟨w1.heap.size, 1, none⟩) zq).trans ((B3.out.cell (p := ⟨w1.heap.size, 1, none⟩) zq).symm.trans r1)
  have r2 : v4.cell? ⟨w1.heap.size, 2, none⟩ = some _ := (B4.out.cell (p := ⟨w1.heap.size, 2, none⟩) zq).trans ((B3.out.cell (p := ⟨w1.heap.size, 2, none⟩) zq).symm.trans r2)
  have r3 : v4.cell? ⟨w1.heap.size, 3, none⟩ = some _ := (B4.out.cell (p := ⟨w1.heap.size, 3, none⟩) zq).trans ((B3.out.cell (p := ⟨w1.heap.size, 3, none⟩) zq).symm.trans r3)
  have r4 : v4.cell? ⟨w1.heap.size, 4, none⟩ = some _ := (B4.out.cell (p := ⟨w1.heap.size, 4, none⟩) zq).trans ((B3.out.cell (p := ⟨w1.heap.size, 4, none⟩) zq).symm.trans r4)
  have r5 : v4.cell? ⟨w1.heap.size, 5, none⟩ = some _ := (B4.out.cell (p := ⟨w1.heap.size, 5, none⟩) zq).trans ((B3.out.cell (p := ⟨w1.heap.size, 5, none⟩) zq).symm.trans r5)
  have r6 : v4.cell? ⟨w1.heap.size, 6, none⟩ = some _ := (B4.out.cell (p := ⟨w1.heap.size, 6, none⟩) zq).trans ((B3.out.cell (p := ⟨w1.heap.size, 6, none⟩) zq).symm.trans r6)
  clear hk bk J BJ sj I3 B3 HD3
  go_wp2_with fail
  have ox := fun m : Over v4 => cell_over i6 m.h
  have or := fun m : Over v4 => cell_over r3 m.h
  have HD4 := Lib.hid (H3.out.trans (B4.out.mono HGw.out))
  have K := Lib.hid fun m : Over v4 => over_calls (n := m) ((KI.out m.w (Lib.hid (HD4.out.trans (m.h.mono HD4.out.size)))).mono fun e w' ⟨h1, h2⟩ => ⟨h1, h2 ▸ Below.refl _ _⟩)
  refine wp_region_overn 7 (by kernel_rfl) (by kernel_rfl) ?_
  simp only [List.take_succ_cons, List.take_zero, List.drop_succ_cons, List.drop_zero]
  repeat (go_big_quiet_step ((go_at_call 47; with_reducible exact K.out _)))
  refine wpQuiet_nil ?_
  rintro _ ⟨m, rfl⟩
  have J := Lib.hid (I4.out.stays m.h)
  have BJ := Lib.hid (B4.out.trans (m.h.mono s4))
  have sj : G ≤ m.w.heap.size := Nat.le_trans s4 m.h.size
  generalize m.w = mw at *
  clear ox or K m
  go_wp2_with fail
  refine (put_calls G G l4 (ri != 0) sI mw J.out (by first | (rw [dsize]; omega) | omega) sj).mono ?_
  rintro e v5 ⟨rfl, hk, bk⟩
  have I5 : Hid (IsB G G l5 v5) := Lib.hid (by rw [E5.out]; exact hk)
  have B5 := Lib.hid (BJ.out.trans bk)
  have s5 : G ≤ v5.heap.size := Nat.le_trans sj bk.size
  have i0 : v5.cell? ⟨w.heap.size, 0, none⟩ = some _ := (B5.out.cell (p := ⟨w.heap.size, 0, none⟩) zx).trans ((B4.out.cell (p := ⟨w.heap.size, 0, none⟩) zx).symm.trans i0)
  have i1 : v5.cell? ⟨w.heap.size, 1, none⟩ = some _ := (B5.out.cell (p := ⟨w.heap.size, 1, none⟩) zx).trans ((B4.out.cell (p := ⟨w.heap.size, 1, none⟩) zx).symm.trans i1)
  have i2 : v5.cell? ⟨w.heap.size, 2, none⟩ = some _ := (B5.out.cell (p := ⟨w.heap.size, 2, none⟩) zx).trans ((B4.out.cell (p := ⟨w.heap.size, 2, none⟩) zx).symm.trans i2)
  have i3 : v5.cell? ⟨w.heap.size, 3, none⟩ = some _ := (B5.out.cell (p := ⟨w.heap.size, 3, none⟩) zx).trans ((B4.out.cell (p := ⟨w.heap.size, 3, none⟩) zx).symm.trans i3)
  have i4 : v5.cell? ⟨w.heap.size, 4, none⟩ = some _ := (B5.out.cell (p := ⟨w.heap.size, 4, none⟩) zx).trans ((B4.out.cell (p := ⟨w.heap.size, 4, none⟩) zx).symm.trans i4)
  have i5 : v5.cell? ⟨w.heap.size, 5, none⟩ = some _ := (B5.out.cell (p := ⟨w.heap.size, 5, none⟩) zx).trans ((B4.out.cell (p := ⟨w.heap.size, 5, none⟩) zx).symm.trans i5)
  have i6 : v5.cell? ⟨w.heap.size, 6, none⟩ = some _ := (B5.out.cell (p := ⟨w.heap.size, 6, none⟩) zx).trans ((B4.out.cell (p := ⟨w.heap.size, 6, none⟩) zx).symm.trans i6)
  have i7 : v5.cell? ⟨w.heap.size, 7, none⟩ = some _ := (B5.out.cell (p := ⟨w.heap.size, 7, none⟩) zx).trans ((B4.out.cell (p := ⟨w.heap.size, 7, none⟩) zx).symm.trans i7)
  have i8 : v5.cell? ⟨w.heap.size, 8, none⟩ = some _ := (B5.out.cell (p := ⟨w.heap.size, 8, none⟩) zx).trans ((B4.out.cell (p := ⟨w.heap.size, 8, none⟩) zx).symm.trans i8)
  have r0 : v5.cell? ⟨w1.heap.size, 0, none⟩ = some _ := (B5.out.cell (p := ⟨w1.heap.size, 0, none⟩) zq).trans ((B4.out.cell (p := ⟨w1.heap.size, 0, none⟩) zq).symm.trans r0)
  have r1 : v5.cell? ⟨w1.heap.size, 1, none⟩ = some _ := (B5.out.cell (p := ⟨w1.heap.size, 1, none⟩) zq).trans ((B4.out.cell (p := ⟨w1.heap.size, 1, none⟩) zq).symm.trans r1)
  have r2 : v5.cell? ⟨w1.heap.size, 2, none⟩ = some _ := (B5.out.cell (p := ⟨w1.heap.size, 2, none⟩) zq).trans ((B4.out.cell (p := ⟨w1.heap.size, 2, none⟩) zq).symm.trans r2)
  have r3 : v5.cell? ⟨w1.heap.size, 3, none⟩ = some _ := (B5.out.cell (p := ⟨w1.heap.size, 3, none⟩) zq).trans ((B4.out.cell (p := ⟨w1.heap.size, 3, none⟩) zq).symm.trans r3)
  have r4 : v5.cell? ⟨w1.heap.size, 4, none⟩ = some _ := (B5.out.cell (p := ⟨w1.heap.size, 4, none⟩) zq).trans ((B4.out.cell (p := ⟨w1.heap.size, 4, none⟩) zq).symm.trans r4)
  have r5 : v5.cell? ⟨w1.heap.size, 5, none⟩ = some _ := (B5.out.cell (p := ⟨w1.heap.size, 5, none⟩) zq).trans ((B4.out.cell (p := ⟨w1.heap.size, 5, none⟩) zq).symm.trans r5)
  have r6 : v5.cell? ⟨w1.heap.size, 6, none⟩ = some _ := (B5.out.cell (p := ⟨w1.heap.size, 6, none⟩) zq).trans ((B4.out.cell (p := ⟨w1.heap.size, 6, none⟩) zq).symm.trans r6)
  clear hk bk J BJ sj I4 B4 HD4
  go_wp2_with fail
  refine (put_calls G G l5 rn nm v5 I5.out (by omega) s5).mono ?_
  rintro e v6 ⟨rfl, hk, bk⟩
  have I6 : Hid (IsB G G l6 v6) := Lib.hid (by rw [E6.out]; exact hk)
  have B6 := Lib.hid (B5.out.trans bk)
  have s6 : G ≤ v6.heap.size := Nat.le_trans s5 bk.size
  clear hk bk I5 B5
  go_wp2_with fail
  refine (Tryd.Builder_String_any G G l6 v6 I6.out s6).mono ?_
  rintro e v7 ⟨rfl, b7⟩
  have HF := Lib.hid (H3.out.trans ((B6.out.trans b7).mono HGw.out))
  clear b7
  go_wp2_with fail
  go_ret
  exact ⟨rfl, HF.out⟩
end Go.Proofs.YtlbdoomknjiilaaDoor
