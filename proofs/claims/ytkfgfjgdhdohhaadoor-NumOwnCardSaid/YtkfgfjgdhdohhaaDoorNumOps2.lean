/- Contracts of package num, third part: less, times, by, rest. -/
import Derived.Test.YtkfgfjgdhdohhaaDoorNumOps
import Derived.Test.YtkfgfjgdhdohhaaDoorShelf
import Derived.StillTailTactics
import Derived.Deep.RegionWith
namespace Go.Proofs.YtkfgfjgdhdohhaaDoor
open Go.RowKit
set_option linter.unusedVariables false

/-- two numbers taken apart, boxed, and room for a third: what is read there, and that room may be written -/
structure Three (w W : World) (b c : Bool) (x y : Int) : Prop where
  c0 : W.cell? ⟨w.heap.size, 0, none⟩ = some (.bool b)
  c1 : W.cell? ⟨w.heap.size, 1, none⟩ = some (.int .u64 x)
  c2 : W.cell? ⟨w.heap.size + 1, 0, none⟩ = some (.bool c)
  c3 : W.cell? ⟨w.heap.size + 1, 1, none⟩ = some (.int .u64 y)
  c4 : W.cell? ⟨w.heap.size + 1 + 1, 0, none⟩ = some (.bool false)
  c5 : W.cell? ⟨w.heap.size + 1 + 1, 1, none⟩ = some (.int .u64 0)
  f4 : W.frozen? ⟨w.heap.size + 1 + 1, 0, none⟩ = false
  f5 : W.frozen? ⟨w.heap.size + 1 + 1, 1, none⟩ = false
  hz : w.heap.size + 1 + 1 < W.heap.size
  hB : Below w.heap.size w W

theorem three_new (w : World) (b c : Bool) (x y : Int) (t : TypeId) :
    Three w (((w.alloc (.cells #[.bool b, .int .u64 x] t)).alloc (.cells #[.bool c, .int .u64 y] t)).alloc (.cells #[.bool false, .int .u64 0] t)).drew b c x y := by
  refine ⟨?_, ?_, ?_, ?_, ?_, ?_, ?_, ?_, ?_, ?_⟩
  all_goals first | (go_simp; done) | (simp; done) | exact ((((Below.refl _ _).alloc (Nat.le_refl _) _).alloc (by simp) _).alloc (by simp; omega) _).drew | skip

theorem three_still {P : Program} {id : Nat} {Q : Exit → Act → World → Prop} {a : Act} {w : World} {l : List Oper} {b c : Bool} {x y : Int} {t : TypeId} (n : Nat) (hm : P.follows .mixedOrders = true) (hB : Region.lexTailB .any l.toArray n = true)
    (h : ∀ W : World, Three w W b c x y → wpStill P l.toArray W (fun a' => wpList P l.toArray Q (l.drop n) a' W) (l.take n) a) :
    (Code.region id l.toArray true).wp P Q a (((w.alloc (.cells #[.bool b, .int .u64 x] t)).alloc (.cells #[.bool c, .int .u64 y] t)).alloc (.cells #[.bool false, .int .u64 0] t)) :=
  wp_region_still_tail n hm hB (h _ (three_new w b c x y t))

theorem wrap_quo (x y : Int) (h0 : 0 ≤ x) (h1 : x < 18446744073709551616) (h2 : 1 ≤ y) : IntKind.u64.wrap (x.tdiv y) = x / y := by
  have hq : 0 ≤ x / y := Int.ediv_nonneg h0 (by omega)
  have hq2 : x / y ≤ x := Int.ediv_le_self _ h0
  rw [IntKind.wrap_u64, Int.tdiv_eq_ediv_of_nonneg h0, Int.emod_eq_of_lt hq (by omega)]
theorem wrap_rem (x y : Int) (h0 : 0 ≤ x) (h2 : 1 ≤ y) (h3 : y < 18446744073709551616) : IntKind.u64.wrap (x.tmod y) = x % y := by
  have hq : 0 ≤ x % y := Int.emod_nonneg _ (by omega)
  have hq2 : x % y < y := Int.emod_lt_of_pos _ (by omega)
  rw [IntKind.wrap_u64, Int.tmod_eq_emod_of_nonneg h0, Int.emod_eq_of_lt hq (by omega)]

set_option maxHeartbeats 1000000 in
theorem by_in (b c : Bool) (x y : Int) (h0 : 0 ≤ x) (h1 : x < 18446744073709551616) (h2 : 1 ≤ y) (h3 : y < 18446744073709551616) (hy : (y == 0) = false) (w : World) :
    Calls Tryd.prog 34 #[.agg #[.bool b, .int .u64 x], .agg #[.bool c, .int .u64 y]] w fun e w' => e = .returned (.tuple #[.agg #[.bool (sgn (sv (!(b == c)) (x / y))), .int .u64 (mag (sv (!(b == c)) (x / y)))], .int .i64 0]) ∧ Below w.heap.size w w' := by
  have hy0 : ¬ y = 0 := by omega
  have hwr := wrap_quo x y h0 h1 h2
  have hq : 0 ≤ x / y := Int.ediv_nonneg h0 (by omega)
  have hq2 : x / y ≤ x := Int.ediv_le_self _ h0
  go_enter Tryd.func34, Tryd.ntmps34
  go_wp2_with fail
  refine three_still 10 (by kernel_rfl) (by kernel_rfl) ?_
  rintro W ⟨c0, c1, c2, c3, c4, c5, f4, f5, hz, hB⟩
  simp only [List.take_succ_cons, List.take_zero, List.drop_succ_cons, List.drop_zero]
  repeat still_step
  refine wpStill_nil ?_
  go_wp2_with fail
  refine (side_calls (!(b == c)) (x / y) hq (by omega) _).mono ?_
  rintro e w1 ⟨rfl, hb⟩
  obtain ⟨hc, hf⟩ := bcell hb
  go_wp2
  refine bodyPost_ret (v := .tuple #[.agg #[.bool (sgn (sv (!(b == c)) (x / y))), .int .u64 (mag (sv (!(b == c)) (x / y)))], .int .i64 0]) (by simp [results, Tryd.results34, go_sem, hc, c4, c5, hz]) rfl ⟨rfl, ?_⟩
  exact ((hB.trans (hb.mono hB.size)).setCell (by simp; omega) _).setCell (by simp; omega) _
set_option maxHeartbeats 1000000 in
theorem rest_in (b c : Bool) (x y : Int) (h0 : 0 ≤ x) (h1 : x < 18446744073709551616) (h2 : 1 ≤ y) (h3 : y < 18446744073709551616) (hy : (y == 0) = false) (w : World) :
    Calls Tryd.prog 35 #[.agg #[.bool b, .int .u64 x], .agg #[.bool c, .int .u64 y]] w fun e w' => e = .returned (.tuple #[.agg #[.bool (sgn (sv b (x % y))), .int .u64 (mag (sv b (x % y)))], .int .i64 0]) ∧ Below w.heap.size w w' := by
  have hy0 : ¬ y = 0 := by omega
  have hwr := wrap_rem x y h0 h2 h3
  have hq : 0 ≤ x % y := Int.emod_nonneg _ (by omega)
  have hq2 : x % y < y := Int.emod_lt_of_pos _ (by omega)
  go_enter Tryd.func35, Tryd.ntmps35
  go_wp2_with fail
  refine three_still 7 (by kernel_rfl) (by kernel_rfl) ?_
  rintro W ⟨c0, c1, c2, c3, c4, c5, f4, f5, hz, hB⟩
  simp only [List.take_succ_cons, List.take_zero, List.drop_succ_cons, List.drop_zero]
  repeat still_step
  refine wpStill_nil ?_
  go_wp2_with fail
  refine (side_calls b (x % y) hq (by omega) _).mono ?_
  rintro e w1 ⟨rfl, hb⟩
  obtain ⟨hc, hf⟩ := bcell hb
  go_wp2
  refine bodyPost_ret (v := .tuple #[.agg #[.bool (sgn (sv b (x % y))), .int .u64 (mag (sv b (x % y)))], .int .i64 0]) (by simp [results, Tryd.results35, go_sem, hc, c4, c5, hz]) rfl ⟨rfl, ?_⟩
  exact ((hB.trans (hb.mono hB.size)).setCell (by simp; omega) _).setCell (by simp; omega) _

set_option maxHeartbeats 1000000 in
theorem less_calls (n m : Int) (h0 : -18446744073709551616 < n) (h1 : n < 18446744073709551616) (h2 : -18446744073709551616 < m) (h3 : m < 18446744073709551616) (w : World) :
    Calls Tryd.prog 32 #[.agg #[.bool (sgn n), .int .u64 (mag n)], .agg #[.bool (sgn m), .int .u64 (mag m)]] w fun e w' => e = .returned (.tuple #[.agg #[.bool (sgn (wdv (n + -m))), .int .u64 (mag (wdv (n + -m)))], .int .i64 (wde (n + -m))]) ∧ Below w.heap.size w w' := by
  go_enter Tryd.func32, Tryd.ntmps32
  go_wp2_with fail
  go_region_with (first | (go_at_call 43; refine (turned_calls m h2 h3 _).mono ?_; rintro e w1 ⟨rfl, hb⟩; obtain ⟨hc, hf⟩ := bcell hb; have hz : w.heap.size + 1 + 1 < w1.heap.size := by (have := hb.size; simp at this; omega)) | (go_at_call 31; refine (plus_calls n (-m) h0 h1 (by omega) (by omega) _).mono ?_; rintro e w2 ⟨rfl, hb2⟩; obtain ⟨hc2, hf2⟩ := bcell hb2))
  all_goals
    go_wp2
    refine bodyPost_ret (v := .tuple #[.agg #[.bool (sgn (wdv (n + -m))), .int .u64 (mag (wdv (n + -m)))], .int .i64 (wde (n + -m))]) (by simp [results, Tryd.results32, go_sem, hc, hc2, hz]) rfl ⟨rfl, ?_⟩
    have hB := (three_new w (sgn n) (sgn m) (mag n) (mag m) 41).hB
    exact ((((hB.trans (Below.mono (B' := w.heap.size) hb hB.size)).trans (Below.mono (B' := w.heap.size) hb2 (by omega))).setCell (by simp; omega) _).setCell (by simp; omega) _)

set_option maxHeartbeats 400000 in
theorem times_in (b c : Bool) (x y : Nat) (h0 : x < 18446744073709551616) (h1 : y < 18446744073709551616) (h : x * y < 18446744073709551616) (w : World) :
    Calls Tryd.prog 33 #[.agg #[.bool b, .int .u64 x], .agg #[.bool c, .int .u64 y]] w fun e w' => e = .returned (.tuple #[.agg #[.bool (sgn (sv (!(b == c)) ((x : Int) * (y : Int)))), .int .u64 (mag (sv (!(b == c)) ((x : Int) * (y : Int))))], .int .i64 0]) ∧ Below w.heap.size w w' := by
  have hp0 : (0 : Int) ≤ (x : Int) * (y : Int) := by rw [← Int.natCast_mul]; omega
  have hp1 : (x : Int) * (y : Int) < 18446744073709551616 := by rw [← Int.natCast_mul]; omega
  go_enter Tryd.func33, Tryd.ntmps33
  go_wp2_with fail
  refine (Tryd.bits_Mul64 x y h0 h1 _).mono ?_
  rintro e w1 ⟨rfl, rfl⟩
  rw [Nat.div_eq_of_lt h, Nat.mod_eq_of_lt h]
  go_wp2_with fail
  refine (side_calls _ _ hp0 hp1 _).mono ?_
  rintro e w1 ⟨rfl, hb⟩
  obtain ⟨hc, hf⟩ := bcell hb
  go_wp2
  refine bodyPost_ret (v := .tuple #[.agg #[.bool (sgn (sv (!(b == c)) ((x : Int) * (y : Int)))), .int .u64 (mag (sv (!(b == c)) ((x : Int) * (y : Int))))], .int .i64 0]) (by simp [results, Tryd.results33, go_sem, hc]) rfl ⟨rfl, ?_⟩
  exact ((((((Below.refl _ _).alloc (Nat.le_refl _) _).alloc (by simp) _).alloc (by simp; omega) _).trans (hb.mono (by simp; omega))).setCell (by simp; omega) _).setCell (by simp; omega) _

set_option maxHeartbeats 400000 in
theorem times_over (b c : Bool) (x y : Nat) (h0 : x < 18446744073709551616) (h1 : y < 18446744073709551616) (h : 18446744073709551616 ≤ x * y) (w : World) :
    Calls Tryd.prog 33 #[.agg #[.bool b, .int .u64 x], .agg #[.bool c, .int .u64 y]] w fun e w' => e = .returned (.tuple #[.agg #[.bool false, .int .u64 0], .int .i64 10]) ∧ Below w.heap.size w w' := by
  have hd : 1 ≤ x * y / 18446744073709551616 := by omega
  generalize hk : x * y / 18446744073709551616 = k at hd
  have HK := Lib.hid hk
  clear hk
  have hk0 : ((k : Int) == 0) = false := beq_eq_false_iff_ne.2 (by omega)
  go_enter Tryd.func33, Tryd.ntmps33
  go_wp2_with fail
  refine (Tryd.bits_Mul64 x y h0 h1 _).mono ?_
  rintro e w1 ⟨rfl, rfl⟩
  rw [HK.out]
  generalize x * y % 18446744073709551616 = r
  go_wp2
  refine bodyPost_ret (v := .tuple #[.agg #[.bool false, .int .u64 0], .int .i64 10]) (by simp [results, Tryd.results33, go_sem]) rfl ⟨rfl, ?_⟩
  exact (((Below.refl _ _).alloc (Nat.le_refl _) _).alloc (by simp) _).alloc (by simp; omega) _

set_option maxHeartbeats 400000 in
theorem by_zero (b c : Bool) (x : Int) (w : World) :
    Calls Tryd.prog 34 #[.agg #[.bool b, .int .u64 x], .agg #[.bool false, .int .u64 0]] w fun e w' => e = .returned (.tuple #[.agg #[.bool false, .int .u64 0], .int .i64 11]) ∧ Below w.heap.size w w' := by
  go_enter Tryd.func34, Tryd.ntmps34
  go_wp2
  refine bodyPost_ret (v := .tuple #[.agg #[.bool false, .int .u64 0], .int .i64 11]) (by simp [results, Tryd.results34, go_sem]) rfl ⟨rfl, ?_⟩
  exact (((Below.refl _ _).alloc (Nat.le_refl _) _).alloc (by simp) _).alloc (by simp; omega) _

set_option maxHeartbeats 400000 in
theorem rest_zero (b c : Bool) (x : Int) (w : World) :
    Calls Tryd.prog 35 #[.agg #[.bool b, .int .u64 x], .agg #[.bool false, .int .u64 0]] w fun e w' => e = .returned (.tuple #[.agg #[.bool false, .int .u64 0], .int .i64 11]) ∧ Below w.heap.size w w' := by
  go_enter Tryd.func35, Tryd.ntmps35
  go_wp2
  refine bodyPost_ret (v := .tuple #[.agg #[.bool false, .int .u64 0], .int .i64 11]) (by simp [results, Tryd.results35, go_sem]) rfl ⟨rfl, ?_⟩
  exact (((Below.refl _ _).alloc (Nat.le_refl _) _).alloc (by simp) _).alloc (by simp; omega) _

theorem times_calls (n m : Int) (h0 : -18446744073709551616 < n) (h1 : n < 18446744073709551616) (h2 : -18446744073709551616 < m) (h3 : m < 18446744073709551616) (w : World) :
    Calls Tryd.prog 33 #[.agg #[.bool (sgn n), .int .u64 (mag n)], .agg #[.bool (sgn m), .int .u64 (mag m)]] w fun e w' => e = .returned (.tuple #[.agg #[.bool (sgn (wdv (n * m))), .int .u64 (mag (wdv (n * m)))], .int .i64 (wde (n * m))]) ∧ Below w.heap.size w w' := by
  obtain ⟨x, hx, hx1⟩ := mag_nat h0 h1
  obtain ⟨y, hy, hy1⟩ := mag_nat h2 h3
  have hs := sv_mul n m
  rw [hx, hy] at hs ⊢
  have hm : ((x * y : Nat) : Int) = (x : Int) * (y : Int) := Int.natCast_mul x y
  by_cases h : x * y < 18446744073709551616
  · have hw : -18446744073709551616 < n * m ∧ n * m < 18446744073709551616 := by rw [← hs]; unfold sv; rw [← hm]; split <;> omega
    rw [wdv_in hw.1 hw.2, wde_in hw.1 hw.2]
    have := times_in (sgn n) (sgn m) x y hx1 hy1 h w
    rw [hs] at this
    exact this
  · have hw : n * m ≤ -18446744073709551616 ∨ 18446744073709551616 ≤ n * m := by rw [← hs]; unfold sv; rw [← hm]; split <;> omega
    rw [wdv_out hw, wde_out hw]
    exact times_over (sgn n) (sgn m) x y hx1 hy1 (by omega) w

/-- what Div and Mod say beside a number: 11, by 0 -/
theorem by_calls (n m : Int) (h0 : -18446744073709551616 < n) (h1 : n < 18446744073709551616) (h2 : -18446744073709551616 < m) (h3 : m < 18446744073709551616) (w : World) :
    Calls Tryd.prog 34 #[.agg #[.bool (sgn n), .int .u64 (mag n)], .agg #[.bool (sgn m), .int .u64 (mag m)]] w fun e w' => e = .returned (.tuple #[.agg #[.bool (sgn (n.tdiv m)), .int .u64 (mag (n.tdiv m))], .int .i64 (zeroe m)]) ∧ Below w.heap.size w w' := by
  have hm := mag_lt h2 h3
  by_cases h : m = 0
  · subst h
    rw [Int.tdiv_zero]
    exact by_zero (sgn n) false (mag n) w
  · have hp : 1 ≤ mag m := by unfold mag; split <;> omega
    have := by_in (sgn n) (sgn m) (mag n) (mag m) (mag_nonneg n) (mag_lt h0 h1) hp hm (beq_eq_false_iff_ne.2 (by omega)) w
    rw [sv_quo n m h] at this
    rw [zeroe_no h]
    exact this

theorem rest_calls (n m : Int) (h0 : -18446744073709551616 < n) (h1 : n < 18446744073709551616) (h2 : -18446744073709551616 < m) (h3 : m < 18446744073709551616) (w : World) :
    Calls Tryd.prog 35 #[.agg #[.bool (sgn n), .int .u64 (mag n)], .agg #[.bool (sgn m), .int .u64 (mag m)]] w fun e w' => e = .returned (.tuple #[.agg #[.bool (sgn (remv n m)), .int .u64 (mag (remv n m))], .int .i64 (zeroe m)]) ∧ Below w.heap.size w w' := by
  have hm := mag_lt h2 h3
  by_cases h : m = 0
  · subst h
    exact rest_zero (sgn n) false (mag n) w
  · have hp : 1 ≤ mag m := by unfold mag; split <;> omega
    have := rest_in (sgn n) (sgn m) (mag n) (mag m) (mag_nonneg n) (mag_lt h0 h1) hp hm (beq_eq_false_iff_ne.2 (by omega)) w
    rw [sv_rem n m h] at this
    rw [zeroe_no h]
    exact this

end Go.Proofs.YtkfgfjgdhdohhaaDoor
