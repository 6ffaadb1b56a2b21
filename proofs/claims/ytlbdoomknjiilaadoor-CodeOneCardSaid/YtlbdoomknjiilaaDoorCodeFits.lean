/- Code: site.fits (made by gen_codefits.py). -/
import Derived.Test.YtlbdoomknjiilaaDoorCodeRow
namespace Go.Proofs.YtlbdoomknjiilaaDoor
open Go.RowKit
set_option linter.unusedVariables false

/-- a site: a unit and one of its functions -/
def siteV (u : UU) (vu : VU) (f : FF) (vc : Value) : Value := .agg #[vu.f, .int .i64 u.main, vu.t, .string f.name, .int .i64 f.params, .int .i64 f.slots, vc]
def JJ.val (x : JJ) (v : VJ) : Value := .agg #[.int .u8 x.op, .int .i64 x.a, .int .i64 x.b, .int .i64 x.c, v.s, v.p, .int .i64 x.int, .string x.name, v.n]

set_option maxRecDepth 100000 in
set_option maxHeartbeats 1000000 in
theorem fits0 (a1 a2 a3 a4 a5 a6 : Option Addr) (n1 n2 n3 n4 n5 n6 c1 c2 c3 c4 c5 c6 : Nat) (mn pa sl : Int) (fn nm : ByteArray) (op xa xb xc xi : Int) (n : Int) (w : World) :
    Calls Tryd.prog 49 #[.agg #[.slice a1 n1 c1, .int .i64 mn, .slice a2 n2 c2, .string fn, .int .i64 pa, .int .i64 sl, .slice a3 n3 c3], .int .u8 0, .int .i64 n, .agg #[.int .u8 op, .int .i64 xa, .int .i64 xb, .int .i64 xc, .slice a4 n4 c4, .slice a5 n5 c5, .int .i64 xi, .string nm, .slice a6 n6 c6]] w fun e w' => e = .returned (.bool (decide (n = 0))) ∧ Below w.heap.size w w' := by
  by_cases h : n = 0
  · subst h
    rw [decide_eq_true rfl]
    go_enter Tryd.func49, Tryd.ntmps49
    go_wp2_with fail
    go_ret
    exact ⟨rfl, box2 _ _ _⟩
  · have e : (n == 0) = false := by simpa using h
    rw [decide_eq_false h]
    clear h
    go_enter Tryd.func49, Tryd.ntmps49
    go_wp2_with fail
    go_ret
    exact ⟨rfl, box2 _ _ _⟩

set_option maxRecDepth 100000 in
set_option maxHeartbeats 1000000 in
theorem fits1 (a1 a2 a3 a4 a5 a6 : Option Addr) (n1 n2 n3 n4 n5 n6 c1 c2 c3 c4 c5 c6 : Nat) (mn pa sl : Int) (fn nm : ByteArray) (op xa xb xc xi : Int) (n : Int) (w : World) :
    Calls Tryd.prog 49 #[.agg #[.slice a1 n1 c1, .int .i64 mn, .slice a2 n2 c2, .string fn, .int .i64 pa, .int .i64 sl, .slice a3 n3 c3], .int .u8 1, .int .i64 n, .agg #[.int .u8 op, .int .i64 xa, .int .i64 xb, .int .i64 xc, .slice a4 n4 c4, .slice a5 n5 c5, .int .i64 xi, .string nm, .slice a6 n6 c6]] w fun e w' => e = .returned (.bool (decide (0 ≤ n) && decide (n < sl))) ∧ Below w.heap.size w w' := by
  by_cases h1 : 0 ≤ n
  · rw [decide_eq_true h1]
    by_cases h2 : n < sl
    · rw [decide_eq_true h2]
      go_enter Tryd.func49, Tryd.ntmps49
      go_wp2_with fail
      go_ret
      exact ⟨rfl, box2 _ _ _⟩
    · rw [decide_eq_false h2]
      go_enter Tryd.func49, Tryd.ntmps49
      go_wp2_with fail
      go_ret
      exact ⟨rfl, box2 _ _ _⟩
  · rw [decide_eq_false h1]
    go_enter Tryd.func49, Tryd.ntmps49
    go_wp2_with fail
    go_ret
    exact ⟨rfl, box2 _ _ _⟩

set_option maxRecDepth 100000 in
set_option maxHeartbeats 1000000 in
theorem fits2 (a1 a2 a3 a4 a5 a6 : Option Addr) (n1 n2 n3 n4 n5 n6 c1 c2 c3 c4 c5 c6 : Nat) (mn pa sl : Int) (fn nm : ByteArray) (op xa xb xc xi : Int) (n : Int) (w : World) :
    Calls Tryd.prog 49 #[.agg #[.slice a1 n1 c1, .int .i64 mn, .slice a2 n2 c2, .string fn, .int .i64 pa, .int .i64 sl, .slice a3 n3 c3], .int .u8 2, .int .i64 n, .agg #[.int .u8 op, .int .i64 xa, .int .i64 xb, .int .i64 xc, .slice a4 n4 c4, .slice a5 n5 c5, .int .i64 xi, .string nm, .slice a6 n6 c6]] w fun e w' => e = .returned (.bool (withinB n 0 (n3 : Int))) ∧ Below w.heap.size w w' := by
  have HC := Lib.hid fun W => within_calls n 0 (n3 : Int) W
  generalize withinB n 0 (n3 : Int) = r at *
  go_enter Tryd.func49, Tryd.ntmps49
  go_wp2_with (go_at_call 61; (with_reducible refine (HC.out _).mono ?_); rintro e w1 ⟨rfl, rfl⟩)
  go_ret
  exact ⟨rfl, box2 _ _ _⟩

set_option maxRecDepth 100000 in
set_option maxHeartbeats 1000000 in
theorem fits3 (a1 a2 a3 a4 a5 a6 : Option Addr) (n1 n2 n3 n4 n5 n6 c1 c2 c3 c4 c5 c6 : Nat) (mn pa sl : Int) (fn nm : ByteArray) (op xa xb xc xi : Int) (n : Int) (w : World) (h0 : 0 < n1) (hn1 : n1 ≤ maxLen) :
    Calls Tryd.prog 49 #[.agg #[.slice a1 n1 c1, .int .i64 mn, .slice a2 n2 c2, .string fn, .int .i64 pa, .int .i64 sl, .slice a3 n3 c3], .int .u8 3, .int .i64 n, .agg #[.int .u8 op, .int .i64 xa, .int .i64 xb, .int .i64 xc, .slice a4 n4 c4, .slice a5 n5 c5, .int .i64 xi, .string nm, .slice a6 n6 c6]] w fun e w' => e = .returned (.bool (withinB n 0 ((n1 : Int) - 1))) ∧ Below w.heap.size w w' := by
  unfold maxLen at hn1
  have HC := Lib.hid fun W => within_calls n 0 ((n1 : Int) - 1) W
  generalize withinB n 0 ((n1 : Int) - 1) = r at *
  go_enter Tryd.func49, Tryd.ntmps49
  go_wp2_with (go_at_call 61; (with_reducible refine (HC.out _).mono ?_); rintro e w1 ⟨rfl, rfl⟩)
  go_ret
  exact ⟨rfl, box2 _ _ _⟩

set_option maxRecDepth 100000 in
set_option maxHeartbeats 1000000 in
theorem fits4 (a1 a2 a3 a4 a5 a6 : Option Addr) (n1 n2 n3 n4 n5 n6 c1 c2 c3 c4 c5 c6 : Nat) (mn pa sl : Int) (fn nm : ByteArray) (op xa xb xc xi : Int) (n : Int) (w : World) (k b o : Nat) (hk : k < n1) (hxa : xa = (k : Int)) (ha : a1 = some ⟨b, o, none⟩) (pp : Int) (hb : b < w.heap.size) (hc : w.cell? ⟨b, o + k * 4 + 1, none⟩ = some (.int .i64 pp)) :
    Calls Tryd.prog 49 #[.agg #[.slice a1 n1 c1, .int .i64 mn, .slice a2 n2 c2, .string fn, .int .i64 pa, .int .i64 sl, .slice a3 n3 c3], .int .u8 4, .int .i64 n, .agg #[.int .u8 op, .int .i64 xa, .int .i64 xb, .int .i64 xc, .slice a4 n4 c4, .slice a5 n5 c5, .int .i64 xi, .string nm, .slice a6 n6 c6]] w fun e w' => e = .returned (.bool (decide (n = pp))) ∧ Below w.heap.size w w' := by
  subst hxa ha
  have hk0 : 0 ≤ (k : Int) := by omega
  have hk1 : (k : Int) < (n1 : Int) := by omega
  by_cases h : n = pp
  · subst h
    rw [decide_eq_true rfl]
    go_enter Tryd.func49, Tryd.ntmps49
    go_wp2_with fail
    go_ret
    exact ⟨rfl, box2 _ _ _⟩
  · have e : (n == pp) = false := by simpa using h
    rw [decide_eq_false h]
    clear h
    go_enter Tryd.func49, Tryd.ntmps49
    go_wp2_with fail
    go_ret
    exact ⟨rfl, box2 _ _ _⟩

set_option maxRecDepth 100000 in
set_option maxHeartbeats 1000000 in
theorem fits5 (a1 a2 a3 a4 a5 a6 : Option Addr) (n1 n2 n3 n4 n5 n6 c1 c2 c3 c4 c5 c6 : Nat) (mn pa sl : Int) (fn nm : ByteArray) (op xa xb xc xi : Int) (n : Int) (w : World) :
    Calls Tryd.prog 49 #[.agg #[.slice a1 n1 c1, .int .i64 mn, .slice a2 n2 c2, .string fn, .int .i64 pa, .int .i64 sl, .slice a3 n3 c3], .int .u8 5, .int .i64 n, .agg #[.int .u8 op, .int .i64 xa, .int .i64 xb, .int .i64 xc, .slice a4 n4 c4, .slice a5 n5 c5, .int .i64 xi, .string nm, .slice a6 n6 c6]] w fun e w' => e = .returned (.bool (withinB n 1 3)) ∧ Below w.heap.size w w' := by
  have HC := Lib.hid fun W => within_calls n 1 3 W
  generalize withinB n 1 3 = r at *
  go_enter Tryd.func49, Tryd.ntmps49
  go_wp2_with (go_at_call 61; (with_reducible refine (HC.out _).mono ?_); rintro e w1 ⟨rfl, rfl⟩)
  go_ret
  exact ⟨rfl, box2 _ _ _⟩

set_option maxRecDepth 100000 in
set_option maxHeartbeats 1000000 in
theorem fits6 (a1 a2 a3 a4 a5 a6 : Option Addr) (n1 n2 n3 n4 n5 n6 c1 c2 c3 c4 c5 c6 : Nat) (mn pa sl : Int) (fn nm : ByteArray) (op xa xb xc xi : Int) (n : Int) (w : World) :
    Calls Tryd.prog 49 #[.agg #[.slice a1 n1 c1, .int .i64 mn, .slice a2 n2 c2, .string fn, .int .i64 pa, .int .i64 sl, .slice a3 n3 c3], .int .u8 6, .int .i64 n, .agg #[.int .u8 op, .int .i64 xa, .int .i64 xb, .int .i64 xc, .slice a4 n4 c4, .slice a5 n5 c5, .int .i64 xi, .string nm, .slice a6 n6 c6]] w fun e w' => e = .returned (.bool (constB xa n)) ∧ Below w.heap.size w w' := by
  have HC := Lib.hid fun W => fitsConst_calls xa n W
  generalize constB xa n = r at *
  go_enter Tryd.func49, Tryd.ntmps49
  go_wp2_with (go_at_call 62; (with_reducible refine (HC.out _).mono ?_); rintro e w1 ⟨rfl, rfl⟩)
  go_ret
  exact ⟨rfl, box2 _ _ _⟩

set_option maxRecDepth 100000 in
set_option maxHeartbeats 1000000 in
theorem fits7 (a1 a2 a3 a4 a5 a6 : Option Addr) (n1 n2 n3 n4 n5 n6 c1 c2 c3 c4 c5 c6 : Nat) (mn pa sl : Int) (fn nm : ByteArray) (op xa xb xc xi : Int) (n : Int) (w : World) :
    Calls Tryd.prog 49 #[.agg #[.slice a1 n1 c1, .int .i64 mn, .slice a2 n2 c2, .string fn, .int .i64 pa, .int .i64 sl, .slice a3 n3 c3], .int .u8 7, .int .i64 n, .agg #[.int .u8 op, .int .i64 xa, .int .i64 xb, .int .i64 xc, .slice a4 n4 c4, .slice a5 n5 c5, .int .i64 xi, .string nm, .slice a6 n6 c6]] w fun e w' => e = .returned (.bool (withinB n 7 8)) ∧ Below w.heap.size w w' := by
  have HC := Lib.hid fun W => within_calls n 7 8 W
  generalize withinB n 7 8 = r at *
  go_enter Tryd.func49, Tryd.ntmps49
  go_wp2_with (go_at_call 61; (with_reducible refine (HC.out _).mono ?_); rintro e w1 ⟨rfl, rfl⟩)
  go_ret
  exact ⟨rfl, box2 _ _ _⟩

set_option maxRecDepth 100000 in
set_option maxHeartbeats 1000000 in
theorem fits8 (a1 a2 a3 a4 a5 a6 : Option Addr) (n1 n2 n3 n4 n5 n6 c1 c2 c3 c4 c5 c6 : Nat) (mn pa sl : Int) (fn nm : ByteArray) (op xa xb xc xi : Int) (n : Int) (w : World) :
    Calls Tryd.prog 49 #[.agg #[.slice a1 n1 c1, .int .i64 mn, .slice a2 n2 c2, .string fn, .int .i64 pa, .int .i64 sl, .slice a3 n3 c3], .int .u8 8, .int .i64 n, .agg #[.int .u8 op, .int .i64 xa, .int .i64 xb, .int .i64 xc, .slice a4 n4 c4, .slice a5 n5 c5, .int .i64 xi, .string nm, .slice a6 n6 c6]] w fun e w' => e = .returned (.bool (withinB n 9 17)) ∧ Below w.heap.size w w' := by
  have HC := Lib.hid fun W => within_calls n 9 17 W
  generalize withinB n 9 17 = r at *
  go_enter Tryd.func49, Tryd.ntmps49
  go_wp2_with (go_at_call 61; (with_reducible refine (HC.out _).mono ?_); rintro e w1 ⟨rfl, rfl⟩)
  go_ret
  exact ⟨rfl, box2 _ _ _⟩

set_option maxRecDepth 100000 in
set_option maxHeartbeats 1000000 in
theorem fits9 (a1 a2 a3 a4 a5 a6 : Option Addr) (n1 n2 n3 n4 n5 n6 c1 c2 c3 c4 c5 c6 : Nat) (mn pa sl : Int) (fn nm : ByteArray) (op xa xb xc xi : Int) (n : Int) (w : World) :
    Calls Tryd.prog 49 #[.agg #[.slice a1 n1 c1, .int .i64 mn, .slice a2 n2 c2, .string fn, .int .i64 pa, .int .i64 sl, .slice a3 n3 c3], .int .u8 9, .int .i64 n, .agg #[.int .u8 op, .int .i64 xa, .int .i64 xb, .int .i64 xc, .slice a4 n4 c4, .slice a5 n5 c5, .int .i64 xi, .string nm, .slice a6 n6 c6]] w fun e w' => e = .returned (.bool (withinB n 0 6)) ∧ Below w.heap.size w w' := by
  have HC := Lib.hid fun W => within_calls n 0 6 W
  generalize withinB n 0 6 = r at *
  go_enter Tryd.func49, Tryd.ntmps49
  go_wp2_with (go_at_call 61; (with_reducible refine (HC.out _).mono ?_); rintro e w1 ⟨rfl, rfl⟩)
  go_ret
  exact ⟨rfl, box2 _ _ _⟩

set_option maxRecDepth 100000 in
set_option maxHeartbeats 1000000 in
theorem fits10 (a1 a2 a3 a4 a5 a6 : Option Addr) (n1 n2 n3 n4 n5 n6 c1 c2 c3 c4 c5 c6 : Nat) (mn pa sl : Int) (fn nm : ByteArray) (op xa xb xc xi : Int) (n : Int) (w : World) :
    Calls Tryd.prog 49 #[.agg #[.slice a1 n1 c1, .int .i64 mn, .slice a2 n2 c2, .string fn, .int .i64 pa, .int .i64 sl, .slice a3 n3 c3], .int .u8 10, .int .i64 n, .agg #[.int .u8 op, .int .i64 xa, .int .i64 xb, .int .i64 xc, .slice a4 n4 c4, .slice a5 n5 c5, .int .i64 xi, .string nm, .slice a6 n6 c6]] w fun e w' => e = .returned (.bool (withinB n 0 5)) ∧ Below w.heap.size w w' := by
  have HC := Lib.hid fun W => within_calls n 0 5 W
  generalize withinB n 0 5 = r at *
  go_enter Tryd.func49, Tryd.ntmps49
  go_wp2_with (go_at_call 61; (with_reducible refine (HC.out _).mono ?_); rintro e w1 ⟨rfl, rfl⟩)
  go_ret
  exact ⟨rfl, box2 _ _ _⟩

set_option maxRecDepth 100000 in
set_option maxHeartbeats 1000000 in
theorem fits11 (a1 a2 a3 a4 a5 a6 : Option Addr) (n1 n2 n3 n4 n5 n6 c1 c2 c3 c4 c5 c6 : Nat) (mn pa sl : Int) (fn nm : ByteArray) (op xa xb xc xi : Int) (n : Int) (w : World) :
    Calls Tryd.prog 49 #[.agg #[.slice a1 n1 c1, .int .i64 mn, .slice a2 n2 c2, .string fn, .int .i64 pa, .int .i64 sl, .slice a3 n3 c3], .int .u8 11, .int .i64 n, .agg #[.int .u8 op, .int .i64 xa, .int .i64 xb, .int .i64 xc, .slice a4 n4 c4, .slice a5 n5 c5, .int .i64 xi, .string nm, .slice a6 n6 c6]] w fun e w' => e = .returned (.bool (withinB n 0 1)) ∧ Below w.heap.size w w' := by
  have HC := Lib.hid fun W => within_calls n 0 1 W
  generalize withinB n 0 1 = r at *
  go_enter Tryd.func49, Tryd.ntmps49
  go_wp2_with (go_at_call 61; (with_reducible refine (HC.out _).mono ?_); rintro e w1 ⟨rfl, rfl⟩)
  go_ret
  exact ⟨rfl, box2 _ _ _⟩

set_option maxRecDepth 100000 in
set_option maxHeartbeats 1000000 in
theorem fits12 (a1 a2 a3 a4 a5 a6 : Option Addr) (n1 n2 n3 n4 n5 n6 c1 c2 c3 c4 c5 c6 : Nat) (mn pa sl : Int) (fn nm : ByteArray) (op xa xb xc xi : Int) (n : Int) (w : World) :
    Calls Tryd.prog 49 #[.agg #[.slice a1 n1 c1, .int .i64 mn, .slice a2 n2 c2, .string fn, .int .i64 pa, .int .i64 sl, .slice a3 n3 c3], .int .u8 12, .int .i64 n, .agg #[.int .u8 op, .int .i64 xa, .int .i64 xb, .int .i64 xc, .slice a4 n4 c4, .slice a5 n5 c5, .int .i64 xi, .string nm, .slice a6 n6 c6]] w fun e w' => e = .returned (.bool (withinB n 6 11)) ∧ Below w.heap.size w w' := by
  have HC := Lib.hid fun W => within_calls n 6 11 W
  generalize withinB n 6 11 = r at *
  go_enter Tryd.func49, Tryd.ntmps49
  go_wp2_with (go_at_call 61; (with_reducible refine (HC.out _).mono ?_); rintro e w1 ⟨rfl, rfl⟩)
  go_ret
  exact ⟨rfl, box2 _ _ _⟩

set_option maxRecDepth 100000 in
set_option maxHeartbeats 1000000 in
theorem fits13 (a1 a2 a3 a4 a5 a6 : Option Addr) (n1 n2 n3 n4 n5 n6 c1 c2 c3 c4 c5 c6 : Nat) (mn pa sl : Int) (fn nm : ByteArray) (op xa xb xc xi : Int) (n : Int) (w : World) :
    Calls Tryd.prog 49 #[.agg #[.slice a1 n1 c1, .int .i64 mn, .slice a2 n2 c2, .string fn, .int .i64 pa, .int .i64 sl, .slice a3 n3 c3], .int .u8 13, .int .i64 n, .agg #[.int .u8 op, .int .i64 xa, .int .i64 xb, .int .i64 xc, .slice a4 n4 c4, .slice a5 n5 c5, .int .i64 xi, .string nm, .slice a6 n6 c6]] w fun e w' => e = .returned (.bool (decide (n = 6) || decide (n = 10))) ∧ Below w.heap.size w w' := by
  by_cases h1 : n = 6
  · subst h1
    rw [decide_eq_true rfl]
    go_enter Tryd.func49, Tryd.ntmps49
    go_wp2_with fail
    go_ret
    exact ⟨rfl, box2 _ _ _⟩
  · have e1 : (n == 6) = false := by simpa using h1
    rw [decide_eq_false h1]
    by_cases h2 : n = 10
    · subst h2
      rw [decide_eq_true rfl]
      clear h1
      go_enter Tryd.func49, Tryd.ntmps49
      go_wp2_with fail
      go_ret
      exact ⟨rfl, box2 _ _ _⟩
    · have e2 : (n == 10) = false := by simpa using h2
      rw [decide_eq_false h2]
      clear h1 h2
      go_enter Tryd.func49, Tryd.ntmps49
      go_wp2_with fail
      go_ret
      exact ⟨rfl, box2 _ _ _⟩

set_option maxRecDepth 100000 in
set_option maxHeartbeats 1000000 in
theorem fits14 (a1 a2 a3 a4 a5 a6 : Option Addr) (n1 n2 n3 n4 n5 n6 c1 c2 c3 c4 c5 c6 : Nat) (mn pa sl : Int) (fn nm : ByteArray) (op xa xb xc xi : Int) (n : Int) (w : World) :
    Calls Tryd.prog 49 #[.agg #[.slice a1 n1 c1, .int .i64 mn, .slice a2 n2 c2, .string fn, .int .i64 pa, .int .i64 sl, .slice a3 n3 c3], .int .u8 14, .int .i64 n, .agg #[.int .u8 op, .int .i64 xa, .int .i64 xb, .int .i64 xc, .slice a4 n4 c4, .slice a5 n5 c5, .int .i64 xi, .string nm, .slice a6 n6 c6]] w fun e w' => e = .returned (.bool (withinB n 1 8)) ∧ Below w.heap.size w w' := by
  have HC := Lib.hid fun W => within_calls n 1 8 W
  generalize withinB n 1 8 = r at *
  go_enter Tryd.func49, Tryd.ntmps49
  go_wp2_with (go_at_call 61; (with_reducible refine (HC.out _).mono ?_); rintro e w1 ⟨rfl, rfl⟩)
  go_ret
  exact ⟨rfl, box2 _ _ _⟩

theorem paramsAt_eq {u : UU} {k : Nat} {g : FF} (h : u.funcs[k]? = some g) : paramsAt u k = g.params := by simp [paramsAt, h]
theorem fits_calls (B : Nat) (u : UU) (vu : VU) (f : FF) (vc : Value) (asked : Nat) (ha : asked ≤ 14) (n : Int) (x : JJ) (v : VJ) (w : World) (hB : B ≤ w.heap.size) (hu : u.In B w vu) (hf : ∃ ao cap, vc = .slice ao f.code.length cap) (hx : x.In B w v)
    (h3 : asked = 3 → u.funcs ≠ []) (h4 : asked = 4 → 0 ≤ x.a ∧ x.a < u.funcs.length) :
    Calls Tryd.prog 49 #[siteV u vu f vc, .int .u8 asked, .int .i64 n, x.val v] w fun e w' => e = .returned (.bool (fitsB u f asked n x.a)) ∧ Below w.heap.size w w' := by
  obtain ⟨a1, c1, a2, c2, rfl⟩ := hu.shape
  obtain ⟨a3, c3, rfl⟩ := hf
  obtain ⟨a4, c4, a5, c5, a6, c6, rfl⟩ := hx.shape
  have hl := GIn.len hu.1
  match asked, ha, h3, h4 with
  | 0, _, _, _ => exact fits0 a1 a2 a3 a4 a5 a6 u.funcs.length u.types.length f.code.length x.slots.length x.path.length x.names c1 c2 c3 c4 c5 c6 u.main f.params f.slots f.name x.name x.op x.a x.b x.c x.int n w
  | 1, _, _, _ => exact fits1 a1 a2 a3 a4 a5 a6 u.funcs.length u.types.length f.code.length x.slots.length x.path.length x.names c1 c2 c3 c4 c5 c6 u.main f.params f.slots f.name x.name x.op x.a x.b x.c x.int n w
  | 2, _, _, _ => exact fits2 a1 a2 a3 a4 a5 a6 u.funcs.length u.types.length f.code.length x.slots.length x.path.length x.names c1 c2 c3 c4 c5 c6 u.main f.params f.slots f.name x.name x.op x.a x.b x.c x.int n w
  | 3, _, h3, _ => exact fits3 a1 a2 a3 a4 a5 a6 u.funcs.length u.types.length f.code.length x.slots.length x.path.length x.names c1 c2 c3 c4 c5 c6 u.main f.params f.slots f.name x.name x.op x.a x.b x.c x.int n w (List.length_pos_iff.2 (h3 rfl)) hl
  | 4, _, _, h4 =>
    obtain ⟨h0, h1⟩ := h4 rfl
    obtain ⟨k, hk⟩ : ∃ k : Nat, x.a = k := ⟨x.a.toNat, by omega⟩
    obtain ⟨g, hg, hgm⟩ := get_at (l := u.funcs) (k := k) (by omega)
    obtain ⟨_, _, _, b, o, hb, hr⟩ := GIn.at hu.1
    obtain ⟨rfl, hbB⟩ := hb (by omega)
    obtain ⟨vg, hc, _⟩ := hr k g hg
    have hc1 : w.cell? ⟨b, o + k * 4 + 1, none⟩ = some (.int .i64 g.params) := hc 1 _ rfl
    refine (fits4 _ a2 a3 a4 a5 a6 _ _ f.code.length x.slots.length x.path.length x.names c1 c2 c3 c4 c5 c6 u.main f.params f.slots f.name x.name x.op x.a x.b x.c x.int n w k b o (by omega) hk rfl g.params (by omega) hc1).mono fun e w' h => ?_
    refine ⟨h.1.trans ?_, h.2⟩
    show _ = Ending.returned (.bool (decide (n = paramsAt u x.a)))
    rw [hk, paramsAt_eq hg]
  | 5, _, _, _ => exact fits5 a1 a2 a3 a4 a5 a6 u.funcs.length u.types.length f.code.length x.slots.length x.path.length x.names c1 c2 c3 c4 c5 c6 u.main f.params f.slots f.name x.name x.op x.a x.b x.c x.int n w
  | 6, _, _, _ => exact fits6 a1 a2 a3 a4 a5 a6 u.funcs.length u.types.length f.code.length x.slots.length x.path.length x.names c1 c2 c3 c4 c5 c6 u.main f.params f.slots f.name x.name x.op x.a x.b x.c x.int n w
  | 7, _, _, _ => exact fits7 a1 a2 a3 a4 a5 a6 u.funcs.length u.types.length f.code.length x.slots.length x.path.length x.names c1 c2 c3 c4 c5 c6 u.main f.params f.slots f.name x.name x.op x.a x.b x.c x.int n w
  | 8, _, _, _ => exact fits8 a1 a2 a3 a4 a5 a6 u.funcs.length u.types.length f.code.length x.slots.length x.path.length x.names c1 c2 c3 c4 c5 c6 u.main f.params f.slots f.name x.name x.op x.a x.b x.c x.int n w
  | 9, _, _, _ => exact fits9 a1 a2 a3 a4 a5 a6 u.funcs.length u.types.length f.code.length x.slots.length x.path.length x.names c1 c2 c3 c4 c5 c6 u.main f.params f.slots f.name x.name x.op x.a x.b x.c x.int n w
  | 10, _, _, _ => exact fits10 a1 a2 a3 a4 a5 a6 u.funcs.length u.types.length f.code.length x.slots.length x.path.length x.names c1 c2 c3 c4 c5 c6 u.main f.params f.slots f.name x.name x.op x.a x.b x.c x.int n w
  | 11, _, _, _ => exact fits11 a1 a2 a3 a4 a5 a6 u.funcs.length u.types.length f.code.length x.slots.length x.path.length x.names c1 c2 c3 c4 c5 c6 u.main f.params f.slots f.name x.name x.op x.a x.b x.c x.int n w
  | 12, _, _, _ => exact fits12 a1 a2 a3 a4 a5 a6 u.funcs.length u.types.length f.code.length x.slots.length x.path.length x.names c1 c2 c3 c4 c5 c6 u.main f.params f.slots f.name x.name x.op x.a x.b x.c x.int n w
  | 13, _, _, _ => exact fits13 a1 a2 a3 a4 a5 a6 u.funcs.length u.types.length f.code.length x.slots.length x.path.length x.names c1 c2 c3 c4 c5 c6 u.main f.params f.slots f.name x.name x.op x.a x.b x.c x.int n w
  | 14, _, _, _ => exact fits14 a1 a2 a3 a4 a5 a6 u.funcs.length u.types.length f.code.length x.slots.length x.path.length x.names c1 c2 c3 c4 c5 c6 u.main f.params f.slots f.name x.name x.op x.a x.b x.c x.int n w
end Go.Proofs.YtlbdoomknjiilaaDoor
