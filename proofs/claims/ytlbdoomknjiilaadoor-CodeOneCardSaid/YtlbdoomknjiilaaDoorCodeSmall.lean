/- Code: the small functions; what an Op asks for. -/
import Derived.Test.YtlbdoomknjiilaaDoorCodeMem
import Derived.Test.YtlbdoomknjiilaaDoorChecked
import Derived.WalkKit
import Derived.ProofKit
import Derived.IntWalk
import Derived.OneCell
import Derived.Laws.Rows
namespace Go.Proofs.YtlbdoomknjiilaaDoor
open Go.RowKit
set_option linter.unusedVariables false

theorem within_calls (n lo hi : Int) (w : World) : Calls Tryd.prog 61 #[.int .i64 n, .int .i64 lo, .int .i64 hi] w fun e w' => e = .returned (.bool (withinB n lo hi)) ∧ w = w' := by
  unfold withinB
  by_cases h1 : lo ≤ n
  · rw [decide_eq_true h1]
    by_cases h2 : n ≤ hi
    · rw [decide_eq_true h2]
      go_enter Tryd.func61, Tryd.ntmps61
      go_wp2_with fail
      go_ret
      exact ⟨rfl, rfl⟩
    · rw [decide_eq_false h2]
      go_enter Tryd.func61, Tryd.ntmps61
      go_wp2_with fail
      go_ret
      exact ⟨rfl, rfl⟩
  · rw [decide_eq_false h1]
    go_enter Tryd.func61, Tryd.ntmps61
    go_wp2_with fail
    go_ret
    exact ⟨rfl, rfl⟩
theorem fitsConst_calls (a n : Int) (w : World) : Calls Tryd.prog 62 #[.int .i64 a, .int .i64 n] w fun e w' => e = .returned (.bool (constB a n)) ∧ w = w' := by
  have HC := Lib.hid fun W => within_calls n 0 1 W
  unfold constB
  generalize withinB n 0 1 = r at *
  by_cases h1 : a = 1
  · subst h1
    rw [if_pos rfl]
    go_enter Tryd.func62, Tryd.ntmps62
    go_wp2_with fail
    go_ret
    exact ⟨rfl, rfl⟩
  · have e1 : (a == 1) = false := by simpa using h1
    rw [if_neg h1]
    by_cases h2 : a = 2
    · subst h2
      rw [if_pos rfl]
      clear h1 e1
      go_enter Tryd.func62, Tryd.ntmps62
      go_wp2_with (go_at_call 61; (with_reducible refine (HC.out _).mono ?_); rintro e w' ⟨rfl, rfl⟩)
      go_ret
      exact ⟨rfl, rfl⟩
    · have e2 : (a == 2) = false := by simpa using h2
      rw [if_neg h2]
      by_cases h3 : n = 0
      · subst h3
        rw [decide_eq_true rfl]
        clear h1 h2
        go_enter Tryd.func62, Tryd.ntmps62
        go_wp2_with fail
        go_ret
        exact ⟨rfl, rfl⟩
      · have e3 : (n == 0) = false := by simpa using h3
        rw [decide_eq_false h3]
        clear h1 h2 h3
        go_enter Tryd.func62, Tryd.ntmps62
        go_wp2_with fail
        go_ret
        exact ⟨rfl, rfl⟩
theorem isName_calls (s : ByteArray) (w : World) : Calls Tryd.prog 54 #[.string s] w fun e w' => e = .returned (.bool (nameB s)) ∧ w = w' := by
  unfold nameB
  by_cases h1 : 1 ≤ s.size
  · have e1 : decide (1 ≤ (s.size : Int)) = true := decide_eq_true (by omega)
    rw [decide_eq_true h1]
    by_cases h2 : s.size ≤ 16
    · have e2 : decide ((s.size : Int) ≤ 16) = true := decide_eq_true (by omega)
      rw [decide_eq_true h2]
      go_enter Tryd.func54, Tryd.ntmps54
      go_wp2_with fail
      go_ret
      exact ⟨rfl, rfl⟩
    · have e2 : decide ((s.size : Int) ≤ 16) = false := decide_eq_false (by omega)
      rw [decide_eq_false h2]
      go_enter Tryd.func54, Tryd.ntmps54
      go_wp2_with fail
      go_ret
      exact ⟨rfl, rfl⟩
  · have e1 : decide (1 ≤ (s.size : Int)) = false := decide_eq_false (by omega)
    rw [decide_eq_false h1]
    go_enter Tryd.func54, Tryd.ntmps54
    go_wp2_with fail
    go_ret
    exact ⟨rfl, rfl⟩
theorem refName_calls (s : ByteArray) (w : World) : Calls Tryd.prog 28 #[.string s] w fun e w' => e = .returned (.bool (nameB s)) ∧ w = w' := by
  unfold nameB
  by_cases h1 : 1 ≤ s.size
  · have e1 : decide (1 ≤ (s.size : Int)) = true := decide_eq_true (by omega)
    rw [decide_eq_true h1]
    by_cases h2 : s.size ≤ 16
    · have e2 : decide ((s.size : Int) ≤ 16) = true := decide_eq_true (by omega)
      rw [decide_eq_true h2]
      go_enter Tryd.func28, Tryd.ntmps28
      go_wp2_with fail
      go_ret
      exact ⟨rfl, rfl⟩
    · have e2 : decide ((s.size : Int) ≤ 16) = false := decide_eq_false (by omega)
      rw [decide_eq_false h2]
      go_enter Tryd.func28, Tryd.ntmps28
      go_wp2_with fail
      go_ret
      exact ⟨rfl, rfl⟩
  · have e1 : decide (1 ≤ (s.size : Int)) = false := decide_eq_false (by omega)
    rw [decide_eq_false h1]
    go_enter Tryd.func28, Tryd.ntmps28
    go_wp2_with fail
    go_ret
    exact ⟨rfl, rfl⟩
theorem isNumber_calls (i : Int) (ao : Option Addr) (n cap : Nat) (w : World) : Calls Tryd.prog 25 #[.int .i64 i, .slice ao n cap] w fun e w' => e = .returned (.bool (decide (0 ≤ i) && decide (i < n))) ∧ w = w' := by
  by_cases h1 : 0 ≤ i
  · rw [decide_eq_true h1]
    by_cases h2 : i < n
    · rw [decide_eq_true h2]
      go_enter Tryd.func25, Tryd.ntmps25
      go_wp2_with fail
      go_ret
      exact ⟨rfl, rfl⟩
    · rw [decide_eq_false h2]
      go_enter Tryd.func25, Tryd.ntmps25
      go_wp2_with fail
      go_ret
      exact ⟨rfl, rfl⟩
  · rw [decide_eq_false h1]
    go_enter Tryd.func25, Tryd.ntmps25
    go_wp2_with fail
    go_ret
    exact ⟨rfl, rfl⟩

/-! ### what an Op asks for -/
def RR.cells (r : RR) : List Value := [.string ⟨r.op.toArray⟩, .int .u8 r.a, .int .u8 r.b, .int .u8 r.i, .bool r.p, .bool r.s, .bool r.n]
def RR.val (r : RR) : Value := .agg #[.string ⟨r.op.toArray⟩, .int .u8 r.a, .int .u8 r.b, .int .u8 r.i, .bool r.p, .bool r.s, .bool r.n]
/-- the array of rows lies where the program's text lays it -/
def RTab (B : Nat) (w : World) : Prop := 0 < B ∧ ∀ k : Nat, k < 35 → At w 0 (k * 7) ((codeRows[k]?).getD noRow).cells
theorem RTab.below {B : Nat} {w w' : World} (h : RTab B w) (k : Below B w w') : RTab B w' := ⟨h.1, fun j hj => (h.2 j hj).below h.1 k⟩
theorem known_calls (r : RR) (w : World) : Calls Tryd.prog 40 #[r.val] w fun e w' => e = .returned (.bool (!r.op.isEmpty)) ∧ Below w.heap.size w w' := by
  obtain ⟨op, a, b, i, p, s, n⟩ := r
  show Calls _ _ #[.agg #[.string ⟨op.toArray⟩, .int .u8 a, .int .u8 b, .int .u8 i, .bool p, .bool s, .bool n]] w fun e w' => e = .returned (.bool (!op.isEmpty)) ∧ _
  have e1 : (⟨op.toArray⟩ : ByteArray).toList.isEmpty = op.isEmpty := by rw [ByteArray.toList_eq]
  generalize (⟨op.toArray⟩ : ByteArray) = S at *
  generalize (a : Int) = a at *
  generalize (b : Int) = b at *
  generalize (i : Int) = i at *
  cases h : op.isEmpty
  · rw [h] at e1
    have e2 : (!S.toList.isEmpty) = true := by rw [e1]; rfl
    clear h
    go_enter Tryd.func40, Tryd.ntmps40
    go_wp2_with fail
    go_ret
    exact ⟨rfl, box1 _ _⟩
  · rw [h] at e1
    have e2 : (!S.toList.isEmpty) = false := by rw [e1]; rfl
    clear h
    go_enter Tryd.func40, Tryd.ntmps40
    go_wp2_with fail
    go_ret
    exact ⟨rfl, box1 _ _⟩
end Go.Proofs.YtlbdoomknjiilaaDoor
