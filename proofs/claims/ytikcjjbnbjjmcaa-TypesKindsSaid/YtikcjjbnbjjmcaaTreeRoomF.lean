/- The laws' own reckoning of room: fields; types and expressions alone. -/
import Derived.Test.YtikcjjbnbjjmcaaTreeRoomE
namespace Go.Proofs.Ytikcjjbnbjjmcaa
open Go.RowKit
set_option linter.unusedVariables false

/-- a block of the call's own that says how much room is left at first -/
theorem room_new (B : Nat) (w : World) (hB : B ≤ w.heap.size) (t : TypeId) (m : Int) : RoomAt B w.heap.size (w.alloc (.cells #[.int .i64 m] t)) m :=
  ⟨hB, by simp, by go_simp, by go_simp⟩
theorem But.newer {w w1 w2 : World} (h : Below w.heap.size w w1) (k : But w.heap.size w1 w2) : Below w.heap.size w w2 := h.trans (k.below (Nat.le_refl _) h.size)
set_option maxHeartbeats 1000000 in
theorem greatT_calls (B : Nat) (a : PT) (v : Value) (w : World) (hB : B ≤ w.heap.size) (ha : a.In B w v) :
    Calls Try.prog 4 #[.agg #[.int .u8 a.kind, .string a.name, v]] w fun e w' => e = .returned (.bool (decide (typeR a 20000 < 0))) ∧ Below w.heap.size w w' := by
  obtain ⟨p, n, q, rfl⟩ := ha.shape
  have C := Lib.hid (fun R w' h1 h2 h3 => roomT_calls B R a (.slice p n q) 20000 w' ⟨by omega, by omega⟩ h1 h2 h3)
  have Ia := Lib.hid ha
  have hq := typeR_rb a 20000 ⟨by omega, by omega⟩
  obtain ⟨hq1, hq2⟩ := hq
  clear ha
  go_enter Try.func4, Try.ntmps4
  go_wp2_with fail
  refine (C.out (w.heap.size + 1) _ (by simp; omega) ?_ (Ia.out.below (box2B _ hB _ _))).mono ?_
  · have h := room_new B (w.alloc (.cells #[.int .u8 a.kind, .string a.name, .slice p n q] 24)) (by simp; omega) 29 20000
    simpa using h
  rintro e w1 ⟨rfl, ⟨_, _, hc, hf⟩, b1⟩
  have b2 : Below w.heap.size w w1 := (box2 w _ _).trans (b1.below (by omega) (by simp; omega))
  have B2 := Lib.hid b2
  clear b1 b2
  go_wp2
  go_ret
  exact ⟨rfl, B2.out⟩
end Go.Proofs.Ytikcjjbnbjjmcaa
