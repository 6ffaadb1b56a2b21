/- Contracts of package tree: Same, SameType, SameExpr. -/
import Derived.Test.YtikcjjbnbjjmcaaTreeSameI
namespace Go.Proofs.Ytikcjjbnbjjmcaa
open Go.RowKit
set_option linter.unusedVariables false

theorem ProgIn.below {B : Nat} {w w' : World} {p : List PI} {v : Value} (h : ProgIn B w p v) (k : Below B w w') : ProgIn B w' p v := by
  obtain ⟨b, o, s, r⟩ := h
  exact ⟨b, o, s, PI.Row.below' k s r⟩
theorem SlV.noLen {B : Nat} {v : Value} {n b o : Nat} (h : SlV B v n b o) : ∃ ao cap, v = .slice ao n cap := h.shape
set_option maxHeartbeats 1000000 in
theorem topType_calls (B : Nat) (a b : PT) (v1 v2 : Value) (w : World) (hB : B ≤ w.heap.size) (ha : a.In B w v1) (hb : b.In B w v2) :
    Calls Try.prog 13 #[.agg #[.int .u8 a.kind, .string a.name, v1], .agg #[.int .u8 b.kind, .string b.name, v2]] w fun e w' => e = .returned (.bool (sameT a b)) ∧ Below w.heap.size w w' := by
  obtain ⟨p1, n1, q1, rfl⟩ := ha.shape
  obtain ⟨p2, n2, q2, rfl⟩ := hb.shape
  have C := Lib.hid (fun w' hB' h => sameT_calls B a b (.slice p1 n1 q1) (.slice p2 n2 q2) w' hB' (PT.In.below h ha) (PT.In.below h hb))
  go_enter Try.func13, Try.ntmps13
  go_wp2_with fail
  refine (C.out _ (by simp; omega) (box2B w hB _ _)).mono ?_
  rintro e w' ⟨rfl, b3⟩
  go_wp2
  go_ret
  exact ⟨rfl, up_tr (box2 _ _ _) b3⟩
end Go.Proofs.Ytikcjjbnbjjmcaa
