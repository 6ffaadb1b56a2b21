/- Contracts of package tree: Same, SameType, SameExpr. -/
import Derived.Test.YtojeijeimpffgaaGreatQTreeSameI
namespace Go.Proofs.YtojeijeimpffgaaGreat
open Go.RowKit
set_option linter.unusedVariables false

theorem ProgIn.below {B : Nat} {w w' : World} {p : List PI} {v : Value} (h : ProgIn B w p v) (k : Below B w w') : ProgIn B w' p v := by
  obtain ⟨b, o, s, r⟩ := h
  exact ⟨b, o, s, PI.Row.below' k s r⟩
theorem SlV.noLen {B : Nat} {v : Value} {n b o : Nat} (h : SlV B v n b o) : ∃ ao cap, v = .slice ao n cap := h.shape
set_option maxHeartbeats 1000000 in
theorem topSame_calls (B : Nat) (p q : List PI) (v1 v2 : Value) (w : World) (hB : B ≤ w.heap.size) (hp : ProgIn B w p v1) (hq : ProgIn B w q v2) :
    Calls Tryz.prog 17 #[.agg #[v1], .agg #[v2]] w fun e w' => e = .returned (.bool (sameProg false p q)) ∧ Below w.heap.size w w' := by
  obtain ⟨b1, o1, s1, r1⟩ := hp
  obtain ⟨b2, o2, s2, r2⟩ := hq
  obtain ⟨a1, c1, rfl⟩ := s1.shape
  obtain ⟨a2, c2, rfl⟩ := s2.shape
  have C := Lib.hid (fun w' hB' h => equalI_calls B p q (Lib.hid fun a _ => by cases a; exact sameI_step B _ _ _ _ _ _ _) b1 o1 b2 o2 _ _ w' hB' s1 (PI.Row.below' h s1 r1) s2 (PI.Row.below' h s2 r2))
  go_enter Tryz.func17, Tryz.ntmps17
  go_wp2_with fail
  refine (C.out _ (by simp; omega) (box2B w hB _ _)).mono ?_
  rintro e w' ⟨rfl, b3⟩
  go_wp2
  go_ret
  exact ⟨rfl, up_tr (box2 _ _ _) b3⟩
end Go.Proofs.YtojeijeimpffgaaGreat
