/- Contracts of package tree: sameness, SameA (made by gen_same.py). -/
import Derived.Test.YtojeijeimpffgaaGreatQTreeEqS
import Derived.Test.YtojeijeimpffgaaGreatQTreeEqA
namespace Go.Proofs.YtojeijeimpffgaaGreat
open Go.RowKit
set_option linter.unusedVariables false

set_option maxRecDepth 100000 in
set_option maxHeartbeats 4000000 in
theorem sameA_step (B : Nat) (vaa nma : ByteArray) (boa : List PS) (H : ∀ a, a ∈ boa → SameSAt B a) : SameAAt B (.mk vaa nma boa) := by
  intro b va vb w hB ha hb
  obtain ⟨vab, nmb, bob⟩ := b
  obtain ⟨pa0, na0, qa0, rfl⟩ := ha.shape
  obtain ⟨pb0, nb0, qb0, rfl⟩ := hb.shape
  obtain ⟨_, bxa, oxa, sxa, rxa⟩ := ha
  obtain ⟨_, bxb, oxb, sxb, rxb⟩ := hb
  show Calls Tryz.prog 103 #[.agg #[.string vaa, .string nma, .slice pa0 na0 qa0], .agg #[.string vab, .string nmb, .slice pb0 nb0 qb0]] w _
  go_enter Tryz.func103, Tryz.ntmps103
  go_wp2_with fail
  · refine (equalS_calls B boa bob (Lib.hid H) bxa oxa bxb oxb _ _ _ (by simp; omega) sxa (PS.Row.below' (box2B w hB _ _) sxa rxa) sxb (PS.Row.below' (box2B w hB _ _) sxb rxb)).mono ?_
    rintro e w1 ⟨rfl, b1⟩
    have bel1 := b1
    go_wp2
    go_ret
    exact ⟨ret_bool (by simp [sameA_mk, sameW_toList, *]), up_tr (box2 _ _ _) bel1⟩
  all_goals (go_ret; exact ⟨ret_bool (by simp [sameA_mk, sameW_toList, *]), box2 _ _ _⟩)
end Go.Proofs.YtojeijeimpffgaaGreat
