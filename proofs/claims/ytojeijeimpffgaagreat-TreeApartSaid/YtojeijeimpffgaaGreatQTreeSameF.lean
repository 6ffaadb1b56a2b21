/- Contracts of package tree: sameness, SameF (made by gen_same.py). -/
import Derived.Test.YtojeijeimpffgaaGreatQTreeEqF
namespace Go.Proofs.YtojeijeimpffgaaGreat
open Go.RowKit
set_option linter.unusedVariables false

set_option maxRecDepth 100000 in
set_option maxHeartbeats 4000000 in
theorem sameF_step (B : Nat) (a : PF) : SameFAt B a := by
  intro b va vb w hB ha hb
  obtain ⟨pa0, na0, qa0, rfl⟩ := ha.shape
  obtain ⟨pb0, nb0, qb0, rfl⟩ := hb.shape
  obtain ⟨_, hta⟩ := ha
  obtain ⟨_, htb⟩ := hb
  show Calls Tryz.prog 82 #[.agg #[.string a.name, .int .u8 a.type.kind, .string a.type.name, .slice pa0 na0 qa0], .agg #[.string b.name, .int .u8 b.type.kind, .string b.type.name, .slice pb0 nb0 qb0]] w _
  go_enter Tryz.func82, Tryz.ntmps82
  go_wp2_with fail
  · refine (sameT_calls B a.type b.type _ _ _ (by simp; omega) (PT.In.below (box2B w hB _ _) hta) (PT.In.below (box2B w hB _ _) htb)).mono ?_
    rintro e w1 ⟨rfl, b1⟩
    have bel1 := b1
    go_wp2
    go_ret
    exact ⟨ret_bool (by simp [sameF_mk, sameW_toList, *]), up_tr (box2 _ _ _) bel1⟩
  all_goals (go_ret; exact ⟨ret_bool (by simp [sameF_mk, sameW_toList, *]), box2 _ _ _⟩)
end Go.Proofs.YtojeijeimpffgaaGreat
