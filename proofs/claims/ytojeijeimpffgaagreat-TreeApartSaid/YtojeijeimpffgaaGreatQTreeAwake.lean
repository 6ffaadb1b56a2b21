/- awake, last part: what Erase and Same answer there. -/
import Derived.Test.YtojeijeimpffgaaGreatQJoinH
import Derived.Test.YtojeijeimpffgaaGreatQTreeCopier
import Derived.Test.YtojeijeimpffgaaGreatQTreeTop
namespace Go.Proofs.YtojeijeimpffgaaGreat
open Go.RowKit Go.Shelf
set_option linter.unusedVariables false

theorem small_sm (pos : Int) : ∀ x, x ∈ [smallI pos] → SmI x := by
  intro x hx
  obtain rfl : x = smallI pos := by simpa using hx
  refine ⟨by simp [smallI, ByteArray.size], ⟨by simp [smallI], fun f hf => by simp [smallI] at hf⟩, ?_, ⟨by simp [smallI], ?_⟩, ?_⟩
  · exact .mk _ _ _ (by decide) (by simp) (fun t ht => by simp at ht)
  · show SmSs []
    rw [SmSs]; trivial
  · exact .mk _ _ _ _ _ _ _ (by decide) (by decide) ⟨by decide, by simp, fun s hs => by simp at hs⟩ (by simp) (fun t ht => by simp at ht)
theorem awake_calls (w : World) (hm : MaxOk w) : Calls Tryz.prog 14 #[] w fun e w' => e = .returned (.bool true) ∧ Below w.heap.size w w' := by
  refine awake0_calls w hm (Lib.hid fun W v hp => ?_) (Lib.hid fun W v1 v2 h1 h2 => ?_)
  · refine (erase_calls [smallI 7] (by simp) (small_sm 7) W.heap.size v W (Nat.le_refl _) hp).mono ?_
    rintro e w' ⟨ua, uc, rfl, h, b⟩
    obtain ⟨bb, o, s, r⟩ := h.out
    obtain ⟨_, ao, cap, e1, h3⟩ := s
    obtain ⟨rfl, hb⟩ := h3.resolve_left (by simp)
    injection e1 with e2 e3 e4
    subst e2
    obtain ⟨⟨vi, hc, _⟩, _⟩ := r
    have hcell := hc 15 (.int .i64 0) rfl
    exact ⟨bb, o, uc, rfl, (Fr.cell hcell).1, hb, b⟩
  · have := topSame_calls W.heap.size [smallI 0] [smallI 7] v1 v2 W (Nat.le_refl _) h1 h2
    rwa [closed9] at this
end Go.Proofs.YtojeijeimpffgaaGreat
