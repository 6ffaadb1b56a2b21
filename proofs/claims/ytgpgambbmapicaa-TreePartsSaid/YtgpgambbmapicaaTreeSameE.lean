/- Contracts of package tree: sameness, SameE (made by gen_same.py). -/
import Derived.Test.YtgpgambbmapicaaTreeEqE
namespace Go.Proofs.Ytgpgambbmapicaa
open Go.RowKit
set_option linter.unusedVariables false

set_option maxRecDepth 100000 in
set_option maxHeartbeats 4000000 in
theorem sameE_step (B : Nat) (opa iva : Int) (nma sca : ByteArray) (pla : PP) (esa : List PE) (ata : Int) (H : ∀ a, a ∈ esa → SameEAt B a) : SameEAt B (.mk opa iva nma sca pla esa ata) := by
  intro b va vb w hB ha hb
  obtain ⟨opb, ivb, nmb, scb, plb, esb, atb⟩ := b
  obtain ⟨pa0, na0, qa0, pa1, na1, qa1, rfl⟩ := ha.shape
  obtain ⟨pb0, nb0, qb0, pb1, nb1, qb1, rfl⟩ := hb.shape
  obtain ⟨_, hpa, ba, oa, sa, ra⟩ := ha
  obtain ⟨_, hpb, bb, ob, sb, rb⟩ := hb
  show Calls Try.prog 125 #[.agg #[.int .u8 opa, .int .i64 iva, .string nma, .string sca, .string pla.name, .slice pa0 na0 qa0, .slice pa1 na1 qa1, .int .i64 ata], .agg #[.int .u8 opb, .int .i64 ivb, .string nmb, .string scb, .string plb.name, .slice pb0 nb0 qb0, .slice pb1 nb1 qb1, .int .i64 atb]] w _
  go_enter Try.func125, Try.ntmps125
  go_wp2_with fail
  · refine (samePl_calls B pla plb _ _ _ (by simp; omega) (hpa.below (box2B w hB _ _)) (hpb.below (box2B w hB _ _))).mono ?_
    rintro e w1 ⟨rfl, b1⟩
    have bel1 := b1
    have bB1 := (box2B w hB _ _).trans (bel1.mono (by simp; omega))
    have hz1 : w.heap.size + 1 < w1.heap.size := by have := b1.size; simp at this; omega
    have hc1 := old_cells bel1
    go_wp2_with fail
    · refine (equalE_calls B esa esb (Lib.hid H) ba oa bb ob _ _ _ (by omega) sa (PE.Row.below' bB1 sa ra) sb (PE.Row.below' bB1 sb rb)).mono ?_
      rintro e w2 ⟨rfl, b2⟩
      have bel2 := up_tr bel1 b2
      go_wp2
      go_ret
      exact ⟨ret_bool (by simp [sameE_mk, sameW_toList, *]), up_tr (box2 _ _ _) bel2⟩
    all_goals (go_ret; exact ⟨ret_bool (by simp [sameE_mk, sameW_toList, *]), up_tr (box2 _ _ _) bel1⟩)
  all_goals (go_ret; exact ⟨ret_bool (by simp [sameE_mk, sameW_toList, *]), box2 _ _ _⟩)

theorem sameE_calls (B : Nat) (a : PE) : SameEAt B a :=
  PE.rec (motive_1 := SameEAt B) (motive_2 := fun l => ∀ x, x ∈ l → SameEAt B x) (fun op i n s p xs pos H => sameE_step B op i n s p xs pos H)
    (fun x h => by cases h) (fun a l ha hl x h => by cases h with | head => exact ha | tail _ h => exact hl x h) a
end Go.Proofs.Ytgpgambbmapicaa
