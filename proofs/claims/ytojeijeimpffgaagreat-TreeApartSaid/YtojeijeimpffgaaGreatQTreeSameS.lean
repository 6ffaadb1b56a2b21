/- Contracts of package tree: sameness, SameS (made by gen_same.py). -/
import Derived.Test.YtojeijeimpffgaaGreatQJoinC
import Derived.Test.YtojeijeimpffgaaGreatQTreeSameA
namespace Go.Proofs.YtojeijeimpffgaaGreat
open Go.RowKit
set_option linter.unusedVariables false

set_option maxRecDepth 100000 in
set_option maxHeartbeats 4000000 in
theorem sameS_step (B : Nat) (opa : Int) (nma sca : ByteArray) (nsa : List ByteArray) (tya : PT) (iva : Int) (pla : PP) (esa : List PE) (boa ela : List PS) (ara : List PA) (ata : Int) (H1 : ∀ a, a ∈ boa → SameSAt B a) (H2 : ∀ a, a ∈ ela → SameSAt B a) (H3 : ∀ a, a ∈ ara → SameAAt B a) : SameSAt B (.mk opa nma sca nsa tya iva pla esa boa ela ara ata) := by
  intro b va vb w hB ha hb
  obtain ⟨opb, nmb, scb, nsb, tyb, ivb, plb, esb, bob, elb, arb, atb⟩ := b
  obtain ⟨pa0, na0, qa0, pa1, na1, qa1, pa2, na2, qa2, pa3, na3, qa3, pa4, na4, qa4, pa5, na5, qa5, pa6, na6, qa6, rfl⟩ := ha.shape
  obtain ⟨pb0, nb0, qb0, pb1, nb1, qb1, pb2, nb2, qb2, pb3, nb3, qb3, pb4, nb4, qb4, pb5, nb5, qb5, pb6, nb6, qb6, rfl⟩ := hb.shape
  obtain ⟨_, hna, hta, hpa, ⟨bea, oea, sea, rea⟩, ⟨bxa, oxa, sxa, rxa⟩, ⟨bla, ola, sla, rla⟩, bma, oma, sma, rma⟩ := ha
  obtain ⟨_, hnb, htb, hpb, ⟨beb, oeb, seb, reb⟩, ⟨bxb, oxb, sxb, rxb⟩, ⟨blb, olb, slb, rlb⟩, bmb, omb, smb, rmb⟩ := hb
  show Calls Tryz.prog 85 #[.agg #[.int .u8 opa, .string nma, .string sca, .slice pa0 na0 qa0, .int .u8 tya.kind, .string tya.name, .slice pa1 na1 qa1, .int .i64 iva, .string pla.name, .slice pa2 na2 qa2, .slice pa3 na3 qa3, .slice pa4 na4 qa4, .slice pa5 na5 qa5, .slice pa6 na6 qa6, .int .i64 ata], .agg #[.int .u8 opb, .string nmb, .string scb, .slice pb0 nb0 qb0, .int .u8 tyb.kind, .string tyb.name, .slice pb1 nb1 qb1, .int .i64 ivb, .string plb.name, .slice pb2 nb2 qb2, .slice pb3 nb3 qb3, .slice pb4 nb4 qb4, .slice pb5 nb5 qb5, .slice pb6 nb6 qb6, .int .i64 atb]] w _
  go_enter Tryz.func85, Tryz.ntmps85
  go_wp2_with fail
  · refine (equalN_calls B nsa nsb _ _ _ (hna.below (box2B w hB _ _)) (hnb.below (box2B w hB _ _))).mono ?_
    rintro e w1 ⟨rfl, b1⟩
    have bel1 := b1
    have bB1 := (box2B w hB _ _).trans (bel1.mono (by simp; omega))
    have hz1 : w.heap.size + 1 < w1.heap.size := by have := b1.size; simp at this; omega
    have hc1 := old_cells bel1
    go_wp2_with fail
    · refine (sameT_calls B tya tyb _ _ _ (by omega) (PT.In.below bB1 hta) (PT.In.below bB1 htb)).mono ?_
      rintro e w2 ⟨rfl, b2⟩
      have bel2 := up_tr bel1 b2
      have bB2 := bB1.trans (b2.mono (by omega))
      have hz2 : w.heap.size + 1 < w2.heap.size := by have := b2.size; omega
      have hc2 := old_cells bel2
      clear hc1 b2 bel1
      go_wp2_with fail
      · refine (samePl_calls B pla plb _ _ _ (by omega) (hpa.below bB2) (hpb.below bB2)).mono ?_
        rintro e w3 ⟨rfl, b3⟩
        have bel3 := up_tr bel2 b3
        have bB3 := bB2.trans (b3.mono (by omega))
        have hz3 : w.heap.size + 1 < w3.heap.size := by have := b3.size; omega
        have hc3 := old_cells bel3
        clear hc2 b3 bel2
        go_wp2_with fail
        · refine (equalE_calls B esa esb (Lib.hid fun a _ => sameE_calls B a) bea oea beb oeb _ _ _ (by omega) sea (PE.Row.below' bB3 sea rea) seb (PE.Row.below' bB3 seb reb)).mono ?_
          rintro e w4 ⟨rfl, b4⟩
          have bel4 := up_tr bel3 b4
          have bB4 := bB3.trans (b4.mono (by omega))
          have hz4 : w.heap.size + 1 < w4.heap.size := by have := b4.size; omega
          have hc4 := old_cells bel4
          clear hc3 b4 bel3
          go_wp2_with fail
          · refine (equalS_calls B boa bob (Lib.hid H1) bxa oxa bxb oxb _ _ _ (by omega) sxa (PS.Row.below' bB4 sxa rxa) sxb (PS.Row.below' bB4 sxb rxb)).mono ?_
            rintro e w5 ⟨rfl, b5⟩
            have bel5 := up_tr bel4 b5
            have bB5 := bB4.trans (b5.mono (by omega))
            have hz5 : w.heap.size + 1 < w5.heap.size := by have := b5.size; omega
            have hc5 := old_cells bel5
            clear hc4 b5 bel4
            go_wp2_with fail
            · refine (equalS_calls B ela elb (Lib.hid H2) bla ola blb olb _ _ _ (by omega) sla (PS.Row.below' bB5 sla rla) slb (PS.Row.below' bB5 slb rlb)).mono ?_
              rintro e w6 ⟨rfl, b6⟩
              have bel6 := up_tr bel5 b6
              have bB6 := bB5.trans (b6.mono (by omega))
              have hz6 : w.heap.size + 1 < w6.heap.size := by have := b6.size; omega
              have hc6 := old_cells bel6
              clear hc5 b6 bel5
              go_wp2_with fail
              · refine (equalA_calls B ara arb (Lib.hid H3) bma oma bmb omb _ _ _ (by omega) sma (PA.Row.below' bB6 sma rma) smb (PA.Row.below' bB6 smb rmb)).mono ?_
                rintro e w7 ⟨rfl, b7⟩
                have bel7 := up_tr bel6 b7
                go_wp2
                go_ret
                exact ⟨ret_bool (by simp [sameS_mk, sameW_toList, *]), up_tr (box2 _ _ _) bel7⟩
              all_goals (go_ret; exact ⟨ret_bool (by simp [sameS_mk, sameW_toList, *]), up_tr (box2 _ _ _) bel6⟩)
            all_goals (go_ret; exact ⟨ret_bool (by simp [sameS_mk, sameW_toList, *]), up_tr (box2 _ _ _) bel5⟩)
          all_goals (go_ret; exact ⟨ret_bool (by simp [sameS_mk, sameW_toList, *]), up_tr (box2 _ _ _) bel4⟩)
        all_goals (go_ret; exact ⟨ret_bool (by simp [sameS_mk, sameW_toList, *]), up_tr (box2 _ _ _) bel3⟩)
      all_goals (go_ret; exact ⟨ret_bool (by simp [sameS_mk, sameW_toList, *]), up_tr (box2 _ _ _) bel2⟩)
    all_goals (go_ret; exact ⟨ret_bool (by simp [sameS_mk, sameW_toList, *]), up_tr (box2 _ _ _) bel1⟩)
  all_goals (go_ret; exact ⟨ret_bool (by simp [sameS_mk, sameW_toList, *]), box2 _ _ _⟩)

theorem sameS_calls (B : Nat) (a : PS) : SameSAt B a :=
  PS.rec (motive_1 := SameSAt B) (motive_2 := SameAAt B) (motive_3 := fun l => ∀ x, x ∈ l → SameSAt B x) (motive_4 := fun l => ∀ x, x ∈ l → SameAAt B x)
    (fun op n s ns t i p es bo el ar pos h1 h2 h3 => sameS_step B op n s ns t i p es bo el ar pos h1 h2 h3) (fun v n bo h => sameA_step B v n bo h)
    (fun x h => by cases h) (fun a l ha hl x h => by cases h with | head => exact ha | tail _ h => exact hl x h)
    (fun x h => by cases h) (fun a l ha hl x h => by cases h with | head => exact ha | tail _ h => exact hl x h) a
end Go.Proofs.YtojeijeimpffgaaGreat
