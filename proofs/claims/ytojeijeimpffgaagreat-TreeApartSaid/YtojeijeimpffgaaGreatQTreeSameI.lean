/- Contracts of package tree: sameness, SameI (made by gen_same.py). -/
import Derived.Test.YtojeijeimpffgaaGreatQTreeEqI
import Derived.Test.YtojeijeimpffgaaGreatQTreeSameF
import Derived.Test.YtojeijeimpffgaaGreatQTreeSameS
namespace Go.Proofs.YtojeijeimpffgaaGreat
open Go.RowKit
set_option linter.unusedVariables false

set_option maxRecDepth 100000 in
set_option maxHeartbeats 4000000 in
theorem sameI_step (B : Nat) (kda : Int) (nma : ByteArray) (fsa : List PF) (rta : PT) (boa : List PS) (rxa : PE) (ata : Int) : SameIAt B (.mk kda nma fsa rta boa rxa ata) := by
  intro b va vb w hB ha hb
  obtain ⟨kdb, nmb, fsb, rtb, bob, rxb, atb⟩ := b
  obtain ⟨pa0, na0, qa0, pa1, na1, qa1, pa2, na2, qa2, pa3, na3, qa3, pa4, na4, qa4, rfl⟩ := ha.shape
  obtain ⟨pb0, nb0, qb0, pb1, nb1, qb1, pb2, nb2, qb2, pb3, nb3, qb3, pb4, nb4, qb4, rfl⟩ := hb.shape
  obtain ⟨_, ⟨bfa, ofa, sfa, rfa⟩, hta, ⟨bza, oza, sza, rza⟩, hra⟩ := ha
  obtain ⟨_, ⟨bfb, ofb, sfb, rfb⟩, htb, ⟨bzb, ozb, szb, rzb⟩, hrb⟩ := hb
  show Calls Tryz.prog 49 #[.agg #[.int .u8 kda, .string nma, .slice pa0 na0 qa0, .int .u8 rta.kind, .string rta.name, .slice pa1 na1 qa1, .slice pa2 na2 qa2, .int .u8 rxa.op, .int .i64 rxa.int, .string rxa.name, .string rxa.second, .string rxa.place.name, .slice pa3 na3 qa3, .slice pa4 na4 qa4, .int .i64 rxa.pos, .int .i64 ata], .agg #[.int .u8 kdb, .string nmb, .slice pb0 nb0 qb0, .int .u8 rtb.kind, .string rtb.name, .slice pb1 nb1 qb1, .slice pb2 nb2 qb2, .int .u8 rxb.op, .int .i64 rxb.int, .string rxb.name, .string rxb.second, .string rxb.place.name, .slice pb3 nb3 qb3, .slice pb4 nb4 qb4, .int .i64 rxb.pos, .int .i64 atb]] w _
  go_enter Tryz.func49, Tryz.ntmps49
  go_wp2_with fail
  · refine (equalF_calls B fsa fsb (Lib.hid fun a _ => sameF_step B a) bfa ofa bfb ofb _ _ _ (by simp; omega) sfa (PF.Row.below' (box2B w hB _ _) sfa rfa) sfb (PF.Row.below' (box2B w hB _ _) sfb rfb)).mono ?_
    rintro e w1 ⟨rfl, b1⟩
    have bel1 := b1
    have bB1 := (box2B w hB _ _).trans (bel1.mono (by simp; omega))
    have hz1 : w.heap.size + 1 < w1.heap.size := by have := b1.size; simp at this; omega
    have hc1 := old_cells bel1
    go_wp2_with fail
    · refine (sameT_calls B rta rtb _ _ _ (by omega) (PT.In.below bB1 hta) (PT.In.below bB1 htb)).mono ?_
      rintro e w2 ⟨rfl, b2⟩
      have bel2 := up_tr bel1 b2
      have bB2 := bB1.trans (b2.mono (by omega))
      have hz2 : w.heap.size + 1 < w2.heap.size := by have := b2.size; omega
      have hc2 := old_cells bel2
      clear hc1 b2 bel1
      go_wp2_with fail
      · refine (equalS_calls B boa bob (Lib.hid fun a _ => sameS_calls B a) bza oza bzb ozb _ _ _ (by omega) sza (PS.Row.below' bB2 sza rza) szb (PS.Row.below' bB2 szb rzb)).mono ?_
        rintro e w3 ⟨rfl, b3⟩
        have bel3 := up_tr bel2 b3
        have bB3 := bB2.trans (b3.mono (by omega))
        have hz3 : w.heap.size + 1 < w3.heap.size := by have := b3.size; omega
        have hc3 := old_cells bel3
        clear hc2 b3 bel2
        go_wp2_with fail
        · refine (sameE_calls B rxa rxb _ _ _ (by omega) (PE.In.below bB3 hra) (PE.In.below bB3 hrb)).mono ?_
          rintro e w4 ⟨rfl, b4⟩
          have bel4 := up_tr bel3 b4
          go_wp2
          go_ret
          exact ⟨ret_bool (by simp [sameI_mk, sameW_toList, *]), up_tr (box2 _ _ _) bel4⟩
        all_goals (go_ret; exact ⟨ret_bool (by simp [sameI_mk, sameW_toList, *]), up_tr (box2 _ _ _) bel3⟩)
      all_goals (go_ret; exact ⟨ret_bool (by simp [sameI_mk, sameW_toList, *]), up_tr (box2 _ _ _) bel2⟩)
    all_goals (go_ret; exact ⟨ret_bool (by simp [sameI_mk, sameW_toList, *]), up_tr (box2 _ _ _) bel1⟩)
  all_goals (go_ret; exact ⟨ret_bool (by simp [sameI_mk, sameW_toList, *]), box2 _ _ _⟩)
end Go.Proofs.YtojeijeimpffgaaGreat
