/- LexAll: any text has just the tokens that the document says, or is refused, and where; what is told is the caller's own: the walk. -/
import Derived.Test.YtbdefkhmomogdaaDoorLexAwake
import Derived.Test.YtbdefkhmomogdaaDoorRefAll
import Derived.Deep.QuietTactic
import Derived.BigQuiet
namespace Go.Proofs.YtbdefkhmomogdaaDoor
open Go.RowKit
set_option linter.unusedVariables false

/-- the document's own tokens, in a slice -/
def RefToks (w : World) (base : Nat) (v : Value) (T : List Tok) : Prop := Hid (w.ownsRow base 31 3 v T.length (cellsT T))
theorem RefToks.shape {w : World} {base : Nat} {v : Value} {T : List Tok} (h : RefToks w base v T) : ∃ ao cap, v = .slice ao T.length cap := by
  rcases h.out.2 with ⟨h1, h2⟩ | ⟨g, cap, cur, h1, _⟩
  · exact ⟨_, _, by rw [h1, h2]⟩
  · exact ⟨_, _, h1⟩
theorem RefToks.below {w w' : World} {base : Nat} {v : Value} {T : List Tok} (h : RefToks w base v T) (hb : Below w.heap.size w w') : RefToks w' base v T := Lib.hid (owns_below h.out hb)
theorem RefToks.below2 {w w' : World} {B base g cap : Nat} {T : List Tok} (h : RefToks w base (.slice (some ⟨g, 0, none⟩) T.length cap) T) (hb : Below B w w') (hg : g < B) : RefToks w' base (.slice (some ⟨g, 0, none⟩) T.length cap) T := by
  refine Lib.hid ⟨h.out.1, ?_⟩
  rcases h.out.2 with h2 | ⟨g', cap', cur, h1, h2, h3, h4⟩
  · exact .inl h2
  · refine .inr ⟨g', cap', cur, h1, h2, ?_, h4⟩
    simp only [Value.slice.injEq, Option.some.injEq, Addr.mk.injEq] at h1
    rw [hb.block g' (by rw [← h1.1.1]; exact hg)]
    exact h3
theorem refAll_gives (s : ByteArray) (T : List Tok) (p : Nat) (e0 : Int) (hT : toksT s.data.toList = T) (hp : posT s.data.toList = p) (he : errT s.data.toList = e0) (w : World) :
    Calls Tryd.prog 9 #[.string s] w fun e w' => ∃ ao cap, e = .returned (.tuple #[.slice ao T.length cap, .int .i64 p, .int .i64 e0]) ∧ RefToks w' w.heap.size (.slice ao T.length cap) T ∧ Below w.heap.size w w' := by
  refine (refAll_calls s w).mono ?_
  rw [hT, hp, he]
  rintro e w' ⟨v, rfl, hown, hb⟩
  have hk : RefToks w' w.heap.size v T := Lib.hid hown
  obtain ⟨ao, cap, rfl⟩ := hk.shape
  exact ⟨ao, cap, rfl, hk, hb⟩

set_option maxHeartbeats 400000 in
theorem lexAll_long (s : ByteArray) (hs : 6000 < (s.size : Int)) (w : World) :
    Calls Tryd.prog 3 #[.string s] w fun e w' => e = .returned (.bool true) ∧ Below w.heap.size w w' := by
  go_enter Tryd.func3, Tryd.ntmps3
  go_wp2
  go_ret
  exact ⟨rfl, Below.refl _ _⟩

set_option maxRecDepth 100000 in
set_option maxHeartbeats 2000000 in
theorem lexAll_none (s : ByteArray) (hs : (s.size : Int) ≤ 6000) (p : Nat) (e0 : Int)
    (CR : Hid (∀ w : World, Calls Tryd.prog 9 #[.string s] w fun e w' => ∃ ao cap, e = .returned (.tuple #[.slice ao 0 cap, .int .i64 p, .int .i64 e0]) ∧ RefToks w' w.heap.size (.slice ao 0 cap) [] ∧ Below w.heap.size w w'))
    (CL : Hid (∀ w : World, Tab w → Calls Tryd.prog 10 #[.string s] w fun e w' => ∃ ao cap, e = .returned (.tuple #[.slice ao 0 cap, .int .i64 p, .int .i64 e0]) ∧ Toks w' w.heap.size (.slice ao 0 cap) [] ∧ Below w.heap.size w w')) (w : World) (htab : Tab w) :
    Calls Tryd.prog 3 #[.string s] w fun e w' => e = .returned (.bool true) ∧ Below w.heap.size w w' := by
  go_enter Tryd.func3, Tryd.ntmps3
  go_wp2_with fail
  refine (CR.out _).mono ?_; rintro e w1 ⟨ao1, cap1, rfl, k1, b1⟩
  go_wp2_with fail
  go_loopw [6] (fun t wr => ∃ k : Nat, k ≤ 2 ∧ t = .int .i64 k ∧ Below w.heap.size w wr) (fun t _ => 2 - (intOf t).toNat)
  case atStart => exact ⟨0, by omega, rfl, b1⟩
  case round =>
    obtain ⟨k, hk, rfl, hnx⟩ := hrel
    by_cases hlt : k < 2
    · have e1 : (k : Int) < 2 := by omega
      go_wp2_with fail
      refine (CL.out _ (htab.below hnx)).mono ?_; rintro e w2 ⟨ao2, cap2, rfl, k2, b2⟩
      have b3 := up_trans hnx b2
      go_wp2_with fail
      go_loop [10] (fun i => i = .int .i64 0) (fun _ => 0)
      case atStart => rfl
      case round =>
        subst hrel
        go_wp2
        go_roundw
        case rel => exact ⟨k + 1, by omega, by go_num, b3⟩
        case measure => simp [intOf]; omega
    · obtain rfl : k = 2 := by omega
      go_wp2
      go_ret
      exact ⟨rfl, hnx⟩

set_option maxRecDepth 100000 in
set_option maxHeartbeats 2000000 in
theorem lexAll_some (s : ByteArray) (hs : (s.size : Int) ≤ 6000) (T : List Tok) (hT : Hid (T ≠ [])) (hfew : (T.length : Int) ≤ 1500)
    (CR : Hid (∀ w : World, Calls Tryd.prog 9 #[.string s] w fun e w' => ∃ ao cap, e = .returned (.tuple #[.slice ao T.length cap, .int .i64 0, .int .i64 0]) ∧ RefToks w' w.heap.size (.slice ao T.length cap) T ∧ Below w.heap.size w w'))
    (CL : Hid (∀ w : World, Tab w → Calls Tryd.prog 10 #[.string s] w fun e w' => ∃ ao cap, e = .returned (.tuple #[.slice ao T.length cap, .int .i64 0, .int .i64 0]) ∧ Toks w' w.heap.size (.slice ao T.length cap) T ∧ Below w.heap.size w w')) (w : World) (htab : Tab w) :
    Calls Tryd.prog 3 #[.string s] w fun e w' => e = .returned (.bool true) ∧ Below w.heap.size w w' := by
  go_enter Tryd.func3, Tryd.ntmps3
  go_wp2_with fail
  refine (CR.out _).mono ?_; rintro e w1 ⟨ao1, cap1, rfl, k1, b1⟩
  obtain ⟨g1, c1, hv1, hg1, hlt1⟩ : ∃ g cap, Value.slice ao1 T.length cap1 = .slice (some ⟨g, 0, none⟩) T.length cap ∧ w.heap.size ≤ g ∧ g < w1.heap.size := by
    rcases k1.out.2 with ⟨h1, h2⟩ | ⟨g, cap, cur, h1, h2, h3, _⟩
    · exact absurd (List.eq_nil_of_length_eq_zero h2) hT.out
    · exact ⟨_, _, h1, h2, (Array.getElem?_eq_some_iff.1 h3).1⟩
  simp only [Value.slice.injEq] at hv1
  obtain ⟨rfl, _, rfl⟩ := hv1
  go_wp2_with fail
  go_loopw [6] (fun t wr => ∃ k : Nat, k ≤ 2 ∧ t = .int .i64 k ∧ Below w1.heap.size w1 wr) (fun t _ => 2 - (intOf t).toNat)
  case atStart => exact ⟨0, by omega, rfl, Below.refl _ _⟩
  case round =>
    obtain ⟨k, hk, rfl, hnx⟩ := hrel
    by_cases hlt : k < 2
    · have e1 : (k : Int) < 2 := by omega
      go_wp2_with fail
      refine (CL.out _ ((htab.below b1).below hnx)).mono ?_; rintro e w2 ⟨ao2, cap2, rfl, k2, b2⟩
      obtain ⟨g2, c2, hv2, hg2⟩ := k2.full hT.out
      simp only [Value.slice.injEq] at hv2
      obtain ⟨rfl, _, rfl⟩ := hv2
      have hnx2 := up_trans hnx b2
      obtain ⟨B, hB⟩ : ∃ B, B = wr.heap.size := ⟨_, rfl⟩
      have hsz : w1.heap.size ≤ B := by rw [hB]; exact hnx.size
      have hB2 : B ≤ w2.heap.size := by rw [hB]; exact b2.size
      rw [← hB] at k2 b2 hg2
      have k1' := k1.below hnx2
      clear hnx hB
      go_wp2_with fail
      go_loopw [10] (fun i wi => ∃ (j : Nat) (xs : List Value), j ≤ T.length ∧ i = .int .i64 j ∧ wi.ownsRow B 30 3 (.slice (some ⟨g2, 0, none⟩) T.length cap2) T.length xs ∧ Hid (∀ m, 3 * j ≤ m → xs[m]? = (cellsT T)[m]?) ∧ Below B w2 wi)
        (fun i _ => T.length - (intOf i).toNat)
      case atStart => exact ⟨0, cellsT T, by omega, rfl, k2.out, Lib.hid (fun _ _ => rfl), Below.refl _ _⟩
      case round =>
        obtain ⟨j, xs, hj, rfl, hown, hxs, hwi⟩ := hrel
        by_cases hjl : j < T.length
        · obtain ⟨t, ht⟩ : ∃ t, T[j]? = some t := ⟨_, List.getElem?_eq_getElem hjl⟩
          obtain ⟨q1, q2, q3⟩ := cellsT_at ht
          have o1 := k1'.below2 hwi (Nat.lt_of_lt_of_le hlt1 hsz)
          obtain ⟨a, hta⟩ : ∃ a : Int, (t.1 : Int) = a := ⟨_, rfl⟩
          obtain ⟨b, htb⟩ : ∃ b, bs t.2.1 = b := ⟨_, rfl⟩
          obtain ⟨c, htc⟩ : ∃ c : Int, (t.2.2 : Int) = c := ⟨_, rfl⟩
          rw [hta] at q1
          rw [htb] at q2
          rw [htc] at q3
          have r1 : wr.cell? ⟨g2, j * 3, none⟩ = some (.int .u8 a) := by rw [Nat.mul_comm]; exact (hown.cellAt (3 * j) (by omega)).trans ((hxs.out _ (by omega)).trans q1)
          have r2 : wr.cell? ⟨g2, j * 3 + 1, none⟩ = some (.string b) := by rw [Nat.mul_comm]; exact (hown.cellAt (3 * j + 1) (by omega)).trans ((hxs.out _ (by omega)).trans q2)
          have r3 : wr.cell? ⟨g2, j * 3 + 2, none⟩ = some (.int .i64 c) := by rw [Nat.mul_comm]; exact (hown.cellAt (3 * j + 2) (by omega)).trans ((hxs.out _ (by omega)).trans q3)
          have p1 : wr.cell? ⟨g1, j * 3, none⟩ = some (.int .u8 a) := by rw [Nat.mul_comm]; exact (o1.out.cellAt (3 * j) (by omega)).trans q1
          have p2 : wr.cell? ⟨g1, j * 3 + 1, none⟩ = some (.string b) := by rw [Nat.mul_comm]; exact (o1.out.cellAt (3 * j + 1) (by omega)).trans q2
          have p3 : wr.cell? ⟨g1, j * 3 + 2, none⟩ = some (.int .i64 c) := by rw [Nat.mul_comm]; exact (o1.out.cellAt (3 * j + 2) (by omega)).trans q3
          have fz := hown.frozenAt (j * 3 + 1)
          have ej : (j : Int) < (T.length : Int) := by omega
          clear hta htb htc q1 q2 q3 ht o1
          go_wp2_with fail
          go_quiet (fail)
          have hown3 : (wr.drewN nq).ownsRow B 30 3 (.slice (some ⟨g2, 0, none⟩) T.length cap2) T.length xs := hown
          have hwi3 : Below B w2 (wr.drewN nq) := hwi.trans ⟨rfl, rfl, rfl, Nat.le_refl _, fun _ _ => rfl⟩
          have fz3 : (wr.drewN nq).frozen? ⟨g2, j * 3 + 1, none⟩ = false := fz
          have r23 : (wr.drewN nq).cell? ⟨g2, j * 3 + 1, none⟩ = some (.string b) := r2
          clear r1 r2 r3 p1 p2 p3 fz hown hwi
          generalize wr.drewN nq = wd at *
          obtain ⟨S1, S2⟩ := hown3.stored (j * 3 + 1) (.string ⟨#[115, 112, 111, 105, 108, 116]⟩)
          have S3 := hwi3.grown S2 (by have := hwi3.size; omega) (fun k hk => by cases hk; exact hg2)
          have S4 := Lib.hid S1
          clear S1 S2 hown3 hwi3
          go_wp2
          go_roundw
          case rel => exact ⟨j + 1, _, by omega, by go_num, S4.out, Lib.hid (fun m hm => by rw [List.getElem?_set_ne (by omega)]; exact hxs.out m (by omega)), S3⟩
          case measure => simp [intOf]; omega
        · obtain rfl : j = T.length := by omega
          go_wp2
          go_roundw
          case rel => exact ⟨k + 1, by omega, by go_num, hnx2.trans (hwi.mono hsz)⟩
          case measure => simp [intOf]; omega
    · obtain rfl : k = 2 := by omega
      go_wp2
      go_ret
      exact ⟨rfl, up_trans b1 hnx⟩

theorem toks_few {l : List UInt8} : (toksT l).length ≤ 1500 := by
  unfold toksT
  by_cases he : errT l = 0
  · rw [if_pos he]
    unfold errT at he
    by_cases hl : 4000 < l.length
    · rw [if_pos hl] at he; omega
    · rw [if_neg hl] at he
      cases hp : (lexL l 0).2 with
      | none =>
        rw [hp] at he
        by_cases hc : 1500 < (lexL l 0).1.length
        · simp [hc] at he
        · omega
      | some p => rw [hp] at he; simp at he
  · rw [if_neg he]; simp

theorem lexAll_walk (s : ByteArray) (hs : s.size ≤ maxLen) (w : World) (htab : Tab w) :
    Calls Tryd.prog 3 #[.string s] w fun e w' => e = .returned (.bool true) ∧ Below w.heap.size w w' := by
  by_cases hl : s.size ≤ 6000
  · have hl' : (s.size : Int) ≤ 6000 := by omega
    by_cases hT : toksT s.data.toList = []
    · exact lexAll_none s hl' _ _ (Lib.hid fun w => refAll_gives s [] _ _ hT rfl rfl w) (Lib.hid fun w h => all_gives s [] _ _ hT rfl rfl w h) w htab
    · have he : errT s.data.toList = 0 := by
        by_cases he : errT s.data.toList = 0
        · exact he
        · exact absurd (by unfold toksT; rw [if_neg he]) hT
      have hp : posT s.data.toList = 0 := by
        unfold errT at he
        unfold posT
        by_cases hl : 4000 < s.data.toList.length
        · rw [if_pos hl] at he; omega
        · rw [if_neg hl] at he ⊢
          cases hp : (lexL s.data.toList 0).2 with
          | none => rfl
          | some p => rw [hp] at he; simp at he
      have hf := toks_few (l := s.data.toList)
      exact lexAll_some s hl' _ (Lib.hid hT) (by omega) (Lib.hid fun w => refAll_gives s _ _ _ rfl hp he w) (Lib.hid fun w h => all_gives s _ _ _ rfl hp he w h) w htab
  · exact lexAll_long s (by omega) w
end Go.Proofs.YtbdefkhmomogdaaDoor
