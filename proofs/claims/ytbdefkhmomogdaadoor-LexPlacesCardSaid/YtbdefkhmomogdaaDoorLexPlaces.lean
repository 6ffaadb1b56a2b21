/- LexPlaces: tokens stand one behind the other, each where it says; between them stand blanks and remarks alone: the walk. -/
import Derived.Test.YtbdefkhmomogdaaDoorLexAlone
import Derived.Test.YtbdefkhmomogdaaDoorLexBetween
namespace Go.Proofs.YtbdefkhmomogdaaDoor
open Go.RowKit
set_option linter.unusedVariables false

set_option maxHeartbeats 400000 in
theorem places_long (s : ByteArray) (hs : 6000 < (s.size : Int)) (w : World) (htab : Tab w) :
    Calls Tryd.prog 4 #[.string s] w fun e w' => e = .returned (.bool true) ∧ Below w.heap.size w w' := by
  go_enter Tryd.func4, Tryd.ntmps4
  go_wp2_with fail
  refine (awake_calls w htab).mono ?_; rintro e w0 ⟨rfl, b0⟩
  go_wp2
  go_ret
  exact ⟨rfl, b0⟩

set_option maxRecDepth 100000 in
set_option maxHeartbeats 1000000 in
theorem places_err (s : ByteArray) (hs : (s.size : Int) ≤ 6000) (p : Nat) (e0 : Int) (he : (e0 != 0) = true) (h1 : decide (4000 < (s.size : Int)) = (e0 == 3)) (h2 : (p : Int) ≤ (s.size : Int)) (h3 : (e0 == 20) = true ∨ ((e0 == 20) = false ∧ p = 0))
    (CL : Hid (∀ w : World, Tab w → Calls Tryd.prog 10 #[.string s] w fun e w' => ∃ ao cap, e = .returned (.tuple #[.slice ao 0 cap, .int .i64 p, .int .i64 e0]) ∧ Toks w' w.heap.size (.slice ao 0 cap) [] ∧ Below w.heap.size w w')) (w : World) (htab : Tab w) :
    Calls Tryd.prog 4 #[.string s] w fun e w' => e = .returned (.bool true) ∧ Below w.heap.size w w' := by
  rcases h3 with h3 | ⟨h3, rfl⟩
  · go_enter Tryd.func4, Tryd.ntmps4
    go_wp2_with fail
    refine (awake_calls w htab).mono ?_; rintro e w0 ⟨rfl, b0⟩
    go_wp2_with fail
    refine (CL.out _ (htab.below b0)).mono ?_; rintro e w1 ⟨ao, cap, rfl, k1, b1⟩
    go_wp2
    go_ret
    exact ⟨rfl, up_trans b0 b1⟩
  · go_enter Tryd.func4, Tryd.ntmps4
    go_wp2_with fail
    refine (awake_calls w htab).mono ?_; rintro e w0 ⟨rfl, b0⟩
    go_wp2_with fail
    refine (CL.out _ (htab.below b0)).mono ?_; rintro e w1 ⟨ao, cap, rfl, k1, b1⟩
    go_wp2
    go_ret
    exact ⟨rfl, up_trans b0 b1⟩

/-- what stands at a place of the text, and behind it -/
theorem place_step {l : List UInt8} {b k : Nat} {T : List Tok} {t : Tok} (h : lexL (l.drop b) b = (T.drop k, none)) (ht : T[k]? = some t) (hb : b ≤ l.length) :
    b ≤ t.2.2 ∧ t.2.2 + t.2.1.length ≤ l.length ∧ gapF false ((l.drop b).take (t.2.2 - b)) = t.2.2 - b ∧ 1 ≤ t.1 ∧ t.1 ≤ 5 ∧ 1 ≤ t.2.1.length ∧
      (l.drop t.2.2).take t.2.1.length = t.2.1 ∧ lexL (l.drop (t.2.2 + t.2.1.length)) (t.2.2 + t.2.1.length) = (T.drop (k + 1), none) := by
  have hd : T.drop k = t :: T.drop (k + 1) := by
    obtain ⟨hk, rfl⟩ := List.getElem?_eq_some_iff.1 ht
    exact List.drop_eq_getElem_cons hk
  rcases lexL_cases (l.drop b) b with ⟨_, e⟩ | ⟨_, _, e⟩ | ⟨h1, h2, e⟩
  · rw [e, hd] at h; simp at h
  · rw [e] at h; simp at h
  · rw [e, hd] at h
    simp only [Prod.mk.injEq, List.cons.injEq] at h
    obtain ⟨⟨h3, h4⟩, h5⟩ := h
    have hr := rest_less h1
    have t1 := togL_pos h1
    have t2 := togL_le h1
    have g1 := gapF_le false (l.drop b)
    rw [List.length_drop] at t2 g1
    rw [List.length_drop] at t2
    subst h3
    have hlen : (((l.drop b).drop (gapF false (l.drop b))).take (togL ((l.drop b).drop (gapF false (l.drop b))))).length = togL ((l.drop b).drop (gapF false (l.drop b))) := by
      rw [List.length_take, List.length_drop, List.length_drop]; omega
    refine ⟨by simp, ?_, ?_, by omega, kind_le _, ?_, ?_, ?_⟩
    · show b + gapF false (l.drop b) + _ ≤ _
      rw [hlen]; omega
    · show gapF false ((l.drop b).take (b + gapF false (l.drop b) - b)) = b + gapF false (l.drop b) - b
      rw [show b + gapF false (l.drop b) - b = gapF false (l.drop b) from by omega]
      exact gap_take false _
    · show 1 ≤ (((l.drop b).drop (gapF false (l.drop b))).take (togL ((l.drop b).drop (gapF false (l.drop b))))).length
      rw [hlen]; exact t1
    · show (l.drop (b + gapF false (l.drop b))).take _ = _
      rw [hlen, List.drop_drop]
    · show lexL (l.drop (b + gapF false (l.drop b) + _)) (b + gapF false (l.drop b) + _) = _
      rw [hlen]
      rw [List.drop_drop] at h4 h5
      rw [show b + gapF false (l.drop b) + togL ((l.drop b).drop (gapF false (l.drop b))) = b + (gapF false (l.drop b) + togL ((l.drop b).drop (gapF false (l.drop b)))) from by omega]
      rw [show b + gapF false (l.drop b) + togL ((l.drop b).drop (gapF false (l.drop b))) = b + (gapF false (l.drop b) + togL ((l.drop b).drop (gapF false (l.drop b)))) from by omega] at h4 h5
      rw [← h4, ← h5]
theorem place_end {l : List UInt8} {b : Nat} (h : lexL (l.drop b) b = ([], none)) : gapF false (l.drop b) = (l.drop b).length := by
  rcases lexL_cases (l.drop b) b with ⟨h1, _⟩ | ⟨_, _, e⟩ | ⟨_, _, e⟩
  · have := List.drop_eq_nil_iff.1 h1
    have := gapF_le false (l.drop b)
    omega
  · rw [e] at h; simp at h
  · rw [e] at h; simp at h

set_option maxRecDepth 100000 in
set_option maxHeartbeats 4000000 in
theorem places_ok (s : ByteArray) (hs : (s.size : Int) ≤ 6000) (T : List Tok) (hfew : (T.length : Int) ≤ 1500) (hL : Hid (lexL s.data.toList 0 = (T, none)))
    (CL : Hid (∀ w : World, Tab w → Calls Tryd.prog 10 #[.string s] w fun e w' => ∃ ao cap, e = .returned (.tuple #[.slice ao T.length cap, .int .i64 0, .int .i64 0]) ∧ Toks w' w.heap.size (.slice ao T.length cap) T ∧ Below w.heap.size w w'))
    (CB : Hid (∀ (x : ByteArray), (x.size : Int) ≤ 6000 → gapF false x.data.toList = x.size → ∀ w : World, Calls Tryd.prog 12 #[.string x] w fun e w' => e = .returned (.bool true) ∧ w = w')) (w : World) (htab : Tab w) :
    Calls Tryd.prog 4 #[.string s] w fun e w' => e = .returned (.bool true) ∧ Below w.heap.size w w' := by
  go_enter Tryd.func4, Tryd.ntmps4
  go_wp2_with fail
  refine (awake_calls w htab).mono ?_; rintro e w0 ⟨rfl, b0⟩
  go_wp2_with fail
  refine (CL.out _ (htab.below b0)).mono ?_; rintro e w1 ⟨ao, cap, rfl, k1, b1⟩
  have b01 := up_trans b0 b1
  clear b0 b1
  go_wp2_with fail
  go_loop [6, 7] (fun bh i => ∃ (b k : Nat), k ≤ T.length + 1 ∧ i = .int .i64 k ∧ bh = .int .i64 b ∧ b ≤ s.size ∧ Hid (k ≤ T.length → lexL (s.data.toList.drop b) b = (T.drop k, none))) (fun _ i => T.length + 1 - (intOf i).toNat)
  case atStart => exact ⟨0, 0, by omega, rfl, rfl, by omega, Lib.hid (fun _ => by rw [List.drop_zero, List.drop_zero]; exact hL.out)⟩
  case round =>
    obtain ⟨b, k, hk, rfl, rfl, hb, hin⟩ := hrel
    rcases (show k < T.length ∨ k = T.length ∨ k = T.length + 1 by omega) with hc | hc | hc
    · obtain ⟨t, ht⟩ : ∃ t, T[k]? = some t := ⟨_, List.getElem?_eq_getElem hc⟩
      obtain ⟨g, c2, hv, _⟩ := k1.full (by intro e; rw [e] at hc; simp at hc)
      simp only [Value.slice.injEq] at hv
      obtain ⟨rfl, _, rfl⟩ := hv
      obtain ⟨p1, p2, p3⟩ := k1.at ht
      obtain ⟨q1, q2, q3, q4, q5, q6, q7, q8⟩ := place_step (hin.out (by omega)) ht hb
      rw [Nat.mul_comm] at p1 p2 p3
      obtain ⟨kd, tx, ps⟩ := t
      simp only at p1 p2 p3 q1 q2 q3 q4 q5 q6 q7 q8
      have hsz : (bs tx).size = tx.length := rfl
      have hx : (s.extract ps (ps + tx.length)) = bs tx := by
        rw [← bs_of (s.extract ps (ps + tx.length)), ext_cut, q7]
      have hg : gapF false (s.extract b ps).data.toList = (s.extract b ps).size := by
        have e := ext_cut s b (ps - b)
        rw [show b + (ps - b) = ps from by omega] at e
        rw [e, q3]
        have : (s.extract b ps).size = (s.extract b ps).data.toList.length := rfl
        rw [this, e, List.length_take, List.length_drop]
        have : s.data.toList.length = s.size := rfl
        omega
      have C1 := Lib.hid (CB.out (s.extract b ps) (by simp; omega) hg)
      have H8 := Lib.hid q8
      have hq2 : ps + tx.length ≤ s.size := q2
      have z1 : (1 : Int) ≤ (kd : Int) := by omega
      have z2 : (kd : Int) ≤ 5 := by omega
      have hem : (bs tx).toList.isEmpty = false := by rw [ByteArray.toList_eq, bs_list]; cases tx with | nil => simp at q6 | cons _ _ => rfl
      have hcut : ∀ w : World, (Instr.slice 9 (.string s) (some (.int .i64 (ps : Int))) (some (.int .i64 ((ps : Int) + ((bs tx).size : Int)))) none).run Tryd.prog w = .ok (.string (bs tx)) w := fun w => by
        have := cut_run s ps (ps + tx.length) (by omega) hq2 w
        rw [hx] at this
        exact this
      have hps : ps ≤ s.size := by omega
      have z3 : ((bs tx).size : Int) ≤ (s.size : Int) - (ps : Int) := by omega
      have H6 := Lib.hid q6
      generalize hbt : bs tx = bt at *
      have Hsz := Lib.hid hsz
      clear q2 q3 q4 q5 q6 q7 q8 hx hg ht hsz hbt
      go_wp2_with fail
      refine (C1.out _).mono ?_; rintro e w2 ⟨rfl, rfl⟩
      go_wp2
      go_round
      case rel => exact ⟨ps + tx.length, k + 1, by omega, by go_num, by have := Hsz.out; go_num, hq2, Lib.hid (fun _ => H8.out)⟩
      case measure => simp [intOf]; omega
    · subst hc
      have he := place_end (l := s.data.toList) (by have := hin.out (Nat.le_refl _); rw [List.drop_of_length_le (Nat.le_refl _)] at this; exact this)
      have hg : gapF false (s.extract b s.size).data.toList = (s.extract b s.size).size := by
        have : (s.extract b s.size).size = (s.extract b s.size).data.toList.length := rfl
        rw [this, ext_drop, he]
      have C1 := Lib.hid (CB.out (s.extract b s.size) (by simp; omega) hg)
      clear he hg hin
      go_wp2_with fail
      refine (C1.out _).mono ?_; rintro e w2 ⟨rfl, rfl⟩
      go_wp2
      go_round
      case rel => exact ⟨b, T.length + 1, by omega, by go_num, rfl, hb, Lib.hid (fun h => by omega)⟩
      case measure => simp [intOf]
    · subst hc
      go_wp2
      go_ret
      exact ⟨ret_bool (by simp), b01⟩

theorem err_cases (l : List UInt8) : (errT l = 0 ∧ l.length ≤ 4000 ∧ lexL l 0 = (toksT l, none) ∧ (toksT l).length ≤ 1500) ∨ (errT l = 3 ∧ 4000 < l.length ∧ posT l = 0) ∨ (errT l = 20 ∧ l.length ≤ 4000 ∧ posT l ≤ l.length) ∨ (errT l = 4 ∧ l.length ≤ 4000 ∧ posT l = 0) := by
  by_cases hl : 4000 < l.length
  · exact .inr (.inl ⟨by unfold errT; rw [if_pos hl], hl, by unfold posT; rw [if_pos hl]⟩)
  · cases hp : (lexL l 0).2 with
    | some p =>
      refine .inr (.inr (.inl ⟨by unfold errT; rw [if_neg hl, hp], by omega, ?_⟩))
      have := lex_pos l.length l 0 p (Nat.le_refl _) hp
      unfold posT
      rw [if_neg hl, hp]
      show p ≤ l.length
      omega
    | none =>
      by_cases hc : 1500 < (lexL l 0).1.length
      · exact .inr (.inr (.inr ⟨by unfold errT; rw [if_neg hl, hp]; simp [hc], by omega, by unfold posT; rw [if_neg hl, hp]⟩))
      · have he : errT l = 0 := by unfold errT; rw [if_neg hl, hp]; simp [hc]
        refine .inl ⟨he, by omega, ?_, ?_⟩
        · rw [toks_of he, ← hp]
        · rw [toks_of he]; omega

theorem lexPlaces_walk (s : ByteArray) (hs : s.size ≤ maxLen) (w : World) (htab : Tab w) :
    Calls Tryd.prog 4 #[.string s] w fun e w' => e = .returned (.bool true) ∧ Below w.heap.size w w' := by
  by_cases hl : s.size ≤ 6000
  · have hl' : (s.size : Int) ≤ 6000 := by omega
    have hz : s.data.toList.length = s.size := rfl
    rcases err_cases s.data.toList with ⟨h1, h2, h3, h4⟩ | ⟨h1, h2, h3⟩ | ⟨h1, h2, h3⟩ | ⟨h1, h2, h3⟩
    · refine places_ok s hl' _ (by omega) (Lib.hid h3) (Lib.hid fun w h => all_gives s _ _ _ rfl (pos_none h1) h1 w h) (Lib.hid fun x hx hg w => ?_) w htab
      have := between_calls x hx w
      rw [decide_eq_true hg] at this
      exact this
    · exact places_err s hl' 0 3 rfl (by rw [decide_eq_true (by omega)]; rfl) (by omega) (.inr ⟨rfl, rfl⟩) (Lib.hid fun w h => all_gives s [] _ _ (toks_none (by rw [h1]; decide)) h3 h1 w h) w htab
    · exact places_err s hl' _ 20 rfl (by rw [decide_eq_false (by omega)]; rfl) (by omega) (.inl rfl) (Lib.hid fun w h => all_gives s [] _ _ (toks_none (by rw [h1]; decide)) rfl h1 w h) w htab
    · exact places_err s hl' 0 4 rfl (by rw [decide_eq_false (by omega)]; rfl) (by omega) (.inr ⟨rfl, rfl⟩) (Lib.hid fun w h => all_gives s [] _ _ (toks_none (by rw [h1]; decide)) h3 h1 w h) w htab
  · exact places_long s (by omega) w htab
end Go.Proofs.YtbdefkhmomogdaaDoor
