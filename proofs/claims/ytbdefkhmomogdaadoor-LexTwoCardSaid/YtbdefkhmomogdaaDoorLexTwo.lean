/- LexTwo: of two texts that have tokens, with a line's end between, the tokens are those of both: the walk. -/
import Derived.Test.YtbdefkhmomogdaaDoorLexPlaces
import Derived.Test.YtbdefkhmomogdaaDoorLexTwoMath
import Derived.Deep.QuietTactic
import Derived.BigQuiet
namespace Go.Proofs.YtbdefkhmomogdaaDoor
open Go.RowKit
set_option linter.unusedVariables false

theorem two_bytes (s t : ByteArray) : (s ++ ⟨#[10]⟩ ++ t).data.toList = s.data.toList ++ 10 :: t.data.toList := by simp
theorem two_size (s t : ByteArray) : (s ++ (⟨#[10]⟩ : ByteArray) ++ t).size = s.size + 1 + t.size := by simp [ByteArray.size_append]; rfl
def shiftT (d : Nat) (T : List Tok) : List Tok := T.map fun t => (t.1, t.2.1, t.2.2 + d)

set_option maxHeartbeats 400000 in
theorem two_long (s t : ByteArray) (hs : 1900 < (s.size : Int) ∨ ((s.size : Int) ≤ 1900 ∧ 1900 < (t.size : Int))) (w : World) (htab : Tab w) :
    Calls Tryd.prog 7 #[.string s, .string t] w fun e w' => e = .returned (.bool true) ∧ Below w.heap.size w w' := by
  rcases hs with hs | ⟨h1, h2⟩
  · go_enter Tryd.func7, Tryd.ntmps7
    go_wp2_with fail
    refine (awake_calls w htab).mono ?_; rintro e w0 ⟨rfl, b0⟩
    go_wp2
    go_ret
    exact ⟨rfl, b0⟩
  · go_enter Tryd.func7, Tryd.ntmps7
    go_wp2_with fail
    refine (awake_calls w htab).mono ?_; rintro e w0 ⟨rfl, b0⟩
    go_wp2
    go_ret
    exact ⟨rfl, b0⟩

set_option maxRecDepth 100000 in
set_option maxHeartbeats 1000000 in
theorem two_err (s t : ByteArray) (hs : (s.size : Int) ≤ 1900) (ht : (t.size : Int) ≤ 1900) (S T : List Tok) (p q : Nat) (e f : Int) (he : (e != 0) = true ∨ ((e != 0) = false ∧ (f != 0) = true))
    (CS : Hid (∀ w : World, Tab w → Calls Tryd.prog 10 #[.string s] w fun r w' => ∃ ao cap, r = .returned (.tuple #[.slice ao S.length cap, .int .i64 p, .int .i64 e]) ∧ Toks w' w.heap.size (.slice ao S.length cap) S ∧ Below w.heap.size w w'))
    (CT : Hid (∀ w : World, Tab w → Calls Tryd.prog 10 #[.string t] w fun r w' => ∃ ao cap, r = .returned (.tuple #[.slice ao T.length cap, .int .i64 q, .int .i64 f]) ∧ Toks w' w.heap.size (.slice ao T.length cap) T ∧ Below w.heap.size w w')) (w : World) (htab : Tab w) :
    Calls Tryd.prog 7 #[.string s, .string t] w fun e w' => e = .returned (.bool true) ∧ Below w.heap.size w w' := by
  rcases he with he | ⟨he, hf⟩
  · go_enter Tryd.func7, Tryd.ntmps7
    go_wp2_with fail
    refine (awake_calls w htab).mono ?_; rintro e w0 ⟨rfl, b0⟩
    go_wp2_with fail
    refine (CS.out _ (htab.below b0)).mono ?_; rintro e w1 ⟨ao1, cap1, rfl, k1, b1⟩
    have b01 := up_trans b0 b1
    go_wp2_with fail
    refine (CT.out _ (htab.below b01)).mono ?_; rintro e w2 ⟨ao2, cap2, rfl, k2, b2⟩
    go_wp2
    go_ret
    exact ⟨rfl, up_trans b01 b2⟩
  · go_enter Tryd.func7, Tryd.ntmps7
    go_wp2_with fail
    refine (awake_calls w htab).mono ?_; rintro e w0 ⟨rfl, b0⟩
    go_wp2_with fail
    refine (CS.out _ (htab.below b0)).mono ?_; rintro e w1 ⟨ao1, cap1, rfl, k1, b1⟩
    have b01 := up_trans b0 b1
    go_wp2_with fail
    refine (CT.out _ (htab.below b01)).mono ?_; rintro e w2 ⟨ao2, cap2, rfl, k2, b2⟩
    go_wp2
    go_ret
    exact ⟨rfl, up_trans b01 b2⟩

set_option maxRecDepth 100000 in
set_option maxHeartbeats 1000000 in
theorem two_full (s t : ByteArray) (hs : (s.size : Int) ≤ 1900) (ht : (t.size : Int) ≤ 1900) (S T : List Tok) (p : Nat) (hn : 1500 < (S.length : Int) + (T.length : Int)) (h1 : (S.length : Int) ≤ 1500) (h2 : (T.length : Int) ≤ 1500)
    (CS : Hid (∀ w : World, Tab w → Calls Tryd.prog 10 #[.string s] w fun r w' => ∃ ao cap, r = .returned (.tuple #[.slice ao S.length cap, .int .i64 0, .int .i64 0]) ∧ Toks w' w.heap.size (.slice ao S.length cap) S ∧ Below w.heap.size w w'))
    (CT : Hid (∀ w : World, Tab w → Calls Tryd.prog 10 #[.string t] w fun r w' => ∃ ao cap, r = .returned (.tuple #[.slice ao T.length cap, .int .i64 0, .int .i64 0]) ∧ Toks w' w.heap.size (.slice ao T.length cap) T ∧ Below w.heap.size w w'))
    (CU : Hid (∀ w : World, Tab w → Calls Tryd.prog 10 #[.string (s ++ ⟨#[10]⟩ ++ t)] w fun r w' => ∃ ao cap, r = .returned (.tuple #[.slice ao 0 cap, .int .i64 p, .int .i64 4]) ∧ Toks w' w.heap.size (.slice ao 0 cap) [] ∧ Below w.heap.size w w')) (w : World) (htab : Tab w) :
    Calls Tryd.prog 7 #[.string s, .string t] w fun e w' => e = .returned (.bool true) ∧ Below w.heap.size w w' := by
  go_enter Tryd.func7, Tryd.ntmps7
  go_wp2_with fail
  refine (awake_calls w htab).mono ?_; rintro e w0 ⟨rfl, b0⟩
  go_wp2_with fail
  refine (CS.out _ (htab.below b0)).mono ?_; rintro e w1 ⟨ao1, cap1, rfl, k1, b1⟩
  have b01 := up_trans b0 b1
  go_wp2_with fail
  refine (CT.out _ (htab.below b01)).mono ?_; rintro e w2 ⟨ao2, cap2, rfl, k2, b2⟩
  have b02 := up_trans b01 b2
  go_wp2_with fail
  refine (CU.out _ (htab.below b02)).mono ?_; rintro e w3 ⟨ao3, cap3, rfl, k3, b3⟩
  go_wp2
  go_ret
  exact ⟨rfl, up_trans b02 b3⟩

set_option maxRecDepth 100000 in
set_option maxHeartbeats 4000000 in
theorem two_ok (s t : ByteArray) (hs : (s.size : Int) ≤ 1900) (ht : (t.size : Int) ≤ 1900) (S T : List Tok) (hn : (S.length : Int) + (T.length : Int) ≤ 1500) (hpos : Hid (∀ x ∈ T, x.2.2 ≤ 1900))
    (CS : Hid (∀ w : World, Tab w → Calls Tryd.prog 10 #[.string s] w fun r w' => ∃ ao cap, r = .returned (.tuple #[.slice ao S.length cap, .int .i64 0, .int .i64 0]) ∧ Toks w' w.heap.size (.slice ao S.length cap) S ∧ Below w.heap.size w w'))
    (CT : Hid (∀ w : World, Tab w → Calls Tryd.prog 10 #[.string t] w fun r w' => ∃ ao cap, r = .returned (.tuple #[.slice ao T.length cap, .int .i64 0, .int .i64 0]) ∧ Toks w' w.heap.size (.slice ao T.length cap) T ∧ Below w.heap.size w w'))
    (U : List Tok) (hU : Hid (U = S ++ shiftT (s.size + 1) T)) (hUl : U.length = S.length + T.length)
    (CU : Hid (∀ w : World, Tab w → Calls Tryd.prog 10 #[.string (s ++ ⟨#[10]⟩ ++ t)] w fun r w' => ∃ ao cap, r = .returned (.tuple #[.slice ao U.length cap, .int .i64 0, .int .i64 0]) ∧ Toks w' w.heap.size (.slice ao U.length cap) U ∧ Below w.heap.size w w')) (w : World) (htab : Tab w) :
    Calls Tryd.prog 7 #[.string s, .string t] w fun e w' => e = .returned (.bool true) ∧ Below w.heap.size w w' := by
  rw [hUl] at CU
  go_enter Tryd.func7, Tryd.ntmps7
  go_wp2_with fail
  refine (awake_calls w htab).mono ?_; rintro e w0 ⟨rfl, b0⟩
  go_wp2_with fail
  refine (CS.out _ (htab.below b0)).mono ?_; rintro e w1 ⟨ao1, cap1, rfl, k1, b1⟩
  have b01 := up_trans b0 b1
  go_wp2_with fail
  refine (CT.out _ (htab.below b01)).mono ?_; rintro e w2 ⟨ao2, cap2, rfl, k2, b2⟩
  have b02 := up_trans b01 b2
  have k12 := k1.below b2
  clear b0 b1 b01 b2 k1
  go_wp2_with fail
  refine (CU.out _ (htab.below b02)).mono ?_; rintro e w3 ⟨ao3, cap3, rfl, k3, b3⟩
  have b03 := up_trans b02 b3
  have k13 := k12.below b3
  have k23 := k2.below b3
  clear b02 b3 k12 k2
  go_wp2_with fail
  go_loopw [14] (fun i wr => ∃ k : Nat, k ≤ S.length + T.length ∧ i = .int .i64 k ∧ Below w3.heap.size w3 wr) (fun i _ => S.length + T.length - (intOf i).toNat)
  case atStart => exact ⟨0, by omega, rfl, Below.refl _ _⟩
  case round =>
    obtain ⟨k, hk, rfl, hnx⟩ := hrel
    have k14 := k13.below hnx
    have k24 := k23.below hnx
    have k34 := k3.below hnx
    rw [← hUl] at k34
    rcases (show k < S.length ∨ (S.length ≤ k ∧ k < S.length + T.length) ∨ k = S.length + T.length by omega) with hc | ⟨hc1, hc2⟩ | hc
    · obtain ⟨x, hx⟩ : ∃ x, S[k]? = some x := ⟨_, List.getElem?_eq_getElem hc⟩
      have hxU : U[k]? = some x := by rw [hU.out, List.getElem?_append_left hc]; exact hx
      obtain ⟨g1, d1, hv1, hg1⟩ := k14.full (by intro e; rw [e] at hc; simp at hc)
      obtain ⟨g3, d3, hv3, hg3⟩ := k34.full (by intro e; rw [e] at hUl; simp at hUl; omega)
      simp only [Value.slice.injEq] at hv1 hv3
      obtain ⟨rfl, _, rfl⟩ := hv1
      obtain ⟨rfl, _, rfl⟩ := hv3
      obtain ⟨p1, p2, p3⟩ := k14.at hx
      obtain ⟨q1, q2, q3⟩ := k34.at hxU
      obtain ⟨kd, tx, ps⟩ := x
      simp only at p1 p2 p3 q1 q2 q3
      rw [Nat.mul_comm] at p1 p2 p3 q1 q2 q3
      generalize bs tx = bt at *
      generalize (kd : Int) = a at *
      generalize (ps : Int) = c at *
      have hl1 : g1 < wr.heap.size := World.block_lt_of_cell? wr _ p1
      have hl3 : g3 < wr.heap.size := World.block_lt_of_cell? wr _ q1
      have hk1 : (k : Int) < (S.length : Int) + (T.length : Int) := by omega
      have hk2 : (k : Int) < (S.length : Int) := by omega
      clear hx hxU
      go_wp2_with fail
      have c1 : (wr.alloc (.cells #[.int .u8 a, .string bt, .int .i64 c] 30)).cell? ⟨wr.heap.size, 0, none⟩ = some (.int .u8 a) := by rw [World.cell?_alloc_at (hn := rfl)]; rfl
      have c2 : (wr.alloc (.cells #[.int .u8 a, .string bt, .int .i64 c] 30)).cell? ⟨wr.heap.size, 1, none⟩ = some (.string bt) := by rw [World.cell?_alloc_at (hn := rfl)]; rfl
      have c3 : (wr.alloc (.cells #[.int .u8 a, .string bt, .int .i64 c] 30)).cell? ⟨wr.heap.size, 2, none⟩ = some (.int .i64 c) := by rw [World.cell?_alloc_at (hn := rfl)]; rfl
      rw [← World.cell?_alloc_past (w := wr) (.cells #[.int .u8 a, .string bt, .int .i64 c] 30) g3 _ hl3] at q1 q2 q3
      have bel : Below w3.heap.size w3 (wr.alloc (.cells #[.int .u8 a, .string bt, .int .i64 c] 30)) := hnx.alloc hnx.size _
      generalize wr.alloc (.cells #[.int .u8 a, .string bt, .int .i64 c] 30) = W at *
      generalize wr.heap.size = NB at *
      clear p1 p2 p3 hl1 hl3 hnx
      go_quiet (fail)
      have bel2 : Below w3.heap.size w3 (W.drewN nq) := bel.trans ⟨rfl, rfl, rfl, Nat.le_refl _, fun _ _ => rfl⟩
      clear q1 q2 q3 c1 c2 c3 bel
      generalize W.drewN nq = W2 at *
      go_wp2
      go_roundw
      case rel => exact ⟨k + 1, by omega, by go_num, bel2⟩
      case measure => simp [intOf]; omega
    · obtain ⟨m, rfl⟩ : ∃ m, k = S.length + m := ⟨k - S.length, by omega⟩
      have hm : m < T.length := by omega
      obtain ⟨x, hx⟩ : ∃ x, T[m]? = some x := ⟨_, List.getElem?_eq_getElem hm⟩
      have hxp : x.2.2 ≤ 1900 := hpos.out x (List.mem_of_getElem? hx)
      have hxU : U[S.length + m]? = some (x.1, x.2.1, x.2.2 + (s.size + 1)) := by
        rw [hU.out, List.getElem?_append_right (by omega), show S.length + m - S.length = m from by omega]
        unfold shiftT
        rw [List.getElem?_map, hx]; rfl
      obtain ⟨g2, d2, hv2, hg2⟩ := k24.full (by intro e; rw [e] at hm; simp at hm)
      obtain ⟨g3, d3, hv3, hg3⟩ := k34.full (by intro e; rw [e] at hUl; simp at hUl; omega)
      simp only [Value.slice.injEq] at hv2 hv3
      obtain ⟨rfl, _, rfl⟩ := hv2
      obtain ⟨rfl, _, rfl⟩ := hv3
      obtain ⟨p1, p2, p3⟩ := k24.at hx
      obtain ⟨q1, q2, q3⟩ := k34.at hxU
      obtain ⟨kd, tx, ps⟩ := x
      simp only at p1 p2 p3 q1 q2 q3 hxp
      rw [Nat.mul_comm] at p1 p2 p3 q1 q2 q3
      rw [show ((ps + (s.size + 1) : Nat) : Int) = (ps : Int) + (s.size : Int) + 1 from by omega] at q3
      generalize bs tx = bt at *
      generalize (kd : Int) = a at *
      have hc0 : (0 : Int) ≤ (ps : Int) := by omega
      have hc9 : (ps : Int) ≤ 1900 := by omega
      generalize (ps : Int) = c at *
      have hl2 : g2 < wr.heap.size := World.block_lt_of_cell? wr _ p1
      have hl3 : g3 < wr.heap.size := World.block_lt_of_cell? wr _ q1
      have hk1 : ((S.length + m : Nat) : Int) < (S.length : Int) + (T.length : Int) := by omega
      have hk2 : (S.length : Int) ≤ ((S.length + m : Nat) : Int) := by omega
      have hk3 : (m : Int) < (T.length : Int) := by omega
      have hk4 : ((S.length + m : Nat) : Int) - (S.length : Int) = (m : Int) := by omega
      clear hx hxU
      go_wp2_with fail
      have c1 : (wr.alloc (.cells #[.int .u8 a, .string bt, .int .i64 (c + (s.size : Int) + 1)] 30)).cell? ⟨wr.heap.size, 0, none⟩ = some (.int .u8 a) := by rw [World.cell?_alloc_at (hn := rfl)]; rfl
      have c2 : (wr.alloc (.cells #[.int .u8 a, .string bt, .int .i64 (c + (s.size : Int) + 1)] 30)).cell? ⟨wr.heap.size, 1, none⟩ = some (.string bt) := by rw [World.cell?_alloc_at (hn := rfl)]; rfl
      have c3 : (wr.alloc (.cells #[.int .u8 a, .string bt, .int .i64 (c + (s.size : Int) + 1)] 30)).cell? ⟨wr.heap.size, 2, none⟩ = some (.int .i64 (c + (s.size : Int) + 1)) := by rw [World.cell?_alloc_at (hn := rfl)]; rfl
      rw [← World.cell?_alloc_past (w := wr) (.cells #[.int .u8 a, .string bt, .int .i64 (c + (s.size : Int) + 1)] 30) g3 _ hl3] at q1 q2 q3
      have bel : Below w3.heap.size w3 (wr.alloc (.cells #[.int .u8 a, .string bt, .int .i64 (c + (s.size : Int) + 1)] 30)) := hnx.alloc hnx.size _
      generalize wr.alloc (.cells #[.int .u8 a, .string bt, .int .i64 (c + (s.size : Int) + 1)] 30) = W at *
      generalize wr.heap.size = NB at *
      generalize c + (s.size : Int) + 1 = y at *
      clear p1 p2 p3 hl2 hl3 hnx
      go_quiet (fail)
      have bel2 : Below w3.heap.size w3 (W.drewN nq) := bel.trans ⟨rfl, rfl, rfl, Nat.le_refl _, fun _ _ => rfl⟩
      clear q1 q2 q3 c1 c2 c3 bel
      generalize W.drewN nq = W2 at *
      go_wp2
      go_roundw
      case rel => exact ⟨S.length + m + 1, by omega, by go_num, bel2⟩
      case measure => simp [intOf]; omega
    · subst hc
      go_wp2
      go_ret
      exact ⟨rfl, up_trans b03 hnx⟩

theorem lexL_far : ∀ (n : Nat) (l : List UInt8) (p : Nat), l.length ≤ n → ∀ x ∈ (lexL l p).1, x.2.2 ≤ p + l.length
  | n, l, p, hn, x, hx => by
    rcases lexL_cases l p with ⟨_, e⟩ | ⟨_, _, e⟩ | ⟨h1, _, e⟩
    · rw [e] at hx; cases hx
    · rw [e] at hx; cases hx
    · rw [e] at hx
      have hr := rest_less h1
      have t2 := togL_le h1
      rw [List.length_drop] at t2
      rcases List.mem_cons.1 hx with rfl | hx
      · show p + gapF false l ≤ _; omega
      · cases n with
        | zero => omega
        | succ n =>
          have := lexL_far n _ _ (by omega) x hx
          rw [List.length_drop] at this
          omega

theorem lexTwo_walk (s t : ByteArray) (hs : s.size ≤ maxLen) (ht : t.size ≤ maxLen) (w : World) (htab : Tab w) :
    Calls Tryd.prog 7 #[.string s, .string t] w fun e w' => e = .returned (.bool true) ∧ Below w.heap.size w w' := by
  by_cases h1 : s.size ≤ 1900
  · by_cases h2 : t.size ≤ 1900
    · have h1' : (s.size : Int) ≤ 1900 := by omega
      have h2' : (t.size : Int) ≤ 1900 := by omega
      have zs : s.data.toList.length = s.size := rfl
      have zt : t.data.toList.length = t.size := rfl
      rcases err_cases s.data.toList with ⟨a1, a2, a3, a4⟩ | ⟨a1, _, _⟩ | ⟨a1, _, _⟩ | ⟨a1, _, _⟩
      · rcases err_cases t.data.toList with ⟨c1, c2, c3, c4⟩ | ⟨c1, _, _⟩ | ⟨c1, _, _⟩ | ⟨c1, _, _⟩
        · have CS := fun w h => all_gives s _ _ _ rfl (pos_none a1) a1 w h
          have CT := fun w h => all_gives t _ _ _ rfl (pos_none c1) c1 w h
          have hz : (s ++ (⟨#[10]⟩ : ByteArray) ++ t).data.toList.length ≤ 4000 := by
            rw [two_bytes, List.length_append, List.length_cons, zs, zt]; omega
          have hU : lexL (s ++ (⟨#[10]⟩ : ByteArray) ++ t).data.toList 0 = (toksT s.data.toList ++ shiftT (s.size + 1) (toksT t.data.toList), none) := by
            rw [two_bytes, lex_two _ s.data.toList 0 (Nat.le_refl _) (by rw [a3]), a3, zs, Nat.zero_add]
            have := lexL_shift _ t.data.toList 0 (s.size + 1) (Nat.le_refl _)
            rw [Nat.zero_add, c3] at this
            rw [this]; rfl
          have hl : (shiftT (s.size + 1) (toksT t.data.toList)).length = (toksT t.data.toList).length := by unfold shiftT; rw [List.length_map]
          by_cases hn : (toksT s.data.toList).length + (toksT t.data.toList).length ≤ 1500
          · obtain ⟨e1, e2, e3⟩ := err_of hz hU (by rw [List.length_append, hl]; exact hn)
            refine two_ok s t h1' h2' _ _ (by omega) (Lib.hid fun x hx => ?_) (Lib.hid CS) (Lib.hid CT) _ (Lib.hid rfl) (by rw [List.length_append, hl]) (Lib.hid fun w h => all_gives _ _ _ _ e2 e3 e1 w h) w htab
            have := lexL_far _ t.data.toList 0 (Nat.le_refl _) x (by rw [c3]; exact hx)
            omega
          · have e1 : errT (s ++ (⟨#[10]⟩ : ByteArray) ++ t).data.toList = 4 := by
              unfold errT
              rw [if_neg (by omega), hU]
              simp only [List.length_append, hl]
              rw [if_pos (by omega)]
            exact two_full s t h1' h2' _ _ _ (by omega) (by omega) (by omega) (Lib.hid CS) (Lib.hid CT) (Lib.hid fun w h => all_gives _ [] _ _ (toks_none (by rw [e1]; decide)) rfl e1 w h) w htab
        all_goals
          exact two_err s t h1' h2' _ _ _ _ _ _ (.inr ⟨by rw [a1]; rfl, by rw [c1]; rfl⟩) (Lib.hid fun w h => all_gives s _ _ _ rfl rfl rfl w h) (Lib.hid fun w h => all_gives t _ _ _ rfl rfl rfl w h) w htab
      all_goals
        exact two_err s t h1' h2' _ _ _ _ _ _ (.inl (by rw [a1]; rfl)) (Lib.hid fun w h => all_gives s _ _ _ rfl rfl rfl w h) (Lib.hid fun w h => all_gives t _ _ _ rfl rfl rfl w h) w htab
    · exact two_long s t (.inr ⟨by omega, by omega⟩) w htab
  · exact two_long s t (.inl (by omega)) w htab
end Go.Proofs.YtbdefkhmomogdaaDoor
