/- LexBack: tokens written one behind the other, with a blank between, are read as the same tokens; so they are with a remark ahead and behind: the walk. -/
import Derived.Test.YtbdefkhmomogdaaDoorLexPlaces
import Derived.Test.YtbdefkhmomogdaaDoorLexBackMath
import Derived.Lib.AppendStr
import Derived.Laws.IdiomStrings
import Derived.Laws.BytesArg
import Derived.Deep.QuietTactic
import Derived.BigQuiet
namespace Go.Proofs.YtbdefkhmomogdaaDoor
open Go.RowKit
set_option linter.unusedVariables false

/-- v is a slice of the call's own that holds the bytes l -/
def Bytes (w : World) (base : Nat) (v : Value) (l : List UInt8) : Prop := Hid (w.ownsRow base 5 1 v l.length (bcells l))
theorem Bytes.below {w w' : World} {base : Nat} {v : Value} {l : List UInt8} (h : Bytes w base v l) (hb : Below w.heap.size w w') : Bytes w' base v l := Lib.hid (owns_below h.out hb)
theorem Bytes.text {w : World} {base : Nat} {v : Value} {l : List UInt8} (h : Bytes w base v l) : (convert 34 9 v).run Tryd.prog w = .ok (.string (bs l)) w := by
  rcases h.out.2 with ⟨h1, h2⟩ | ⟨g, cap, cur, h1, h2, _⟩
  · subst h1
    have : l = [] := List.eq_nil_of_length_eq_zero h2
    subst this
    exact run_convert_bytes_nil (P := Tryd.prog) w 34 5 Tryd.underlying34 Tryd.underlying5 0 0 9 Tryd.underlying9
  · subst h1
    refine run_convert_bytes_back (P := Tryd.prog) w 34 9 5 ⟨g, 0, none⟩ cap l Tryd.underlying34 Tryd.underlying5 Tryd.underlying9 ?_
    intro j hj
    have e : (⟨g, 0, none⟩ : Addr).add j = ⟨g, j, none⟩ := by simp [Addr.add]; exact fun h => h.symm
    rw [e, h.out.cellAt j (by omega)]
    simp [bcells, hj]
theorem Tryd.infoByte : (Tryd.prog.info? 5).map (fun i => (i.zero, i.size, i.bytes)) = some (some (.int .u8 0), 1, 1) := by kernel_rfl
theorem one_cell (w : World) (a : Value) (e : TypeId) : ∀ (j : Nat) (u : Value), [a][j]? = some u → (w.alloc (.cells #[a] e)).cell? ((⟨w.heap.size, 0, none⟩ : Addr).add j) = some u := by
  intro j u h
  have e1 : (⟨w.heap.size, 0, none⟩ : Addr).add j = ⟨w.heap.size, j, none⟩ := by simp [Addr.add]; exact fun h => h.symm
  rw [e1, World.cell?_alloc_at (hn := rfl)]
  simpa using h
theorem one_one (n : Int) : ∀ u ∈ [Value.int .u8 n], u.oneCell' = true := by
  intro u hu
  simp at hu
  subst hu; rfl

theorem four_size (a b : ByteArray) : (a ++ (⟨#[10, 9]⟩ : ByteArray) ++ b ++ a).size = a.size + 2 + b.size + a.size := by
  simp [ByteArray.size_append]; rfl
theorem four_bytes (a b : ByteArray) : (a ++ (⟨#[10, 9]⟩ : ByteArray) ++ b ++ a).data.toList = a.data.toList ++ 10 :: 9 :: (b.data.toList ++ a.data.toList) := by simp

set_option maxHeartbeats 400000 in
theorem back_long (s r : ByteArray) (hs : 6000 < (s.size : Int) ∨ ((s.size : Int) ≤ 6000 ∧ 100 < (r.size : Int))) (w : World) (htab : Tab w) :
    Calls Tryd.prog 5 #[.string s, .string r] w fun e w' => e = .returned (.bool true) ∧ Below w.heap.size w w' := by
  rcases hs with hs | ⟨h1, h2⟩
  · go_enter Tryd.func5, Tryd.ntmps5
    go_wp2_with fail
    refine (awake_calls w htab).mono ?_; rintro e w0 ⟨rfl, b0⟩
    go_wp2
    go_ret
    exact ⟨rfl, b0⟩
  · go_enter Tryd.func5, Tryd.ntmps5
    go_wp2_with fail
    refine (awake_calls w htab).mono ?_; rintro e w0 ⟨rfl, b0⟩
    go_wp2
    go_ret
    exact ⟨rfl, b0⟩

set_option maxRecDepth 100000 in
set_option maxHeartbeats 1000000 in
theorem back_err (s r : ByteArray) (hs : (s.size : Int) ≤ 6000) (hr : (r.size : Int) ≤ 100) (p : Nat) (e0 : Int) (he : (e0 != 0) = true)
    (CL : Hid (∀ w : World, Tab w → Calls Tryd.prog 10 #[.string s] w fun e w' => ∃ ao cap, e = .returned (.tuple #[.slice ao 0 cap, .int .i64 p, .int .i64 e0]) ∧ Toks w' w.heap.size (.slice ao 0 cap) [] ∧ Below w.heap.size w w')) (w : World) (htab : Tab w) :
    Calls Tryd.prog 5 #[.string s, .string r] w fun e w' => e = .returned (.bool true) ∧ Below w.heap.size w w' := by
  go_enter Tryd.func5, Tryd.ntmps5
  go_wp2_with fail
  refine (awake_calls w htab).mono ?_; rintro e w0 ⟨rfl, b0⟩
  go_wp2_with fail
  refine (CL.out _ (htab.below b0)).mono ?_; rintro e w1 ⟨ao, cap, rfl, k1, b1⟩
  go_wp2
  go_ret
  exact ⟨rfl, up_trans b0 b1⟩

/-- what All tells of a text made of tokens: too long, or the same tokens -/
def Again (u : ByteArray) (T : List Tok) : Prop := ∃ T', sameT T' T ∧ T'.length = T.length ∧ ∀ w : World, Tab w → Calls Tryd.prog 10 #[.string u] w fun e w' => ∃ ao cap, e = .returned (.tuple #[.slice ao T.length cap, .int .i64 0, .int .i64 0]) ∧ Toks w' w.heap.size (.slice ao T'.length cap) T' ∧ Below w.heap.size w w'

set_option maxRecDepth 100000 in
set_option maxHeartbeats 8000000 in
theorem back_ok (s r : ByteArray) (hs : (s.size : Int) ≤ 6000) (hr : (r.size : Int) ≤ 100) (T : List Tok) (hfew : (T.length : Int) ≤ 1500) (hlen : Hid (∀ t ∈ T, t.2.1.length ≤ 6000))
    (CL : Hid (∀ w : World, Tab w → Calls Tryd.prog 10 #[.string s] w fun e w' => ∃ ao cap, e = .returned (.tuple #[.slice ao T.length cap, .int .i64 0, .int .i64 0]) ∧ Toks w' w.heap.size (.slice ao T.length cap) T ∧ Below w.heap.size w w'))
    (ub nb : ByteArray) (hub : Hid (ub = bs (joinT T))) (hnb : Hid (nb = bs (noteL r.data.toList))) (zu : (ub.size : Int) ≤ 10000000) (zn : (nb.size : Int) ≤ 200)
    (A0 : Hid ((ub.size : Int) ≤ 4000 → Again ub T)) (A1 : Hid ((((nb ++ ⟨#[10, 9]⟩ ++ ub ++ nb : ByteArray)).size : Int) ≤ 4000 → Again (nb ++ ⟨#[10, 9]⟩ ++ ub ++ nb) T)) (w : World) (htab : Tab w) :
    Calls Tryd.prog 5 #[.string s, .string r] w fun e w' => e = .returned (.bool true) ∧ Below w.heap.size w w' := by
  obtain ⟨i0, hi, hz0, hz1, hz2⟩ := info_parts Tryd.infoByte
  go_enter Tryd.func5, Tryd.ntmps5
  go_wp2_with fail
  refine (awake_calls w htab).mono ?_; rintro e w0 ⟨rfl, b0⟩
  go_wp2_with fail
  refine (CL.out _ (htab.below b0)).mono ?_; rintro e w1 ⟨ao, cap, rfl, k1, b1⟩
  have b01 := up_trans b0 b1
  clear b0 b1
  go_wp2_with fail
  go_loopw [8, 9] (fun v i wr => ∃ k : Nat, k ≤ T.length ∧ i = .int .i64 k ∧ Bytes wr w1.heap.size v (joinT (T.take k)) ∧ Below w1.heap.size w1 wr) (fun _ i _ => T.length - (intOf i).toNat)
  case atStart => exact ⟨0, by omega, rfl, Lib.hid (World.ownsRow_nil _ _ _ _), Below.refl _ _⟩
  case round =>
    obtain ⟨k, hk, rfl, hown, hnx⟩ := hrel
    by_cases hlt : k < T.length
    · obtain ⟨x, hx⟩ : ∃ x, T[k]? = some x := ⟨_, List.getElem?_eq_getElem hlt⟩
      have k2 := k1.below hnx
      obtain ⟨g, c2, hv, _⟩ := k2.full (by intro e; rw [e] at hlt; simp at hlt)
      simp only [Value.slice.injEq] at hv
      obtain ⟨rfl, _, rfl⟩ := hv
      obtain ⟨p1, p2, p3⟩ := k2.at hx
      rw [Nat.mul_comm] at p1 p2 p3
      have hx6 := hlen.out x (List.mem_of_getElem? hx)
      have hjl := joinT_len (T.take k) (fun t ht => hlen.out t (List.mem_of_mem_take ht))
      rw [List.length_take, Nat.min_eq_left (by omega)] at hjl
      have hjb : (joinT (T.take k)).length ≤ 10000000 := by
        have : k * 6001 ≤ 1500 * 6001 := Nat.mul_le_mul_right _ (by omega)
        omega
      have hown' := hown.out
      have hb1 := hnx.size
      have ek : (k : Int) < (T.length : Int) := by omega
      have hzx : (bs x.2.1).size ≤ 6000 := hx6
      have J := Lib.hid (joinT_take hx)
      have hbx := Lib.hid (bs_list x.2.1)
      generalize bs x.2.1 = p at *
      clear hjl hx6 p1 p3
      go_wp2_with (first
        | (at_builtin; refine Lib.wpList_append_own_string (P := Tryd.prog) _ rfl _ _ 34 9 rfl w1.heap.size 5 i0 Tryd.underlying34 Tryd.underlying9 hi hz0 hz1 hz2 _ _ _ rfl hown' p rfl (by unfold maxLen; omega) (by omega) (by omega) ?_)
        | fail)
      intro v2 w2 hown2 hgrow2 _
      have bel2 := hnx.grown hgrow2 hnx.size (fun j hj => (hown'.lt j hj).1)
      have hb2 := bel2.size
      clear hown' hnx hgrow2 p2 k2 hown
      go_wp2_with (first
        | (at_builtin; refine wpList_append_own _ rfl _ _ 34 rfl w1.heap.size 5 i0 (.int .u8 0) 1 1 Tryd.underlying34 hi hz0 hz1 hz2 rfl (by decide) _ _ _ rfl (hown2.alloc _) ⟨w2.heap.size, 0, none⟩ 1 1 [.int .u8 32] rfl rfl (one_cell _ _ _) (one_one _) (by unfold maxLen; omega) (by omega) (by simp; omega) ?_)
        | fail)
      intro v3 w3 hown3 hgrow3 _
      have bel3 := (bel2.alloc bel2.size _).grown hgrow3 (by simp; omega) (fun j hj => (hown2.lt j hj).1)
      have R : Bytes w3 w1.heap.size v3 (joinT (T.take (k + 1))) := by
        refine Lib.hid ?_
        rw [J.out, ← hbx.out, bcells_app, bcells_app, List.length_append, List.length_append, List.append_assoc]
        exact hown3
      clear hown2 hown3 hgrow3 bel2
      go_wp2
      go_roundw
      case rel => exact ⟨k + 1, by omega, by go_num, R, bel3⟩
      case measure => simp [intOf]; omega
    · obtain rfl : k = T.length := by omega
      rw [List.take_of_length_le (Nat.le_refl _)] at hown
      have k2 := k1.below hnx
      have b02 := up_trans b01 hnx
      have tT := hown
      clear k1 hnx b01 hown
      go_wp2_with (first
        | (at_builtin; refine Lib.wpList_append_own_string (P := Tryd.prog) _ rfl _ _ 34 9 rfl wr.heap.size 5 i0 Tryd.underlying34 Tryd.underlying9 hi hz0 hz1 hz2 _ _ _ rfl (World.ownsRow_nil _ _ _ _) ⟨#[47, 47]⟩ rfl (by unfold maxLen; decide) (by decide) (Nat.le_refl _) ?_)
        | fail)
      intro v3 w3 hown3 hgrow3 _
      have bel3 : Below wr.heap.size wr w3 := (Below.refl _ _).grown hgrow3 (Nat.le_refl _) (fun j hj => by cases hj)
      have N0 : Bytes w3 wr.heap.size v3 [47, 47] := Lib.hid hown3
      clear hown3 hgrow3
      go_wp2_with fail
      go_loopw [10, 11] (fun v i wq => ∃ k : Nat, k ≤ r.size ∧ i = .int .i64 k ∧ Bytes wq wr.heap.size v (noteL (r.data.toList.take k)) ∧ Below wr.heap.size wr wq) (fun _ i _ => r.size - (intOf i).toNat)
      case atStart => exact ⟨0, by omega, rfl, N0, bel3⟩
      case round =>
        obtain ⟨k, hk, rfl, hown, hnx⟩ := hrel
        by_cases hlt : k < r.size
        · have htk := take_snoc r k hlt
          have hnl := note_len (r.data.toList.take k)
          rw [List.length_take, show r.data.toList.length = r.size from rfl, Nat.min_eq_left (by omega)] at hnl
          have hown' := hown.out
          have hb1 := hnx.size
          have ek : (k : Int) < (r.size : Int) := by omega
          by_cases h10 : r[k].toNat = 10
          · have f10 : ((r[k].toNat : Int) != 10) = false := isnt_no (by omega)
            have eR : noteL (r.data.toList.take (k + 1)) = noteL (r.data.toList.take k) := by
              rw [htk]
              unfold noteL
              rw [List.filter_append, List.filter_cons_of_neg (by simp [h10]), List.filter_nil, List.append_nil]
            have R := hown
            rw [← eR] at R
            clear eR
            clear hown' h10 htk hnl
            go_wp2
            go_roundw
            case rel => exact ⟨k + 1, by omega, by go_num, R, hnx⟩
            case measure => simp [intOf]; omega
          · have f10 : ((r[k].toNat : Int) != 10) = true := isnt_yes (by omega)
            have HJ : Hid (noteL (r.data.toList.take (k + 1)) = noteL (r.data.toList.take k) ++ [r[k]]) := Lib.hid (by
              rw [htk]
              unfold noteL
              rw [List.filter_append, List.filter_cons_of_pos (by simp [h10]), List.filter_nil]; rfl)
            clear h10 htk
            go_wp2_with (first
              | (at_builtin; refine wpList_append_own _ rfl _ _ 34 rfl _ 5 i0 (.int .u8 0) 1 1 Tryd.underlying34 hi hz0 hz1 hz2 rfl (by decide) _ _ _ rfl (hown'.alloc _) ⟨wr.heap.size, 0, none⟩ 1 1 [.int .u8 (r[k].toNat : Int)] rfl rfl (one_cell _ _ _) (one_one _) (by unfold maxLen; omega) (by omega) (by simp; omega) ?_)
              | fail)
            intro v4 w4 hown4 hgrow4 _
            have bel4 := (hnx.alloc hnx.size _).grown hgrow4 (by simp; omega) (fun j hj => (hown'.lt j hj).1)
            have R := hown4
            rw [show [Value.int .u8 (r[k].toNat : Int)] = bcells [r[k]] from rfl, ← bcells_app, ← HJ.out] at R
            rw [show (noteL (r.data.toList.take k)).length + 1 = (noteL (r.data.toList.take (k + 1))).length from by rw [HJ.out, List.length_append]; rfl] at R
            have R' := Lib.hid R
            clear R
            clear hown4 hgrow4 hown' hnl
            go_wp2
            go_roundw
            case rel => exact ⟨k + 1, by omega, by go_num, R', bel4⟩
            case measure => simp [intOf]; omega
        · obtain rfl : k = r.size := by omega
          have hfin : r.data.toList.take r.size = r.data.toList := take_all r
          rw [hfin] at hown
          have k3 := k2.below hnx
          have t3 := tT.below hnx
          have b04 := up_trans b02 hnx
          clear hnx k2 b02 hfin bel3 N0
          go_wp2_with fail
          go_loopw [12] (fun i wq => ∃ k : Nat, k ≤ 2 ∧ i = .int .i64 k ∧ Below wr.heap.size wr wq) (fun i _ => 2 - (intOf i).toNat)
          case atStart => exact ⟨0, by omega, rfl, Below.refl _ _⟩
          case round =>
            obtain ⟨k, hk, rfl, hnx6⟩ := hrel
            have k5 := k3.below hnx6
            have ct := (t3.below hnx6).text
            have cn := (hown.below hnx6).text
            rw [← hub.out] at ct
            rw [← hnb.out] at cn
            have htab6 := htab.below (up_trans b04 hnx6)
            rcases (show k = 0 ∨ k = 1 ∨ k = 2 by omega) with rfl | rfl | rfl
            · have eu : Hid ((ub.size : Int) ≤ 4000 → Again (ub) T) := A0
              by_cases hz : (ub.size : Int) ≤ 4000
              · obtain ⟨T', hsame, hl', CA⟩ := eu.out hz
                have CA' := Lib.hid CA
                have HS := Lib.hid hsame
                clear CA hsame eu
                go_wp2_with fail
                refine (CA'.out _ htab6).mono ?_; rintro e w7 ⟨ao7, cap7, rfl, k7, b7⟩
                have k57 := k5.below b7
                have bel7 := up_trans hnx6 b7
                go_wp2_with fail
                go_loopw [17] (fun i wq => ∃ j : Nat, j ≤ T.length ∧ i = .int .i64 j ∧ Below w7.heap.size w7 wq) (fun i _ => T.length - (intOf i).toNat)
                case atStart => exact ⟨0, by omega, rfl, Below.refl _ _⟩
                case round =>
                  obtain ⟨j, hj, rfl, hnx8⟩ := hrel
                  by_cases hjl : j < T.length
                  · obtain ⟨x, hx⟩ : ∃ x, T[j]? = some x := ⟨_, List.getElem?_eq_getElem hjl⟩
                    obtain ⟨qq, hx'⟩ := HS.out.at hx
                    have k58 := k57.below hnx8
                    have k78 := k7.below hnx8
                    obtain ⟨g5, d5, hv5, _⟩ := k58.full (by intro e; rw [e] at hjl; simp at hjl)
                    obtain ⟨g7, d7, hv7, _⟩ := k78.full (by intro e; rw [e] at hl'; simp at hl'; omega)
                    rw [hl'] at hv7
                    simp only [Value.slice.injEq] at hv5 hv7
                    obtain ⟨rfl, _, rfl⟩ := hv5
                    obtain ⟨rfl, _, rfl⟩ := hv7
                    obtain ⟨p1, p2, p3⟩ := k58.at hx
                    obtain ⟨q1, q2, q3⟩ := k78.at hx'
                    rw [Nat.mul_comm] at p1 p2 p3 q1 q2 q3
                    simp only at q1 q2 q3
                    generalize bs x.2.1 = bt at *
                    generalize (x.1 : Int) = a at *
                    have ej : (j : Int) < (T.length : Int) := by omega
                    clear hx hx' p3 q3 k58 k78
                    go_wp2_with fail
                    go_quiet (fail)
                    have bel8 : Below w7.heap.size w7 (wr.drewN nq) := hnx8.trans ⟨rfl, rfl, rfl, Nat.le_refl _, fun _ _ => rfl⟩
                    clear p1 p2 q1 q2 hnx8
                    generalize wr.drewN nq = W8 at *
                    go_wp2
                    go_roundw
                    case rel => exact ⟨j + 1, by omega, by go_num, bel8⟩
                    case measure => simp [intOf]; omega
                  · obtain rfl : j = T.length := by omega
                    have bel9 := up_trans bel7 hnx8
                    go_wp2
                    go_roundw
                    case rel => exact ⟨1, by omega, by go_num, bel9⟩
                    case measure => simp [intOf]
              · have hz' : 4000 < (ub.size : Int) := by omega
                clear hz eu
                go_wp2
                go_ret
                exact ⟨rfl, up_trans b04 hnx6⟩
            · have eu : Hid ((nb.size : Int) + 2 + (ub.size : Int) + (nb.size : Int) ≤ 4000 → Again (((nb ++ ⟨#[10, 9]⟩ ++ ub ++ nb : ByteArray))) T) := Lib.hid (fun h => A1.out (by rw [four_size]; omega))
              by_cases hz : (nb.size : Int) + 2 + (ub.size : Int) + (nb.size : Int) ≤ 4000
              · obtain ⟨T', hsame, hl', CA⟩ := eu.out hz
                have CA' := Lib.hid CA
                have HS := Lib.hid hsame
                clear CA hsame eu
                go_wp2_with fail
                refine (CA'.out _ htab6).mono ?_; rintro e w7 ⟨ao7, cap7, rfl, k7, b7⟩
                have k57 := k5.below b7
                have bel7 := up_trans hnx6 b7
                go_wp2_with fail
                go_loopw [17] (fun i wq => ∃ j : Nat, j ≤ T.length ∧ i = .int .i64 j ∧ Below w7.heap.size w7 wq) (fun i _ => T.length - (intOf i).toNat)
                case atStart => exact ⟨0, by omega, rfl, Below.refl _ _⟩
                case round =>
                  obtain ⟨j, hj, rfl, hnx8⟩ := hrel
                  by_cases hjl : j < T.length
                  · obtain ⟨x, hx⟩ : ∃ x, T[j]? = some x := ⟨_, List.getElem?_eq_getElem hjl⟩
                    obtain ⟨qq, hx'⟩ := HS.out.at hx
                    have k58 := k57.below hnx8
                    have k78 := k7.below hnx8
                    obtain ⟨g5, d5, hv5, _⟩ := k58.full (by intro e; rw [e] at hjl; simp at hjl)
                    obtain ⟨g7, d7, hv7, _⟩ := k78.full (by intro e; rw [e] at hl'; simp at hl'; omega)
                    rw [hl'] at hv7
                    simp only [Value.slice.injEq] at hv5 hv7
                    obtain ⟨rfl, _, rfl⟩ := hv5
                    obtain ⟨rfl, _, rfl⟩ := hv7
                    obtain ⟨p1, p2, p3⟩ := k58.at hx
                    obtain ⟨q1, q2, q3⟩ := k78.at hx'
                    rw [Nat.mul_comm] at p1 p2 p3 q1 q2 q3
                    simp only at q1 q2 q3
                    generalize bs x.2.1 = bt at *
                    generalize (x.1 : Int) = a at *
                    have ej : (j : Int) < (T.length : Int) := by omega
                    clear hx hx' p3 q3 k58 k78
                    go_wp2_with fail
                    go_quiet (fail)
                    have bel8 : Below w7.heap.size w7 (wr.drewN nq) := hnx8.trans ⟨rfl, rfl, rfl, Nat.le_refl _, fun _ _ => rfl⟩
                    clear p1 p2 q1 q2 hnx8
                    generalize wr.drewN nq = W8 at *
                    go_wp2
                    go_roundw
                    case rel => exact ⟨j + 1, by omega, by go_num, bel8⟩
                    case measure => simp [intOf]; omega
                  · obtain rfl : j = T.length := by omega
                    have bel9 := up_trans bel7 hnx8
                    go_wp2
                    go_roundw
                    case rel => exact ⟨2, by omega, by go_num, bel9⟩
                    case measure => simp [intOf]
              · have hz' : 4000 < (nb.size : Int) + 2 + (ub.size : Int) + (nb.size : Int) := by omega
                clear hz eu
                go_wp2
                go_ret
                exact ⟨rfl, up_trans b04 hnx6⟩
            · go_wp2
              go_ret
              exact ⟨rfl, up_trans b04 hnx6⟩

theorem again_of {u : ByteArray} {T : List Tok} (hT : T.length ≤ 1500) (hu : u.data.toList.length ≤ 4000) (h : ∃ T', lexL u.data.toList 0 = (T', none) ∧ sameT T' T) : Again u T := by
  obtain ⟨T', e, hs⟩ := h
  have hl := hs.len
  obtain ⟨e1, e2, e3⟩ := err_of hu e (by omega)
  refine ⟨T', hs, hl, fun w hw => ?_⟩
  have := all_gives u _ _ _ e2 e3 e1 w hw
  rw [hl] at this ⊢
  exact this

theorem lexBack_walk (s r : ByteArray) (hs : s.size ≤ maxLen) (hr : r.size ≤ maxLen) (w : World) (htab : Tab w) :
    Calls Tryd.prog 5 #[.string s, .string r] w fun e w' => e = .returned (.bool true) ∧ Below w.heap.size w w' := by
  by_cases h1 : s.size ≤ 6000
  · by_cases h2 : r.size ≤ 100
    · have h1' : (s.size : Int) ≤ 6000 := by omega
      have h2' : (r.size : Int) ≤ 100 := by omega
      have zs : s.data.toList.length = s.size := rfl
      have zr : r.data.toList.length = r.size := rfl
      by_cases he : errT s.data.toList = 0
      · rcases err_cases s.data.toList with ⟨a1, a2, a3, a4⟩ | ⟨a1, _, _⟩ | ⟨a1, _, _⟩ | ⟨a1, _, _⟩
        · have hm := fun t ht => lexL_mem _ s.data.toList 0 (Nat.le_refl _) t ht
          have ht := fun t ht => lexL_text _ s.data.toList 0 (Nat.le_refl _) t ht
          rw [a3] at hm ht
          have hx : ∀ t ∈ toksT s.data.toList, t.2.1.length ≤ 6000 := fun t h => by have := ht t h; omega
          have hj := joinT_len _ hx
          have hn := note_len r.data.toList
          refine back_ok s r h1' h2' _ (by omega) (Lib.hid hx) (Lib.hid fun w h => all_gives s _ _ _ rfl (pos_none a1) a1 w h) _ _ (Lib.hid rfl) (Lib.hid rfl) ?_ ?_ (Lib.hid fun hz => ?_) (Lib.hid fun hz => ?_) w htab
          · rw [bs_size]
            have : (toksT s.data.toList).length * 6001 ≤ 1500 * 6001 := Nat.mul_le_mul_right _ a4
            omega
          · rw [bs_size]; omega
          · refine again_of a4 (by rw [bs_list]; rw [bs_size] at hz; omega) ?_
            obtain ⟨T', e, h⟩ := lex_join lex_nil _ 0 hm
            rw [List.append_nil] at e
            exact ⟨T', e, h⟩
          · rw [four_size, bs_size, bs_size] at hz
            refine again_of a4 (by rw [four_bytes, bs_list, bs_list]; simp only [List.length_append, List.length_cons]; omega) ?_
            obtain ⟨T', e, h⟩ := lex_join (lex_note r.data.toList) _ (0 + (noteL r.data.toList).length + 1 + 1) hm
            refine ⟨T', ?_, h⟩
            rw [four_bytes, bs_list, bs_list, lex_after]
            exact e
        all_goals (rw [a1] at he; cases he)
      · exact back_err s r h1' h2' _ _ (by rw [bne_iff_ne]; exact he) (Lib.hid fun w h => all_gives s [] _ _ (toks_none he) rfl rfl w h) w htab
    · exact back_long s r (.inr ⟨by omega, by omega⟩) w htab
  · exact back_long s r (.inl (by omega)) w htab
end Go.Proofs.YtbdefkhmomogdaaDoor
