/- The document's path, blank. -/
import Derived.Test.YtlbdoomknjiilaaDoorCodeFit3
namespace Go.Proofs.YtlbdoomknjiilaaDoor
open Go.RowKit
set_option linter.unusedVariables false

theorem hid_upR {w W W' : World} (h : Hid (Below w.heap.size w W)) (b : Below W.heap.size W W') : Hid (Below w.heap.size w W') := Lib.hid (h.out.trans (b.mono h.out.size))
/-- the first k steps may be -/
theorem all_takeN {l : List ByteArray} {x : ByteArray} {k : Nat} (hx : l[k]? = some x) : (l.take (k + 1)).all nameB = ((l.take k).all nameB && nameB x) := by
  rw [List.take_add_one, hx, List.all_append]
  simp
theorem all_noN {l : List ByteArray} {x : ByteArray} (hx : x ∈ l) (h : nameB x = false) : l.all nameB = false := by
  cases h2 : l.all nameB
  · rfl
  · rw [List.all_eq_true] at h2
    rw [h2 x hx] at h
    cases h
set_option maxRecDepth 100000 in
set_option maxHeartbeats 2000000 in
theorem refPath_calls (B : Nat) (l : List ByteArray) (v : Value) (w : World) (hB : B ≤ w.heap.size) (h : SIn B w l v) :
    Calls Tryd.prog 27 #[v] w fun e w' => e = .returned (.bool (pathB l)) ∧ Below w.heap.size w w' := by
  obtain ⟨b, o, ⟨hm, ao, cap, rfl, hc, h4⟩, hr⟩ := h
  have star : nameB (⟨#[42]⟩ : ByteArray) = true := by decide
  unfold pathB
  obtain ⟨n, hn⟩ : ∃ n, n = l.length := ⟨_, rfl⟩
  rw [← hn] at hm h4 ⊢
  have HL := Lib.hid hn
  have Hr := Lib.hid hr
  have H4 := Lib.hid h4
  unfold maxLen at hm
  clear hn hr h4
  by_cases hle : n ≤ 40
  · have e0 : decide (40 < (n : Int)) = false := decide_eq_false (by omega)
    rw [decide_eq_true hle, Bool.true_and]
    obtain ⟨R, hR⟩ : ∃ R, R = l.all nameB := ⟨_, rfl⟩
    have HR := Lib.hid hR
    rw [← hR]
    clear hR
    go_enter Tryd.func27, Tryd.ntmps27
    go_wp2_with fail
    go_loopw [3] (fun i wr => ∃ k : Nat, k ≤ n ∧ i = .int .i64 k ∧ Hid ((l.take k).all nameB = true) ∧ Hid (Below w.heap.size w wr))
      (fun i _ => n - (intOf i).toNat)
    case atStart => exact ⟨0, by omega, rfl, Lib.hid rfl, Lib.hid (Below.refl _ _)⟩
    case round =>
      obtain ⟨k, hk, rfl, HA, HB⟩ := hrel
      have hk0 : 0 ≤ (k : Int) := by omega
      by_cases hlt : k < n
      · obtain ⟨rfl, hbb⟩ := H4.out.resolve_left (by omega)
        have hk1 : (k : Int) < (n : Int) := by omega
        obtain ⟨x, hx, hxm⟩ := get_at (l := l) (k := k) (by rw [← HL.out]; exact hlt)
        have hcell : wr.cell? ⟨b, o + k, none⟩ = some (.string x) := (HB.out.cell (p := ⟨b, o + k, none⟩) (Nat.lt_of_lt_of_le hbb hB)).trans (Hr.out k x hx).2
        have HX := Lib.hid (all_takeN hx)
        have HM := Lib.hid hxm
        have HC := Lib.hid fun W => refName_calls x W
        by_cases hs : keyS x = keyS ⟨#[42]⟩
        · have e1 : (!x.toList == [42]) = false := by have := str_neq' hs; rwa [show (⟨#[42]⟩ : ByteArray).toList = [42] by rw [ByteArray.toList_eq]] at this
          have HN : Hid ((l.take (k + 1)).all nameB = true) := Lib.hid (by rw [HX.out, HA.out, key_same.1 hs, star]; rfl)
          clear hs hx hxm star
          go_wp2_with fail
          go_roundw
          case rel => exact ⟨k + 1, by omega, by go_num, HN, HB⟩
          case measure => simp [intOf]; omega
        · have e1 : (!x.toList == [42]) = true := by have := str_neq hs; rwa [show (⟨#[42]⟩ : ByteArray).toList = [42] by rw [ByteArray.toList_eq]] at this
          cases hn : nameB x
          · have HF : Hid (R = false) := Lib.hid (by rw [HR.out, all_noN hxm hn])
            rw [hn] at HC
            clear hs hx hxm star hn
            go_wp2_with (go_at_call 28; (with_reducible refine (HC.out _).mono ?_); rintro e w1 ⟨rfl, rfl⟩)
            go_ret
            exact ⟨ret_bool HF.out.symm, HB.out⟩
          · have HN : Hid ((l.take (k + 1)).all nameB = true) := Lib.hid (by rw [HX.out, HA.out, hn]; rfl)
            rw [hn] at HC
            clear hs hx hxm star hn
            go_wp2_with (go_at_call 28; (with_reducible refine (HC.out _).mono ?_); rintro e w1 ⟨rfl, rfl⟩)
            go_roundw
            case rel => exact ⟨k + 1, by omega, by go_num, HN, HB⟩
            case measure => simp [intOf]; omega
      · obtain rfl : n = k := by omega
        have HF : Hid (R = true) := Lib.hid (by rw [HR.out, ← HA.out, List.take_of_length_le (by rw [HL.out]; exact Nat.le_refl _)])
        clear star
        go_wp2_with fail
        go_ret
        exact ⟨ret_bool HF.out.symm, HB.out⟩
  · have e0 : decide (40 < (n : Int)) = true := decide_eq_true (by omega)
    rw [decide_eq_false hle]
    clear star
    go_enter Tryd.func27, Tryd.ntmps27
    go_wp2_with fail
    go_ret
    exact ⟨rfl, Below.refl _ _⟩
set_option maxRecDepth 100000 in
set_option maxHeartbeats 4000000 in
theorem blank_calls (a4 a5 a6 : Option Addr) (n4 n5 n6 c4 c5 c6 : Nat) (op xa xb xc xi : Int) (nm : ByteArray) (w : World) :
    Calls Tryd.prog 29 #[.agg #[.int .u8 op, .int .i64 xa, .int .i64 xb, .int .i64 xc, .slice a4 n4 c4, .slice a5 n5 c5, .int .i64 xi, .string nm, .slice a6 n6 c6]] w fun e w' =>
      e = .returned (.bool (decide (xa = 0) && (decide (xb = 0) && (decide (xc = 0) && (decide (n4 = 0) && (decide (n5 = 0) && (decide (xi = 0) && (decide (nm.size = 0) && decide (n6 = 0))))))))) ∧ Below w.heap.size w w' := by
  have el : nm.toList.isEmpty = decide (nm.size = 0) := by
    rw [ByteArray.toList_eq]
    cases h : nm.data.toList with
    | nil => have : nm.size = nm.data.toList.length := rfl; rw [h] at this; simp [this]
    | cons c l => have : nm.size = nm.data.toList.length := rfl; rw [h] at this; simp [this]
  have e0 : (xa == 0) = decide (xa = 0) := rfl
  have e1 : (xb == 0) = decide (xb = 0) := rfl
  have e2 : (xc == 0) = decide (xc = 0) := rfl
  have e3 : ((n4 : Int) == 0) = decide (n4 = 0) := by rw [Bool.eq_iff_iff, beq_iff_eq, decide_eq_true_iff]; omega
  have e4 : ((n5 : Int) == 0) = decide (n5 = 0) := by rw [Bool.eq_iff_iff, beq_iff_eq, decide_eq_true_iff]; omega
  have e5 : (xi == 0) = decide (xi = 0) := rfl
  have e7 : ((n6 : Int) == 0) = decide (n6 = 0) := by rw [Bool.eq_iff_iff, beq_iff_eq, decide_eq_true_iff]; omega
  have b0 := Lib.hid (box1 w (.cells #[.int .u8 op, .int .i64 xa, .int .i64 xb, .int .i64 xc, .slice a4 n4 c4, .slice a5 n5 c5, .int .i64 xi, .string nm, .slice a6 n6 c6] 34))
  generalize decide (xa = 0) = t0 at *
  generalize decide (xb = 0) = t1 at *
  generalize decide (xc = 0) = t2 at *
  generalize decide (n4 = 0) = t3 at *
  generalize decide (n5 = 0) = t4 at *
  generalize decide (xi = 0) = t5 at *
  generalize decide (nm.size = 0) = t6 at *
  generalize decide (n6 = 0) = t7 at *
  cases t0 with
  | false =>
    as_aux_lemma =>
      go_enter Tryd.func29, Tryd.ntmps29
      go_wp2_with fail
      go_ret
      exact ⟨rfl, b0.out⟩
  | true =>
    cases t1 with
    | false =>
      as_aux_lemma =>
        go_enter Tryd.func29, Tryd.ntmps29
        go_wp2_with fail
        go_ret
        exact ⟨rfl, b0.out⟩
    | true =>
      cases t2 with
      | false =>
        as_aux_lemma =>
          go_enter Tryd.func29, Tryd.ntmps29
          go_wp2_with fail
          go_ret
          exact ⟨rfl, b0.out⟩
      | true =>
        cases t3 with
        | false =>
          as_aux_lemma =>
            go_enter Tryd.func29, Tryd.ntmps29
            go_wp2_with fail
            go_ret
            exact ⟨rfl, b0.out⟩
        | true =>
          cases t4 with
          | false =>
            as_aux_lemma =>
              go_enter Tryd.func29, Tryd.ntmps29
              go_wp2_with fail
              go_ret
              exact ⟨rfl, b0.out⟩
          | true =>
            cases t5 with
            | false =>
              as_aux_lemma =>
                go_enter Tryd.func29, Tryd.ntmps29
                go_wp2_with fail
                go_ret
                exact ⟨rfl, b0.out⟩
            | true =>
              cases t6 with
              | false =>
                as_aux_lemma =>
                  go_enter Tryd.func29, Tryd.ntmps29
                  go_wp2_with fail
                  go_ret
                  exact ⟨rfl, b0.out⟩
              | true =>
                cases t7 with
                | false =>
                  as_aux_lemma =>
                    go_enter Tryd.func29, Tryd.ntmps29
                    go_wp2_with fail
                    go_ret
                    exact ⟨rfl, b0.out⟩
                | true =>
                  as_aux_lemma =>
                    go_enter Tryd.func29, Tryd.ntmps29
                    go_wp2_with fail
                    go_ret
                    exact ⟨rfl, b0.out⟩
end Go.Proofs.YtlbdoomknjiilaaDoor
