/- What the document's own answers of layer 2 (weftwayref02) come to, third part: end. -/
import Derived.Test.YtbdefkhmomogdaaDoorRefKind
namespace Go.Proofs.YtbdefkhmomogdaaDoor
open Go.RowKit
set_option linter.unusedVariables false

theorem pre_from {p : UInt8 → Bool} {s : ByteArray} {a k : Nat} (ha : a ≤ k) (hk : k ≤ s.size) (h1 : ∀ m, a ≤ m → (h : m < s.size) → m < k → p s[m] = true) (h2 : (h : k < s.size) → p s[k] = false) :
    pre p (s.data.toList.drop a) = k - a := by
  refine take_pre (by rw [List.length_drop, show s.data.toList.length = s.size from rfl]; omega) ?_ ?_
  · rw [List.all_eq_true]
    intro c hc
    obtain ⟨m, hm, rfl⟩ := List.getElem_of_mem hc
    rw [List.length_take, List.length_drop, show s.data.toList.length = s.size from rfl] at hm
    rw [List.getElem_take, List.getElem_drop]
    exact h1 (a + m) (by omega) (by omega) (by omega)
  · intro c hc
    rw [List.getElem?_drop, show a + (k - a) = k from by omega] at hc
    have hlt : k < s.size := (List.getElem?_eq_some_iff.1 hc).1
    rw [at_byte hlt] at hc
    cases hc
    exact h2 hlt
theorem drop_head (p : UInt8 → Bool) {s : ByteArray} {a : Nat} (h : a < s.size) : headB p (s.data.toList.drop a) = p s[a] := by
  rw [drop_byte h]; rfl

set_option maxHeartbeats 1000000 in
theorem refEnd_digit (s : ByteArray) (hs : (s.size : Int) ≤ 4000) (a : Nat) (ha : a < s.size) (hd : Hid (dgt s[a] = true)) (d1 : (48 : Int) ≤ (s[a].toNat : Int)) (d2 : (s[a].toNat : Int) ≤ 57) (w : World) :
    Calls Tryd.prog 16 #[.string s, .int .i64 a] w fun e w' => e = .returned (.int .i64 ((a + pre dgt (s.data.toList.drop a) : Nat) : Int)) ∧ w = w' := by
  generalize hN : a + pre dgt (s.data.toList.drop a) = N
  have HN := Lib.hid hN
  clear hN
  go_enter Tryd.func16, Tryd.ntmps16
  go_wp2
  go_loop [6] (fun i => ∃ k : Nat, a < k ∧ k ≤ s.size ∧ i = .int .i64 k ∧ Hid (∀ m, a ≤ m → (h : m < s.size) → m < k → dgt s[m] = true)) (fun i => s.size - (intOf i).toNat)
  case atStart => exact ⟨a + 1, by omega, by omega, by go_num, Lib.hid (fun m h1 h h2 => (show m = a by omega) ▸ hd.out)⟩
  case round =>
    clear d1 d2
    obtain ⟨k, hak, hk, rfl, hall⟩ := hrel
    by_cases hlt : k < s.size
    · by_cases hd2 : dgt s[k] = true
      · obtain ⟨c1, c2⟩ := (dgt_iff _).1 hd2
        have Hd := Lib.hid hd2
        have e1 : (48 : Int) ≤ (s[k].toNat : Int) := by omega
        have e2 : (s[k].toNat : Int) ≤ 57 := by omega
        clear hd2 c1 c2
        go_wp2
        go_round
        case rel => exact ⟨k + 1, by omega, by omega, by go_num, Lib.hid (fun m h1 h h2 => by
          by_cases e : m = k
          · subst e; exact Hd.out
          · exact hall.out m h1 h (by omega))⟩
        case measure => simp [intOf]; omega
      · have hcase : s[k].toNat < 48 ∨ 57 < s[k].toNat := by
          have h := mt (dgt_iff s[k]).2 hd2
          omega
        have Hp := Lib.hid (pre_from (p := dgt) (by omega) hk hall.out (fun _ => by simpa using hd2))
        clear hd2
        rcases hcase with hcase | hcase
        · have e1 : (s[k].toNat : Int) < 48 := by omega
          clear hcase
          go_wp2
          go_ret
          exact ⟨ret_int (by have h1 := HN.out; have h2 := Hp.out; omega), rfl⟩
        · have e1 : 57 < (s[k].toNat : Int) := by omega
          clear hcase
          go_wp2
          go_ret
          exact ⟨ret_int (by have h1 := HN.out; have h2 := Hp.out; omega), rfl⟩
    · have Hp := Lib.hid (pre_from (p := dgt) (by omega) hk hall.out (fun h => absurd h hlt))
      have e1 : (s.size : Int) ≤ (k : Int) := by omega
      go_wp2
      go_ret
      exact ⟨ret_int (by have h1 := HN.out; have h2 := Hp.out; omega), rfl⟩

set_option maxHeartbeats 1000000 in
theorem refEnd_letter (s : ByteArray) (hs : (s.size : Int) ≤ 4000) (a : Nat) (ha : a < s.size) (hd : Hid (nameB s[a] = true)) (d1 : (57 : Int) < (s[a].toNat : Int)) (d2 : ((s[a].toNat : Int) != 95) = true)
    (CP : Hid (∀ (c : UInt8) (w : World), Calls Tryd.prog 24 #[.int .u8 (c.toNat : Int)] w fun e w' => e = .returned (.bool (nameB c)) ∧ w = w')) (w : World) :
    Calls Tryd.prog 16 #[.string s, .int .i64 a] w fun e w' => e = .returned (.int .i64 ((a + pre nameB (s.data.toList.drop a) : Nat) : Int)) ∧ w = w' := by
  generalize hN : a + pre nameB (s.data.toList.drop a) = N
  have HN := Lib.hid hN
  have C0 := CP.out s[a]
  rw [hd.out] at C0
  have C1 := Lib.hid C0
  clear hN C0
  go_enter Tryd.func16, Tryd.ntmps16
  go_wp2_with fail
  refine (C1.out _).mono ?_; rintro e w1 ⟨rfl, rfl⟩
  go_wp2_with fail
  go_loop [6] (fun i => ∃ k : Nat, a < k ∧ k ≤ s.size ∧ i = .int .i64 k ∧ Hid (∀ m, a ≤ m → (h : m < s.size) → m < k → nameB s[m] = true)) (fun i => s.size - (intOf i).toNat)
  case atStart => exact ⟨a + 1, by omega, by omega, by go_num, Lib.hid (fun m h1 h h2 => (show m = a by omega) ▸ hd.out)⟩
  case round =>
    clear d1 d2
    obtain ⟨k, hak, hk, rfl, hall⟩ := hrel
    by_cases hlt : k < s.size
    · have A0 := CP.out s[k]
      cases hd2 : nameB s[k]
      · rw [hd2] at A0
        have Hp := Lib.hid (pre_from (p := nameB) (by omega) hk hall.out (fun _ => hd2))
        have A1 := Lib.hid A0
        clear A0 hd2
        go_wp2_with fail
        refine (A1.out _).mono ?_; rintro e w2 ⟨rfl, rfl⟩
        go_wp2
        go_ret
        exact ⟨ret_int (by have h1 := HN.out; have h2 := Hp.out; omega), rfl⟩
      · rw [hd2] at A0
        have Hd := Lib.hid hd2
        have A1 := Lib.hid A0
        clear A0 hd2
        go_wp2_with fail
        refine (A1.out _).mono ?_; rintro e w2 ⟨rfl, rfl⟩
        go_wp2
        go_round
        case rel => exact ⟨k + 1, by omega, by omega, by go_num, Lib.hid (fun m h1 h h2 => by
          by_cases e : m = k
          · subst e; exact Hd.out
          · exact hall.out m h1 h (by omega))⟩
        case measure => simp [intOf]; omega
    · have Hp := Lib.hid (pre_from (p := nameB) (by omega) hk hall.out (fun h => absurd h hlt))
      have e1 : (s.size : Int) ≤ (k : Int) := by omega
      go_wp2
      go_ret
      exact ⟨ret_int (by have h1 := HN.out; have h2 := Hp.out; omega), rfl⟩

set_option maxHeartbeats 1000000 in
theorem refEnd_last (s : ByteArray) (hs : (s.size : Int) ≤ 4000) (a : Nat) (ha : a < s.size) (hl : ¬ a + 1 < s.size) (b : Bool) (hb : b = true → ((s[a].toNat : Int) != 95) = false) (d1 : (s[a].toNat : Int) < 48 ∨ (57 : Int) < (s[a].toNat : Int))
    (CP : Hid (∀ (w : World), Calls Tryd.prog 24 #[.int .u8 (s[a].toNat : Int)] w fun e w' => e = .returned (.bool b) ∧ w = w')) (w : World) :
    Calls Tryd.prog 16 #[.string s, .int .i64 a] w fun e w' => e = .returned (.int .i64 ((a + 1 : Nat) : Int)) ∧ Below w.heap.size w w' := by
  have e1 : (s.size : Int) ≤ (a : Int) + 1 := by omega
  clear hl
  rcases d1 with d1 | d1
  · cases b
    · go_enter Tryd.func16, Tryd.ntmps16
      go_wp2_with fail
      refine (CP.out _).mono ?_; rintro e w1 ⟨rfl, rfl⟩
      go_wp2
      go_ret
      exact ⟨rfl, Below.refl _ _⟩
    · have hb' := hb rfl
      clear hb
      go_enter Tryd.func16, Tryd.ntmps16
      go_wp2_with fail
      refine (CP.out _).mono ?_; rintro e w1 ⟨rfl, rfl⟩
      go_wp2
      go_ret
      exact ⟨rfl, Below.refl _ _⟩
  · cases b
    · go_enter Tryd.func16, Tryd.ntmps16
      go_wp2_with fail
      refine (CP.out _).mono ?_; rintro e w1 ⟨rfl, rfl⟩
      go_wp2
      go_ret
      exact ⟨rfl, Below.refl _ _⟩
    · have hb' := hb rfl
      clear hb
      go_enter Tryd.func16, Tryd.ntmps16
      go_wp2_with fail
      refine (CP.out _).mono ?_; rintro e w1 ⟨rfl, rfl⟩
      go_wp2
      go_ret
      exact ⟨rfl, Below.refl _ _⟩

theorem cut_run (s : ByteArray) (i j : Nat) (h1 : i ≤ j) (h2 : j ≤ s.size) (w : World) :
    (Instr.slice 9 (.string s) (some (.int .i64 (i : Int))) (some (.int .i64 (j : Int))) none).run Tryd.prog w = .ok (.string (s.extract i j)) w := by
  have := run_slice_string (P := Tryd.prog) w 9 s .i64 .i64 (i : Int) (j : Int) Tryd.underlying9 (by omega) (by omega) (by omega)
  simpa using this

set_option maxHeartbeats 1000000 in
theorem refEnd_more (s : ByteArray) (hs : (s.size : Int) ≤ 4000) (a : Nat) (ha : a < s.size) (hl : a + 1 < s.size) (b : Bool) (hb : b = true → ((s[a].toNat : Int) != 95) = false) (d1 : (s[a].toNat : Int) < 48 ∨ (57 : Int) < (s[a].toNat : Int))
    (CP : Hid (∀ (w : World), Calls Tryd.prog 24 #[.int .u8 (s[a].toNat : Int)] w fun e w' => e = .returned (.bool b) ∧ w = w'))
    (n : Nat) (CK : Hid (∀ (w : World), Calls Tryd.prog 17 #[.string (s.extract a (a + 2))] w fun e w' => e = .returned (.int .u8 n) ∧ Below w.heap.size w w')) (w : World) :
    Calls Tryd.prog 16 #[.string s, .int .i64 a] w fun e w' => e = .returned (.int .i64 (((if n = 5 then a + 2 else a + 1) : Nat) : Int)) ∧ Below w.heap.size w w' := by
  have e1 : (a : Int) + 1 < (s.size : Int) := by omega
  have hsl : ∀ w : World, (Instr.slice 9 (.string s) (some (.int .i64 (a : Int))) (some (.int .i64 ((a : Int) + 1 + 1))) none).run Tryd.prog w = .ok (.string (s.extract a (a + 2))) w := fun w =>
    cut_run s a (a + 2) (by omega) (by omega) w
  by_cases hn : n = 5
  · subst hn
    rw [if_pos rfl]
    rcases d1 with d1 | d1 <;> cases b
    · clear hb
      go_enter Tryd.func16, Tryd.ntmps16
      go_wp2_with fail
      refine (CP.out _).mono ?_; rintro e w1 ⟨rfl, rfl⟩
      go_wp2_with fail
      refine (CK.out _).mono ?_; rintro e w2 ⟨rfl, b2⟩
      go_wp2
      go_ret
      exact ⟨ret_int (by omega), b2⟩
    · have hb' := hb rfl
      clear hb
      go_enter Tryd.func16, Tryd.ntmps16
      go_wp2_with fail
      refine (CP.out _).mono ?_; rintro e w1 ⟨rfl, rfl⟩
      go_wp2_with fail
      refine (CK.out _).mono ?_; rintro e w2 ⟨rfl, b2⟩
      go_wp2
      go_ret
      exact ⟨ret_int (by omega), b2⟩
    · clear hb
      go_enter Tryd.func16, Tryd.ntmps16
      go_wp2_with fail
      refine (CP.out _).mono ?_; rintro e w1 ⟨rfl, rfl⟩
      go_wp2_with fail
      refine (CK.out _).mono ?_; rintro e w2 ⟨rfl, b2⟩
      go_wp2
      go_ret
      exact ⟨ret_int (by omega), b2⟩
    · have hb' := hb rfl
      clear hb
      go_enter Tryd.func16, Tryd.ntmps16
      go_wp2_with fail
      refine (CP.out _).mono ?_; rintro e w1 ⟨rfl, rfl⟩
      go_wp2_with fail
      refine (CK.out _).mono ?_; rintro e w2 ⟨rfl, b2⟩
      go_wp2
      go_ret
      exact ⟨ret_int (by omega), b2⟩
  · rw [if_neg hn]
    have hn1 : ((n : Int) == 5) = false := by rw [beq_eq_false_iff_ne]; omega
    have hn2 : ¬ (n : Int) = 5 := by omega
    rcases d1 with d1 | d1 <;> cases b
    · clear hb
      go_enter Tryd.func16, Tryd.ntmps16
      go_wp2_with fail
      refine (CP.out _).mono ?_; rintro e w1 ⟨rfl, rfl⟩
      go_wp2_with fail
      refine (CK.out _).mono ?_; rintro e w2 ⟨rfl, b2⟩
      go_wp2
      go_ret
      exact ⟨rfl, b2⟩
    · have hb' := hb rfl
      clear hb
      go_enter Tryd.func16, Tryd.ntmps16
      go_wp2_with fail
      refine (CP.out _).mono ?_; rintro e w1 ⟨rfl, rfl⟩
      go_wp2_with fail
      refine (CK.out _).mono ?_; rintro e w2 ⟨rfl, b2⟩
      go_wp2
      go_ret
      exact ⟨rfl, b2⟩
    · clear hb
      go_enter Tryd.func16, Tryd.ntmps16
      go_wp2_with fail
      refine (CP.out _).mono ?_; rintro e w1 ⟨rfl, rfl⟩
      go_wp2_with fail
      refine (CK.out _).mono ?_; rintro e w2 ⟨rfl, b2⟩
      go_wp2
      go_ret
      exact ⟨rfl, b2⟩
    · have hb' := hb rfl
      clear hb
      go_enter Tryd.func16, Tryd.ntmps16
      go_wp2_with fail
      refine (CP.out _).mono ?_; rintro e w1 ⟨rfl, rfl⟩
      go_wp2_with fail
      refine (CK.out _).mono ?_; rintro e w2 ⟨rfl, b2⟩
      go_wp2
      go_ret
      exact ⟨rfl, b2⟩

theorem ext_two (s : ByteArray) (a : Nat) : (s.extract a (a + 2)).data.toList = (s.data.toList.drop a).take 2 := by
  simp only [ByteArray.data_extract, Array.toList_extract, List.extract_eq_take_drop]
  rw [show a + 2 - a = 2 from by omega]
theorem sign_kind {c d : UInt8} (h1 : smallB c = false) (h2 : greatB c = false) (h3 : dgt c = false) : kindL [c, d] = if signL [c, d] = true then 5 else 0 := by
  have hw : wordsL.contains [c, d] = false := by
    rw [← Bool.not_eq_true]
    intro h
    have := List.all_eq_true.1 words_letters _ (List.contains_iff_mem.1 h)
    rw [Bool.and_eq_true, Bool.or_eq_true] at this
    rcases this.1 with h | h
    · exact absurd (h.symm.trans h1) (by simp)
    · exact absurd (h.symm.trans h2) (by simp)
  exact kind_else (by simp) hw (by rw [show headB smallB [c, d] = smallB c from rfl, h1]; rfl) (by rw [show headB greatB [c, d] = greatB c from rfl, h2]; rfl) (by rw [show headB dgt [c, d] = dgt c from rfl, h3]; rfl)

theorem refEnd_calls (s : ByteArray) (hs : s.size ≤ 4000) (a : Nat) (ha : a < s.size) (w : World) :
    Calls Tryd.prog 16 #[.string s, .int .i64 a] w fun e w' => e = .returned (.int .i64 ((a + togL (s.data.toList.drop a) : Nat) : Int)) ∧ Below w.heap.size w w' := by
  have hz : (s.size : Int) ≤ 4000 := by omega
  have g1 := drop_head smallB ha
  have g2 := drop_head greatB ha
  have g3 := drop_head dgt ha
  have CP := fun w => refPart_calls s[a] w
  by_cases h3 : dgt s[a] = true
  · have := (dgt_iff _).1 h3
    obtain ⟨q1, q2⟩ := small_great _ (g3.trans h3)
    rw [togL_digit q1 q2 (g3.trans h3)]
    refine (refEnd_digit s hz a ha (Lib.hid h3) (by omega) (by omega) w).mono ?_
    rintro e w' ⟨rfl, rfl⟩
    exact ⟨rfl, Below.refl _ _⟩
  · have h3' : dgt s[a] = false := by simpa using h3
    have hd : (s[a].toNat : Int) < 48 ∨ (57 : Int) < (s[a].toNat : Int) := by
      have := mt (dgt_iff s[a]).2 h3
      omega
    by_cases hl : smallB s[a] = true ∨ greatB s[a] = true
    · rw [togL_letter (hl.imp (g1.trans ·) (g2.trans ·))]
      have hn : nameB s[a] = true := hl.elim small_name great_name
      have hr : 57 < s[a].toNat ∧ s[a].toNat ≠ 95 := by
        rcases hl with h | h
        · have := (smallB_iff _).1 h; omega
        · have := (greatB_iff _).1 h; omega
      refine (refEnd_letter s hz a ha (Lib.hid hn) (by omega) (by simp; omega) (Lib.hid refPart_calls) w).mono ?_
      rintro e w' ⟨rfl, rfl⟩
      exact ⟨rfl, Below.refl _ _⟩
    · have h1 : smallB s[a] = false := by rw [← Bool.not_eq_true]; exact fun h => hl (.inl h)
      have h2 : greatB s[a] = false := by rw [← Bool.not_eq_true]; exact fun h => hl (.inr h)
      have hb : nameB s[a] = true → ((s[a].toNat : Int) != 95) = false := by
        intro h
        unfold nameB at h
        rw [h1, h2, h3'] at h
        simp at h
        simp [h]
      by_cases hm : a + 1 < s.size
      · have CK := fun w => refKind_calls (s.extract a (a + 2)) (by unfold maxLen; simp; omega) w
        rw [ext_two] at CK
        have h := refEnd_more s hz a ha hm _ hb hd (Lib.hid CP) _ (Lib.hid CK) w
        have hc : s.data.toList.drop a = s[a] :: s[a + 1] :: s.data.toList.drop (a + 1 + 1) := by rw [drop_byte ha, drop_byte hm]
        have e2 : (s.data.toList.drop a).take 2 = [s[a], s[a + 1]] := by rw [hc]; rfl
        rw [e2, sign_kind h1 h2 h3'] at h
        cases hsg : signL [s[a], s[a + 1]]
        · rw [hsg] at h
          rw [togL_one (g1.trans h1) (g2.trans h2) (g3.trans h3') (.inr (by rw [e2]; exact hsg))]
          exact h
        · rw [hsg] at h
          rw [togL_two (g1.trans h1) (g2.trans h2) (g3.trans h3') (by rw [List.length_drop]; show 1 < s.size - a; omega) (by rw [e2]; exact hsg)]
          exact h
      · rw [togL_one (g1.trans h1) (g2.trans h2) (g3.trans h3') (.inl (by rw [List.length_drop]; show ¬ 1 < s.size - a; omega))]
        exact refEnd_last s hz a ha hm _ hb hd (Lib.hid CP) w
end Go.Proofs.YtbdefkhmomogdaaDoor
