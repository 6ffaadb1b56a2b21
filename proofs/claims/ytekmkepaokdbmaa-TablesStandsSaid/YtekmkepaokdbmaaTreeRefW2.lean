/- The document's own way of saying what is whole, second part: lent ones, places, fields' names, types. -/
import Derived.Test.YtekmkepaokdbmaaTreeRefW1
namespace Go.Proofs.Ytekmkepaokdbmaa
open Go.RowKit
set_option linter.unusedVariables false

theorem stepB_is (s : ByteArray) : stepB s = (decide (s.toList = [42]) || nmB s) := by unfold stepB; rw [ByteArray.toList_eq]
/-! ### types -/
def RefWTAt (n : Nat) : Prop := ∀ (B : Nat) (t : PT) (v : Value) (w : World), B ≤ w.heap.size → t.In B w v →
  Calls Try.prog 15 #[.agg #[.int .u8 t.kind, .string t.name, v], .int .i64 n] w fun e w' => e = .returned (.bool (rT n t)) ∧ Below w.heap.size w w'
set_option maxHeartbeats 1000000 in
theorem refWT_zero : RefWTAt 0 := by
  intro B t v w hB ht
  obtain ⟨ao, n, cap, rfl⟩ := ht.shape
  rw [rT]
  show Calls Try.prog 15 #[.agg #[.int .u8 t.kind, .string t.name, .slice ao n cap], .int .i64 0] w _
  go_enter Try.func15, Try.ntmps15
  go_wp2_with fail
  go_ret
  exact ⟨rfl, box1 _ _⟩
set_option maxHeartbeats 4000000 in
theorem refWT_succ (m : Nat) (hm : m ≤ 1000) (ih : RefWTAt m) : RefWTAt (m + 1) := by
  intro B t v w hB ht
  obtain ⟨kd, nm, l⟩ := t
  obtain ⟨⟨hu, hs⟩, b1, o1, ⟨m1, ao, cap, rfl, h1⟩, r1⟩ := ht
  have hk := u8_lt hu
  have T : Hid (∀ w, Calls Try.prog 35 #[.string nm] w fun e w' => e = .returned (.bool (tyB nm)) ∧ Below w.heap.size w w') := Lib.hid fun w => refType_calls nm hs w
  unfold maxLen at m1
  have ec : ((m + 1 : Nat) : Int) = (m : Int) + 1 := by omega
  have hr : rT (m + 1) (.mk kd nm l) = (if kd < 1 ∨ 14 < kd then false else if kd = 1 ∨ kd = 2 ∨ kd = 3 ∨ kd = 10 then nm.toList.isEmpty && decide (l.length = 0)
      else if kd = 4 then tyB nm && decide (l.length = 0) else nm.toList.isEmpty && (decide (l.length = 1) && l.all (fun u => rT m u))) := by
    rw [rT, ← noB_toList]; rfl
  rw [ec, hr]
  clear ec hr
  have hm1 : ¬ ((m : Int) + 1 < 1) := by omega
  show Calls Try.prog 15 #[.agg #[.int .u8 kd, .string nm, .slice ao l.length cap], .int .i64 ((m : Int) + 1)] w _
  by_cases h0 : kd < 1 ∨ 14 < kd
  · rw [if_pos h0]
    rcases h0 with h0 | h0
    · clear T hu hs r1 h1
      go_enter Try.func15, Try.ntmps15
      go_wp2_with fail
      go_ret
      exact ⟨rfl, box1 _ _⟩
    · have h0' : ¬ kd < 1 := by omega
      clear T hu hs r1 h1
      go_enter Try.func15, Try.ntmps15
      go_wp2_with fail
      go_ret
      exact ⟨rfl, box1 _ _⟩
  · rw [if_neg h0]
    have k1 : ¬ kd < 1 := by omega
    have k2 : ¬ 14 < kd := by omega
    by_cases ha : kd = 1 ∨ kd = 2 ∨ kd = 3 ∨ kd = 10
    · rw [if_pos ha]
      clear T hu hs r1 h1 h0 hk k1 k2
      cases l with
      | nil =>
        rcases ha with rfl | rfl | rfl | rfl
        all_goals
          (go_enter Try.func15, Try.ntmps15
           go_wp2_with fail
           all_goals (go_ret; exact ⟨ret_bool (by simp [*]), box1 _ _⟩))
      | cons a l =>
        obtain ⟨n, hn⟩ : ∃ n, n = (a :: l).length := ⟨_, rfl⟩
        have hn0 : n ≠ 0 := by rw [hn]; simp
        rw [← hn] at m1 ⊢
        have e1 : ((n : Int) == 0) = false := is_no' (by omega)
        clear hn
        rcases ha with rfl | rfl | rfl | rfl
        all_goals
          (go_enter Try.func15, Try.ntmps15
           go_wp2_with fail
           all_goals (go_ret; exact ⟨ret_bool (by simp), box1 _ _⟩))
    · rw [if_neg ha]
      by_cases h4 : kd = 4
      · rw [if_pos h4]
        subst h4
        generalize tyB nm = q at *
        obtain ⟨n, hn⟩ : ∃ n, n = l.length := ⟨_, rfl⟩
        rw [← hn] at m1 ⊢
        clear hu hs r1 h1 h0 hk k1 k2 ha hn
        by_cases hl : n = 0
        · subst hl
          go_enter Try.func15, Try.ntmps15
          go_wp2_with fail
          refine (T.out _).mono ?_; rintro e w1 ⟨rfl, b1'⟩
          have hc1 := old_cells b1'
          have bel1 := Lib.hid (up_tr (box1 _ _) b1')
          clear b1'
          cases q
          all_goals (go_wp2_with fail; go_ret; exact ⟨ret_bool (by simp), bel1.out⟩)
        · have e1 : ((n : Int) == 0) = false := is_no' (by omega)
          go_enter Try.func15, Try.ntmps15
          go_wp2_with fail
          refine (T.out _).mono ?_; rintro e w1 ⟨rfl, b1'⟩
          have hc1 := old_cells b1'
          have bel1 := Lib.hid (up_tr (box1 _ _) b1')
          clear b1'
          cases q
          all_goals (go_wp2_with fail; go_ret; exact ⟨ret_bool (by simp [hl]), bel1.out⟩)
      · rw [if_neg h4]
        have e1 : (kd == 1) = false := is_no' (by omega)
        have e2 : (kd == 2) = false := is_no' (by omega)
        have e3 : (kd == 3) = false := is_no' (by omega)
        have e4 : (kd == 10) = false := is_no' (by omega)
        have e5 : (kd == 4) = false := is_no' (by omega)
        clear T hu hs h0 hk ha h4
        by_cases hl : l.length = 1
        · obtain ⟨a, rfl⟩ : ∃ a, l = [a] := by
            cases l with
            | nil => simp at hl
            | cons a l => cases l with
              | nil => exact ⟨a, rfl⟩
              | cons b l => simp at hl
          obtain ⟨rfl, hb1⟩ := h1.resolve_left (by simp)
          obtain ⟨va, ca, ia⟩ := PT.Row.get (k := 0) r1 rfl
          rw [Nat.zero_mul, Nat.add_zero] at ca
          obtain ⟨aa, na, qa, rfl⟩ := ia.shape
          have c0 : w.cell? ⟨b1, o1, none⟩ = some (.int .u8 a.kind) := ca 0 _ rfl
          have c1 : w.cell? ⟨b1, o1 + 1, none⟩ = some (.string a.name) := ca 1 _ rfl
          have c2 : w.cell? ⟨b1, o1 + 2, none⟩ = some (.slice aa na qa) := ca 2 _ rfl
          have g1 : b1 < w.heap.size := by omega
          have R : Hid (∀ w', Below w.heap.size w w' → Calls Try.prog 15 #[.agg #[.int .u8 a.kind, .string a.name, .slice aa na qa], .int .i64 m] w' fun e w'' => e = .returned (.bool (rT m a)) ∧ Below w'.heap.size w' w'') :=
            Lib.hid fun w' hw => ih B a _ w' (by have := hw.size; omega) (PT.In.below (hw.mono hB) ia)
          have hall : ([a] : List PT).all (fun u => rT m u) = rT m a := by simp
          rw [hall]
          generalize rT m a = q at *
          have em : (m : Int) + 1 - 1 = (m : Int) := by omega
          clear ca ia r1 h1 hall hl
          go_enter Try.func15, Try.ntmps15
          go_wp2_with fail
          · refine (R.out _ (box1 _ _)).mono ?_; rintro e w1 ⟨rfl, b1'⟩
            have bel1 := Lib.hid (up_tr (box1 _ _) b1')
            clear b1'
            go_wp2_with fail
            go_ret
            exact ⟨ret_bool (by simp [*]), bel1.out⟩
          all_goals (go_ret; exact ⟨ret_bool (by simp [*]), box1 _ _⟩)
        · obtain ⟨n, hn⟩ : ∃ n, n = l.length := ⟨_, rfl⟩
          rw [← hn] at m1 hl ⊢
          have e6 : ((n : Int) == 1) = false := is_no' (by omega)
          clear r1 h1 hn
          go_enter Try.func15, Try.ntmps15
          go_wp2_with fail
          all_goals (go_ret; exact ⟨ret_bool (by simp), box1 _ _⟩)
theorem refWT_calls : ∀ n, n ≤ 1000 → RefWTAt n
  | 0, _ => refWT_zero
  | n + 1, h => refWT_succ n (by omega) (refWT_calls n (by omega))
end Go.Proofs.Ytekmkepaokdbmaa
