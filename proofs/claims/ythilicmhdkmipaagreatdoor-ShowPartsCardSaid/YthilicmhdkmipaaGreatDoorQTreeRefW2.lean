/- The document's own way of saying what is whole, second part: lent ones, places, fields' names, types. -/
import Derived.Test.YthilicmhdkmipaaGreatDoorQJoinAG
namespace Go.Proofs.YthilicmhdkmipaaGreatDoor
open Go.RowKit
set_option linter.unusedVariables false

set_option maxHeartbeats 1000000 in
theorem refLent_calls (op iv : Int) (nm sc : ByteArray) (pl : PP) (es : List PE) (ps : Int) (p0 : Option Addr) (n0 q0 : Nat) (p1 : Option Addr) (n1 q1 : Nat) (w : World) :
    Calls Tryz.prog 20 #[.agg #[.int .u8 op, .int .i64 iv, .string nm, .string sc, .string pl.name, .slice p0 n0 q0, .slice p1 n1 q1, .int .i64 ps]] w fun e w' => e = .returned (.bool (lentB (.mk op iv nm sc pl es ps))) ∧ Below w.heap.size w w' := by
  have hl : lentB (.mk op iv nm sc pl es ps) = (decide (op = 5) || decide (op = 6)) := rfl
  rw [hl]
  by_cases h5 : op = 5
  · subst h5
    go_enter Tryz.func20, Tryz.ntmps20
    go_wp2_with fail
    go_ret
    exact ⟨rfl, box1 _ _⟩
  · by_cases h6 : op = 6
    · subst h6
      go_enter Tryz.func20, Tryz.ntmps20
      go_wp2_with fail
      go_ret
      exact ⟨rfl, box1 _ _⟩
    · have e5 := is_no' h5
      have e6 := is_no' h6
      rw [decide_eq_false h5, decide_eq_false h6]
      clear h5 h6 hl
      go_enter Tryz.func20, Tryz.ntmps20
      go_wp2_with fail
      go_ret
      exact ⟨rfl, box1 _ _⟩
theorem stepB_is (s : ByteArray) : stepB s = (decide (s.toList = [42]) || nmB s) := by unfold stepB; rw [ByteArray.toList_eq]
set_option maxHeartbeats 2000000 in
theorem refPlace_calls (B : Nat) (x : PP) (v : Value) (w : World) (hB : B ≤ w.heap.size) (hx : x.In B w v) :
    Calls Tryz.prog 23 #[.agg #[.string x.name, v]] w fun e w' => e = .returned (.bool (plB x)) ∧ Below w.heap.size w w' := by
  obtain ⟨nm, l⟩ := x
  obtain ⟨hs, b1, o1, ⟨m1, ao, cap, rfl, h1⟩, r1⟩ := hx
  have N : Hid (∀ (s : ByteArray), s.size ≤ maxLen → ∀ w, Calls Tryz.prog 57 #[.string s] w fun e w' => e = .returned (.bool (nmB s)) ∧ Below w.heap.size w w') := Lib.hid fun s h w => refName_calls s h w
  have N0 := Lib.hid (N.out nm hs)
  have hres : plB ⟨nm, l⟩ = (nmB nm && (decide (l.length ≤ 40) && l.all stepB)) := rfl
  rw [hres]
  unfold maxLen at m1
  obtain ⟨n, hn⟩ : ∃ n, n = l.length := ⟨_, rfl⟩
  simp only at m1 h1 ⊢
  rw [← hn] at m1 h1 ⊢
  have Hn := Lib.hid hn
  have H1 := Lib.hid h1
  have Hr := Lib.hid r1
  clear hres hn h1 r1 hs
  generalize nmB nm = q0 at *
  go_enter Tryz.func23, Tryz.ntmps23
  go_wp2_with fail
  refine (N0.out _).mono ?_; rintro e w1 ⟨rfl, b1'⟩
  have c1 : w1.cell? ⟨w.heap.size, 1, none⟩ = some (.slice ao n cap) := (b1'.cell (p := ⟨w.heap.size, 1, none⟩) (by simp)).trans (by go_simp)
  have bel1 := Lib.hid (up_tr (box1 _ _) b1')
  have hz1 : w.heap.size < w1.heap.size := by have := b1'.size; simp at this; omega
  clear b1' N0
  cases q0
  · go_wp2_with fail
    go_ret
    exact ⟨rfl, bel1.out⟩
  · by_cases hle : n ≤ 40
    · have e1 : (n : Int) ≤ 40 := by omega
      go_wp2_with fail
      go_loopw [3] (fun i wr => ∃ k : Nat, k ≤ n ∧ i = .int .i64 k ∧ w.heap.size < wr.heap.size ∧ wr.cell? ⟨w.heap.size, 1, none⟩ = some (.slice ao n cap) ∧ Hid (Below w.heap.size w wr) ∧ Hid (∀ (j : Nat) x, j < k → l[j]? = some x → stepB x = true))
        (fun i _ => n - (intOf i).toNat)
      case atStart => exact ⟨0, by omega, rfl, hz1, c1, bel1, Lib.hid fun j x hj => by omega⟩
      case round =>
        obtain ⟨k, hk, rfl, hz, hc, hbel, HK⟩ := hrel
        by_cases hlt : k < n
        · obtain ⟨a, ha, hin⟩ := get_at (l := l) (k := k) (by rw [← Hn.out]; exact hlt)
          obtain ⟨rfl, hb1⟩ := H1.out.resolve_left (by omega)
          obtain ⟨hsa, ca⟩ := NRow.get (NRow.below hb1 (hbel.out.mono hB) Hr.out) ha
          have c0 : wr.cell? ⟨b1, o1 + k * 1, none⟩ = some (.string a) := ca 0 _ rfl
          rw [Nat.mul_one] at c0
          have g1 : b1 < wr.heap.size := by omega
          have C := Lib.hid (N.out a hsa wr)
          have Ha := Lib.hid ha
          have hst := stepB_is a
          by_cases h42 : a.toList = [42]
          · have Hs := Lib.hid (show stepB a = true by rw [hst, decide_eq_true h42]; rfl)
            have HK2 : Hid (∀ (j : Nat) x, j < k + 1 → l[j]? = some x → stepB x = true) := Lib.hid fun j x hj hx => by
              by_cases e : j = k
              · subst e
                rw [Ha.out] at hx
                cases hx
                exact Hs.out
              · exact HK.out j x (by omega) hx
            clear hst ha ca hin hsa C
            go_wp2_with fail
            go_roundw
            case rel => exact ⟨k + 1, by omega, by go_num, hz, hc, hbel, HK2⟩
            case measure => simp [intOf]; omega
          · rw [decide_eq_false h42, Bool.false_or] at hst
            have Hs := Lib.hid hst
            clear hst ha ca hin hsa
            generalize nmB a = q at *
            have e42 : (a.toList == [42]) = false := beq_eq_false_iff_ne.2 h42
            clear h42
            go_wp2_with fail
            refine C.out.mono ?_; rintro e w2 ⟨rfl, b2⟩
            have hc2 := (b2.cell (p := ⟨w.heap.size, 1, none⟩) hz).trans hc
            have hz2 : w.heap.size < w2.heap.size := by have := b2.size; omega
            have bel2 := Lib.hid (hbel.out.trans (b2.mono (by omega)))
            clear b2 hc c0 C
            cases q
            · have hres := Lib.hid (all_not2 (p := stepB) Ha.out Hs.out)
              go_wp2_with fail
              go_ret
              exact ⟨ret_bool (by rw [hres.out]; simp), bel2.out⟩
            · have HK2 : Hid (∀ (j : Nat) x, j < k + 1 → l[j]? = some x → stepB x = true) := Lib.hid fun j x hj hx => by
                by_cases e : j = k
                · subst e
                  rw [Ha.out] at hx
                  cases hx
                  exact Hs.out
                · exact HK.out j x (by omega) hx
              go_wp2_with fail
              go_roundw
              case rel => exact ⟨k + 1, by omega, by go_num, hz2, hc2, bel2, HK2⟩
              case measure => simp [intOf]; omega
        · obtain rfl : k = n := by omega
          have hres := Lib.hid (all_yes2 (p := stepB) (l := l) fun j x hx => HK.out j x (by rw [Hn.out]; exact (List.getElem?_eq_some_iff.1 hx).1) hx)
          go_wp2_with fail
          go_ret
          exact ⟨ret_bool (by rw [hres.out]; simp [hle]), hbel.out⟩
    · have e1 : 40 < (n : Int) := by omega
      go_wp2_with fail
      go_ret
      exact ⟨ret_bool (by simp [hle]), bel1.out⟩

set_option maxHeartbeats 2000000 in
theorem refFields_calls (B : Nat) (op iv : Int) (nm sc : ByteArray) (pl : PP) (es : List PE) (ps : Int) (p0 : Option Addr) (n0 q0 : Nat) (p1 : Option Addr) (n1 q1 : Nat) (w : World) (hB : B ≤ w.heap.size)
    (he : PE.In B w (.mk op iv nm sc pl es ps) ⟨.slice p0 n0 q0, .slice p1 n1 q1⟩) :
    Calls Tryz.prog 56 #[.agg #[.int .u8 op, .int .i64 iv, .string nm, .string sc, .string pl.name, .slice p0 n0 q0, .slice p1 n1 q1, .int .i64 ps]] w fun e w' => e = .returned (.bool (rFields (.mk op iv nm sc pl es ps))) ∧ Below w.heap.size w w' := by
  obtain ⟨_, ⟨hs, b1, o1, ⟨m1, ao, cap, hv, h1⟩, r1⟩, b, o, s1, _⟩ := he
  injection hv with e1 e2 e3
  subst e1 e2 e3
  have hlen : n1 = es.length := by
    obtain ⟨_, ao, cap, h, _⟩ := s1
    injection h
  have N : Hid (∀ (s : ByteArray), s.size ≤ maxLen → ∀ w, Calls Tryz.prog 57 #[.string s] w fun e w' => e = .returned (.bool (nmB s)) ∧ Below w.heap.size w w') := Lib.hid fun s h w => refName_calls s h w
  have hres : rFields (.mk op iv nm sc pl es ps) = (pl.name.toList.isEmpty && (decide (pl.path.length = n1) && pl.path.all nmB)) := by rw [hlen, ← noB_toList]; rfl
  rw [hres]
  clear hlen hres s1
  obtain ⟨pn, l⟩ := pl
  unfold maxLen at m1
  simp only at m1 h1 r1 ⊢
  obtain ⟨n, hn⟩ : ∃ n, n = l.length := ⟨_, rfl⟩
  rw [← hn] at m1 h1 ⊢
  have Hn := Lib.hid hn
  have H1 := Lib.hid h1
  have Hr := Lib.hid r1
  clear hn h1 r1 hs
  by_cases hp : pn.toList = []
  · have ep : pn.toList.isEmpty = true := by rw [hp]; rfl
    have ep2 : (pn.toList == []) = true := by rw [hp]; rfl
    clear hp
    by_cases hl : n = n1
    · subst hl
      go_enter Tryz.func56, Tryz.ntmps56
      go_wp2_with fail
      go_loopw [3] (fun i wr => ∃ k : Nat, k ≤ n ∧ i = .int .i64 k ∧ w.heap.size < wr.heap.size ∧ wr.cell? ⟨w.heap.size, 5, none⟩ = some (.slice p0 n q0) ∧ Hid (Below w.heap.size w wr) ∧ Hid (∀ (j : Nat) x, j < k → l[j]? = some x → nmB x = true))
        (fun i _ => n - (intOf i).toNat)
      case atStart => exact ⟨0, by omega, rfl, by simp, by go_simp, Lib.hid (box1 _ _), Lib.hid fun j x hj => by omega⟩
      case round =>
        obtain ⟨k, hk, rfl, hz, hc, hbel, HK⟩ := hrel
        by_cases hlt : k < n
        · obtain ⟨a, ha, hin⟩ := get_at (l := l) (k := k) (by rw [← Hn.out]; exact hlt)
          obtain ⟨rfl, hb1⟩ := H1.out.resolve_left (by omega)
          obtain ⟨hsa, ca⟩ := NRow.get (NRow.below hb1 (hbel.out.mono hB) Hr.out) ha
          have c0 : wr.cell? ⟨b1, o1 + k * 1, none⟩ = some (.string a) := ca 0 _ rfl
          rw [Nat.mul_one] at c0
          have g1 : b1 < wr.heap.size := by omega
          have C := Lib.hid (N.out a hsa wr)
          have Ha := Lib.hid ha
          generalize hq : nmB a = q at *
          have Hs := Lib.hid hq
          clear ha ca hin hsa hq
          go_wp2_with fail
          refine C.out.mono ?_; rintro e w2 ⟨rfl, b2⟩
          have hc2 := (b2.cell (p := ⟨w.heap.size, 5, none⟩) hz).trans hc
          have hz2 : w.heap.size < w2.heap.size := by have := b2.size; omega
          have bel2 := Lib.hid (hbel.out.trans (b2.mono (by omega)))
          clear b2 hc c0 C
          cases q
          · have hres := Lib.hid (all_not2 (p := nmB) Ha.out Hs.out)
            go_wp2_with fail
            go_ret
            exact ⟨ret_bool (by rw [hres.out]; simp), bel2.out⟩
          · have HK2 : Hid (∀ (j : Nat) x, j < k + 1 → l[j]? = some x → nmB x = true) := Lib.hid fun j x hj hx => by
              by_cases e : j = k
              · subst e
                rw [Ha.out] at hx
                cases hx
                exact Hs.out
              · exact HK.out j x (by omega) hx
            go_wp2_with fail
            go_roundw
            case rel => exact ⟨k + 1, by omega, by go_num, hz2, hc2, bel2, HK2⟩
            case measure => simp [intOf]; omega
        · obtain rfl : k = n := by omega
          have hres := Lib.hid (all_yes2 (p := nmB) (l := l) fun j x hx => HK.out j x (by rw [Hn.out]; exact (List.getElem?_eq_some_iff.1 hx).1) hx)
          go_wp2_with fail
          go_ret
          exact ⟨ret_bool (by rw [hres.out]; simp [ep]), hbel.out⟩
    · have e1 : ((n : Int) == (n1 : Int)) = false := is_no' (by omega)
      have e2 : ((n : Int) != (n1 : Int)) = true := by rw [bne, e1]; rfl
      have Hl := Lib.hid hl
      clear hl
      go_enter Tryz.func56, Tryz.ntmps56
      go_wp2_with fail
      go_ret
      exact ⟨ret_bool (by simp [Hl.out]), box1 _ _⟩
  · have ep2 : (pn.toList == []) = false := beq_eq_false_iff_ne.2 hp
    have ep : pn.toList.isEmpty = false := by cases h : pn.toList with | nil => exact absurd h hp | cons a r => rfl
    clear hp
    go_enter Tryz.func56, Tryz.ntmps56
    go_wp2_with fail
    go_ret
    exact ⟨ret_bool (by simp [ep]), box1 _ _⟩

/-! ### types -/
def RefWTAt (n : Nat) : Prop := ∀ (B : Nat) (t : PT) (v : Value) (w : World), B ≤ w.heap.size → t.In B w v →
  Calls Tryz.prog 17 #[.agg #[.int .u8 t.kind, .string t.name, v], .int .i64 n] w fun e w' => e = .returned (.bool (rT n t)) ∧ Below w.heap.size w w'
set_option maxHeartbeats 1000000 in
theorem refWT_zero : RefWTAt 0 := by
  intro B t v w hB ht
  obtain ⟨ao, n, cap, rfl⟩ := ht.shape
  rw [rT]
  show Calls Tryz.prog 17 #[.agg #[.int .u8 t.kind, .string t.name, .slice ao n cap], .int .i64 0] w _
  go_enter Tryz.func17, Tryz.ntmps17
  go_wp2_with fail
  go_ret
  exact ⟨rfl, box1 _ _⟩
set_option maxHeartbeats 4000000 in
theorem refWT_succ (m : Nat) (hm : m ≤ 1000) (ih : RefWTAt m) : RefWTAt (m + 1) := by
  intro B t v w hB ht
  obtain ⟨kd, nm, l⟩ := t
  obtain ⟨⟨hu, hs⟩, b1, o1, ⟨m1, ao, cap, rfl, h1⟩, r1⟩ := ht
  have hk := u8_lt hu
  have T : Hid (∀ w, Calls Tryz.prog 52 #[.string nm] w fun e w' => e = .returned (.bool (tyB nm)) ∧ Below w.heap.size w w') := Lib.hid fun w => refType_calls nm hs w
  unfold maxLen at m1
  have ec : ((m + 1 : Nat) : Int) = (m : Int) + 1 := by omega
  have hr : rT (m + 1) (.mk kd nm l) = (if kd < 1 ∨ 14 < kd then false else if kd = 1 ∨ kd = 2 ∨ kd = 3 ∨ kd = 10 then nm.toList.isEmpty && decide (l.length = 0)
      else if kd = 4 then tyB nm && decide (l.length = 0) else nm.toList.isEmpty && (decide (l.length = 1) && l.all (fun u => rT m u))) := by
    rw [rT, ← noB_toList]; rfl
  rw [ec, hr]
  clear ec hr
  have hm1 : ¬ ((m : Int) + 1 < 1) := by omega
  show Calls Tryz.prog 17 #[.agg #[.int .u8 kd, .string nm, .slice ao l.length cap], .int .i64 ((m : Int) + 1)] w _
  by_cases h0 : kd < 1 ∨ 14 < kd
  · rw [if_pos h0]
    rcases h0 with h0 | h0
    · clear T hu hs r1 h1
      go_enter Tryz.func17, Tryz.ntmps17
      go_wp2_with fail
      go_ret
      exact ⟨rfl, box1 _ _⟩
    · have h0' : ¬ kd < 1 := by omega
      clear T hu hs r1 h1
      go_enter Tryz.func17, Tryz.ntmps17
      go_wp2_with fail
      go_ret
      exact ⟨rfl, box1 _ _⟩
  · rw [if_neg h0]
    have k1 : ¬ kd < 1 := by omega
    have k2 : ¬ 14 < kd := by omega
    by_cases ha : kd = 1 ∨ kd = 2 ∨ kd = 3 ∨ kd = 10
    · rw [if_pos ha]
      clear T hu hs r1 h1 h0 hk k1 k2
      cases l with
      | nil =>
        rcases ha with rfl | rfl | rfl | rfl
        all_goals
          (go_enter Tryz.func17, Tryz.ntmps17
           go_wp2_with fail
           all_goals (go_ret; exact ⟨ret_bool (by simp [*]), box1 _ _⟩))
      | cons a l =>
        obtain ⟨n, hn⟩ : ∃ n, n = (a :: l).length := ⟨_, rfl⟩
        have hn0 : n ≠ 0 := by rw [hn]; simp
        rw [← hn] at m1 ⊢
        have e1 : ((n : Int) == 0) = false := is_no' (by omega)
        clear hn
        rcases ha with rfl | rfl | rfl | rfl
        all_goals
          (go_enter Tryz.func17, Tryz.ntmps17
           go_wp2_with fail
           all_goals (go_ret; exact ⟨ret_bool (by simp), box1 _ _⟩))
    · rw [if_neg ha]
      by_cases h4 : kd = 4
      · rw [if_pos h4]
        subst h4
        generalize tyB nm = q at *
        obtain ⟨n, hn⟩ : ∃ n, n = l.length := ⟨_, rfl⟩
        rw [← hn] at m1 ⊢
        clear hu hs r1 h1 h0 hk k1 k2 ha hn
        by_cases hl : n = 0
        · subst hl
          go_enter Tryz.func17, Tryz.ntmps17
          go_wp2_with fail
          refine (T.out _).mono ?_; rintro e w1 ⟨rfl, b1'⟩
          have hc1 := old_cells b1'
          have bel1 := Lib.hid (up_tr (box1 _ _) b1')
          clear b1'
          cases q
          all_goals (go_wp2_with fail; go_ret; exact ⟨ret_bool (by simp), bel1.out⟩)
        · have e1 : ((n : Int) == 0) = false := is_no' (by omega)
          go_enter Tryz.func17, Tryz.ntmps17
          go_wp2_with fail
          refine (T.out _).mono ?_; rintro e w1 ⟨rfl, b1'⟩
          have hc1 := old_cells b1'
          have bel1 := Lib.hid (up_tr (box1 _ _) b1')
          clear b1'
          cases q
          all_goals (go_wp2_with fail; go_ret; exact ⟨ret_bool (by simp [hl]), bel1.out⟩)
      · rw [if_neg h4]
        have e1 : (kd == 1) = false := is_no' (by omega)
        have e2 : (kd == 2) = false := is_no' (by omega)
        have e3 : (kd == 3) = false := is_no' (by omega)
        have e4 : (kd == 10) = false := is_no' (by omega)
        have e5 : (kd == 4) = false := is_no' (by omega)
        clear T hu hs h0 hk ha h4
        by_cases hl : l.length = 1
        · obtain ⟨a, rfl⟩ : ∃ a, l = [a] := by
            cases l with
            | nil => simp at hl
            | cons a l => cases l with
              | nil => exact ⟨a, rfl⟩
              | cons b l => simp at hl
          obtain ⟨rfl, hb1⟩ := h1.resolve_left (by simp)
          obtain ⟨va, ca, ia⟩ := PT.Row.get (k := 0) r1 rfl
          rw [Nat.zero_mul, Nat.add_zero] at ca
          obtain ⟨aa, na, qa, rfl⟩ := ia.shape
          have c0 : w.cell? ⟨b1, o1, none⟩ = some (.int .u8 a.kind) := ca 0 _ rfl
          have c1 : w.cell? ⟨b1, o1 + 1, none⟩ = some (.string a.name) := ca 1 _ rfl
          have c2 : w.cell? ⟨b1, o1 + 2, none⟩ = some (.slice aa na qa) := ca 2 _ rfl
          have g1 : b1 < w.heap.size := by omega
          have R : Hid (∀ w', Below w.heap.size w w' → Calls Tryz.prog 17 #[.agg #[.int .u8 a.kind, .string a.name, .slice aa na qa], .int .i64 m] w' fun e w'' => e = .returned (.bool (rT m a)) ∧ Below w'.heap.size w' w'') :=
            Lib.hid fun w' hw => ih B a _ w' (by have := hw.size; omega) (PT.In.below (hw.mono hB) ia)
          have hall : ([a] : List PT).all (fun u => rT m u) = rT m a := by simp
          rw [hall]
          generalize rT m a = q at *
          have em : (m : Int) + 1 - 1 = (m : Int) := by omega
          clear ca ia r1 h1 hall hl
          go_enter Tryz.func17, Tryz.ntmps17
          go_wp2_with fail
          · refine (R.out _ (box1 _ _)).mono ?_; rintro e w1 ⟨rfl, b1'⟩
            have bel1 := Lib.hid (up_tr (box1 _ _) b1')
            clear b1'
            go_wp2_with fail
            go_ret
            exact ⟨ret_bool (by simp [*]), bel1.out⟩
          all_goals (go_ret; exact ⟨ret_bool (by simp [*]), box1 _ _⟩)
        · obtain ⟨n, hn⟩ : ∃ n, n = l.length := ⟨_, rfl⟩
          rw [← hn] at m1 hl ⊢
          have e6 : ((n : Int) == 1) = false := is_no' (by omega)
          clear r1 h1 hn
          go_enter Tryz.func17, Tryz.ntmps17
          go_wp2_with fail
          all_goals (go_ret; exact ⟨ret_bool (by simp), box1 _ _⟩)
theorem refWT_calls : ∀ n, n ≤ 1000 → RefWTAt n
  | 0, _ => refWT_zero
  | n + 1, h => refWT_succ n (by omega) (refWT_calls n (by omega))
end Go.Proofs.YthilicmhdkmipaaGreatDoor
