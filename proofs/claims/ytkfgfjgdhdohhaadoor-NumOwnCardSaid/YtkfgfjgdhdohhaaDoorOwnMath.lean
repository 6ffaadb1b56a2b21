/- The plain part beneath NumOwn: what a number's own numeral says; noughts in front; a byte that is no digit. -/
import Derived.Test.YtkfgfjgdhdohhaaDoorRefParseMath
import Derived.Lib.ItoaMem
namespace Go.Proofs.YtkfgfjgdhdohhaaDoor
open Go.RowKit
set_option linter.unusedVariables false

theorem dig_byte (x : Nat) (h : x < 10) : (UInt8.ofNat (48 + x)).toNat = 48 + x := by rw [UInt8.toNat_ofNat']; omega
theorem dec_all (k : Nat) : ∀ u, u ≤ k → digs (Lib.decDigits u) = true ∧ dval (Lib.decDigits u) = u ∧ (1 ≤ u → ¬ (Lib.decDigits u).head? = some 48) := by
  induction k with
  | zero =>
    intro u hu
    obtain rfl : u = 0 := by omega
    rw [Lib.decDigits_one (by omega)]
    exact ⟨by decide, by decide, fun h => by omega⟩
  | succ k ih =>
    intro u hu
    by_cases hs : u < 10
    · rw [Lib.decDigits_one hs]
      have hb := dig_byte u hs
      refine ⟨?_, ?_, fun h => ?_⟩
      · have : dgt (UInt8.ofNat (48 + u)) = true := (dgt_iff _).2 (by omega)
        unfold digs
        rw [List.all_cons, this]; rfl
      · have := dval_snoc [] (UInt8.ofNat (48 + u))
        rw [List.nil_append, dval_nil, hb] at this
        omega
      · intro e
        have e2 : UInt8.ofNat (48 + u) = 48 := by simpa using e
        rw [e2] at hb
        have : (48 : UInt8).toNat = 48 := rfl
        omega
    · rw [Lib.decDigits, dif_neg hs]
      obtain ⟨i1, i2, i3⟩ := ih (u / 10) (by omega)
      have hb := dig_byte (u % 10) (by omega)
      have hd : dgt (UInt8.ofNat (48 + u % 10)) = true := (dgt_iff _).2 (by omega)
      have hne : ¬ Lib.decDigits (u / 10) = [] := by
        intro e; rw [e] at i1; cases i1
      refine ⟨?_, ?_, fun h => ?_⟩
      · cases e : Lib.decDigits (u / 10) with
        | nil => exact absurd e hne
        | cons x r =>
          rw [e] at i1
          unfold digs at i1 ⊢
          rw [Bool.and_eq_true] at i1
          rw [List.all_append, i1.2]
          rw [List.all_cons, hd]; rfl
      · rw [dval_snoc, i2, hb]; omega
      · cases e : Lib.decDigits (u / 10) with
        | nil => exact absurd e hne
        | cons x r =>
          rw [e] at i3
          exact i3 (by omega)

/-- a numeral that says a; not below, where a isn't -/
def Good (l : List UInt8) (a : Int) : Prop := okNum l = true ∧ numOf l = a ∧ (0 ≤ a → isM l = false)

theorem digs_first {l : List UInt8} (h : digs l = true) : ∃ c r, l = c :: r ∧ ¬ c = 45 := by
  cases l with
  | nil => cases h
  | cons c r =>
    refine ⟨c, r, rfl, fun e => ?_⟩
    subst e
    unfold digs at h
    rw [Bool.and_eq_true, List.all_cons, Bool.and_eq_true] at h
    exact absurd h.2.1 (by decide)
theorem good_itoa (a : Int) : Good (Lib.itoa a) a := by
  obtain ⟨h1, h2, h3⟩ := dec_all a.natAbs a.natAbs (Nat.le_refl _)
  by_cases h : a < 0
  · have e : Lib.itoa a = 45 :: Lib.decDigits a.natAbs := by unfold Lib.itoa; rw [if_pos h]
    have m : isM (45 :: Lib.decDigits a.natAbs) = true := by rw [isM_cons]; rfl
    rw [e]
    refine ⟨?_, ?_, fun k => by omega⟩
    · unfold okNum
      rw [cutm_m, h1, m, decide_eq_false (h3 (by omega))]; rfl
    · unfold numOf
      rw [cutm_m, h2, m, sv_true]; omega
  · have e : Lib.itoa a = Lib.decDigits a.natAbs := by unfold Lib.itoa; rw [if_neg h]; congr 1; omega
    rw [e]
    obtain ⟨c, r, hc, hn⟩ := digs_first h1
    have m : isM (Lib.decDigits a.natAbs) = false := by rw [hc, isM_cons]; simp [hn]
    have hk : cutm (Lib.decDigits a.natAbs) = Lib.decDigits a.natAbs := by rw [hc]; exact cutm_p hn
    refine ⟨?_, ?_, fun _ => m⟩
    · unfold okNum; rw [hk, m, h1]; rfl
    · unfold numOf; rw [hk, h2, m, sv_false]; omega
theorem good_says {l : List UInt8} {a : Int} (h : Good l a) (a0 : -9223372036854775808 ≤ a) (a1 : a ≤ 9223372036854775807) : (pv l == a && pe l == 0) = true := by
  unfold pv pe
  rw [h.1, if_pos rfl, if_pos rfl, h.2.1, fitv_in a0 a1, fite_in a0 a1]
  simp
theorem good_nought {l : List UInt8} {a : Int} (h : Good l a) (a0 : 0 ≤ a) : Good (48 :: l) a := by
  obtain ⟨h1, h2, h3⟩ := h
  have m := h3 a0
  obtain ⟨hn, hm⟩ : ¬ l = [] ∧ ¬ cutm l = [] := by
    refine ⟨fun e => ?_, fun e => ?_⟩
    · subst e; exact absurd h1 (by decide)
    · unfold okNum at h1; rw [e] at h1; exact absurd h1 (by simp [digs])
  have hk : cutm l = l := by
    cases l with
    | nil => exact absurd rfl hn
    | cons c r =>
      rw [isM_cons] at m
      exact cutm_p (by simpa using m)
  have m2 : isM (48 :: l) = false := by rw [isM_cons]; rfl
  have hk2 : cutm (48 :: l) = 48 :: l := cutm_p (by decide)
  have hd : digs l = true := by unfold okNum at h1; rw [hk, Bool.and_eq_true] at h1; exact h1.1
  refine ⟨?_, ?_, fun _ => m2⟩
  · unfold okNum
    rw [hk2, m2]
    unfold digs at hd ⊢
    rw [Bool.and_eq_true] at hd
    rw [List.all_cons, hd.2]; rfl
  · unfold numOf at h2 ⊢
    rw [hk2, m2, sv_false]
    rw [hk, m, sv_false] at h2
    exact h2
/-- with a byte that is no digit among them, a text is no numeral -/
theorem digs_mem {l : List UInt8} {x : UInt8} (h : x ∈ l) (hx : dgt x = false) : digs l = false := by
  unfold digs
  rw [Bool.and_eq_false_iff]
  right
  rw [List.all_eq_false]
  exact ⟨x, h, by rw [hx]; simp⟩
theorem bad_insert (l r : List UInt8) (x : UInt8) (hx : dgt x = false) (h : ¬ (x = 45 ∧ l = [])) : (pv (l ++ [x] ++ r) == 0 && pe (l ++ [x] ++ r) == 2) = true := by
  have hm : x ∈ cutm (l ++ [x] ++ r) := by
    cases l with
    | nil =>
      have hx45 : ¬ x = 45 := fun e => h ⟨e, rfl⟩
      show x ∈ cutm (x :: r)
      rw [cutm_p hx45]; simp
    | cons c l =>
      by_cases hc : c = 45
      · subst hc
        show x ∈ cutm (45 :: (l ++ [x] ++ r))
        rw [cutm_m]; simp
      · show x ∈ cutm (c :: (l ++ [x] ++ r))
        rw [cutm_p hc]; simp
  have ho : okNum (l ++ [x] ++ r) = false := by unfold okNum; rw [digs_mem hm hx]; rfl
  unfold pv pe
  rw [ho]; rfl
/-- a number's own numeral has no nought in front that it could be without -/
theorem own_first (a : Int) (t : ByteArray) (ht : t.data.toList = Lib.itoa a) : t.size ≤ 1 ∨ ∃ h : 1 < t.size, (((t[0].toNat : Int) == 48) = false ∧ (((t[0].toNat : Int) == 45) = false ∨ ((t[0].toNat : Int) == 45) = true ∧ ((t[1].toNat : Int) == 48) = false)) := by
  by_cases hs : 1 < t.size
  · right
    refine ⟨hs, ?_⟩
    have e0 := first_byte t (by omega)
    obtain ⟨h1, h2, h3⟩ := dec_all a.natAbs a.natAbs (Nat.le_refl _)
    have hl : t.data.toList.length = t.size := by simp
    by_cases h : a < 0
    · have e : Lib.itoa a = 45 :: Lib.decDigits a.natAbs := by unfold Lib.itoa; rw [if_pos h]
      have e2 := e0
      rw [ht, e] at e2
      injection e2 with c1 c2
      have hh := head_drop t hs
      rw [ht, e] at hh
      have hh2 : (Lib.decDigits a.natAbs).head? = some t[1] := hh
      refine ⟨?_, Or.inr ⟨?_, ?_⟩⟩
      · rw [← c1]; rfl
      · rw [← c1]; rfl
      · rw [byte48, decide_eq_false_iff_not]
        intro k
        rw [k] at hh2
        exact h3 (by omega) hh2
    · have e : Lib.itoa a = Lib.decDigits a.natAbs := by unfold Lib.itoa; rw [if_neg h]; congr 1; omega
      have hh : (Lib.decDigits a.natAbs).head? = some t[0] := by rw [← e, ← ht, e0]; rfl
      obtain ⟨c, r, hc, hn⟩ := digs_first h1
      have h45 : ¬ t[0] = 45 := by
        rw [hc] at hh
        have : c = t[0] := by simpa using hh
        rw [← this]; exact hn
      have hbig : 1 ≤ a.natAbs := by
        by_cases hz : a.natAbs = 0
        · exfalso
          rw [e, hz, Lib.decDigits_one (by omega)] at ht
          rw [ht] at hl
          simp at hl
          omega
        · omega
      refine ⟨?_, Or.inl ?_⟩
      · rw [byte48, decide_eq_false_iff_not]
        intro k
        rw [k] at hh
        exact h3 hbig hh
      · rw [beq_eq_false_iff_ne]
        intro k
        exact h45 (UInt8.toNat_inj.1 (by show t[0].toNat = 45; omega))
  · exact Or.inl (by omega)
end Go.Proofs.YtkfgfjgdhdohhaaDoor
