/- Contracts of package num, sixth part: Parse whole; the law's own says. -/
import Derived.Test.YtekmkepaokdbmaaParse
namespace Go.Proofs.Ytekmkepaokdbmaa
open Go.RowKit
set_option linter.unusedVariables false

/-- is a text a numeral? what it says -/
def okNum (l : List UInt8) : Bool := digs (cutm l) && !(isM l && decide ((cutm l).head? = some 48))
def numOf (l : List UInt8) : Int := sv (isM l) (dval (cutm l))
def pv (l : List UInt8) : Int := if okNum l = true then fitv (numOf l) else 0
def pe (l : List UInt8) : Int := if okNum l = true then fite (numOf l) else 2

theorem up_trans {w w1 w2 : World} (a : Below w.heap.size w w1) (b : Below w1.heap.size w1 w2) : Below w.heap.size w w2 := a.trans (b.mono a.size)

theorem cutm_len (l : List UInt8) : (cutm l).length ≤ l.length := by
  unfold cutm Lib.trimPrefix; split <;> simp
theorem cutm_nil : cutm [] = [] := by decide
theorem isM_nil : isM [] = false := by decide
theorem isM_cons (c : UInt8) (r : List UInt8) : isM (c :: r) = decide (c = 45) := by
  show ((45 : UInt8) == c && true) = decide (c = 45)
  rw [Bool.and_true, Bool.eq_iff_iff, beq_iff_eq, decide_eq_true_iff]
  exact ⟨fun h => h.symm, fun h => h.symm⟩
theorem cutm_m (r : List UInt8) : cutm (45 :: r) = r := by
  simp [cutm, Lib.trimPrefix, Lib.hasPrefix]
theorem cutm_p {c : UInt8} {r : List UInt8} (h : ¬ c = 45) : cutm (c :: r) = c :: r := by
  have e : Lib.hasPrefix (c :: r) [45] = false := (isM_cons c r).trans (by simp [h])
  unfold cutm Lib.trimPrefix
  rw [e]
  rfl
theorem head_zero {t : ByteArray} (h : 0 < t.size) : t.data.toList.head? = some t[0] := by
  obtain ⟨⟨l⟩⟩ := t
  cases l with
  | nil => exact absurd h (by decide)
  | cons c r => rfl
theorem digs_ne {t : ByteArray} (h : digs t.data.toList = true) : 0 < t.size := by
  obtain ⟨⟨l⟩⟩ := t
  cases l with
  | nil => exact absurd h (by decide)
  | cons c r => show 0 < r.length + 1; omega
theorem byte48 (c : UInt8) : ((c.toNat : Int) == 48) = decide (c = 48) := by
  rw [Bool.eq_iff_iff]; simp
  constructor
  · intro h; exact UInt8.toNat_inj.1 (by show c.toNat = 48; omega)
  · intro h; subst h; rfl

theorem parse_calls (s : ByteArray) (hs : s.size ≤ maxLen) (w : World) :
    Calls Try.prog 100 #[.string s] w fun e w' => e = .returned (.tuple #[.int .i64 (pv s.data.toList), .int .i64 (pe s.data.toList)]) ∧ Below w.heap.size w w' := by
  have hl : (⟨(cutm s.data.toList).toArray⟩ : ByteArray).size ≤ maxLen := Nat.le_trans (cutm_len s.data.toList) (by simpa using hs)
  obtain ⟨t, ht⟩ : ∃ t : ByteArray, (⟨(cutm s.data.toList).toArray⟩ : ByteArray) = t := ⟨_, rfl⟩
  have hc : cutm s.data.toList = t.data.toList := by rw [← ht]
  rw [ht] at hl
  have hd := Lib.hid ht
  unfold pv pe okNum numOf
  rw [hc]
  cases hn : digs t.data.toList
  · exact parse_none s t _ hl hd (Lib.hid rfl) (Lib.hid hn) w
  · have h0 := digs_ne hn
    rw [head_zero h0]
    cases hm : isM s.data.toList
    · simp only [Bool.false_and, Bool.not_false, Bool.and_self, if_true]
      by_cases ho : dval t.data.toList ≤ 9223372036854775809
      · exact parse_in_p s t hl hd (Lib.hid hm) (Lib.hid hn) (Lib.hid ho) w
      · rw [sv_false, fitv_out (by omega), fite_out (by omega)]
        exact parse_over_p s t hl hd (Lib.hid hm) (Lib.hid hn) (Lib.hid (by omega)) w
    · by_cases h48 : t[0] = 48
      · have e : ((t[0].toNat : Int) == 48) = true := by rw [byte48]; simp [h48]
        simp only [h48, decide_true, Bool.true_and, Bool.not_true, Bool.and_false, Bool.false_eq_true, if_false]
        exact parse_nought s t hl hd (Lib.hid hm) (Lib.hid hn) h0 e w
      · have e : ((t[0].toNat : Int) == 48) = false := by rw [byte48]; simp [h48]
        simp only [Option.some.injEq, h48, decide_false, Bool.and_false, Bool.not_false, Bool.and_self, if_true]
        by_cases ho : dval t.data.toList ≤ 9223372036854775809
        · exact parse_in_m s t hl hd (Lib.hid hm) (Lib.hid hn) h0 e (Lib.hid ho) w
        · rw [sv_true, fitv_out (by omega), fite_out (by omega)]
          exact parse_over_m s t hl hd (Lib.hid hm) (Lib.hid hn) h0 e (Lib.hid (by omega)) w

end Go.Proofs.Ytekmkepaokdbmaa
