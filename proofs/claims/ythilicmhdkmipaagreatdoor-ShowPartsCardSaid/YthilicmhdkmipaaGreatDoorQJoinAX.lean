/- Contracts of package num, sixth part: Parse whole; the law's own says. -/
import Derived.Test.YthilicmhdkmipaaGreatDoorQJoinAC
import Derived.Test.YthilicmhdkmipaaGreatDoorQJoinAT
import Derived.IntWalk
import Derived.Test.YthilicmhdkmipaaGreatDoorChecked
import Derived.WalkKit
import Derived.Outline
import Derived.Lib.Hide
import Derived.Test.YthilicmhdkmipaaGreatDoorShelf
import Derived.Lib.ItoaMem
import Derived.Lib.ItoaLen
import Derived.Laws.IdiomStrings
import Derived.Deep.RegionWith
namespace Go.Proofs.YthilicmhdkmipaaGreatDoor
open Go.RowKit
set_option linter.unusedVariables false

/-- is a text a numeral? what it says -/
def okNum (l : List UInt8) : Bool := digs (cutm l) && !(isM l && decide ((cutm l).head? = some 48))
def numOf (l : List UInt8) : Int := sv (isM l) (dval (cutm l))
def pv (l : List UInt8) : Int := if okNum l = true then fitv (numOf l) else 0
def pe (l : List UInt8) : Int := if okNum l = true then fite (numOf l) else 2

theorem up_trans {w w1 w2 : World} (a : Below w.heap.size w w1) (b : Below w1.heap.size w1 w2) : Below w.heap.size w w2 := a.trans (b.mono a.size)

theorem cutm_len (l : List UInt8) : (cutm l).length ≤ l.length := by
  unfold cutm Lib.trimPrefix; split <;> simp
theorem cutm_nil : cutm [] = [] := by decide
theorem isM_nil : isM [] = false := by decide
theorem isM_cons (c : UInt8) (r : List UInt8) : isM (c :: r) = decide (c = 45) := by
  show ((45 : UInt8) == c && true) = decide (c = 45)
  rw [Bool.and_true, Bool.eq_iff_iff, beq_iff_eq, decide_eq_true_iff]
  exact ⟨fun h => h.symm, fun h => h.symm⟩
theorem cutm_m (r : List UInt8) : cutm (45 :: r) = r := by
  simp [cutm, Lib.trimPrefix, Lib.hasPrefix]
theorem cutm_p {c : UInt8} {r : List UInt8} (h : ¬ c = 45) : cutm (c :: r) = c :: r := by
  have e : Lib.hasPrefix (c :: r) [45] = false := (isM_cons c r).trans (by simp [h])
  unfold cutm Lib.trimPrefix
  rw [e]
  rfl
theorem head_zero {t : ByteArray} (h : 0 < t.size) : t.data.toList.head? = some t[0] := by
  obtain ⟨⟨l⟩⟩ := t
  cases l with
  | nil => exact absurd h (by decide)
  | cons c r => rfl
theorem digs_ne {t : ByteArray} (h : digs t.data.toList = true) : 0 < t.size := by
  obtain ⟨⟨l⟩⟩ := t
  cases l with
  | nil => exact absurd h (by decide)
  | cons c r => show 0 < r.length + 1; omega
theorem byte48 (c : UInt8) : ((c.toNat : Int) == 48) = decide (c = 48) := by
  rw [Bool.eq_iff_iff]; simp
  constructor
  · intro h; exact UInt8.toNat_inj.1 (by show c.toNat = 48; omega)
  · intro h; subst h; rfl

theorem parse_calls (s : ByteArray) (hs : s.size ≤ maxLen) (w : World) :
    Calls Tryz.prog 175 #[.string s] w fun e w' => e = .returned (.tuple #[.int .i64 (pv s.data.toList), .int .i64 (pe s.data.toList)]) ∧ Below w.heap.size w w' := by
  have hl : (⟨(cutm s.data.toList).toArray⟩ : ByteArray).size ≤ maxLen := Nat.le_trans (cutm_len s.data.toList) (by simpa using hs)
  obtain ⟨t, ht⟩ : ∃ t : ByteArray, (⟨(cutm s.data.toList).toArray⟩ : ByteArray) = t := ⟨_, rfl⟩
  have hc : cutm s.data.toList = t.data.toList := by rw [← ht]
  rw [ht] at hl
  have hd := Lib.hid ht
  unfold pv pe okNum numOf
  rw [hc]
  cases hn : digs t.data.toList
  · exact parse_none s t _ hl hd (Lib.hid rfl) (Lib.hid hn) w
  · have h0 := digs_ne hn
    rw [head_zero h0]
    cases hm : isM s.data.toList
    · simp only [Bool.false_and, Bool.not_false, Bool.and_self, if_true]
      by_cases ho : dval t.data.toList ≤ 9223372036854775809
      · exact parse_in_p s t hl hd (Lib.hid hm) (Lib.hid hn) (Lib.hid ho) w
      · rw [sv_false, fitv_out (by omega), fite_out (by omega)]
        exact parse_over_p s t hl hd (Lib.hid hm) (Lib.hid hn) (Lib.hid (by omega)) w
    · by_cases h48 : t[0] = 48
      · have e : ((t[0].toNat : Int) == 48) = true := by rw [byte48]; simp [h48]
        simp only [h48, decide_true, Bool.true_and, Bool.not_true, Bool.and_false, Bool.false_eq_true, if_false]
        exact parse_nought s t hl hd (Lib.hid hm) (Lib.hid hn) h0 e w
      · have e : ((t[0].toNat : Int) == 48) = false := by rw [byte48]; simp [h48]
        simp only [Option.some.injEq, h48, decide_false, Bool.and_false, Bool.not_false, Bool.and_self, if_true]
        by_cases ho : dval t.data.toList ≤ 9223372036854775809
        · exact parse_in_m s t hl hd (Lib.hid hm) (Lib.hid hn) h0 e (Lib.hid ho) w
        · rw [sv_true, fitv_out (by omega), fite_out (by omega)]
          exact parse_over_m s t hl hd (Lib.hid hm) (Lib.hid hn) h0 e (Lib.hid (by omega)) w

end Go.Proofs.YthilicmhdkmipaaGreatDoor
/- What the document's own answers of layer 1 (weftwayref01) come to. -/
namespace Go.Proofs.YthilicmhdkmipaaGreatDoor
open Go.RowKit
set_option linter.unusedVariables false


end Go.Proofs.YthilicmhdkmipaaGreatDoor
/- What the document's own Mul of layer 1 (weftwayref01) comes to. -/
namespace Go.Proofs.YthilicmhdkmipaaGreatDoor
open Go.RowKit
set_option linter.unusedVariables false

/-- A·B is within c just where A is within c shared out by B -/
theorem le_div_iff (A B c : Int) (hB : 1 ≤ B) (hc : 0 ≤ c) : A ≤ c.tdiv B ↔ A * B ≤ c := by
  rw [Int.tdiv_eq_ediv_of_nonneg hc]
  exact Int.le_ediv_iff_mul_le (by omega)

end Go.Proofs.YthilicmhdkmipaaGreatDoor
/- The plain part beneath the document's own Parse (weftwayref01): digits behind a place. -/
namespace Go.Proofs.YthilicmhdkmipaaGreatDoor
open Go.RowKit
set_option linter.unusedVariables false

/-- what the digits from place a up to place k say -/
def upto (l : List UInt8) (a k : Nat) : Nat := dval ((l.take k).drop a)

theorem upto_start (l : List UInt8) (a : Nat) : upto l a a = 0 := by
  unfold upto; rw [List.drop_eq_nil_of_le (List.length_take_le _ _)]; rfl
theorem upto_step (s : ByteArray) (a k : Nat) (ha : a ≤ k) (h : k < s.size) (h48 : 48 ≤ s[k].toNat) :
    (upto s.data.toList a (k + 1) : Int) = (upto s.data.toList a k : Int) * 10 + ((s[k].toNat : Int) - 48) := by
  have hl : a ≤ (s.data.toList.take k).length := by
    have e : s.data.toList.length = s.size := by simp
    rw [List.length_take]
    omega
  unfold upto
  rw [take_snoc s k h, List.drop_append_of_le_length hl, dval_snoc]
  omega
theorem upto_end (s : ByteArray) (a : Nat) : upto s.data.toList a s.size = dval (s.data.toList.drop a) := by unfold upto; rw [take_all]
theorem upto_le (l : List UInt8) (a k : Nat) : upto l a k ≤ dval (l.drop a) := by
  unfold upto
  rw [List.drop_take]
  exact dval_prefix _ _
theorem first_byte (s : ByteArray) (h : 0 < s.size) : s.data.toList = s[0] :: s.data.toList.drop 1 := by
  obtain ⟨⟨l⟩⟩ := s
  cases l with
  | nil => exact absurd h (by decide)
  | cons c r => rfl
theorem sign_no (s : ByteArray) (h : 0 < s.size) (hc : ¬ s[0] = 45) : cutm s.data.toList = s.data.toList.drop 0 ∧ isM s.data.toList = false := by
  have e := first_byte s h
  rw [List.drop_zero]
  constructor
  · rw [e, cutm_p hc]
  · rw [e, isM_cons]; simp [hc]
theorem sign_yes (s : ByteArray) (h : 0 < s.size) (hc : s[0] = 45) : cutm s.data.toList = s.data.toList.drop 1 ∧ isM s.data.toList = true := by
  have e := first_byte s h
  rw [hc] at e
  constructor
  · rw [e, cutm_m]; rfl
  · rw [e, isM_cons]; rfl
theorem byte_drop (s : ByteArray) (a k : Nat) (ha : a ≤ k) (h : k < s.size) : s[k] ∈ s.data.toList.drop a := by
  have hl : s.data.toList.length = s.size := by simp
  have : (s.data.toList.drop a)[k - a]? = some s[k] := by
    rw [List.getElem?_drop, show a + (k - a) = k from by omega, List.getElem?_eq_getElem (by omega)]
    rfl
  exact List.mem_of_getElem? this
theorem digs_drop_no (s : ByteArray) (a k : Nat) (ha : a ≤ k) (h : k < s.size) (hd : dgt s[k] = false) : digs (s.data.toList.drop a) = false := by
  unfold digs
  rw [Bool.and_eq_false_iff]
  right
  rw [List.all_eq_false]
  exact ⟨s[k], byte_drop s a k ha h, by rw [hd]; simp⟩
theorem digs_drop_yes (s : ByteArray) (a : Nat) (ha : a < s.size) (hd : ∀ j, a ≤ j → (h : j < s.size) → dgt s[j] = true) : digs (s.data.toList.drop a) = true := by
  have hl : s.data.toList.length = s.size := by simp
  unfold digs
  rw [Bool.and_eq_true, List.all_eq_true]
  constructor
  · cases e : s.data.toList.drop a with
    | nil => rw [List.drop_eq_nil_iff] at e; omega
    | cons x r => rfl
  · intro x hx
    obtain ⟨i, hi, rfl⟩ := List.mem_iff_getElem.1 hx
    rw [List.length_drop] at hi
    rw [List.getElem_drop]
    exact hd (a + i) (by omega) (by omega)
theorem head_drop (s : ByteArray) (h : 1 < s.size) : (s.data.toList.drop 1).head? = some s[1] := by
  have hl : s.data.toList.length = s.size := by simp
  rw [List.head?_drop, List.getElem?_eq_getElem (by omega)]
  rfl
end Go.Proofs.YthilicmhdkmipaaGreatDoor
/- What the document's own Parse (weftwayref01) comes to: what a text says, as Parse says it. -/
namespace Go.Proofs.YthilicmhdkmipaaGreatDoor
open Go.RowKit
set_option linter.unusedVariables false

theorem byte45 (c : UInt8) : ((c.toNat : Int) == 45) = decide (c = 45) := by
  rw [Bool.eq_iff_iff, decide_eq_true_iff, beq_iff_eq]
  refine ⟨fun k => UInt8.toNat_inj.1 (by show c.toNat = 45; omega), fun k => ?_⟩
  subst k; rfl

end Go.Proofs.YthilicmhdkmipaaGreatDoor
/- What the document's own Print (weftwayref01) comes to: a number's own numeral. -/
namespace Go.Proofs.YthilicmhdkmipaaGreatDoor
open Go.RowKit
set_option linter.unusedVariables false

/-- string([]byte{x}) is one byte, wherever the slice lies -/
theorem one_byte_at (c : UInt8) (x : Int) (hx : (c.toNat : Int) = x) (W : World) (b : Nat) (h : W.cell? ⟨b, 0, none⟩ = some (.int .u8 x)) :
    (convert 82 9 (.slice (some ⟨b, 0, none⟩) 1 1)).run Tryz.prog W = .ok (.string ⟨#[c]⟩) W := by
  refine run_convert_bytes_back (P := Tryz.prog) W 82 9 5 ⟨b, 0, none⟩ 1 [c] Tryz.underlying82 Tryz.underlying5 Tryz.underlying9 ?_
  intro j hj
  have : j = 0 := by simp at hj; omega
  subst this
  simp [Addr.add, h, hx]

theorem append_mk (l : List UInt8) (c : UInt8) : (⟨l.toArray⟩ : ByteArray) ++ ⟨#[c]⟩ = ⟨(l ++ [c]).toArray⟩ := by
  apply ByteArray.ext; simp
theorem ret_str {a b : ByteArray} (h : a = b) : Ending.returned (.string a) = .returned (.string b) := by rw [h]

theorem itoa_small {a : Int} (h0 : 0 ≤ a) (h1 : a < 10) : Lib.itoa a = [UInt8.ofNat (48 + a.toNat)] := by
  unfold Lib.itoa
  rw [if_neg (by omega), Lib.decDigits_one (by omega)]
theorem itoa_big {a : Int} (h : 10 ≤ a) : Lib.itoa a = Lib.itoa (a / 10) ++ [UInt8.ofNat (48 + (a % 10).toNat)] := by
  unfold Lib.itoa
  rw [if_neg (by omega), if_neg (by omega), Lib.decDigits, dif_neg (by omega)]
  rw [show (a / 10).toNat = a.toNat / 10 from by omega, show (a % 10).toNat = a.toNat % 10 from by omega]
theorem itoa_smallneg {a : Int} (h0 : a < 0) (h1 : -10 < a) : Lib.itoa a = [45, UInt8.ofNat (48 + (-a).toNat)] := by
  unfold Lib.itoa
  rw [if_pos h0, Lib.decDigits_one (by omega), show a.natAbs = (-a).toNat from by omega]
theorem itoa_bigneg {a : Int} (h : a ≤ -10) : Lib.itoa a = Lib.itoa (-(-a / 10)) ++ [UInt8.ofNat (48 + (-a % 10).toNat)] := by
  unfold Lib.itoa
  rw [if_pos (by omega), if_pos (by omega), Lib.decDigits, dif_neg (by omega)]
  rw [show (-(-a / 10)).natAbs = a.natAbs / 10 from by omega, show (-a % 10).toNat = a.natAbs % 10 from by omega]
  rfl
theorem byte_of (x : Int) (h0 : 0 ≤ x) (h1 : x ≤ 9) : ((UInt8.ofNat (48 + x.toNat)).toNat : Int) = 48 + x := by
  rw [UInt8.toNat_ofNat']; omega

/-- what a step of Print is made of: the number without its last digit, that digit, its byte -/
theorem pos_parts {a : Int} (h : 10 ≤ a) (h1 : a ≤ 9223372036854775807) : ∃ (q r x : Int) (c : UInt8), IntKind.i64.wrap (a.tdiv 10) = q ∧ a.tmod 10 = r ∧ IntKind.i64.wrap (48 + r) = x ∧ IntKind.u8.wrap x = x ∧
    (c.toNat : Int) = x ∧ Lib.itoa a = Lib.itoa q ++ [c] ∧ 0 ≤ q ∧ q ≤ 9223372036854775807 ∧ q.natAbs < a.natAbs := by
  refine ⟨a / 10, a % 10, 48 + a % 10, UInt8.ofNat (48 + (a % 10).toNat), ?_, ?_, ?_, ?_, byte_of _ (by omega) (by omega), itoa_big h, by omega, by omega, by omega⟩
  · rw [Int.tdiv_eq_ediv_of_nonneg (by omega)]; exact IntWalk.i64_in _ (by omega)
  · rw [Int.tmod_eq_emod_of_nonneg (by omega)]
  · exact IntWalk.i64_in _ (by omega)
  · exact IntKind.wrap_u8 _ |>.trans (by omega)
theorem neg_parts {a : Int} (h : a ≤ -10) (h1 : -9223372036854775808 ≤ a) : ∃ (q r x : Int) (c : UInt8), IntKind.i64.wrap (a.tdiv 10) = q ∧ a.tmod 10 = r ∧ IntKind.i64.wrap (48 - r) = x ∧ IntKind.u8.wrap x = x ∧
    (c.toNat : Int) = x ∧ Lib.itoa a = Lib.itoa q ++ [c] ∧ q < 0 ∧ -9223372036854775808 ≤ q ∧ q.natAbs < a.natAbs := by
  have e1 : a.tdiv 10 = -(-a / 10) := by
    have := Int.neg_tdiv (-a) 10
    rw [Int.neg_neg] at this
    rw [this, Int.tdiv_eq_ediv_of_nonneg (by omega)]
  have e2 : a.tmod 10 = -(-a % 10) := by
    have := Int.neg_tmod (-a) 10
    rw [Int.neg_neg] at this
    rw [this, Int.tmod_eq_emod_of_nonneg (by omega)]
  refine ⟨-(-a / 10), -(-a % 10), 48 + -a % 10, UInt8.ofNat (48 + (-a % 10).toNat), ?_, ?_, ?_, ?_, byte_of _ (by omega) (by omega), itoa_bigneg h, by omega, by omega, by omega⟩
  · rw [e1]; exact IntWalk.i64_in _ (by omega)
  · exact e2
  · rw [IntWalk.i64_in _ (by omega)]; omega
  · exact IntKind.wrap_u8 _ |>.trans (by omega)

set_option maxRecDepth 100000 in
set_option maxHeartbeats 400000 in
theorem refPrint_small (a : Int) (c : UInt8) (hc : (c.toNat : Int) = 48 + a) (hi : Hid (Lib.itoa a = [c])) (h0 : 0 ≤ a) (h1 : a < 10) (w : World) :
    Calls Tryz.prog 59 #[.int .i64 a] w fun e w' => e = .returned (.string ⟨(Lib.itoa a).toArray⟩) ∧ Below w.heap.size w w' := by
  have hcv := one_byte_at c (48 + a) hc
  rw [hi.out]
  clear hc hi
  go_enter Tryz.func59, Tryz.ntmps59
  go_wp2_with fail
  go_ret
  exact ⟨rfl, (Below.refl _ _).alloc (Nat.le_refl _) _⟩

set_option maxRecDepth 100000 in
set_option maxHeartbeats 400000 in
theorem refPrint_smallneg (a : Int) (c : UInt8) (hc : (c.toNat : Int) = 48 - a) (hi : Hid (Lib.itoa a = [45, c])) (h0 : a < 0) (h1 : -10 < a) (w : World) :
    Calls Tryz.prog 59 #[.int .i64 a] w fun e w' => e = .returned (.string ⟨(Lib.itoa a).toArray⟩) ∧ Below w.heap.size w w' := by
  have hcv := one_byte_at c (48 - a) hc
  rw [hi.out]
  clear hc hi
  go_enter Tryz.func59, Tryz.ntmps59
  go_wp2_with fail
  go_ret
  exact ⟨rfl, (Below.refl _ _).alloc (Nat.le_refl _) _⟩

set_option maxRecDepth 100000 in
set_option maxHeartbeats 1000000 in
theorem refPrint_big (a q r x : Int) (c : UInt8) (t : ByteArray) (ht : t.size ≤ 21) (hq : IntKind.i64.wrap (a.tdiv 10) = q) (hr : a.tmod 10 = r) (hx : IntKind.i64.wrap (48 + r) = x) (hu : IntKind.u8.wrap x = x)
    (hc : (c.toNat : Int) = x) (h0 : 10 ≤ a)
    (IH : Hid (∀ w, Calls Tryz.prog 59 #[.int .i64 q] w fun e w' => e = .returned (.string t) ∧ Below w.heap.size w w')) (w : World) :
    Calls Tryz.prog 59 #[.int .i64 a] w fun e w' => e = .returned (.string (t ++ ⟨#[c]⟩)) ∧ Below w.heap.size w w' := by
  have hcv := one_byte_at c x hc
  clear hc
  go_enter Tryz.func59, Tryz.ntmps59
  go_wp2_with fail
  go_region_with (go_at_call 59; (with_reducible refine (IH.out _).mono ?_); rintro e w1 ⟨rfl, hb⟩; obtain ⟨hc, hf⟩ := bcell hb)
  all_goals
    go_wp2
    go_ret
    first
    | exact ⟨rfl, (((Below.refl w.heap.size w).drew).trans hb).alloc hb.size _⟩
    | exact ⟨rfl, (((Below.refl w.heap.size w).alloc (Nat.le_refl _) _).drew).trans (hb.mono (by simp))⟩

set_option maxRecDepth 100000 in
set_option maxHeartbeats 1000000 in
theorem refPrint_bigneg (a q r x : Int) (c : UInt8) (t : ByteArray) (ht : t.size ≤ 21) (hq : IntKind.i64.wrap (a.tdiv 10) = q) (hr : a.tmod 10 = r) (hx : IntKind.i64.wrap (48 - r) = x) (hu : IntKind.u8.wrap x = x)
    (hc : (c.toNat : Int) = x) (h0 : a ≤ -10)
    (IH : Hid (∀ w, Calls Tryz.prog 59 #[.int .i64 q] w fun e w' => e = .returned (.string t) ∧ Below w.heap.size w w')) (w : World) :
    Calls Tryz.prog 59 #[.int .i64 a] w fun e w' => e = .returned (.string (t ++ ⟨#[c]⟩)) ∧ Below w.heap.size w w' := by
  have hcv := one_byte_at c x hc
  clear hc
  go_enter Tryz.func59, Tryz.ntmps59
  go_wp2_with fail
  go_region_with (go_at_call 59; (with_reducible refine (IH.out _).mono ?_); rintro e w1 ⟨rfl, hb⟩; obtain ⟨hc, hf⟩ := bcell hb)
  all_goals
    go_wp2
    go_ret
    first
    | exact ⟨rfl, (((Below.refl w.heap.size w).drew).trans hb).alloc hb.size _⟩
    | exact ⟨rfl, (((Below.refl w.heap.size w).alloc (Nat.le_refl _) _).drew).trans (hb.mono (by simp))⟩

theorem itoa_mk_size (q : Int) (h0 : -9223372036854775808 ≤ q) (h1 : q ≤ 9223372036854775807) : (⟨(Lib.itoa q).toArray⟩ : ByteArray).size ≤ 21 := by
  have := Lib.itoa_length_le q h0 h1
  exact this

theorem refPrint_any (k : Nat) : ∀ (a : Int) (w : World), a.natAbs ≤ k → -9223372036854775808 ≤ a → a ≤ 9223372036854775807 →
    Calls Tryz.prog 59 #[.int .i64 a] w fun e w' => e = .returned (.string ⟨(Lib.itoa a).toArray⟩) ∧ Below w.heap.size w w' := by
  induction k with
  | zero =>
    intro a w hk h0 h1
    exact refPrint_small a _ (byte_of a (by omega) (by omega)) (Lib.hid (itoa_small (by omega) (by omega))) (by omega) (by omega) w
  | succ k ih =>
    intro a w hk h0 h1
    by_cases c1 : 10 ≤ a
    · obtain ⟨q, r, x, c, e1, e2, e3, e4, e5, e6, e7, e8, e9⟩ := pos_parts c1 h1
      have := refPrint_big a q r x c _ (itoa_mk_size q (by omega) e8) e1 e2 e3 e4 e5 c1 (Lib.hid fun w => ih q w (by omega) (by omega) e8) w
      rw [append_mk, ← e6] at this
      exact this
    · by_cases c2 : 0 ≤ a
      · exact refPrint_small a _ (byte_of a c2 (by omega)) (Lib.hid (itoa_small c2 (by omega))) c2 (by omega) w
      · by_cases c3 : -10 < a
        · refine refPrint_smallneg a (UInt8.ofNat (48 + (-a).toNat)) ?_ (Lib.hid (itoa_smallneg (by omega) c3)) (by omega) c3 w
          have := byte_of (-a) (by omega) (by omega)
          rw [this]; omega
        · obtain ⟨q, r, x, c, e1, e2, e3, e4, e5, e6, e7, e8, e9⟩ := neg_parts (a := a) (by omega) h0
          have := refPrint_bigneg a q r x c _ (itoa_mk_size q e8 (by omega)) e1 e2 e3 e4 e5 (by omega) (Lib.hid fun w => ih q w (by omega) e8 (by omega)) w
          rw [append_mk, ← e6] at this
          exact this

theorem refPrint_calls (a : Int) (h0 : -9223372036854775808 ≤ a) (h1 : a ≤ 9223372036854775807) (w : World) :
    Calls Tryz.prog 59 #[.int .i64 a] w fun e w' => e = .returned (.string ⟨(Lib.itoa a).toArray⟩) ∧ Below w.heap.size w w' :=
  refPrint_any a.natAbs a w (Nat.le_refl _) h0 h1

/-- new blocks and draws leave all that was there -/
theorem below_grow {w : World} (k : Nat) (os : Array Obj) : Below w.heap.size w (Sort.grow (w.drewN k) os) := by
  refine ⟨rfl, rfl, rfl, ?_, ?_⟩
  · show w.heap.size ≤ (w.heap ++ os).size
    simp
  · intro j hj
    show (w.heap ++ os)[j]? = w.heap[j]?
    rw [Array.getElem?_append_left hj]

end Go.Proofs.YthilicmhdkmipaaGreatDoor
