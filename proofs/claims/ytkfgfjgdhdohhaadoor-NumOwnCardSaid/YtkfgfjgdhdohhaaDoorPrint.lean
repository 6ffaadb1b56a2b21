/- What the document's own Print (weftwayref01) comes to: a number's own numeral. -/
import Derived.Test.YtkfgfjgdhdohhaaDoorChecked
import Derived.Test.YtkfgfjgdhdohhaaDoorNumMath2
import Derived.Test.YtkfgfjgdhdohhaaDoorShelf
import Derived.WalkKit
import Derived.Outline
import Derived.IntWalk
import Derived.Lib.Hide
import Derived.Lib.ItoaMem
import Derived.Lib.ItoaLen
import Derived.Laws.IdiomStrings
import Derived.Deep.RegionWith
namespace Go.Proofs.YtkfgfjgdhdohhaaDoor
open Go.RowKit
set_option linter.unusedVariables false

/-- string([]byte{x}) is one byte, wherever the slice lies -/
theorem one_byte_at (c : UInt8) (x : Int) (hx : (c.toNat : Int) = x) (W : World) (b : Nat) (h : W.cell? ⟨b, 0, none⟩ = some (.int .u8 x)) :
    (convert 32 9 (.slice (some ⟨b, 0, none⟩) 1 1)).run Tryd.prog W = .ok (.string ⟨#[c]⟩) W := by
  refine run_convert_bytes_back (P := Tryd.prog) W 32 9 5 ⟨b, 0, none⟩ 1 [c] Tryd.underlying32 Tryd.underlying5 Tryd.underlying9 ?_
  intro j hj
  have : j = 0 := by simp at hj; omega
  subst this
  simp [Addr.add, h, hx]

theorem append_mk (l : List UInt8) (c : UInt8) : (⟨l.toArray⟩ : ByteArray) ++ ⟨#[c]⟩ = ⟨(l ++ [c]).toArray⟩ := by
  apply ByteArray.ext; simp
theorem ret_str {a b : ByteArray} (h : a = b) : Ending.returned (.string a) = .returned (.string b) := by rw [h]

theorem itoa_small {a : Int} (h0 : 0 ≤ a) (h1 : a < 10) : Lib.itoa a = [UInt8.ofNat (48 + a.toNat)] := by
  unfold Lib.itoa
  rw [if_neg (by omega), Lib.decDigits_one (by omega)]
theorem itoa_big {a : Int} (h : 10 ≤ a) : Lib.itoa a = Lib.itoa (a / 10) ++ [UInt8.ofNat (48 + (a % 10).toNat)] := by
  unfold Lib.itoa
  rw [if_neg (by omega), if_neg (by omega), Lib.decDigits, dif_neg (by omega)]
  rw [show (a / 10).toNat = a.toNat / 10 from by omega, show (a % 10).toNat = a.toNat % 10 from by omega]
theorem itoa_smallneg {a : Int} (h0 : a < 0) (h1 : -10 < a) : Lib.itoa a = [45, UInt8.ofNat (48 + (-a).toNat)] := by
  unfold Lib.itoa
  rw [if_pos h0, Lib.decDigits_one (by omega), show a.natAbs = (-a).toNat from by omega]
theorem itoa_bigneg {a : Int} (h : a ≤ -10) : Lib.itoa a = Lib.itoa (-(-a / 10)) ++ [UInt8.ofNat (48 + (-a % 10).toNat)] := by
  unfold Lib.itoa
  rw [if_pos (by omega), if_pos (by omega), Lib.decDigits, dif_neg (by omega)]
  rw [show (-(-a / 10)).natAbs = a.natAbs / 10 from by omega, show (-a % 10).toNat = a.natAbs % 10 from by omega]
  rfl
theorem byte_of (x : Int) (h0 : 0 ≤ x) (h1 : x ≤ 9) : ((UInt8.ofNat (48 + x.toNat)).toNat : Int) = 48 + x := by
  rw [UInt8.toNat_ofNat']; omega

/-- what a step of Print is made of: the number without its last digit, that digit, its byte -/
theorem pos_parts {a : Int} (h : 10 ≤ a) (h1 : a ≤ 9223372036854775807) : ∃ (q r x : Int) (c : UInt8), IntKind.i64.wrap (a.tdiv 10) = q ∧ a.tmod 10 = r ∧ IntKind.i64.wrap (48 + r) = x ∧ IntKind.u8.wrap x = x ∧
    (c.toNat : Int) = x ∧ Lib.itoa a = Lib.itoa q ++ [c] ∧ 0 ≤ q ∧ q ≤ 9223372036854775807 ∧ q.natAbs < a.natAbs := by
  refine ⟨a / 10, a % 10, 48 + a % 10, UInt8.ofNat (48 + (a % 10).toNat), ?_, ?_, ?_, ?_, byte_of _ (by omega) (by omega), itoa_big h, by omega, by omega, by omega⟩
  · rw [Int.tdiv_eq_ediv_of_nonneg (by omega)]; exact IntWalk.i64_in _ (by omega)
  · rw [Int.tmod_eq_emod_of_nonneg (by omega)]
  · exact IntWalk.i64_in _ (by omega)
  · exact IntKind.wrap_u8 _ |>.trans (by omega)
theorem neg_parts {a : Int} (h : a ≤ -10) (h1 : -9223372036854775808 ≤ a) : ∃ (q r x : Int) (c : UInt8), IntKind.i64.wrap (a.tdiv 10) = q ∧ a.tmod 10 = r ∧ IntKind.i64.wrap (48 - r) = x ∧ IntKind.u8.wrap x = x ∧
    (c.toNat : Int) = x ∧ Lib.itoa a = Lib.itoa q ++ [c] ∧ q < 0 ∧ -9223372036854775808 ≤ q ∧ q.natAbs < a.natAbs := by
  have e1 : a.tdiv 10 = -(-a / 10) := by
    have := Int.neg_tdiv (-a) 10
    rw [Int.neg_neg] at this
    rw [this, Int.tdiv_eq_ediv_of_nonneg (by omega)]
  have e2 : a.tmod 10 = -(-a % 10) := by
    have := Int.neg_tmod (-a) 10
    rw [Int.neg_neg] at this
    rw [this, Int.tmod_eq_emod_of_nonneg (by omega)]
  refine ⟨-(-a / 10), -(-a % 10), 48 + -a % 10, UInt8.ofNat (48 + (-a % 10).toNat), ?_, ?_, ?_, ?_, byte_of _ (by omega) (by omega), itoa_bigneg h, by omega, by omega, by omega⟩
  · rw [e1]; exact IntWalk.i64_in _ (by omega)
  · exact e2
  · rw [IntWalk.i64_in _ (by omega)]; omega
  · exact IntKind.wrap_u8 _ |>.trans (by omega)

set_option maxRecDepth 100000 in
set_option maxHeartbeats 400000 in
theorem refPrint_small (a : Int) (c : UInt8) (hc : (c.toNat : Int) = 48 + a) (hi : Hid (Lib.itoa a = [c])) (h0 : 0 ≤ a) (h1 : a < 10) (w : World) :
    Calls Tryd.prog 9 #[.int .i64 a] w fun e w' => e = .returned (.string ⟨(Lib.itoa a).toArray⟩) ∧ Below w.heap.size w w' := by
  have hcv := one_byte_at c (48 + a) hc
  rw [hi.out]
  clear hc hi
  go_enter Tryd.func9, Tryd.ntmps9
  go_wp2_with fail
  go_ret
  exact ⟨rfl, (Below.refl _ _).alloc (Nat.le_refl _) _⟩

set_option maxRecDepth 100000 in
set_option maxHeartbeats 400000 in
theorem refPrint_smallneg (a : Int) (c : UInt8) (hc : (c.toNat : Int) = 48 - a) (hi : Hid (Lib.itoa a = [45, c])) (h0 : a < 0) (h1 : -10 < a) (w : World) :
    Calls Tryd.prog 9 #[.int .i64 a] w fun e w' => e = .returned (.string ⟨(Lib.itoa a).toArray⟩) ∧ Below w.heap.size w w' := by
  have hcv := one_byte_at c (48 - a) hc
  rw [hi.out]
  clear hc hi
  go_enter Tryd.func9, Tryd.ntmps9
  go_wp2_with fail
  go_ret
  exact ⟨rfl, (Below.refl _ _).alloc (Nat.le_refl _) _⟩

set_option maxRecDepth 100000 in
set_option maxHeartbeats 1000000 in
theorem refPrint_big (a q r x : Int) (c : UInt8) (t : ByteArray) (ht : t.size ≤ 21) (hq : IntKind.i64.wrap (a.tdiv 10) = q) (hr : a.tmod 10 = r) (hx : IntKind.i64.wrap (48 + r) = x) (hu : IntKind.u8.wrap x = x)
    (hc : (c.toNat : Int) = x) (h0 : 10 ≤ a)
    (IH : Hid (∀ w, Calls Tryd.prog 9 #[.int .i64 q] w fun e w' => e = .returned (.string t) ∧ Below w.heap.size w w')) (w : World) :
    Calls Tryd.prog 9 #[.int .i64 a] w fun e w' => e = .returned (.string (t ++ ⟨#[c]⟩)) ∧ Below w.heap.size w w' := by
  have hcv := one_byte_at c x hc
  clear hc
  go_enter Tryd.func9, Tryd.ntmps9
  go_wp2_with fail
  go_region_with (go_at_call 9; (with_reducible refine (IH.out _).mono ?_); rintro e w1 ⟨rfl, hb⟩; obtain ⟨hc, hf⟩ := bcell hb)
  all_goals
    go_wp2
    go_ret
    first
    | exact ⟨rfl, (((Below.refl w.heap.size w).drew).trans hb).alloc hb.size _⟩
    | exact ⟨rfl, (((Below.refl w.heap.size w).alloc (Nat.le_refl _) _).drew).trans (hb.mono (by simp))⟩

set_option maxRecDepth 100000 in
set_option maxHeartbeats 1000000 in
theorem refPrint_bigneg (a q r x : Int) (c : UInt8) (t : ByteArray) (ht : t.size ≤ 21) (hq : IntKind.i64.wrap (a.tdiv 10) = q) (hr : a.tmod 10 = r) (hx : IntKind.i64.wrap (48 - r) = x) (hu : IntKind.u8.wrap x = x)
    (hc : (c.toNat : Int) = x) (h0 : a ≤ -10)
    (IH : Hid (∀ w, Calls Tryd.prog 9 #[.int .i64 q] w fun e w' => e = .returned (.string t) ∧ Below w.heap.size w w')) (w : World) :
    Calls Tryd.prog 9 #[.int .i64 a] w fun e w' => e = .returned (.string (t ++ ⟨#[c]⟩)) ∧ Below w.heap.size w w' := by
  have hcv := one_byte_at c x hc
  clear hc
  go_enter Tryd.func9, Tryd.ntmps9
  go_wp2_with fail
  go_region_with (go_at_call 9; (with_reducible refine (IH.out _).mono ?_); rintro e w1 ⟨rfl, hb⟩; obtain ⟨hc, hf⟩ := bcell hb)
  all_goals
    go_wp2
    go_ret
    first
    | exact ⟨rfl, (((Below.refl w.heap.size w).drew).trans hb).alloc hb.size _⟩
    | exact ⟨rfl, (((Below.refl w.heap.size w).alloc (Nat.le_refl _) _).drew).trans (hb.mono (by simp))⟩

theorem itoa_mk_size (q : Int) (h0 : -9223372036854775808 ≤ q) (h1 : q ≤ 9223372036854775807) : (⟨(Lib.itoa q).toArray⟩ : ByteArray).size ≤ 21 := by
  have := Lib.itoa_length_le q h0 h1
  exact this

theorem refPrint_any (k : Nat) : ∀ (a : Int) (w : World), a.natAbs ≤ k → -9223372036854775808 ≤ a → a ≤ 9223372036854775807 →
    Calls Tryd.prog 9 #[.int .i64 a] w fun e w' => e = .returned (.string ⟨(Lib.itoa a).toArray⟩) ∧ Below w.heap.size w w' := by
  induction k with
  | zero =>
    intro a w hk h0 h1
    exact refPrint_small a _ (byte_of a (by omega) (by omega)) (Lib.hid (itoa_small (by omega) (by omega))) (by omega) (by omega) w
  | succ k ih =>
    intro a w hk h0 h1
    by_cases c1 : 10 ≤ a
    · obtain ⟨q, r, x, c, e1, e2, e3, e4, e5, e6, e7, e8, e9⟩ := pos_parts c1 h1
      have := refPrint_big a q r x c _ (itoa_mk_size q (by omega) e8) e1 e2 e3 e4 e5 c1 (Lib.hid fun w => ih q w (by omega) (by omega) e8) w
      rw [append_mk, ← e6] at this
      exact this
    · by_cases c2 : 0 ≤ a
      · exact refPrint_small a _ (byte_of a c2 (by omega)) (Lib.hid (itoa_small c2 (by omega))) c2 (by omega) w
      · by_cases c3 : -10 < a
        · refine refPrint_smallneg a (UInt8.ofNat (48 + (-a).toNat)) ?_ (Lib.hid (itoa_smallneg (by omega) c3)) (by omega) c3 w
          have := byte_of (-a) (by omega) (by omega)
          rw [this]; omega
        · obtain ⟨q, r, x, c, e1, e2, e3, e4, e5, e6, e7, e8, e9⟩ := neg_parts (a := a) (by omega) h0
          have := refPrint_bigneg a q r x c _ (itoa_mk_size q e8 (by omega)) e1 e2 e3 e4 e5 (by omega) (Lib.hid fun w => ih q w (by omega) e8 (by omega)) w
          rw [append_mk, ← e6] at this
          exact this

theorem refPrint_calls (a : Int) (h0 : -9223372036854775808 ≤ a) (h1 : a ≤ 9223372036854775807) (w : World) :
    Calls Tryd.prog 9 #[.int .i64 a] w fun e w' => e = .returned (.string ⟨(Lib.itoa a).toArray⟩) ∧ Below w.heap.size w w' :=
  refPrint_any a.natAbs a w (Nat.le_refl _) h0 h1

/-- new blocks and draws leave all that was there -/
theorem below_grow {w : World} (k : Nat) (os : Array Obj) : Below w.heap.size w (Sort.grow (w.drewN k) os) := by
  refine ⟨rfl, rfl, rfl, ?_, ?_⟩
  · show w.heap.size ≤ (w.heap ++ os).size
    simp
  · intro j hj
    show (w.heap ++ os)[j]? = w.heap[j]?
    rw [Array.getElem?_append_left hj]

set_option maxHeartbeats 400000 in
theorem print_calls (a : Int) (h0 : -9223372036854775808 ≤ a) (h1 : a ≤ 9223372036854775807) (w : World) (htab : Hid (Lib.TabIs Tryd.prog w "internal/strconv.uint64pow10" .u64 Lib.pow10Tab)) :
    Calls Tryd.prog 8 #[.int .i64 a] w fun e w' => e = .returned (.string ⟨(Lib.itoa a).toArray⟩) ∧ Below w.heap.size w w' := by
  go_enter Tryd.func8, Tryd.ntmps8
  go_wp2_with fail
  refine (Tryd.strconv_FormatInt_10 a h0 h1 _ htab.out).mono ?_
  rintro e w1 ⟨rfl, k, os, rfl⟩
  go_wp2
  go_ret
  exact ⟨rfl, below_grow k os⟩
end Go.Proofs.YtkfgfjgdhdohhaaDoor
