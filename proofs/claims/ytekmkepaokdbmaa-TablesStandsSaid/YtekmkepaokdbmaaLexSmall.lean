/- Contracts of package lex, first part: bytes, and how many of them belong together. -/
import Derived.Test.YtekmkepaokdbmaaLexMath
import Derived.Test.YtekmkepaokdbmaaChecked
import Derived.Test.YtekmkepaokdbmaaShelf
import Derived.Shelf.Abstract
import Derived.Outline
import Derived.IntWalk
namespace Go.Proofs.Ytekmkepaokdbmaa
open Go.RowKit
set_option linter.unusedVariables false

theorem smallB_iff (c : UInt8) : smallB c = true ↔ 97 ≤ c.toNat ∧ c.toNat ≤ 122 := by simp [smallB]
theorem greatB_iff (c : UInt8) : greatB c = true ↔ 65 ≤ c.toNat ∧ c.toNat ≤ 90 := by simp [greatB]
theorem smallB_no {c : UInt8} (h : c.toNat < 97 ∨ 122 < c.toNat) : smallB c = false := by simp only [smallB, decide_eq_false_iff_not]; omega
theorem greatB_no {c : UInt8} (h : c.toNat < 65 ∨ 90 < c.toNat) : greatB c = false := by simp only [greatB, decide_eq_false_iff_not]; omega

set_option maxHeartbeats 400000 in
theorem isSmall_calls (c : UInt8) (w : World) :
    Calls Try.prog 91 #[.int .u8 (c.toNat : Int)] w fun e w' => e = .returned (.bool (smallB c)) ∧ w = w' := by
  have hb := (c.toNat_lt : c.toNat < 256)
  generalize hx : (c.toNat : Int) = x
  rcases (show x < 97 ∨ (97 ≤ x ∧ x ≤ 122) ∨ 122 < x by omega) with h | ⟨h1, h2⟩ | h
  · rw [smallB_no (by omega)]; clear hx hb
    go_enter Try.func91, Try.ntmps91
    go_wp2; go_ret; exact ⟨rfl, rfl⟩
  · rw [(smallB_iff c).2 (by omega)]; clear hx hb
    go_enter Try.func91, Try.ntmps91
    go_wp2; go_ret; exact ⟨ret_bool (by simp), rfl⟩
  · rw [smallB_no (by omega)]; clear hx hb
    go_enter Try.func91, Try.ntmps91
    go_wp2; go_ret; exact ⟨ret_bool (by simp; omega), rfl⟩

set_option maxHeartbeats 400000 in
theorem isGreat_calls (c : UInt8) (w : World) :
    Calls Try.prog 93 #[.int .u8 (c.toNat : Int)] w fun e w' => e = .returned (.bool (greatB c)) ∧ w = w' := by
  have hb := (c.toNat_lt : c.toNat < 256)
  generalize hx : (c.toNat : Int) = x
  rcases (show x < 65 ∨ (65 ≤ x ∧ x ≤ 90) ∨ 90 < x by omega) with h | ⟨h1, h2⟩ | h
  · rw [greatB_no (by omega)]; clear hx hb
    go_enter Try.func93, Try.ntmps93
    go_wp2; go_ret; exact ⟨rfl, rfl⟩
  · rw [(greatB_iff c).2 (by omega)]; clear hx hb
    go_enter Try.func93, Try.ntmps93
    go_wp2; go_ret; exact ⟨ret_bool (by simp), rfl⟩
  · rw [greatB_no (by omega)]; clear hx hb
    go_enter Try.func93, Try.ntmps93
    go_wp2; go_ret; exact ⟨ret_bool (by simp; omega), rfl⟩

set_option maxHeartbeats 400000 in
theorem isDigit_calls (c : UInt8) (w : World) :
    Calls Try.prog 94 #[.int .u8 (c.toNat : Int)] w fun e w' => e = .returned (.bool (dgt c)) ∧ w = w' := by
  have hb := (c.toNat_lt : c.toNat < 256)
  generalize hx : (c.toNat : Int) = x
  rcases (show x < 48 ∨ (48 ≤ x ∧ x ≤ 57) ∨ 57 < x by omega) with h | ⟨h1, h2⟩ | h
  · rw [dgt_no (by omega)]; clear hx hb
    go_enter Try.func94, Try.ntmps94
    go_wp2; go_ret; exact ⟨rfl, rfl⟩
  · rw [(dgt_iff c).2 (by omega)]; clear hx hb
    go_enter Try.func94, Try.ntmps94
    go_wp2; go_ret; exact ⟨ret_bool (by simp), rfl⟩
  · rw [dgt_no (by omega)]; clear hx hb
    go_enter Try.func94, Try.ntmps94
    go_wp2; go_ret; exact ⟨ret_bool (by simp; omega), rfl⟩

theorem byte95 (c : UInt8) : ((c.toNat : Int) == 95) = decide (c.toNat = 95) := by
  rw [Bool.eq_iff_iff]; simp; omega

set_option maxHeartbeats 400000 in
theorem isNameByte_calls (c : UInt8) (w : World) :
    Calls Try.prog 99 #[.int .u8 (c.toNat : Int)] w fun e w' => e = .returned (.bool (nameB c)) ∧ w = w' := by
  have h1 := Lib.hid (fun w => isSmall_calls c w)
  have h2 := Lib.hid (fun w => isGreat_calls c w)
  have h3 := Lib.hid (fun w => isDigit_calls c w)
  have h4 := byte95 c
  unfold nameB
  generalize smallB c = b1 at *
  generalize greatB c = b2 at *
  generalize dgt c = b3 at *
  generalize decide (c.toNat = 95) = b4 at *
  generalize (c.toNat : Int) = x at *
  cases b1
  · cases b2
    · cases b3
      · go_enter Try.func99, Try.ntmps99
        go_wp2_with fail
        refine (h1.out _).mono ?_; rintro e w1 ⟨rfl, rfl⟩
        go_wp2_with fail
        refine (h2.out _).mono ?_; rintro e w1 ⟨rfl, rfl⟩
        go_wp2_with fail
        refine (h3.out _).mono ?_; rintro e w1 ⟨rfl, rfl⟩
        go_wp2; go_ret; exact ⟨ret_bool (by simp), rfl⟩
      · go_enter Try.func99, Try.ntmps99
        go_wp2_with fail
        refine (h1.out _).mono ?_; rintro e w1 ⟨rfl, rfl⟩
        go_wp2_with fail
        refine (h2.out _).mono ?_; rintro e w1 ⟨rfl, rfl⟩
        go_wp2_with fail
        refine (h3.out _).mono ?_; rintro e w1 ⟨rfl, rfl⟩
        go_wp2; go_ret; exact ⟨rfl, rfl⟩
    · go_enter Try.func99, Try.ntmps99
      go_wp2_with fail
      refine (h1.out _).mono ?_; rintro e w1 ⟨rfl, rfl⟩
      go_wp2_with fail
      refine (h2.out _).mono ?_; rintro e w1 ⟨rfl, rfl⟩
      go_wp2; go_ret; exact ⟨rfl, rfl⟩
  · go_enter Try.func99, Try.ntmps99
    go_wp2_with fail
    refine (h1.out _).mono ?_; rintro e w1 ⟨rfl, rfl⟩
    go_wp2; go_ret; exact ⟨rfl, rfl⟩

theorem take_pre {p : UInt8 → Bool} : ∀ {l : List UInt8} {k : Nat}, k ≤ l.length → (l.take k).all p = true → (∀ c, l[k]? = some c → p c = false) → pre p l = k
  | [], k, hk, _, _ => by simp at hk; subst hk; rfl
  | c :: r, 0, _, _, h => pre_cons_no (h c rfl)
  | c :: r, k + 1, hk, ha, h => by
    simp only [List.take_succ_cons, List.all_cons, Bool.and_eq_true] at ha
    rw [pre_cons_yes ha.1, take_pre (by simpa using hk) ha.2 (fun d hd => h d (by simpa using hd))]; omega
theorem all_snoc' {p : UInt8 → Bool} {s : ByteArray} {k : Nat} (h : k < s.size) (ha : (s.data.toList.take k).all p = true) (hd : p s[k] = true) : (s.data.toList.take (k + 1)).all p = true := by
  rw [take_snoc s k h, List.all_append, ha]; simp [hd]
theorem at_byte {s : ByteArray} {k : Nat} (h : k < s.size) : s.data.toList[k]? = some s[k] := by
  rw [List.getElem?_eq_getElem (by simpa using h)]; rfl
theorem ret_int {a b : Int} (h : a = b) : Ending.returned (.int .i64 a) = .returned (.int .i64 b) := by rw [h]

set_option maxHeartbeats 1000000 in
theorem countFront_calls (K : Nat) (p : UInt8 → Bool) (s : ByteArray) (hs : s.size ≤ maxLen)
    (hE : Hid (∀ args w, (callFunc K args).run Try.prog w = .ok (.enter K args) w))
    (hdo : Hid (∀ (c : UInt8) (w : World), Calls Try.prog K #[.int .u8 (c.toNat : Int)] w fun e w' => e = .returned (.bool (p c)) ∧ w = w')) (w : World) :
    Calls Try.prog 98 #[.string s, .func (.func K) #[] #[]] w fun e w' => e = .returned (.int .i64 (pre p s.data.toList)) ∧ w = w' := by
  unfold maxLen at hs
  have hE' := hE.out
  go_enter Try.func98, Try.ntmps98
  go_wp2
  go_loop [5] (fun i => ∃ k : Nat, k ≤ s.size ∧ i = .int .i64 k ∧ Hid ((s.data.toList.take k).all p = true)) (fun i => s.size - (intOf i).toNat)
  case atStart => exact ⟨0, Nat.zero_le _, rfl, Lib.hid (by simp)⟩
  case round =>
    obtain ⟨k, hk, rfl, ha⟩ := hrel
    by_cases hlt : k < s.size
    · have hd := fun w => hdo.out s[k] w
      cases hp : p s[k]
      · rw [hp] at hd
        have Hp := Lib.hid hp
        clear hp
        have Hd := Lib.hid hd
        clear hd
        go_wp2_with fail
        refine (Hd.out _).mono ?_; rintro e w1 ⟨rfl, rfl⟩
        go_wp2
        go_ret
        exact ⟨ret_int (by rw [take_pre (by simpa using hk) ha.out (fun c hc => by rw [at_byte hlt] at hc; cases hc; exact Hp.out)]), rfl⟩
      · rw [hp] at hd
        have Hp := Lib.hid hp
        clear hp
        have Hd := Lib.hid hd
        clear hd
        go_wp2_with fail
        refine (Hd.out _).mono ?_; rintro e w1 ⟨rfl, rfl⟩
        go_wp2
        go_round
        case rel => exact ⟨k + 1, by omega, by go_num, Lib.hid (all_snoc' hlt ha.out Hp.out)⟩
        case measure => simp [intOf]; omega
    · obtain rfl : k = s.size := by omega
      go_wp2
      go_ret
      exact ⟨ret_int (by rw [take_pre (by simp) ha.out (fun c hc => by simp at hc)]), rfl⟩

theorem countName_calls (s : ByteArray) (hs : s.size ≤ maxLen) (w : World) :
    Calls Try.prog 98 #[.string s, .func (.func 99) #[] #[]] w fun e w' => e = .returned (.int .i64 (pre nameB s.data.toList)) ∧ w = w' :=
  countFront_calls _ nameB s hs (Lib.hid (enters_of Try.func99 (by kernel_rfl) rfl)) (Lib.hid isNameByte_calls) w
theorem countDigit_calls (s : ByteArray) (hs : s.size ≤ maxLen) (w : World) :
    Calls Try.prog 98 #[.string s, .func (.func 94) #[] #[]] w fun e w' => e = .returned (.int .i64 (pre dgt s.data.toList)) ∧ w = w' :=
  countFront_calls _ dgt s hs (Lib.hid (enters_of Try.func94 (by kernel_rfl) rfl)) (Lib.hid isDigit_calls) w
end Go.Proofs.Ytekmkepaokdbmaa
