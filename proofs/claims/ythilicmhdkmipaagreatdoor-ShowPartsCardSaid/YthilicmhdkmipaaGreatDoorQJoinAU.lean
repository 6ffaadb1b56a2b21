/- Contracts of package lex, first part: bytes, and how many of them belong together. -/
import Derived.Test.YthilicmhdkmipaaGreatDoorQJoinAB
import Derived.Test.YthilicmhdkmipaaGreatDoorChecked
import Derived.Test.YthilicmhdkmipaaGreatDoorShelf
import Derived.Shelf.Abstract
import Derived.Outline
import Derived.IntWalk
import Derived.Test.YthilicmhdkmipaaGreatDoorQJoinAT
namespace Go.Proofs.YthilicmhdkmipaaGreatDoor
open Go.RowKit
set_option linter.unusedVariables false

theorem smallB_iff (c : UInt8) : smallB c = true ↔ 97 ≤ c.toNat ∧ c.toNat ≤ 122 := by simp [smallB]
theorem greatB_iff (c : UInt8) : greatB c = true ↔ 65 ≤ c.toNat ∧ c.toNat ≤ 90 := by simp [greatB]
theorem smallB_no {c : UInt8} (h : c.toNat < 97 ∨ 122 < c.toNat) : smallB c = false := by simp only [smallB, decide_eq_false_iff_not]; omega
theorem greatB_no {c : UInt8} (h : c.toNat < 65 ∨ 90 < c.toNat) : greatB c = false := by simp only [greatB, decide_eq_false_iff_not]; omega

set_option maxHeartbeats 400000 in
theorem isSmall_calls (c : UInt8) (w : World) :
    Calls Tryz.prog 134 #[.int .u8 (c.toNat : Int)] w fun e w' => e = .returned (.bool (smallB c)) ∧ w = w' := by
  have hb := (c.toNat_lt : c.toNat < 256)
  generalize hx : (c.toNat : Int) = x
  rcases (show x < 97 ∨ (97 ≤ x ∧ x ≤ 122) ∨ 122 < x by omega) with h | ⟨h1, h2⟩ | h
  · rw [smallB_no (by omega)]; clear hx hb
    go_enter Tryz.func134, Tryz.ntmps134
    go_wp2; go_ret; exact ⟨rfl, rfl⟩
  · rw [(smallB_iff c).2 (by omega)]; clear hx hb
    go_enter Tryz.func134, Tryz.ntmps134
    go_wp2; go_ret; exact ⟨ret_bool (by simp), rfl⟩
  · rw [smallB_no (by omega)]; clear hx hb
    go_enter Tryz.func134, Tryz.ntmps134
    go_wp2; go_ret; exact ⟨ret_bool (by simp; omega), rfl⟩

set_option maxHeartbeats 400000 in
theorem isGreat_calls (c : UInt8) (w : World) :
    Calls Tryz.prog 135 #[.int .u8 (c.toNat : Int)] w fun e w' => e = .returned (.bool (greatB c)) ∧ w = w' := by
  have hb := (c.toNat_lt : c.toNat < 256)
  generalize hx : (c.toNat : Int) = x
  rcases (show x < 65 ∨ (65 ≤ x ∧ x ≤ 90) ∨ 90 < x by omega) with h | ⟨h1, h2⟩ | h
  · rw [greatB_no (by omega)]; clear hx hb
    go_enter Tryz.func135, Tryz.ntmps135
    go_wp2; go_ret; exact ⟨rfl, rfl⟩
  · rw [(greatB_iff c).2 (by omega)]; clear hx hb
    go_enter Tryz.func135, Tryz.ntmps135
    go_wp2; go_ret; exact ⟨ret_bool (by simp), rfl⟩
  · rw [greatB_no (by omega)]; clear hx hb
    go_enter Tryz.func135, Tryz.ntmps135
    go_wp2; go_ret; exact ⟨ret_bool (by simp; omega), rfl⟩

set_option maxHeartbeats 400000 in
theorem isDigit_calls (c : UInt8) (w : World) :
    Calls Tryz.prog 138 #[.int .u8 (c.toNat : Int)] w fun e w' => e = .returned (.bool (dgt c)) ∧ w = w' := by
  have hb := (c.toNat_lt : c.toNat < 256)
  generalize hx : (c.toNat : Int) = x
  rcases (show x < 48 ∨ (48 ≤ x ∧ x ≤ 57) ∨ 57 < x by omega) with h | ⟨h1, h2⟩ | h
  · rw [dgt_no (by omega)]; clear hx hb
    go_enter Tryz.func138, Tryz.ntmps138
    go_wp2; go_ret; exact ⟨rfl, rfl⟩
  · rw [(dgt_iff c).2 (by omega)]; clear hx hb
    go_enter Tryz.func138, Tryz.ntmps138
    go_wp2; go_ret; exact ⟨ret_bool (by simp), rfl⟩
  · rw [dgt_no (by omega)]; clear hx hb
    go_enter Tryz.func138, Tryz.ntmps138
    go_wp2; go_ret; exact ⟨ret_bool (by simp; omega), rfl⟩

theorem byte95 (c : UInt8) : ((c.toNat : Int) == 95) = decide (c.toNat = 95) := by
  rw [Bool.eq_iff_iff]; simp; omega

set_option maxHeartbeats 400000 in
theorem isNameByte_calls (c : UInt8) (w : World) :
    Calls Tryz.prog 137 #[.int .u8 (c.toNat : Int)] w fun e w' => e = .returned (.bool (nameB c)) ∧ w = w' := by
  have h1 := Lib.hid (fun w => isSmall_calls c w)
  have h2 := Lib.hid (fun w => isGreat_calls c w)
  have h3 := Lib.hid (fun w => isDigit_calls c w)
  have h4 := byte95 c
  unfold nameB
  generalize smallB c = b1 at *
  generalize greatB c = b2 at *
  generalize dgt c = b3 at *
  generalize decide (c.toNat = 95) = b4 at *
  generalize (c.toNat : Int) = x at *
  cases b1
  · cases b2
    · cases b3
      · go_enter Tryz.func137, Tryz.ntmps137
        go_wp2_with fail
        refine (h1.out _).mono ?_; rintro e w1 ⟨rfl, rfl⟩
        go_wp2_with fail
        refine (h2.out _).mono ?_; rintro e w1 ⟨rfl, rfl⟩
        go_wp2_with fail
        refine (h3.out _).mono ?_; rintro e w1 ⟨rfl, rfl⟩
        go_wp2; go_ret; exact ⟨ret_bool (by simp), rfl⟩
      · go_enter Tryz.func137, Tryz.ntmps137
        go_wp2_with fail
        refine (h1.out _).mono ?_; rintro e w1 ⟨rfl, rfl⟩
        go_wp2_with fail
        refine (h2.out _).mono ?_; rintro e w1 ⟨rfl, rfl⟩
        go_wp2_with fail
        refine (h3.out _).mono ?_; rintro e w1 ⟨rfl, rfl⟩
        go_wp2; go_ret; exact ⟨rfl, rfl⟩
    · go_enter Tryz.func137, Tryz.ntmps137
      go_wp2_with fail
      refine (h1.out _).mono ?_; rintro e w1 ⟨rfl, rfl⟩
      go_wp2_with fail
      refine (h2.out _).mono ?_; rintro e w1 ⟨rfl, rfl⟩
      go_wp2; go_ret; exact ⟨rfl, rfl⟩
  · go_enter Tryz.func137, Tryz.ntmps137
    go_wp2_with fail
    refine (h1.out _).mono ?_; rintro e w1 ⟨rfl, rfl⟩
    go_wp2; go_ret; exact ⟨rfl, rfl⟩

theorem take_pre {p : UInt8 → Bool} : ∀ {l : List UInt8} {k : Nat}, k ≤ l.length → (l.take k).all p = true → (∀ c, l[k]? = some c → p c = false) → pre p l = k
  | [], k, hk, _, _ => by simp at hk; subst hk; rfl
  | c :: r, 0, _, _, h => pre_cons_no (h c rfl)
  | c :: r, k + 1, hk, ha, h => by
    simp only [List.take_succ_cons, List.all_cons, Bool.and_eq_true] at ha
    rw [pre_cons_yes ha.1, take_pre (by simpa using hk) ha.2 (fun d hd => h d (by simpa using hd))]; omega
theorem all_snoc' {p : UInt8 → Bool} {s : ByteArray} {k : Nat} (h : k < s.size) (ha : (s.data.toList.take k).all p = true) (hd : p s[k] = true) : (s.data.toList.take (k + 1)).all p = true := by
  rw [take_snoc s k h, List.all_append, ha]; simp [hd]
theorem at_byte {s : ByteArray} {k : Nat} (h : k < s.size) : s.data.toList[k]? = some s[k] := by
  rw [List.getElem?_eq_getElem (by simpa using h)]; rfl
theorem ret_int {a b : Int} (h : a = b) : Ending.returned (.int .i64 a) = .returned (.int .i64 b) := by rw [h]

set_option maxHeartbeats 1000000 in
theorem countFront_calls (K : Nat) (p : UInt8 → Bool) (s : ByteArray) (hs : s.size ≤ maxLen)
    (hE : Hid (∀ args w, (callFunc K args).run Tryz.prog w = .ok (.enter K args) w))
    (hdo : Hid (∀ (c : UInt8) (w : World), Calls Tryz.prog K #[.int .u8 (c.toNat : Int)] w fun e w' => e = .returned (.bool (p c)) ∧ w = w')) (w : World) :
    Calls Tryz.prog 136 #[.string s, .func (.func K) #[] #[]] w fun e w' => e = .returned (.int .i64 (pre p s.data.toList)) ∧ w = w' := by
  unfold maxLen at hs
  have hE' := hE.out
  go_enter Tryz.func136, Tryz.ntmps136
  go_wp2
  go_loop [5] (fun i => ∃ k : Nat, k ≤ s.size ∧ i = .int .i64 k ∧ Hid ((s.data.toList.take k).all p = true)) (fun i => s.size - (intOf i).toNat)
  case atStart => exact ⟨0, Nat.zero_le _, rfl, Lib.hid (by simp)⟩
  case round =>
    obtain ⟨k, hk, rfl, ha⟩ := hrel
    by_cases hlt : k < s.size
    · have hd := fun w => hdo.out s[k] w
      cases hp : p s[k]
      · rw [hp] at hd
        have Hp := Lib.hid hp
        clear hp
        have Hd := Lib.hid hd
        clear hd
        go_wp2_with fail
        refine (Hd.out _).mono ?_; rintro e w1 ⟨rfl, rfl⟩
        go_wp2
        go_ret
        exact ⟨ret_int (by rw [take_pre (by simpa using hk) ha.out (fun c hc => by rw [at_byte hlt] at hc; cases hc; exact Hp.out)]), rfl⟩
      · rw [hp] at hd
        have Hp := Lib.hid hp
        clear hp
        have Hd := Lib.hid hd
        clear hd
        go_wp2_with fail
        refine (Hd.out _).mono ?_; rintro e w1 ⟨rfl, rfl⟩
        go_wp2
        go_round
        case rel => exact ⟨k + 1, by omega, by go_num, Lib.hid (all_snoc' hlt ha.out Hp.out)⟩
        case measure => simp [intOf]; omega
    · obtain rfl : k = s.size := by omega
      go_wp2
      go_ret
      exact ⟨ret_int (by rw [take_pre (by simp) ha.out (fun c hc => by simp at hc)]), rfl⟩

theorem countName_calls (s : ByteArray) (hs : s.size ≤ maxLen) (w : World) :
    Calls Tryz.prog 136 #[.string s, .func (.func 137) #[] #[]] w fun e w' => e = .returned (.int .i64 (pre nameB s.data.toList)) ∧ w = w' :=
  countFront_calls _ nameB s hs (Lib.hid (enters_of Tryz.func137 (by kernel_rfl) rfl)) (Lib.hid isNameByte_calls) w
theorem countDigit_calls (s : ByteArray) (hs : s.size ≤ maxLen) (w : World) :
    Calls Tryz.prog 136 #[.string s, .func (.func 138) #[] #[]] w fun e w' => e = .returned (.int .i64 (pre dgt s.data.toList)) ∧ w = w' :=
  countFront_calls _ dgt s hs (Lib.hid (enters_of Tryz.func138 (by kernel_rfl) rfl)) (Lib.hid isDigit_calls) w
end Go.Proofs.YthilicmhdkmipaaGreatDoor
/- Contracts of package lex, second part: signs, names, numerals; what stands between tokens; what belongs together. -/
namespace Go.Proofs.YthilicmhdkmipaaGreatDoor
open Go.RowKit
set_option linter.unusedVariables false

theorem ext_drop (s : ByteArray) (k : Nat) : (s.extract k s.size).data.toList = s.data.toList.drop k := by
  simp only [ByteArray.data_extract, Array.toList_extract, List.extract_eq_take_drop]
  exact List.take_of_length_le (by rw [List.length_drop]; exact Nat.le_refl _)
theorem ext_take (s : ByteArray) (k : Nat) (h : k ≤ s.size) : (s.extract 0 k).data.toList = s.data.toList.take k := by
  simp
theorem index_line : ∀ l : List UInt8, (Lib.indexByte l 10 = (lineL l : Int) ∧ lineL l < l.length) ∨ (Lib.indexByte l 10 = -1 ∧ lineL l = l.length)
  | [] => .inr ⟨rfl, rfl⟩
  | c :: r => by
    by_cases h : c = 10
    · subst h
      refine .inl ⟨?_, ?_⟩
      · rw [show lineL (10 :: r) = 0 from pre_cons_no (by decide)]; rfl
      · rw [show lineL (10 :: r) = 0 from pre_cons_no (by decide)]; simp
    · have hn : c.toNat ≠ 10 := fun e => h (UInt8.toNat_inj.1 e)
      have e : lineL (c :: r) = lineL r + 1 := (pre_cons_yes (by simp [hn])).trans (by unfold lineL; omega)
      have hb : (c == 10) = false := by simp [h]
      rcases index_line r with ⟨h1, h2⟩ | ⟨h1, h2⟩
      · refine .inl ⟨?_, by rw [e, List.length_cons]; omega⟩
        rw [Lib.indexByte, hb, h1, e]
        have : ((lineL r : Int) == -1) = false := by rw [beq_eq_false_iff_ne]; omega
        simp [this]
      · refine .inr ⟨?_, by rw [e, h2]; rfl⟩
        rw [Lib.indexByte, hb, h1]; rfl

set_option maxHeartbeats 400000 in
theorem lineEnd_calls (s : ByteArray) (k : Nat) (hk : k ≤ s.size) (hs : s.size ≤ maxLen) (w : World) :
    Calls Tryz.prog 133 #[.string s, .int .i64 k] w fun e w' => e = .returned (.int .i64 ((k + lineL (s.data.toList.drop k) : Nat) : Int)) ∧ w = w' := by
  unfold maxLen at hs
  have H := fun w => Tryz.strings_IndexByte (s.extract k s.size) 10 w
  rw [ext_drop] at H
  have hlen : (s.data.toList.drop k).length = s.size - k := by rw [List.length_drop]; rfl
  rcases index_line (s.data.toList.drop k) with ⟨h1, h2⟩ | ⟨h1, h2⟩
  · rw [show (10 : Int).toNat.toUInt8 = 10 from rfl, h1] at H
    generalize lineL (s.data.toList.drop k) = n at *
    have HH := Lib.hid H
    rw [hlen] at h2
    clear H h1 hlen
    go_enter Tryz.func133, Tryz.ntmps133
    go_wp2_with fail
    refine (HH.out _).mono ?_; rintro e w1 ⟨rfl, rfl⟩
    go_wp2
    go_ret
    exact ⟨ret_int (by omega), rfl⟩
  · rw [show (10 : Int).toNat.toUInt8 = 10 from rfl, h1] at H
    rw [hlen] at h2
    have HH := Lib.hid H
    have H2 := Lib.hid h2
    clear H h1 h2 hlen
    go_enter Tryz.func133, Tryz.ntmps133
    go_wp2_with fail
    refine (HH.out _).mono ?_; rintro e w1 ⟨rfl, rfl⟩
    go_wp2
    go_ret
    exact ⟨ret_int (by have := H2.out; omega), rfl⟩

theorem toList_is (s : ByteArray) (l : List UInt8) : (s.toList == l) = (s.data.toList == l) := by rw [ByteArray.toList_eq]
theorem one_of {s : ByteArray} (h : s.size = 1) : ∃ c, s = ⟨#[c]⟩ := by
  obtain ⟨⟨l⟩⟩ := s
  match l, h with
  | [c], _ => exact ⟨c, rfl⟩
theorem oneL_no {s : ByteArray} (h : ¬ s.size = 1) : oneL s.data.toList = false := by
  obtain ⟨⟨l⟩⟩ := s
  match l, h with
  | [], _ => rfl
  | [c], h => exact absurd rfl h
  | a :: b :: r, _ => rfl
theorem short_index (c : UInt8) : ∀ l : List UInt8, decide (0 ≤ Lib.indexByte l c) = l.contains c
  | [] => rfl
  | b :: l => by
    have ih := short_index c l
    have hg := Lib.indexByte_ge l c
    rw [Lib.indexByte, List.contains_cons]
    by_cases h : b = c
    · subst h; simp
    · have h1 : (b == c) = false := by simp [h]
      have h2 : (c == b) = false := by simp [Ne.symm h]
      rw [h1, h2, Bool.false_or, ← ih]
      simp only [Bool.false_eq_true, if_false]
      by_cases hi : Lib.indexByte l c = -1
      · simp [hi]
      · have : (Lib.indexByte l c == -1) = false := by simp [hi]
        rw [this]
        simp only [Bool.false_eq_true, if_false]
        exact decide_eq_decide.2 (by omega)

set_option maxHeartbeats 400000 in
theorem isSign_calls (s : ByteArray) (w : World) :
    Calls Tryz.prog 139 #[.string s] w fun e w' => e = .returned (.bool (signL s.data.toList)) ∧ w = w' := by
  unfold signL
  rw [← toList_is s [61, 61], ← toList_is s [61, 62], ← toList_is s [45, 62]]
  cases h1 : (s.toList == [61, 61])
  · cases h2 : (s.toList == [61, 62])
    · cases h3 : (s.toList == [45, 62])
      · by_cases hs : s.size = 1
        · obtain ⟨c, rfl⟩ := one_of hs
          have H := Lib.hid fun w => Tryz.strings_Contains_one ⟨#[40, 41, 123, 125, 60, 62, 44, 59, 58, 61, 38, 42, 46, 43, 45, 47, 37]⟩ c w
          clear h1 h2 h3 hs
          go_enter Tryz.func139, Tryz.ntmps139
          go_wp2_with fail
          refine (H.out _).mono ?_; rintro e w1 ⟨rfl, rfl⟩
          go_wp2
          go_ret
          exact ⟨ret_bool (short_index c _), rfl⟩
        · rw [oneL_no hs]
          have hz : ((s.size : Int) == 1) = false := by simp; omega
          have hz2 : ¬ (s.size : Int) = 1 := by omega
          clear hs
          go_enter Tryz.func139, Tryz.ntmps139
          go_wp2
          go_ret
          exact ⟨rfl, rfl⟩
      · go_enter Tryz.func139, Tryz.ntmps139
        go_wp2
        go_ret
        exact ⟨rfl, rfl⟩
    · go_enter Tryz.func139, Tryz.ntmps139
      go_wp2
      go_ret
      exact ⟨rfl, rfl⟩
  · go_enter Tryz.func139, Tryz.ntmps139
    go_wp2
    go_ret
    exact ⟨rfl, rfl⟩

theorem like_pre (l : List UInt8) : (pre nameB l = l.length) ↔ l.all nameB = true := by
  constructor
  · intro h
    have hp := List.takeWhile_prefix nameB (l := l)
    have e : l.takeWhile nameB = l := hp.eq_of_length h
    rw [← e]
    exact List.all_takeWhile
  · intro h
    exact take_pre (Nat.le_refl _) (by rw [List.take_length]; exact h) (fun c hc => by simp at hc)

set_option maxHeartbeats 400000 in
theorem isNameLike_calls (s : ByteArray) (hs : s.size ≤ maxLen) (w : World) :
    Calls Tryz.prog 140 #[.string s] w fun e w' => e = .returned (.bool (likeL s.data.toList)) ∧ w = w' := by
  have H := fun w => countName_calls s hs w
  have hl : s.data.toList.length = s.size := rfl
  have hp := pre_le nameB s.data.toList
  have hlp := like_pre s.data.toList
  unfold likeL
  rw [hl] at *
  cases ha : s.data.toList.all nameB
  · have hne : ¬ pre nameB s.data.toList = s.size := fun e => by rw [hlp.1 e] at ha; cases ha
    generalize pre nameB s.data.toList = n at *
    have HH := Lib.hid H
    have hz : ((n : Int) == (s.size : Int)) = false := by simp; omega
    clear H ha hlp hl
    unfold maxLen at hs
    by_cases h16 : s.size ≤ 16
    · have e1 : (s.size : Int) ≤ 16 := by omega
      go_enter Tryz.func140, Tryz.ntmps140
      go_wp2_with fail
      refine (HH.out _).mono ?_; rintro e w1 ⟨rfl, rfl⟩
      go_wp2
      go_ret
      exact ⟨ret_bool (by simp), rfl⟩
    · have e1 : 16 < (s.size : Int) := by omega
      go_enter Tryz.func140, Tryz.ntmps140
      go_wp2
      go_ret
      exact ⟨ret_bool (by simp), rfl⟩
  · have hne : pre nameB s.data.toList = s.size := hlp.2 ha
    rw [hne] at H
    have HH := Lib.hid H
    clear H ha hlp hl hne hp
    unfold maxLen at hs
    by_cases h16 : s.size ≤ 16
    · have e1 : (s.size : Int) ≤ 16 := by omega
      go_enter Tryz.func140, Tryz.ntmps140
      go_wp2_with fail
      refine (HH.out _).mono ?_; rintro e w1 ⟨rfl, rfl⟩
      go_wp2
      go_ret
      exact ⟨ret_bool (by simp [h16]), rfl⟩
    · have e1 : 16 < (s.size : Int) := by omega
      go_enter Tryz.func140, Tryz.ntmps140
      go_wp2
      go_ret
      exact ⟨rfl, rfl⟩

set_option maxHeartbeats 400000 in
theorem isNumeral_calls (s : ByteArray) (hs : s.size ≤ maxLen) (w : World) :
    Calls Tryz.prog 141 #[.string s] w fun e w' => e = .returned (.bool (decide (pe s.data.toList = 0))) ∧ Below w.heap.size w w' := by
  have H := Lib.hid fun w => parse_calls s hs w
  generalize pv s.data.toList = x at *
  generalize pe s.data.toList = y at *
  go_enter Tryz.func141, Tryz.ntmps141
  go_wp2_with fail
  refine (H.out _).mono ?_; rintro e w1 ⟨rfl, b1⟩
  go_wp2
  go_ret
  exact ⟨ret_bool (by rw [Bool.eq_iff_iff]; simp), b1⟩

theorem blank_index (c : UInt8) : decide (0 ≤ Lib.indexByte [32, 9, 10, 13] c) = blankB c := by
  rw [short_index, Bool.eq_iff_iff]
  simp only [List.contains_cons, List.contains_nil, Bool.or_false, Bool.or_eq_true, beq_iff_eq, blankB, decide_eq_true_eq]
  have h : ∀ d : UInt8, c = d ↔ c.toNat = d.toNat := fun d => ⟨fun e => by rw [e], fun e => UInt8.toNat_inj.1 e⟩
  rw [h 32, h 9, h 10, h 13]; rfl
theorem drop_byte {s : ByteArray} {k : Nat} (h : k < s.size) : s.data.toList.drop k = s[k] :: s.data.toList.drop (k + 1) := by
  rw [List.drop_eq_getElem_cons (by simpa using h)]; rfl
theorem slashes (l : List UInt8) : Lib.hasPrefix l [47, 47] = (headB (fun d => decide (d.toNat = 47)) l && headB (fun d => decide (d.toNat = 47)) (l.drop 1)) := by
  have h : ∀ d : UInt8, ((47 : UInt8) == d) = decide (d.toNat = 47) := fun d => by
    rw [Bool.eq_iff_iff, beq_iff_eq, decide_eq_true_eq]
    exact ⟨fun e => by rw [← e]; rfl, fun e => (UInt8.toNat_inj.1 e).symm⟩
  match l with
  | [] => rfl
  | [c] => show ((47 : UInt8) == c && false) = _; rw [h]; rfl
  | c :: d :: r => show ((47 : UInt8) == c && ((47 : UInt8) == d && true)) = _; rw [h, h, Bool.and_true]; rfl
theorem head47 {l : List UInt8} (h : headB (fun d => decide (d.toNat = 47)) l = true) : ∃ r, l = 47 :: r := by
  cases l with
  | nil => cases h
  | cons c r => exact ⟨r, by rw [show c = 47 from UInt8.toNat_inj.1 (by simpa [headB] using h)]⟩
theorem gap_remark {l : List UInt8} (h : Lib.hasPrefix l [47, 47] = true) : 2 ≤ lineL l ∧ gapF false l = lineL l + gapF false (l.drop (lineL l)) := by
  rw [slashes, Bool.and_eq_true] at h
  obtain ⟨r, rfl⟩ := head47 h.1
  obtain ⟨r, rfl⟩ := head47 (l := r) h.2
  have e : lineL (47 :: 47 :: r) = lineL r + 2 := by
    unfold lineL
    rw [pre_cons_yes (by decide), pre_cons_yes (by decide)]; omega
  rw [e, gapF_slash, gapF_line]
  exact ⟨by omega, by rw [List.drop_succ_cons, List.drop_succ_cons]; omega⟩
theorem gap_stop {s : ByteArray} {j : Nat} (hj : j < s.size) (hb : blankB s[j] = false) (h : Lib.hasPrefix (s.data.toList.drop j) [47, 47] = false) : gapF false (s.data.toList.drop j) = 0 := by
  rw [drop_byte hj] at h ⊢
  refine gapF_none hb fun h2 => ?_
  rw [slashes] at h
  rw [List.drop_succ_cons, List.drop_zero, h2.2, Bool.and_true] at h
  simp [headB, h2.1] at h

set_option maxHeartbeats 1000000 in
theorem pastBetween_calls (s : ByteArray) (k : Nat) (hk : k ≤ s.size) (hs : s.size ≤ maxLen) (w : World) :
    Calls Tryz.prog 80 #[.string s, .int .i64 k] w fun e w' => e = .returned (.int .i64 ((k + gapF false (s.data.toList.drop k) : Nat) : Int)) ∧ w = w' := by
  have hL := Lib.hid fun (j : Nat) (hj : j ≤ s.size) (w : World) => lineEnd_calls s j hj hs w
  unfold maxLen at hs
  generalize hG : k + gapF false (s.data.toList.drop k) = G
  have HG := Lib.hid hG
  clear hG
  go_enter Tryz.func80, Tryz.ntmps80
  go_wp2
  go_loop [1] (fun i => ∃ j : Nat, j ≤ s.size ∧ i = .int .i64 j ∧ Hid (j + gapF false (s.data.toList.drop j) = G)) (fun i => s.size - (intOf i).toNat)
  case atStart => exact ⟨k, hk, rfl, HG⟩
  case round =>
    clear HG hk k
    obtain ⟨j, hj, rfl, hg⟩ := hrel
    by_cases hlt : j < s.size
    · have H1 := fun w => Tryz.strings_IndexByte ⟨#[32, 9, 10, 13]⟩ (s[j].toNat : Int) w
      rw [show ((s[j].toNat : Int)).toNat.toUInt8 = s[j] from by simp] at H1
      have hbi := blank_index s[j]
      have hge := Lib.indexByte_ge [32, 9, 10, 13] s[j]
      cases hb : blankB s[j]
      · rw [hb, decide_eq_false_iff_not] at hbi
        generalize Lib.indexByte [32, 9, 10, 13] s[j] = x at *
        have hx : x < 0 := by omega
        have HH := Lib.hid H1
        have H2 := fun w => Tryz.strings_HasPrefix (s.extract j s.size) ⟨#[47, 47]⟩ w
        rw [ext_drop, show (⟨#[47, 47]⟩ : ByteArray).data.toList = [47, 47] from rfl] at H2
        cases hm : Lib.hasPrefix (s.data.toList.drop j) [47, 47]
        · have hz := Lib.hid (gap_stop hlt hb hm)
          rw [hm] at H2
          have HH2 := Lib.hid H2
          clear H1 H2 hm hb hge hbi
          go_wp2_with fail
          refine (HH.out _).mono ?_; rintro e w1 ⟨rfl, rfl⟩
          go_wp2_with fail
          refine (HH2.out _).mono ?_; rintro e w1 ⟨rfl, rfl⟩
          go_wp2
          go_ret
          exact ⟨ret_int (by have := hg.out; rw [hz.out] at this; omega), rfl⟩
        · obtain ⟨r1, r2⟩ := gap_remark hm
          have r3 := lineL_le (s.data.toList.drop j)
          rw [List.length_drop, show s.data.toList.length = s.size from rfl] at r3
          rw [List.drop_drop] at r2
          have H3 := fun w => hL.out j (by omega) w
          generalize hn : lineL (s.data.toList.drop j) = n at *
          have R2 := Lib.hid r2
          rw [hm] at H2
          have HH2 := Lib.hid H2
          have HH3 := Lib.hid H3
          have Hn := Lib.hid hn
          clear H1 H2 H3 hm hb hge hbi r2 hn
          go_wp2_with fail
          refine (HH.out _).mono ?_; rintro e w1 ⟨rfl, rfl⟩
          go_wp2_with fail
          refine (HH2.out _).mono ?_; rintro e w1 ⟨rfl, rfl⟩
          go_wp2_with fail
          refine (HH3.out _).mono ?_; rintro e w1 ⟨rfl, rfl⟩
          go_wp2
          go_round
          case rel => exact ⟨j + n, by omega, by go_num, Lib.hid (by have := hg.out; rw [R2.out] at this; omega)⟩
          case measure => simp [intOf]; omega
      · rw [hb, decide_eq_true_eq] at hbi
        generalize Lib.indexByte [32, 9, 10, 13] s[j] = x at *
        have HH := Lib.hid H1
        have Hb := Lib.hid hb
        clear H1 hb hge
        go_wp2_with fail
        refine (HH.out _).mono ?_; rintro e w1 ⟨rfl, rfl⟩
        go_wp2
        go_round
        case rel => exact ⟨j + 1, by omega, by go_num, Lib.hid (by have := hg.out; rw [drop_byte hlt, gapF_blank Hb.out] at this; omega)⟩
        case measure => simp [intOf]; omega
    · obtain rfl : j = s.size := by omega
      go_wp2
      go_ret
      exact ⟨ret_int (by rw [← hg.out, List.drop_of_length_le (by simp)]; rfl), rfl⟩
end Go.Proofs.YthilicmhdkmipaaGreatDoor
/- How long an expression's text is that is not too great; that it isn't empty. -/
namespace Go.Proofs.YthilicmhdkmipaaGreatDoor
open Go.RowKit
set_option linter.unusedVariables false

theorem i64_geS {x : Int} (h : I64 x) : -9223372036854775808 ≤ x := by
  unfold I64 at h
  simp only [Lit.wf, Bool.and_eq_true, decide_eq_true_eq] at h
  have b : IntKind.i64.min = -9223372036854775808 := by decide
  omega
def sumW : List PE → Nat
  | [] => 0
  | x :: l => wtT (tokE x) + 20 + sumW l
theorem rest_w : ∀ l : List PE, wtT (restT (tokEs l)) + 18 * l.length ≤ sumW l
  | [] => by rw [tokEs, restT]; simp [wtT, sumW]
  | x :: l => by
    rw [tokEs, restT, sumW, List.length_cons]
    have := rest_w l
    simp only [wtT, wtT_app, wComma, List.cons_append, List.length_cons, List.length_nil]; omega
theorem joinT_consS (a : List TkB) (l : List (List TkB)) : joinT (a :: l) = a ++ restT l := joinT_cons a l
theorem join_w (l : List PE) : wtT (joinT (tokEs l)) + 18 * l.length ≤ sumW l := by
  cases l with
  | nil => rw [tokEs]; simp [wtT, sumW, joinT]
  | cons x l =>
    rw [tokEs, joinT_consS, wtT_app, sumW, List.length_cons]
    have := rest_w l; omega
theorem restP_w : ∀ (ns : List ByteArray) (l : List PE), wtT (restT (pairsT ns (tokEs l))) ≤ sumW l + wtT (ns.map kT)
  | [], l => by rw [pairsT]; simp [wtT, restT]; intro _ _ _ _ h; cases h
  | n :: ns, [] => by rw [tokEs, pairsT]; simp [wtT, restT]; intro _ _ _ _ _ h; cases h
  | n :: ns, x :: l => by
    rw [tokEs, pairsT, restT, sumW, List.map_cons]
    have := restP_w ns l
    simp only [wtT, wtT_app, wComma, wGives, List.cons_append, List.length_cons, List.length_nil]; omega
theorem joinP_w (ns : List ByteArray) (l : List PE) : wtT (joinT (pairsT ns (tokEs l))) ≤ sumW l + wtT (ns.map kT) := by
  match ns, l with
  | [], l => rw [pairsT]; simp [wtT, joinT]; intro _ _ _ _ h; cases h
  | n :: ns, [] => rw [tokEs, pairsT]; simp [wtT, joinT]; intro _ _ _ _ _ h; cases h
  | n :: ns, x :: l =>
    rw [tokEs, pairsT, joinT_consS, wtT_app, sumW, List.map_cons, wtT]
    have := restP_w ns l
    simp only [wtT, wGives, List.length_cons, List.length_nil]; omega
theorem enum_w (l : List PE) : wtT (enumT (tokEs l)) ≤ sumW l := by
  cases l with
  | nil => rw [tokEs]; simp [enumT, wtT]
  | cons x l => rw [tokEs, enumT, sumW]; simp only [wtT, wtT_app, wOpen, wEnd, List.length_cons, List.length_nil]; omega
theorem getD_w (l : List PE) : wtT ((tokEs l).getD 0 []) + wtT ((tokEs l).getD 1 []) ≤ sumW l := by
  match l with
  | [] => rw [tokEs]; simp [wtT]
  | [x] => rw [tokEs, tokEs]; simp [sumW, wtT]
  | x :: y :: l => rw [tokEs, tokEs]; simp [sumW]; omega
theorem side_w (k : Nat) (op : Int) (ts : List TkB) : wtT (sideT k op ts) ≤ wtT ts + 4 := by
  unfold sideT
  split
  · omega
  · simp only [wtT, wtT_app, wOpen, wEnd, List.length_cons, List.length_nil]; omega
theorem placeT_w (p : PP) (l : List PE) : wtT (placeT p (tokEs l)) ≤ wtT (tokP p) + sumW l := by
  unfold placeT
  split
  · have := join_w l; omega
  · cases l with
    | nil => rw [tokEs]; simp
    | cons x l =>
      have h := join_w (x :: l)
      rw [tokEs] at h ⊢
      rw [List.length_cons] at h
      simp only [wtT_app, wtT, wComma, List.length_cons, List.length_nil]; omega
theorem sumW_nonneg (l : List PE) : (0 : Int) ≤ (sumW l : Int) := by omega
mutual
theorem exprR_w {B : Nat} {w : World} : ∀ (x : PE) (v : VE) (m : Int), x.In B w v → 0 ≤ exprR x m → (wtT (tokE x) : Int) + 20 ≤ 5 * (m - exprR x m)
  | .mk op i n s p l pos, v, m, hx, h => by
    obtain ⟨⟨_, hi, _, _, _⟩, _, b, o, _, hr⟩ := hx
    rw [exprR] at h ⊢
    by_cases h0 : placeR p (nameR (nameR m n.size) s.size) < 0
    · rw [exprsR_neg _ _ h0] at h; omega
    have hp := placeR_w p (nameR (nameR m n.size) s.size) (by omega)
    have h1 : 0 ≤ nameR (nameR m n.size) s.size := by omega
    have e1 := nameR_ok h1
    have e2 := nameR_ok (m := m) (n := n.size) (by omega)
    have ih := exprsR_w l o (placeR p (nameR (nameR m n.size) s.size)) hr h
    have hj := join_w l
    have hjp := joinP_w p.path l
    have he := enum_w l
    have hg := getD_w l
    have hpl := placeT_w p l
    have hit := Lib.itoa_length_le i (i64_geS hi) (i64_lt hi)
    have hw := exprWord_len op
    have hkn := kT_len n
    have hks := kT_len s
    have s1 := side_w (strongB op) (opAt l 0) ((tokEs l).getD 0 [])
    have s2 := side_w (leftB op) (opAt l 0) ((tokEs l).getD 0 [])
    have s3 := side_w (strongB op + 1) (opAt l 1) ((tokEs l).getD 1 [])
    have hb : (boolWord i).length ≤ 5 := by unfold boolWord; split <;> simp
    generalize exprsR l (placeR p (nameR (nameR m n.size) s.size)) = r at *
    generalize placeR p (nameR (nameR m n.size) s.size) = r2 at *
    suffices H : ∀ ts, tokE (.mk op i n s p l pos) = ts → (wtT ts : Int) + 20 ≤ 5 * (m - r) from H _ rfl
    intro ts hts
    rw [tokE] at hts
    by_cases c : op = 1
    · rw [if_pos c] at hts
      subst hts
      simp only [wtT]
      omega
    rw [if_neg c] at hts
    clear c
    by_cases c : op = 2
    · rw [if_pos c] at hts
      subst hts
      simp only [wtT]
      omega
    rw [if_neg c] at hts
    clear c
    by_cases c : op = 3
    · rw [if_pos c] at hts
      subst hts
      simp only [wtT, wOpen, wEnd, List.length_cons, List.length_nil]
      omega
    rw [if_neg c] at hts
    clear c
    by_cases c : op = 4
    · rw [if_pos c] at hts
      subst hts
      omega
    rw [if_neg c] at hts
    clear c
    by_cases c : op = 5
    · rw [if_pos c] at hts
      subst hts
      simp only [wtT, wAmp, List.length_cons, List.length_nil]
      omega
    rw [if_neg c] at hts
    clear c
    by_cases c : op = 6
    · rw [if_pos c] at hts
      subst hts
      simp only [wtT, wAmp, wMut, List.length_cons, List.length_nil]
      omega
    rw [if_neg c] at hts
    clear c
    by_cases c : op = 18
    · rw [if_pos c] at hts
      subst hts
      simp only [wtT, wtT_app, wOpen, wEnd, List.length_cons, List.length_nil]
      omega
    rw [if_neg c] at hts
    clear c
    by_cases c : op = 19
    · rw [if_pos c] at hts
      subst hts
      simp only [wtT, wtT_app, wLeft, wRight, List.length_cons, List.length_nil]
      omega
    rw [if_neg c] at hts
    clear c
    by_cases c : op = 20
    · rw [if_pos c] at hts
      subst hts
      simp only [wtT, wDot, List.length_cons, List.length_nil]
      omega
    rw [if_neg c] at hts
    clear c
    by_cases c : op = 7 ∨ op = 8
    · rw [if_pos c] at hts
      subst hts
      simp only [wtT]
      omega
    rw [if_neg c] at hts
    clear c
    by_cases c : 9 ≤ op ∧ op ≤ 17
    · rw [if_pos c] at hts
      subst hts
      simp only [wtT, wtT_app]
      omega
    rw [if_neg c] at hts
    clear c
    subst hts
    simp only [wtT, wtT_app, wOpen, wEnd, List.length_cons, List.length_nil]
    omega
theorem exprsR_w {B : Nat} {w : World} {b : Nat} : ∀ (l : List PE) (o : Nat) (m : Int), PE.Row B w b o l → 0 ≤ exprsR l m → (sumW l : Int) ≤ 5 * (m - exprsR l m)
  | [], o, m, _, h => by rw [exprsR, sumW]; simp
  | x :: l, o, m, hr, h => by
    obtain ⟨⟨v, _, hx⟩, hr⟩ := hr
    rw [exprsR] at h ⊢
    by_cases h0 : m < 0
    · rw [if_pos h0] at h; omega
    rw [if_neg h0] at h ⊢
    by_cases h1 : exprR x m < 0
    · rw [exprsR_neg _ _ h1] at h; omega
    have a := exprR_w x v m hx (by omega)
    have c := exprsR_w l (o + 8) (exprR x m) hr h
    rw [sumW]
    omega
end
/-! ### texts that aren't empty -/
theorem line_ne {a : List TkB} {t : TkB} (h : t ∈ a) (ht : t ≠ []) : lineT a ≠ [] := by
  have : ∀ (a : List TkB) (g : TkB), t ∈ a → puts g a ≠ [] := by
    intro a
    induction a with
    | nil => intro g h; cases h
    | cons u a ih =>
      intro g h e
      rw [puts] at e
      simp at e
      rcases List.mem_cons.1 h with rfl | h
      · exact ht e.2.1
      · exact ih [32] h e.2.2
  exact this a [] h
end Go.Proofs.YthilicmhdkmipaaGreatDoor
