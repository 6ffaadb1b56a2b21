/- The plain part beneath layer 2: what a text's tokens are, over its bytes. -/
import Derived.Test.YtekmkepaokdbmaaSays
import Derived.Lib.Bytealg
import Derived.Lib.Fields
namespace Go.Proofs.Ytekmkepaokdbmaa
open Go.RowKit
set_option linter.unusedVariables false

def smallB (c : UInt8) : Bool := decide (97 ≤ c.toNat ∧ c.toNat ≤ 122)
def greatB (c : UInt8) : Bool := decide (65 ≤ c.toNat ∧ c.toNat ≤ 90)
def nameB (c : UInt8) : Bool := smallB c || greatB c || dgt c || decide (c.toNat = 95)
def blankB (c : UInt8) : Bool := decide (c.toNat = 32 ∨ c.toNat = 9 ∨ c.toNat = 10 ∨ c.toNat = 13)
/-- the words, as the chapter lists them -/
def wordsL : List (List UInt8) := [
  [108, 101, 116], [105, 102], [101, 108, 115, 101], [119, 104, 105, 108, 101], [109, 97, 116, 99, 104], [115, 99, 111, 112, 101],
  [115, 112, 97, 119, 110], [108, 111, 99, 107], [97, 115], [99, 104, 97, 110], [100, 114, 111, 112], [102, 110],
  [115, 116, 114, 117, 99, 116], [101, 110, 117, 109], [116, 114, 117, 101], [102, 97, 108, 115, 101], [97, 110, 100], [111, 114],
  [110, 111, 116], [105, 110, 116], [98, 111, 111, 108], [117, 110, 105, 116], [109, 117, 116], [98, 111, 120],
  [117, 110, 98, 111, 120], [99, 101, 108, 108], [103, 101, 116], [115, 101, 116], [114, 99], [97, 114, 99],
  [99, 108, 111, 110, 101], [109, 117, 116, 101, 120], [111, 112, 101, 110], [97, 116, 111, 109, 105, 99], [108, 111, 97, 100], [115, 116, 111, 114, 101],
  [102, 101, 116, 99, 104], [115, 101, 110, 100], [114, 101, 99, 118], [66, 111, 120], [67, 101, 108, 108], [82, 99],
  [65, 114, 99], [77, 117, 116, 101, 120], [65, 116, 111, 109, 105, 99], [83, 101, 110, 100, 101, 114], [82, 101, 99, 101, 105, 118, 101, 114]]
/-- the signs of one byte -/
def shortL : List UInt8 := [40, 41, 123, 125, 60, 62, 44, 59, 58, 61, 38, 42, 46, 43, 45, 47, 37]
def headB (p : UInt8 → Bool) : List UInt8 → Bool
  | [] => false
  | c :: _ => p c
def likeL (l : List UInt8) : Bool := decide (l.length ≤ 16) && l.all nameB
def oneL : List UInt8 → Bool
  | [c] => shortL.contains c
  | _ => false
def signL (l : List UInt8) : Bool := l == [61, 61] || l == [61, 62] || l == [45, 62] || oneL l
/-- of which kind of token the whole of a text is: 0, if it is none -/
def kindL (l : List UInt8) : Nat :=
  if l = [] then 0 else if wordsL.contains l = true then 1
  else if (headB smallB l && likeL l) = true then 2 else if (headB greatB l && likeL l) = true then 3
  else if (headB dgt l && decide (pe l = 0)) = true then 4 else if signL l = true then 5 else 0
def pre (p : UInt8 → Bool) (l : List UInt8) : Nat := (l.takeWhile p).length
/-- how many bytes at the beginning of a text belong together -/
def togL (l : List UInt8) : Nat :=
  if (headB smallB l || headB greatB l) = true then pre nameB l else if headB dgt l = true then pre dgt l
  else if (decide (1 < l.length) && signL (l.take 2)) = true then 2 else 1
/-- how many bytes of blanks and remarks stand at the beginning of a text; whether one is in a remark there -/
def gapF : Bool → List UInt8 → Nat
  | _, [] => 0
  | true, c :: r => 1 + gapF (decide (c.toNat ≠ 10)) r
  | false, c :: r => if blankB c = true then 1 + gapF false r else if c.toNat = 47 ∧ headB (fun d => decide (d.toNat = 47)) r = true then 1 + gapF true r else 0
abbrev Tok := Nat × List UInt8 × Nat
/-- the tokens of a text, and where it is none: at most n of them -/
def lexF : Nat → List UInt8 → Nat → List Tok × Option Nat
  | 0, _, _ => ([], none)
  | n + 1, l, p =>
    if l.drop (gapF false l) = [] then ([], none)
    else if kindL ((l.drop (gapF false l)).take (togL (l.drop (gapF false l)))) = 0 then ([], some (p + gapF false l))
    else ((kindL ((l.drop (gapF false l)).take (togL (l.drop (gapF false l)))), (l.drop (gapF false l)).take (togL (l.drop (gapF false l))), p + gapF false l) ::
        (lexF n ((l.drop (gapF false l)).drop (togL (l.drop (gapF false l)))) (p + gapF false l + togL (l.drop (gapF false l)))).1,
      (lexF n ((l.drop (gapF false l)).drop (togL (l.drop (gapF false l)))) (p + gapF false l + togL (l.drop (gapF false l)))).2)
def lexL (l : List UInt8) (p : Nat) : List Tok × Option Nat := lexF l.length l p

/-! ### what belongs together -/
theorem pre_le (p : UInt8 → Bool) (l : List UInt8) : pre p l ≤ l.length := List.IsPrefix.length_le (List.takeWhile_prefix p)
theorem pre_cons_yes {p : UInt8 → Bool} {c : UInt8} {r : List UInt8} (h : p c = true) : pre p (c :: r) = 1 + pre p r := by
  unfold pre; rw [List.takeWhile_cons, if_pos h, List.length_cons]; omega
theorem pre_cons_no {p : UInt8 → Bool} {c : UInt8} {r : List UInt8} (h : p c = false) : pre p (c :: r) = 0 := by
  unfold pre; rw [List.takeWhile_cons, if_neg (by rw [h]; simp)]; rfl
theorem small_name {c : UInt8} (h : smallB c = true) : nameB c = true := by simp [nameB, h]
theorem great_name {c : UInt8} (h : greatB c = true) : nameB c = true := by simp [nameB, h]
theorem dgt_name {c : UInt8} (h : dgt c = true) : nameB c = true := by simp [nameB, h]
theorem togL_pos {l : List UInt8} (h : l ≠ []) : 1 ≤ togL l := by
  cases l with
  | nil => exact absurd rfl h
  | cons c r =>
    have hs : headB smallB (c :: r) = smallB c := rfl
    have hg : headB greatB (c :: r) = greatB c := rfl
    have hd : headB dgt (c :: r) = dgt c := rfl
    unfold togL
    by_cases h1 : (headB smallB (c :: r) || headB greatB (c :: r)) = true
    · rw [if_pos h1]
      rw [Bool.or_eq_true, hs, hg] at h1
      rw [pre_cons_yes (h1.elim small_name great_name)]; omega
    · rw [if_neg h1]
      by_cases h2 : headB dgt (c :: r) = true
      · rw [if_pos h2, pre_cons_yes (hd.symm.trans h2)]; omega
      · rw [if_neg h2]; split <;> omega
theorem togL_le {l : List UInt8} (h : l ≠ []) : togL l ≤ l.length := by
  unfold togL
  split
  · exact pre_le _ _
  · split
    · exact pre_le _ _
    · split
      · rename_i h3
        simp only [Bool.and_eq_true, decide_eq_true_eq] at h3
        omega
      · cases l with
        | nil => exact absurd rfl h
        | cons c r => simp

/-! ### what stands between -/
theorem gapF_le : ∀ (b : Bool) (l : List UInt8), gapF b l ≤ l.length
  | true, [] => by simp [gapF]
  | false, [] => by simp [gapF]
  | true, c :: r => by have := gapF_le (decide (c.toNat ≠ 10)) r; rw [gapF]; simp only [List.length_cons]; omega
  | false, c :: r => by
    have h1 := gapF_le false r
    have h2 := gapF_le true r
    rw [gapF]
    simp only [List.length_cons]
    split
    · omega
    · split <;> omega
theorem gapF_blank {c : UInt8} {r : List UInt8} (h : blankB c = true) : gapF false (c :: r) = 1 + gapF false r := by
  rw [gapF, if_pos h]
theorem gapF_slash (r : List UInt8) : gapF false (47 :: 47 :: r) = 2 + gapF true r := by
  rw [gapF, if_neg (by decide), if_pos ⟨rfl, rfl⟩, gapF, show decide ((47 : UInt8).toNat ≠ 10) = true from by decide]; omega
theorem gapF_none {c : UInt8} {r : List UInt8} (h : blankB c = false) (h2 : ¬ (c.toNat = 47 ∧ headB (fun d => decide (d.toNat = 47)) r = true)) : gapF false (c :: r) = 0 := by
  rw [gapF, if_neg (by rw [h]; simp), if_neg h2]
theorem gapF_drop : ∀ (b : Bool) (l : List UInt8), gapF false (l.drop (gapF b l)) = 0
  | true, [] => by simp [gapF]
  | false, [] => by simp [gapF]
  | true, c :: r => by
    rw [gapF, show 1 + gapF (decide (c.toNat ≠ 10)) r = gapF (decide (c.toNat ≠ 10)) r + 1 from by omega, List.drop_succ_cons]; exact gapF_drop _ r
  | false, c :: r => by
    by_cases h : blankB c = true
    · rw [gapF_blank h, show 1 + gapF false r = gapF false r + 1 from by omega, List.drop_succ_cons]; exact gapF_drop _ r
    · by_cases h2 : c.toNat = 47 ∧ headB (fun d => decide (d.toNat = 47)) r = true
      · have e : gapF false (c :: r) = gapF true r + 1 := by rw [gapF, if_neg h, if_pos h2]; omega
        rw [e, List.drop_succ_cons]; exact gapF_drop _ r
      · have e := gapF_none (by simpa using h) h2
        rw [e, List.drop_zero, e]
/-- the end of a line -/
def lineL (l : List UInt8) : Nat := pre (fun c => decide (c.toNat ≠ 10)) l
theorem gapF_line : ∀ l : List UInt8, gapF true l = lineL l + gapF false (l.drop (lineL l))
  | [] => by simp [gapF, lineL, pre]
  | c :: r => by
    by_cases h : c.toNat = 10
    · have e : lineL (c :: r) = 0 := pre_cons_no (by simp [h])
      rw [e, List.drop_zero, gapF_blank (by simp [blankB, h]), gapF]
      simp [h]
    · have e : lineL (c :: r) = lineL r + 1 := (pre_cons_yes (by simp [h])).trans (by unfold lineL; omega)
      rw [e, List.drop_succ_cons, gapF, show decide (c.toNat ≠ 10) = true from by simp [h], gapF_line r]; omega
theorem lineL_le (l : List UInt8) : lineL l ≤ l.length := pre_le _ _

/-! ### the tokens -/
theorem lexF_fuel : ∀ (n m : Nat) (l : List UInt8) (p : Nat), l.length ≤ n → l.length ≤ m → lexF n l p = lexF m l p
  | 0, 0, l, p, _, _ => rfl
  | 0, m + 1, l, p, h, _ => by
    obtain rfl : l = [] := List.eq_nil_of_length_eq_zero (by omega)
    simp [lexF, gapF]
  | n + 1, 0, l, p, _, h => by
    obtain rfl : l = [] := List.eq_nil_of_length_eq_zero (by omega)
    simp [lexF, gapF]
  | n + 1, m + 1, l, p, h1, h2 => by
    rw [lexF, lexF]
    by_cases hr : l.drop (gapF false l) = []
    · rw [if_pos hr, if_pos hr]
    · have hk := togL_pos hr
      have hlen : ((l.drop (gapF false l)).drop (togL (l.drop (gapF false l)))).length < l.length := by
        have : 0 < (l.drop (gapF false l)).length := List.length_pos_iff.2 hr
        rw [List.length_drop, List.length_drop] at *
        omega
      rw [if_neg hr, if_neg hr, lexF_fuel n m _ _ (by omega) (by omega)]
theorem lexL_end {l : List UInt8} {p : Nat} (h : l.drop (gapF false l) = []) : lexL l p = ([], none) := by
  unfold lexL
  cases hl : l.length with
  | zero => rfl
  | succ n => rw [lexF, if_pos h]
theorem lexL_bad {l : List UInt8} {p : Nat} (hr : l ≠ []) (hg : gapF false l = 0) (hk : kindL (l.take (togL l)) = 0) : lexL l p = ([], some p) := by
  unfold lexL
  cases hl : l.length with
  | zero => exact absurd (List.eq_nil_of_length_eq_zero hl) hr
  | succ n => rw [lexF, hg, List.drop_zero, if_neg hr, if_pos hk]; rfl
theorem lexL_step {l : List UInt8} {p : Nat} (hr : l ≠ []) (hg : gapF false l = 0) (hk : kindL (l.take (togL l)) ≠ 0) :
    lexL l p = ((kindL (l.take (togL l)), l.take (togL l), p) :: (lexL (l.drop (togL l)) (p + togL l)).1, (lexL (l.drop (togL l)) (p + togL l)).2) := by
  have h1 : lexL l p = lexF (l.length - 1 + 1) l p := by
    have := List.length_pos_iff.2 hr
    unfold lexL
    rw [show l.length - 1 + 1 = l.length from by omega]
  have hp := togL_pos hr
  rw [h1, lexF, hg, List.drop_zero, if_neg hr, if_neg hk, Nat.add_zero]
  unfold lexL
  rw [lexF_fuel (l.length - 1) (l.drop (togL l)).length _ _ (by rw [List.length_drop]; omega) (Nat.le_refl _)]
theorem lexL_gap (l : List UInt8) (p : Nat) : lexL l p = lexL (l.drop (gapF false l)) (p + gapF false l) := by
  have hg := gapF_drop false l
  by_cases hr : l.drop (gapF false l) = []
  · rw [lexL_end hr, hr]; rfl
  · have hne : l ≠ [] := by intro e; subst e; simp at hr
    have h1 : lexL l p = lexF (l.length - 1 + 1) l p := by
      have := List.length_pos_iff.2 hne
      unfold lexL
      rw [show l.length - 1 + 1 = l.length from by omega]
    have hp := togL_pos hr
    have hlen : ((l.drop (gapF false l)).drop (togL (l.drop (gapF false l)))).length ≤ l.length - 1 := by
      have : 0 < (l.drop (gapF false l)).length := List.length_pos_iff.2 hr
      rw [List.length_drop, List.length_drop] at *
      omega
    rw [h1, lexF, if_neg hr]
    by_cases hk : kindL ((l.drop (gapF false l)).take (togL (l.drop (gapF false l)))) = 0
    · rw [if_pos hk, lexL_bad hr hg hk]
    · rw [if_neg hk, lexL_step hr hg hk]
      unfold lexL
      rw [lexF_fuel (l.length - 1) _ _ _ hlen (Nat.le_refl _)]
end Go.Proofs.Ytekmkepaokdbmaa
