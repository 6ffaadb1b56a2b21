/- The plain part beneath layer 2: what a text's tokens are, over its bytes. -/
import Derived.Test.YthilicmhdkmipaaGreatDoorQJoinAX
import Derived.Lib.Bytealg
import Derived.Lib.Fields
import Derived.Test.YthilicmhdkmipaaGreatDoorQTreeMath
namespace Go.Proofs.YthilicmhdkmipaaGreatDoor
open Go.RowKit
set_option linter.unusedVariables false

def smallB (c : UInt8) : Bool := decide (97 ≤ c.toNat ∧ c.toNat ≤ 122)
def greatB (c : UInt8) : Bool := decide (65 ≤ c.toNat ∧ c.toNat ≤ 90)
def nameB (c : UInt8) : Bool := smallB c || greatB c || dgt c || decide (c.toNat = 95)
def blankB (c : UInt8) : Bool := decide (c.toNat = 32 ∨ c.toNat = 9 ∨ c.toNat = 10 ∨ c.toNat = 13)
/-- the words, as the chapter lists them -/
def wordsL : List (List UInt8) := [
  [108, 101, 116], [105, 102], [101, 108, 115, 101], [119, 104, 105, 108, 101], [109, 97, 116, 99, 104], [115, 99, 111, 112, 101],
  [115, 112, 97, 119, 110], [108, 111, 99, 107], [97, 115], [99, 104, 97, 110], [100, 114, 111, 112], [102, 110],
  [115, 116, 114, 117, 99, 116], [101, 110, 117, 109], [116, 114, 117, 101], [102, 97, 108, 115, 101], [97, 110, 100], [111, 114],
  [110, 111, 116], [105, 110, 116], [98, 111, 111, 108], [117, 110, 105, 116], [109, 117, 116], [98, 111, 120],
  [117, 110, 98, 111, 120], [99, 101, 108, 108], [103, 101, 116], [115, 101, 116], [114, 99], [97, 114, 99],
  [99, 108, 111, 110, 101], [109, 117, 116, 101, 120], [111, 112, 101, 110], [97, 116, 111, 109, 105, 99], [108, 111, 97, 100], [115, 116, 111, 114, 101],
  [102, 101, 116, 99, 104], [115, 101, 110, 100], [114, 101, 99, 118], [66, 111, 120], [67, 101, 108, 108], [82, 99],
  [65, 114, 99], [77, 117, 116, 101, 120], [65, 116, 111, 109, 105, 99], [83, 101, 110, 100, 101, 114], [82, 101, 99, 101, 105, 118, 101, 114]]
/-- the signs of one byte -/
def shortL : List UInt8 := [40, 41, 123, 125, 60, 62, 44, 59, 58, 61, 38, 42, 46, 43, 45, 47, 37]
def headB (p : UInt8 → Bool) : List UInt8 → Bool
  | [] => false
  | c :: _ => p c
def likeL (l : List UInt8) : Bool := decide (l.length ≤ 16) && l.all nameB
def oneL : List UInt8 → Bool
  | [c] => shortL.contains c
  | _ => false
def signL (l : List UInt8) : Bool := l == [61, 61] || l == [61, 62] || l == [45, 62] || oneL l
/-- of which kind of token the whole of a text is: 0, if it is none -/
def kindL (l : List UInt8) : Nat :=
  if l = [] then 0 else if wordsL.contains l = true then 1
  else if (headB smallB l && likeL l) = true then 2 else if (headB greatB l && likeL l) = true then 3
  else if (headB dgt l && decide (pe l = 0)) = true then 4 else if signL l = true then 5 else 0
def pre (p : UInt8 → Bool) (l : List UInt8) : Nat := (l.takeWhile p).length
/-- how many bytes at the beginning of a text belong together -/
def togL (l : List UInt8) : Nat :=
  if (headB smallB l || headB greatB l) = true then pre nameB l else if headB dgt l = true then pre dgt l
  else if (decide (1 < l.length) && signL (l.take 2)) = true then 2 else 1
/-- how many bytes of blanks and remarks stand at the beginning of a text; whether one is in a remark there -/
def gapF : Bool → List UInt8 → Nat
  | _, [] => 0
  | true, c :: r => 1 + gapF (decide (c.toNat ≠ 10)) r
  | false, c :: r => if blankB c = true then 1 + gapF false r else if c.toNat = 47 ∧ headB (fun d => decide (d.toNat = 47)) r = true then 1 + gapF true r else 0
abbrev Tok := Nat × List UInt8 × Nat
/-- the tokens of a text, and where it is none: at most n of them -/
def lexF : Nat → List UInt8 → Nat → List Tok × Option Nat
  | 0, _, _ => ([], none)
  | n + 1, l, p =>
    if l.drop (gapF false l) = [] then ([], none)
    else if kindL ((l.drop (gapF false l)).take (togL (l.drop (gapF false l)))) = 0 then ([], some (p + gapF false l))
    else ((kindL ((l.drop (gapF false l)).take (togL (l.drop (gapF false l)))), (l.drop (gapF false l)).take (togL (l.drop (gapF false l))), p + gapF false l) ::
        (lexF n ((l.drop (gapF false l)).drop (togL (l.drop (gapF false l)))) (p + gapF false l + togL (l.drop (gapF false l)))).1,
      (lexF n ((l.drop (gapF false l)).drop (togL (l.drop (gapF false l)))) (p + gapF false l + togL (l.drop (gapF false l)))).2)
def lexL (l : List UInt8) (p : Nat) : List Tok × Option Nat := lexF l.length l p

/-! ### what belongs together -/
theorem pre_le (p : UInt8 → Bool) (l : List UInt8) : pre p l ≤ l.length := List.IsPrefix.length_le (List.takeWhile_prefix p)
theorem pre_cons_yes {p : UInt8 → Bool} {c : UInt8} {r : List UInt8} (h : p c = true) : pre p (c :: r) = 1 + pre p r := by
  unfold pre; rw [List.takeWhile_cons, if_pos h, List.length_cons]; omega
theorem pre_cons_no {p : UInt8 → Bool} {c : UInt8} {r : List UInt8} (h : p c = false) : pre p (c :: r) = 0 := by
  unfold pre; rw [List.takeWhile_cons, if_neg (by rw [h]; simp)]; rfl
theorem small_name {c : UInt8} (h : smallB c = true) : nameB c = true := by simp [nameB, h]
theorem great_name {c : UInt8} (h : greatB c = true) : nameB c = true := by simp [nameB, h]
theorem dgt_name {c : UInt8} (h : dgt c = true) : nameB c = true := by simp [nameB, h]
theorem togL_pos {l : List UInt8} (h : l ≠ []) : 1 ≤ togL l := by
  cases l with
  | nil => exact absurd rfl h
  | cons c r =>
    have hs : headB smallB (c :: r) = smallB c := rfl
    have hg : headB greatB (c :: r) = greatB c := rfl
    have hd : headB dgt (c :: r) = dgt c := rfl
    unfold togL
    by_cases h1 : (headB smallB (c :: r) || headB greatB (c :: r)) = true
    · rw [if_pos h1]
      rw [Bool.or_eq_true, hs, hg] at h1
      rw [pre_cons_yes (h1.elim small_name great_name)]; omega
    · rw [if_neg h1]
      by_cases h2 : headB dgt (c :: r) = true
      · rw [if_pos h2, pre_cons_yes (hd.symm.trans h2)]; omega
      · rw [if_neg h2]; split <;> omega
theorem togL_le {l : List UInt8} (h : l ≠ []) : togL l ≤ l.length := by
  unfold togL
  split
  · exact pre_le _ _
  · split
    · exact pre_le _ _
    · split
      · rename_i h3
        simp only [Bool.and_eq_true, decide_eq_true_eq] at h3
        omega
      · cases l with
        | nil => exact absurd rfl h
        | cons c r => simp

/-! ### what stands between -/
theorem gapF_le : ∀ (b : Bool) (l : List UInt8), gapF b l ≤ l.length
  | true, [] => by simp [gapF]
  | false, [] => by simp [gapF]
  | true, c :: r => by have := gapF_le (decide (c.toNat ≠ 10)) r; rw [gapF]; simp only [List.length_cons]; omega
  | false, c :: r => by
    have h1 := gapF_le false r
    have h2 := gapF_le true r
    rw [gapF]
    simp only [List.length_cons]
    split
    · omega
    · split <;> omega
theorem gapF_blank {c : UInt8} {r : List UInt8} (h : blankB c = true) : gapF false (c :: r) = 1 + gapF false r := by
  rw [gapF, if_pos h]
theorem gapF_slash (r : List UInt8) : gapF false (47 :: 47 :: r) = 2 + gapF true r := by
  rw [gapF, if_neg (by decide), if_pos ⟨rfl, rfl⟩, gapF, show decide ((47 : UInt8).toNat ≠ 10) = true from by decide]; omega
theorem gapF_none {c : UInt8} {r : List UInt8} (h : blankB c = false) (h2 : ¬ (c.toNat = 47 ∧ headB (fun d => decide (d.toNat = 47)) r = true)) : gapF false (c :: r) = 0 := by
  rw [gapF, if_neg (by rw [h]; simp), if_neg h2]
theorem gapF_drop : ∀ (b : Bool) (l : List UInt8), gapF false (l.drop (gapF b l)) = 0
  | true, [] => by simp [gapF]
  | false, [] => by simp [gapF]
  | true, c :: r => by
    rw [gapF, show 1 + gapF (decide (c.toNat ≠ 10)) r = gapF (decide (c.toNat ≠ 10)) r + 1 from by omega, List.drop_succ_cons]; exact gapF_drop _ r
  | false, c :: r => by
    by_cases h : blankB c = true
    · rw [gapF_blank h, show 1 + gapF false r = gapF false r + 1 from by omega, List.drop_succ_cons]; exact gapF_drop _ r
    · by_cases h2 : c.toNat = 47 ∧ headB (fun d => decide (d.toNat = 47)) r = true
      · have e : gapF false (c :: r) = gapF true r + 1 := by rw [gapF, if_neg h, if_pos h2]; omega
        rw [e, List.drop_succ_cons]; exact gapF_drop _ r
      · have e := gapF_none (by simpa using h) h2
        rw [e, List.drop_zero, e]
/-- the end of a line -/
def lineL (l : List UInt8) : Nat := pre (fun c => decide (c.toNat ≠ 10)) l
theorem gapF_line : ∀ l : List UInt8, gapF true l = lineL l + gapF false (l.drop (lineL l))
  | [] => by simp [gapF, lineL, pre]
  | c :: r => by
    by_cases h : c.toNat = 10
    · have e : lineL (c :: r) = 0 := pre_cons_no (by simp [h])
      rw [e, List.drop_zero, gapF_blank (by simp [blankB, h]), gapF]
      simp [h]
    · have e : lineL (c :: r) = lineL r + 1 := (pre_cons_yes (by simp [h])).trans (by unfold lineL; omega)
      rw [e, List.drop_succ_cons, gapF, show decide (c.toNat ≠ 10) = true from by simp [h], gapF_line r]; omega
theorem lineL_le (l : List UInt8) : lineL l ≤ l.length := pre_le _ _

/-! ### the tokens -/
theorem lexF_fuel : ∀ (n m : Nat) (l : List UInt8) (p : Nat), l.length ≤ n → l.length ≤ m → lexF n l p = lexF m l p
  | 0, 0, l, p, _, _ => rfl
  | 0, m + 1, l, p, h, _ => by
    obtain rfl : l = [] := List.eq_nil_of_length_eq_zero (by omega)
    simp [lexF, gapF]
  | n + 1, 0, l, p, _, h => by
    obtain rfl : l = [] := List.eq_nil_of_length_eq_zero (by omega)
    simp [lexF, gapF]
  | n + 1, m + 1, l, p, h1, h2 => by
    rw [lexF, lexF]
    by_cases hr : l.drop (gapF false l) = []
    · rw [if_pos hr, if_pos hr]
    · have hk := togL_pos hr
      have hlen : ((l.drop (gapF false l)).drop (togL (l.drop (gapF false l)))).length < l.length := by
        have : 0 < (l.drop (gapF false l)).length := List.length_pos_iff.2 hr
        rw [List.length_drop, List.length_drop] at *
        omega
      rw [if_neg hr, if_neg hr, lexF_fuel n m _ _ (by omega) (by omega)]
theorem lexL_end {l : List UInt8} {p : Nat} (h : l.drop (gapF false l) = []) : lexL l p = ([], none) := by
  unfold lexL
  cases hl : l.length with
  | zero => rfl
  | succ n => rw [lexF, if_pos h]
theorem lexL_bad {l : List UInt8} {p : Nat} (hr : l ≠ []) (hg : gapF false l = 0) (hk : kindL (l.take (togL l)) = 0) : lexL l p = ([], some p) := by
  unfold lexL
  cases hl : l.length with
  | zero => exact absurd (List.eq_nil_of_length_eq_zero hl) hr
  | succ n => rw [lexF, hg, List.drop_zero, if_neg hr, if_pos hk]; rfl
theorem lexL_step {l : List UInt8} {p : Nat} (hr : l ≠ []) (hg : gapF false l = 0) (hk : kindL (l.take (togL l)) ≠ 0) :
    lexL l p = ((kindL (l.take (togL l)), l.take (togL l), p) :: (lexL (l.drop (togL l)) (p + togL l)).1, (lexL (l.drop (togL l)) (p + togL l)).2) := by
  have h1 : lexL l p = lexF (l.length - 1 + 1) l p := by
    have := List.length_pos_iff.2 hr
    unfold lexL
    rw [show l.length - 1 + 1 = l.length from by omega]
  have hp := togL_pos hr
  rw [h1, lexF, hg, List.drop_zero, if_neg hr, if_neg hk, Nat.add_zero]
  unfold lexL
  rw [lexF_fuel (l.length - 1) (l.drop (togL l)).length _ _ (by rw [List.length_drop]; omega) (Nat.le_refl _)]
theorem lexL_gap (l : List UInt8) (p : Nat) : lexL l p = lexL (l.drop (gapF false l)) (p + gapF false l) := by
  have hg := gapF_drop false l
  by_cases hr : l.drop (gapF false l) = []
  · rw [lexL_end hr, hr]; rfl
  · have hne : l ≠ [] := by intro e; subst e; simp at hr
    have h1 : lexL l p = lexF (l.length - 1 + 1) l p := by
      have := List.length_pos_iff.2 hne
      unfold lexL
      rw [show l.length - 1 + 1 = l.length from by omega]
    have hp := togL_pos hr
    have hlen : ((l.drop (gapF false l)).drop (togL (l.drop (gapF false l)))).length ≤ l.length - 1 := by
      have : 0 < (l.drop (gapF false l)).length := List.length_pos_iff.2 hr
      rw [List.length_drop, List.length_drop] at *
      omega
    rw [h1, lexF, if_neg hr]
    by_cases hk : kindL ((l.drop (gapF false l)).take (togL (l.drop (gapF false l)))) = 0
    · rw [if_pos hk, lexL_bad hr hg hk]
    · rw [if_neg hk, lexL_step hr hg hk]
      unfold lexL
      rw [lexF_fuel (l.length - 1) _ _ _ hlen (Nat.le_refl _)]
end Go.Proofs.YthilicmhdkmipaaGreatDoor
/- The plain part of what may be a tree: parts and what they have, shapes (the tables of the chapter), what is whole; the document's own way of saying so; that both are one. -/
namespace Go.Proofs.YthilicmhdkmipaaGreatDoor
open Go.RowKit
set_option linter.unusedVariables false

/-! ### parts -/
inductive Q where
  | prog (p : List PI)
  | item (x : PI)
  | stmt (s : PS)
  | expr (e : PE) (st : Nat)
  | typ (t : PT) (st : Nat)
namespace PS
def op : PS → Int | .mk a _ _ _ _ _ _ _ _ _ _ _ => a
def name : PS → ByteArray | .mk _ a _ _ _ _ _ _ _ _ _ _ => a
def second : PS → ByteArray | .mk _ _ a _ _ _ _ _ _ _ _ _ => a
def names : PS → List ByteArray | .mk _ _ _ a _ _ _ _ _ _ _ _ => a
def type : PS → PT | .mk _ _ _ _ a _ _ _ _ _ _ _ => a
def int : PS → Int | .mk _ _ _ _ _ a _ _ _ _ _ _ => a
def place : PS → PP | .mk _ _ _ _ _ _ a _ _ _ _ _ => a
def exprs : PS → List PE | .mk _ _ _ _ _ _ _ a _ _ _ _ => a
def body : PS → List PS | .mk _ _ _ _ _ _ _ _ a _ _ _ => a
def els : PS → List PS | .mk _ _ _ _ _ _ _ _ _ a _ _ => a
def arms : PS → List PA | .mk _ _ _ _ _ _ _ _ _ _ a _ => a
end PS
namespace PA
def variant : PA → ByteArray | .mk a _ _ => a
def name : PA → ByteArray | .mk _ a _ => a
def body : PA → List PS | .mk _ _ a => a
end PA

/-! ### texts -/
def nmB (s : ByteArray) : Bool := decide (kindL s.data.toList = 2)
def tyB (s : ByteArray) : Bool := decide (kindL s.data.toList = 3)
def noB (s : ByteArray) : Bool := decide (s.size = 0)
/-- the code's text: 0 none, 1 a name, 2 a name or none, 3 a type's name -/
def txB (x : Nat) (s : ByteArray) : Bool := if x = 1 then nmB s else if x = 2 then noB s || nmB s else if x = 3 then tyB s else noB s
def stepB (s : ByteArray) : Bool := decide (s.data.toList = [42]) || nmB s
def plB (x : PP) : Bool := nmB x.name && (decide (x.path.length ≤ 40) && x.path.all stepB)
def zeroP : PP := ⟨ByteArray.empty, []⟩
def zeroT : PT := .mk 0 ByteArray.empty []
def zeroE : PE := .mk 0 0 ByteArray.empty ByteArray.empty zeroP [] 0

/-! ### shapes of types and expressions -/
structure TSh where
  known : Bool
  name : Nat
  args : Nat
def tSh (k : Int) : TSh :=
  if k = 1 ∨ k = 2 ∨ k = 3 ∨ k = 10 then ⟨true, 0, 0⟩ else if k = 4 then ⟨true, 3, 0⟩ else if 5 ≤ k ∧ k ≤ 14 then ⟨true, 0, 1⟩ else ⟨false, 0, 0⟩
structure ESh where
  known : Bool
  greatest : Int
  name : Nat
  second : Nat
  place : Bool
  fields : Bool
  fewest : Nat
  most : Nat
def eSh (k : Int) : ESh :=
  if k = 1 then ⟨true, 9223372036854775807, 0, 0, false, false, 0, 0⟩ else if k = 2 then ⟨true, 1, 0, 0, false, false, 0, 0⟩ else if k = 3 then ⟨true, 0, 0, 0, false, false, 0, 0⟩
  else if k = 4 ∨ k = 5 ∨ k = 6 ∨ k = 24 ∨ k = 28 ∨ k = 32 ∨ k = 36 then ⟨true, 0, 0, 0, true, false, 0, 0⟩
  else if k = 25 ∨ k = 33 ∨ k = 34 ∨ k = 35 then ⟨true, 0, 0, 0, true, false, 1, 1⟩
  else if k = 7 ∨ k = 8 ∨ k = 21 ∨ k = 22 ∨ k = 23 ∨ k = 26 ∨ k = 27 ∨ k = 29 ∨ k = 30 ∨ k = 31 then ⟨true, 0, 0, 0, false, false, 1, 1⟩
  else if 9 ≤ k ∧ k ≤ 17 then ⟨true, 0, 0, 0, false, false, 2, 2⟩
  else if k = 18 then ⟨true, 0, 1, 0, false, false, 0, 6⟩ else if k = 19 then ⟨true, 0, 3, 0, false, true, 0, 6⟩ else if k = 20 then ⟨true, 0, 3, 3, false, false, 0, 1⟩
  else ⟨false, 0, 0, 0, false, false, 0, 0⟩

/-! ### what fits -/
/-- the standings: 0 what is whole, 1 or lent, 2 or zero, 3 zero alone -/
def fitT (t : PT) (st : Nat) : Bool :=
  if st = 3 ∨ (st = 2 ∧ t.kind = 0) then sameT t zeroT else (tSh t.kind).known && txB (tSh t.kind).name t.name && decide (t.args.length = (tSh t.kind).args)
def lentB (e : PE) : Bool := decide (e.op = 5) || decide (e.op = 6)
def fitPl (h : ESh) (e : PE) : Bool :=
  if h.place then plB e.place else if h.fields then noB e.place.name && (decide (e.place.path.length = e.args.length) && (decide (e.place.path.length ≤ 6) && e.place.path.all nmB)) else samePl e.place zeroP
def fitSh (h : ESh) (e : PE) : Bool :=
  h.known && (decide (0 ≤ e.int) && (decide (e.int ≤ h.greatest) && (txB h.name e.name && (txB h.second e.second && (fitPl h e && (decide (h.fewest ≤ e.args.length) && decide (e.args.length ≤ h.most)))))))
def fitE (e : PE) (st : Nat) : Bool := if st = 3 then sameE false e zeroE else (!lentB e || decide (st = 1)) && fitSh (eSh e.op) e
def inArgs (e : PE) (st : Nat) : Nat := if st = 3 then 3 else if e.op = 18 then 1 else 0
def wholeT : Nat → PT → Nat → Bool
  | 0, _, _ => false
  | n + 1, t, st => fitT t st && t.args.all (fun u => wholeT n u 0)
def wholeE : Nat → PE → Nat → Bool
  | 0, _, _ => false
  | n + 1, e, st => fitE e st && e.args.all (fun u => wholeE n u (inArgs e st))

/-! ### the document's own way -/
def rT : Nat → PT → Bool
  | 0, _ => false
  | n + 1, t => if t.kind < 1 ∨ 14 < t.kind then false else if t.kind = 1 ∨ t.kind = 2 ∨ t.kind = 3 ∨ t.kind = 10 then noB t.name && decide (t.args.length = 0)
      else if t.kind = 4 then tyB t.name && decide (t.args.length = 0) else noB t.name && (decide (t.args.length = 1) && t.args.all (fun u => rT n u))
def formTab : List (List UInt8) := [[], [105, 48], [98, 48], [48], [112, 48], [112, 48], [112, 48], [49], [49], [50], [50], [50], [50], [50], [50], [50], [50], [50], [110, 54], [116, 102, 54], [116, 118, 57], [49], [49], [49], [112, 48], [112, 49], [49], [49], [112, 48], [49], [49], [49], [112, 48], [112, 49], [112, 49], [112, 49], [112, 48]]
def formL (op : Int) : List UInt8 := formTab.getD op.toNat []
def manyL (f : List UInt8) (n : Nat) : Bool :=
  if f.getLastD 0 = 54 then decide (n ≤ 6) else if f.getLastD 0 = 57 then decide (n ≤ 1) else decide ((n : Int) = (f.getLastD 0).toNat - 48)
def rFields (e : PE) : Bool := noB e.place.name && (decide (e.place.path.length = e.args.length) && e.place.path.all nmB)
def rInt (f : List UInt8) (e : PE) : Bool := if f.contains 105 then decide (0 ≤ e.int) else if f.contains 98 then decide (e.int = 0 ∨ e.int = 1) else decide (e.int = 0)
def rPlace (f : List UInt8) (e : PE) : Bool := if f.contains 112 then plB e.place else if f.contains 102 then rFields e else noB e.place.name && decide (e.place.path.length = 0)
def rName (f : List UInt8) (e : PE) : Bool := if f.contains 110 then nmB e.name else if f.contains 116 then tyB e.name else noB e.name
def rSecond (f : List UInt8) (e : PE) : Bool := if f.contains 118 then tyB e.second else noB e.second
def rSh (e : PE) : Bool := !(formL e.op).isEmpty && (manyL (formL e.op) e.args.length && (rInt (formL e.op) e && (rPlace (formL e.op) e && (rName (formL e.op) e && rSecond (formL e.op) e))))
def rE : Nat → PE → Bool
  | 0, _ => false
  | n + 1, e => rSh e && e.args.all (fun a => (!lentB a || decide (e.op = 18)) && rE n a)

/-! ### both are one -/
theorem noB_iff (s : ByteArray) : noB s = decide (s = ByteArray.empty) := by
  unfold noB
  rw [Bool.eq_iff_iff, decide_eq_true_eq, decide_eq_true_eq]
  constructor
  · intro h
    obtain ⟨⟨l⟩⟩ := s
    have : l = [] := by simpa [ByteArray.size] using h
    subst this; rfl
  · rintro rfl; rfl
theorem u8_lt {x : Int} (h : U8 x) : 0 ≤ x ∧ x ≤ 255 := by
  unfold U8 at h
  simp only [Lit.wf, Bool.and_eq_true, decide_eq_true_eq] at h
  have a : IntKind.u8.min = 0 := by decide
  have b : IntKind.u8.max = 255 := by decide
  omega
theorem i64_lt {x : Int} (h : I64 x) : x ≤ 9223372036854775807 := by
  unfold I64 at h
  simp only [Lit.wf, Bool.and_eq_true, decide_eq_true_eq] at h
  have b : IntKind.i64.max = 9223372036854775807 := by decide
  omega
theorem wholeT_eq : ∀ (n : Nat) (t : PT), wholeT n t 0 = rT n t
  | 0, _ => rfl
  | n + 1, t => by
    have ih : (fun u => wholeT n u 0) = (fun u => rT n u) := funext fun u => wholeT_eq n u
    rw [wholeT, rT, ih]
    unfold fitT
    rw [if_neg (by simp)]
    unfold tSh
    by_cases h0 : t.kind < 1 ∨ 14 < t.kind
    · rw [if_pos h0, if_neg (by omega), if_neg (by omega), if_neg (by omega)]; rfl
    · rw [if_neg h0]
      by_cases h1 : t.kind = 1 ∨ t.kind = 2 ∨ t.kind = 3 ∨ t.kind = 10
      · rw [if_pos h1, if_pos h1]
        simp only [txB]
        cases ha : t.args with
        | nil => simp
        | cons a l => simp
      · rw [if_neg h1, if_neg h1]
        by_cases h4 : t.kind = 4
        · rw [if_pos h4, if_pos h4]
          cases ha : t.args with
          | nil => simp [txB]
          | cons a l => simp [txB]
        · rw [if_neg h4, if_neg h4, if_pos (by omega)]
          simp [txB, Bool.and_assoc]
theorem samePl_zero (x : PP) : samePl x zeroP = (noB x.name && decide (x.path.length = 0)) := by
  unfold samePl zeroP
  rw [noB_iff, sameW_eq, allW_eq]
  simp
theorem op_cases {k : Int} (h : 0 ≤ k ∧ k ≤ 255) : (36 < k ∧ k ≤ 255) ∨ k = 0 ∨ k = 1 ∨ k = 2 ∨ k = 3 ∨ k = 4 ∨ k = 5 ∨ k = 6 ∨ k = 7 ∨ k = 8 ∨ k = 9 ∨ k = 10 ∨ k = 11 ∨ k = 12 ∨ k = 13 ∨ k = 14 ∨ k = 15 ∨ k = 16 ∨ k = 17 ∨ k = 18 ∨ k = 19 ∨ k = 20 ∨ k = 21 ∨ k = 22 ∨ k = 23 ∨ k = 24 ∨ k = 25 ∨ k = 26 ∨ k = 27 ∨ k = 28 ∨ k = 29 ∨ k = 30 ∨ k = 31 ∨ k = 32 ∨ k = 33 ∨ k = 34 ∨ k = 35 ∨ k = 36 := by omega
set_option maxHeartbeats 4000000 in
theorem fitSh_eq (e : PE) (hu : U8 e.op) (hi : I64 e.int) : fitSh (eSh e.op) e = rSh e := by
  have h1 := u8_lt hu
  have h2 := i64_lt hi
  have hz := samePl_zero e.place
  have h3 : (decide (0 ≤ e.int) && decide (e.int ≤ 0)) = decide (e.int = 0) := by rw [Bool.eq_iff_iff]; simp; omega
  have h4 : (decide (0 ≤ e.int) && decide (e.int ≤ 1)) = decide (e.int = 0 ∨ e.int = 1) := by rw [Bool.eq_iff_iff]; simp; omega
  have h5 : decide (e.int ≤ 9223372036854775807) = true := by simpa using h2
  have a0 : decide (e.args.length ≤ 0) = decide (e.args.length = 0) := by rw [Bool.eq_iff_iff]; simp
  have a1 : (decide (1 ≤ e.args.length) && decide (e.args.length ≤ 1)) = decide (e.args.length = 1) := by rw [Bool.eq_iff_iff]; simp; omega
  have a2 : (decide (2 ≤ e.args.length) && decide (e.args.length ≤ 2)) = decide (e.args.length = 2) := by rw [Bool.eq_iff_iff]; simp; omega
  generalize hop : e.op = k at *
  rcases op_cases h1 with h | h
  · unfold fitSh rSh
    have e1 : eSh k = ⟨false, 0, 0, 0, false, false, 0, 0⟩ := by
      unfold eSh
      repeat rw [if_neg (by omega)]
    have e2 : formL k = [] := by
      unfold formL
      rw [List.getD_eq_getElem?_getD, List.getElem?_eq_none (by simp [formTab]; omega)]; rfl
    rw [hop, e1, e2]; rfl
  · unfold fitSh rSh fitPl rInt rPlace rName rSecond rFields
    rw [hop]
    clear hop
    rcases h with rfl | rfl | rfl | rfl | rfl | rfl | rfl | rfl | rfl | rfl | rfl | rfl | rfl | rfl | rfl | rfl | rfl | rfl | rfl | rfl | rfl | rfl | rfl | rfl | rfl | rfl | rfl | rfl | rfl | rfl | rfl | rfl | rfl | rfl | rfl | rfl | rfl
    all_goals (rw [Bool.eq_iff_iff]; simp [eSh, formL, formTab, manyL, txB, hz]; try grind)
theorem PE.Row.mem {B : Nat} {w : World} {b : Nat} : ∀ {l : List PE} {o : Nat} {a : PE}, PE.Row B w b o l → a ∈ l → ∃ v, a.In B w v
  | x :: l, o, a, h, hm => by
    cases hm with
    | head => obtain ⟨⟨v, _, hv⟩, _⟩ := h; exact ⟨v, hv⟩
    | tail _ hm => exact PE.Row.mem h.2 hm
theorem all_congr {α : Type} {f g : α → Bool} : ∀ {l : List α}, (∀ a, a ∈ l → f a = g a) → l.all f = l.all g
  | [], _ => rfl
  | a :: l, h => by rw [List.all_cons, List.all_cons, h a (by simp), all_congr (fun b hb => h b (by simp [hb]))]
theorem wholeE_eq {B : Nat} {w : World} : ∀ (n : Nat) (e : PE) (v : VE) (st : Nat), e.In B w v → st < 2 → wholeE n e st = ((!lentB e || decide (st = 1)) && rE n e)
  | 0, _, _, _, _, _ => by rw [wholeE, rE, Bool.and_false]
  | n + 1, e, v, st, h, hs => by
    have hall : e.args.all (fun u => wholeE n u (inArgs e st)) = e.args.all (fun a => (!lentB a || decide (e.op = 18)) && rE n a) := by
      refine all_congr fun a ha => ?_
      have hin : ∃ va, a.In B w va := by
        obtain ⟨op, iv, nm, sc, pl, xs, ps⟩ := e
        obtain ⟨_, _, b, o, _, hr⟩ := h
        exact PE.Row.mem hr ha
      obtain ⟨va, hva⟩ := hin
      unfold inArgs
      rw [if_neg (by omega)]
      by_cases h18 : e.op = 18
      · rw [if_pos h18, wholeE_eq n a va 1 hva (by omega)]; simp [h18]
      · rw [if_neg h18, wholeE_eq n a va 0 hva (by omega)]; simp [h18]
    have hf : fitE e st = ((!lentB e || decide (st = 1)) && rSh e) := by
      unfold fitE
      rw [if_neg (by omega)]
      obtain ⟨op, iv, nm, sc, pl, xs, ps⟩ := e
      obtain ⟨⟨hu, hi, _⟩, _⟩ := h
      rw [fitSh_eq (.mk op iv nm sc pl xs ps) hu hi]
    rw [wholeE, rE, hall, hf, Bool.and_assoc]
end Go.Proofs.YthilicmhdkmipaaGreatDoor
