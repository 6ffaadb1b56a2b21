/- Contracts of package lex, second part: signs, names, numerals; what stands between tokens; what belongs together. -/
import Derived.Test.YthilicmhdkmipaaGreatDoorWJoinAD
import Derived.Test.YthilicmhdkmipaaGreatDoorWTreeMath
namespace Go.Proofs.YthilicmhdkmipaaGreatDoor
open Go.RowKit
set_option linter.unusedVariables false

theorem toList_is (s : ByteArray) (l : List UInt8) : (s.toList == l) = (s.data.toList == l) := by rw [ByteArray.toList_eq]
theorem one_of {s : ByteArray} (h : s.size = 1) : ∃ c, s = ⟨#[c]⟩ := by
  obtain ⟨⟨l⟩⟩ := s
  match l, h with
  | [c], _ => exact ⟨c, rfl⟩
theorem oneL_no {s : ByteArray} (h : ¬ s.size = 1) : oneL s.data.toList = false := by
  obtain ⟨⟨l⟩⟩ := s
  match l, h with
  | [], _ => rfl
  | [c], h => exact absurd rfl h
  | a :: b :: r, _ => rfl
theorem short_index (c : UInt8) : ∀ l : List UInt8, decide (0 ≤ Lib.indexByte l c) = l.contains c
  | [] => rfl
  | b :: l => by
    have ih := short_index c l
    have hg := Lib.indexByte_ge l c
    rw [Lib.indexByte, List.contains_cons]
    by_cases h : b = c
    · subst h; simp
    · have h1 : (b == c) = false := by simp [h]
      have h2 : (c == b) = false := by simp [Ne.symm h]
      rw [h1, h2, Bool.false_or, ← ih]
      simp only [Bool.false_eq_true, if_false]
      by_cases hi : Lib.indexByte l c = -1
      · simp [hi]
      · have : (Lib.indexByte l c == -1) = false := by simp [hi]
        rw [this]
        simp only [Bool.false_eq_true, if_false]
        exact decide_eq_decide.2 (by omega)

set_option maxHeartbeats 400000 in
theorem isSign_calls (s : ByteArray) (w : World) :
    Calls Tryz.prog 139 #[.string s] w fun e w' => e = .returned (.bool (signL s.data.toList)) ∧ w = w' := by
  unfold signL
  rw [← toList_is s [61, 61], ← toList_is s [61, 62], ← toList_is s [45, 62]]
  cases h1 : (s.toList == [61, 61])
  · cases h2 : (s.toList == [61, 62])
    · cases h3 : (s.toList == [45, 62])
      · by_cases hs : s.size = 1
        · obtain ⟨c, rfl⟩ := one_of hs
          have H := Lib.hid fun w => Tryz.strings_Contains_one ⟨#[40, 41, 123, 125, 60, 62, 44, 59, 58, 61, 38, 42, 46, 43, 45, 47, 37]⟩ c w
          clear h1 h2 h3 hs
          go_enter Tryz.func139, Tryz.ntmps139
          go_wp2_with fail
          refine (H.out _).mono ?_; rintro e w1 ⟨rfl, rfl⟩
          go_wp2
          go_ret
          exact ⟨ret_bool (short_index c _), rfl⟩
        · rw [oneL_no hs]
          have hz : ((s.size : Int) == 1) = false := by simp; omega
          have hz2 : ¬ (s.size : Int) = 1 := by omega
          clear hs
          go_enter Tryz.func139, Tryz.ntmps139
          go_wp2
          go_ret
          exact ⟨rfl, rfl⟩
      · go_enter Tryz.func139, Tryz.ntmps139
        go_wp2
        go_ret
        exact ⟨rfl, rfl⟩
    · go_enter Tryz.func139, Tryz.ntmps139
      go_wp2
      go_ret
      exact ⟨rfl, rfl⟩
  · go_enter Tryz.func139, Tryz.ntmps139
    go_wp2
    go_ret
    exact ⟨rfl, rfl⟩

theorem like_pre (l : List UInt8) : (pre nameB l = l.length) ↔ l.all nameB = true := by
  constructor
  · intro h
    have hp := List.takeWhile_prefix nameB (l := l)
    have e : l.takeWhile nameB = l := hp.eq_of_length h
    rw [← e]
    exact List.all_takeWhile
  · intro h
    exact take_pre (Nat.le_refl _) (by rw [List.take_length]; exact h) (fun c hc => by simp at hc)

set_option maxHeartbeats 400000 in
theorem isNameLike_calls (s : ByteArray) (hs : s.size ≤ maxLen) (w : World) :
    Calls Tryz.prog 140 #[.string s] w fun e w' => e = .returned (.bool (likeL s.data.toList)) ∧ w = w' := by
  have H := fun w => countName_calls s hs w
  have hl : s.data.toList.length = s.size := rfl
  have hp := pre_le nameB s.data.toList
  have hlp := like_pre s.data.toList
  unfold likeL
  rw [hl] at *
  cases ha : s.data.toList.all nameB
  · have hne : ¬ pre nameB s.data.toList = s.size := fun e => by rw [hlp.1 e] at ha; cases ha
    generalize pre nameB s.data.toList = n at *
    have HH := Lib.hid H
    have hz : ((n : Int) == (s.size : Int)) = false := by simp; omega
    clear H ha hlp hl
    unfold maxLen at hs
    by_cases h16 : s.size ≤ 16
    · have e1 : (s.size : Int) ≤ 16 := by omega
      go_enter Tryz.func140, Tryz.ntmps140
      go_wp2_with fail
      refine (HH.out _).mono ?_; rintro e w1 ⟨rfl, rfl⟩
      go_wp2
      go_ret
      exact ⟨ret_bool (by simp), rfl⟩
    · have e1 : 16 < (s.size : Int) := by omega
      go_enter Tryz.func140, Tryz.ntmps140
      go_wp2
      go_ret
      exact ⟨ret_bool (by simp), rfl⟩
  · have hne : pre nameB s.data.toList = s.size := hlp.2 ha
    rw [hne] at H
    have HH := Lib.hid H
    clear H ha hlp hl hne hp
    unfold maxLen at hs
    by_cases h16 : s.size ≤ 16
    · have e1 : (s.size : Int) ≤ 16 := by omega
      go_enter Tryz.func140, Tryz.ntmps140
      go_wp2_with fail
      refine (HH.out _).mono ?_; rintro e w1 ⟨rfl, rfl⟩
      go_wp2
      go_ret
      exact ⟨ret_bool (by simp [h16]), rfl⟩
    · have e1 : 16 < (s.size : Int) := by omega
      go_enter Tryz.func140, Tryz.ntmps140
      go_wp2
      go_ret
      exact ⟨rfl, rfl⟩

set_option maxHeartbeats 400000 in
theorem isNumeral_calls (s : ByteArray) (hs : s.size ≤ maxLen) (w : World) :
    Calls Tryz.prog 141 #[.string s] w fun e w' => e = .returned (.bool (decide (pe s.data.toList = 0))) ∧ Below w.heap.size w w' := by
  have H := Lib.hid fun w => parse_calls s hs w
  generalize pv s.data.toList = x at *
  generalize pe s.data.toList = y at *
  go_enter Tryz.func141, Tryz.ntmps141
  go_wp2_with fail
  refine (H.out _).mono ?_; rintro e w1 ⟨rfl, b1⟩
  go_wp2
  go_ret
  exact ⟨ret_bool (by rw [Bool.eq_iff_iff]; simp), b1⟩

theorem drop_byte {s : ByteArray} {k : Nat} (h : k < s.size) : s.data.toList.drop k = s[k] :: s.data.toList.drop (k + 1) := by
  rw [List.drop_eq_getElem_cons (by simpa using h)]; rfl
end Go.Proofs.YthilicmhdkmipaaGreatDoor
/- The plain part of what may be a tree: parts and what they have, shapes (the tables of the chapter), what is whole; the document's own way of saying so; that both are one. -/
namespace Go.Proofs.YthilicmhdkmipaaGreatDoor
open Go.RowKit
set_option linter.unusedVariables false

/-! ### parts -/
inductive Q where
  | prog (p : List PI)
  | item (x : PI)
  | stmt (s : PS)
  | expr (e : PE) (st : Nat)
  | typ (t : PT) (st : Nat)
namespace PS
def op : PS → Int | .mk a _ _ _ _ _ _ _ _ _ _ _ => a
def name : PS → ByteArray | .mk _ a _ _ _ _ _ _ _ _ _ _ => a
def second : PS → ByteArray | .mk _ _ a _ _ _ _ _ _ _ _ _ => a
def names : PS → List ByteArray | .mk _ _ _ a _ _ _ _ _ _ _ _ => a
def type : PS → PT | .mk _ _ _ _ a _ _ _ _ _ _ _ => a
def int : PS → Int | .mk _ _ _ _ _ a _ _ _ _ _ _ => a
def place : PS → PP | .mk _ _ _ _ _ _ a _ _ _ _ _ => a
def exprs : PS → List PE | .mk _ _ _ _ _ _ _ a _ _ _ _ => a
def body : PS → List PS | .mk _ _ _ _ _ _ _ _ a _ _ _ => a
def els : PS → List PS | .mk _ _ _ _ _ _ _ _ _ a _ _ => a
def arms : PS → List PA | .mk _ _ _ _ _ _ _ _ _ _ a _ => a
end PS
namespace PA
def variant : PA → ByteArray | .mk a _ _ => a
def name : PA → ByteArray | .mk _ a _ => a
def body : PA → List PS | .mk _ _ a => a
end PA

/-! ### texts -/
def nmB (s : ByteArray) : Bool := decide (kindL s.data.toList = 2)
def tyB (s : ByteArray) : Bool := decide (kindL s.data.toList = 3)
def noB (s : ByteArray) : Bool := decide (s.size = 0)
/-- the code's text: 0 none, 1 a name, 2 a name or none, 3 a type's name -/
def txB (x : Nat) (s : ByteArray) : Bool := if x = 1 then nmB s else if x = 2 then noB s || nmB s else if x = 3 then tyB s else noB s
def stepB (s : ByteArray) : Bool := decide (s.data.toList = [42]) || nmB s
def plB (x : PP) : Bool := nmB x.name && (decide (x.path.length ≤ 40) && x.path.all stepB)
def zeroP : PP := ⟨ByteArray.empty, []⟩
def zeroT : PT := .mk 0 ByteArray.empty []
def zeroE : PE := .mk 0 0 ByteArray.empty ByteArray.empty zeroP [] 0

/-! ### shapes of types and expressions -/
structure TSh where
  known : Bool
  name : Nat
  args : Nat
def tSh (k : Int) : TSh :=
  if k = 1 ∨ k = 2 ∨ k = 3 ∨ k = 10 then ⟨true, 0, 0⟩ else if k = 4 then ⟨true, 3, 0⟩ else if 5 ≤ k ∧ k ≤ 14 then ⟨true, 0, 1⟩ else ⟨false, 0, 0⟩
structure ESh where
  known : Bool
  greatest : Int
  name : Nat
  second : Nat
  place : Bool
  fields : Bool
  fewest : Nat
  most : Nat
def eSh (k : Int) : ESh :=
  if k = 1 then ⟨true, 9223372036854775807, 0, 0, false, false, 0, 0⟩ else if k = 2 then ⟨true, 1, 0, 0, false, false, 0, 0⟩ else if k = 3 then ⟨true, 0, 0, 0, false, false, 0, 0⟩
  else if k = 4 ∨ k = 5 ∨ k = 6 ∨ k = 24 ∨ k = 28 ∨ k = 32 ∨ k = 36 then ⟨true, 0, 0, 0, true, false, 0, 0⟩
  else if k = 25 ∨ k = 33 ∨ k = 34 ∨ k = 35 then ⟨true, 0, 0, 0, true, false, 1, 1⟩
  else if k = 7 ∨ k = 8 ∨ k = 21 ∨ k = 22 ∨ k = 23 ∨ k = 26 ∨ k = 27 ∨ k = 29 ∨ k = 30 ∨ k = 31 then ⟨true, 0, 0, 0, false, false, 1, 1⟩
  else if 9 ≤ k ∧ k ≤ 17 then ⟨true, 0, 0, 0, false, false, 2, 2⟩
  else if k = 18 then ⟨true, 0, 1, 0, false, false, 0, 6⟩ else if k = 19 then ⟨true, 0, 3, 0, false, true, 0, 6⟩ else if k = 20 then ⟨true, 0, 3, 3, false, false, 0, 1⟩
  else ⟨false, 0, 0, 0, false, false, 0, 0⟩

/-! ### what fits -/
/-- the standings: 0 what is whole, 1 or lent, 2 or zero, 3 zero alone -/
def fitT (t : PT) (st : Nat) : Bool :=
  if st = 3 ∨ (st = 2 ∧ t.kind = 0) then sameT t zeroT else (tSh t.kind).known && txB (tSh t.kind).name t.name && decide (t.args.length = (tSh t.kind).args)
def lentB (e : PE) : Bool := decide (e.op = 5) || decide (e.op = 6)
def fitPl (h : ESh) (e : PE) : Bool :=
  if h.place then plB e.place else if h.fields then noB e.place.name && (decide (e.place.path.length = e.args.length) && (decide (e.place.path.length ≤ 6) && e.place.path.all nmB)) else samePl e.place zeroP
def fitSh (h : ESh) (e : PE) : Bool :=
  h.known && (decide (0 ≤ e.int) && (decide (e.int ≤ h.greatest) && (txB h.name e.name && (txB h.second e.second && (fitPl h e && (decide (h.fewest ≤ e.args.length) && decide (e.args.length ≤ h.most)))))))
def fitE (e : PE) (st : Nat) : Bool := if st = 3 then sameE false e zeroE else (!lentB e || decide (st = 1)) && fitSh (eSh e.op) e
def inArgs (e : PE) (st : Nat) : Nat := if st = 3 then 3 else if e.op = 18 then 1 else 0
def wholeT : Nat → PT → Nat → Bool
  | 0, _, _ => false
  | n + 1, t, st => fitT t st && t.args.all (fun u => wholeT n u 0)
def wholeE : Nat → PE → Nat → Bool
  | 0, _, _ => false
  | n + 1, e, st => fitE e st && e.args.all (fun u => wholeE n u (inArgs e st))

/-! ### the document's own way -/
def rT : Nat → PT → Bool
  | 0, _ => false
  | n + 1, t => if t.kind < 1 ∨ 14 < t.kind then false else if t.kind = 1 ∨ t.kind = 2 ∨ t.kind = 3 ∨ t.kind = 10 then noB t.name && decide (t.args.length = 0)
      else if t.kind = 4 then tyB t.name && decide (t.args.length = 0) else noB t.name && (decide (t.args.length = 1) && t.args.all (fun u => rT n u))
def formTab : List (List UInt8) := [[], [105, 48], [98, 48], [48], [112, 48], [112, 48], [112, 48], [49], [49], [50], [50], [50], [50], [50], [50], [50], [50], [50], [110, 54], [116, 102, 54], [116, 118, 57], [49], [49], [49], [112, 48], [112, 49], [49], [49], [112, 48], [49], [49], [49], [112, 48], [112, 49], [112, 49], [112, 49], [112, 48]]
def formL (op : Int) : List UInt8 := formTab.getD op.toNat []
def manyL (f : List UInt8) (n : Nat) : Bool :=
  if f.getLastD 0 = 54 then decide (n ≤ 6) else if f.getLastD 0 = 57 then decide (n ≤ 1) else decide ((n : Int) = (f.getLastD 0).toNat - 48)
def rFields (e : PE) : Bool := noB e.place.name && (decide (e.place.path.length = e.args.length) && e.place.path.all nmB)
def rInt (f : List UInt8) (e : PE) : Bool := if f.contains 105 then decide (0 ≤ e.int) else if f.contains 98 then decide (e.int = 0 ∨ e.int = 1) else decide (e.int = 0)
def rPlace (f : List UInt8) (e : PE) : Bool := if f.contains 112 then plB e.place else if f.contains 102 then rFields e else noB e.place.name && decide (e.place.path.length = 0)
def rName (f : List UInt8) (e : PE) : Bool := if f.contains 110 then nmB e.name else if f.contains 116 then tyB e.name else noB e.name
def rSecond (f : List UInt8) (e : PE) : Bool := if f.contains 118 then tyB e.second else noB e.second
def rSh (e : PE) : Bool := !(formL e.op).isEmpty && (manyL (formL e.op) e.args.length && (rInt (formL e.op) e && (rPlace (formL e.op) e && (rName (formL e.op) e && rSecond (formL e.op) e))))
def rE : Nat → PE → Bool
  | 0, _ => false
  | n + 1, e => rSh e && e.args.all (fun a => (!lentB a || decide (e.op = 18)) && rE n a)

/-! ### both are one -/
theorem noB_iff (s : ByteArray) : noB s = decide (s = ByteArray.empty) := by
  unfold noB
  rw [Bool.eq_iff_iff, decide_eq_true_eq, decide_eq_true_eq]
  constructor
  · intro h
    obtain ⟨⟨l⟩⟩ := s
    have : l = [] := by simpa [ByteArray.size] using h
    subst this; rfl
  · rintro rfl; rfl
theorem u8_lt {x : Int} (h : U8 x) : 0 ≤ x ∧ x ≤ 255 := by
  unfold U8 at h
  simp only [Lit.wf, Bool.and_eq_true, decide_eq_true_eq] at h
  have a : IntKind.u8.min = 0 := by decide
  have b : IntKind.u8.max = 255 := by decide
  omega
theorem i64_lt {x : Int} (h : I64 x) : x ≤ 9223372036854775807 := by
  unfold I64 at h
  simp only [Lit.wf, Bool.and_eq_true, decide_eq_true_eq] at h
  have b : IntKind.i64.max = 9223372036854775807 := by decide
  omega
theorem wholeT_eq : ∀ (n : Nat) (t : PT), wholeT n t 0 = rT n t
  | 0, _ => rfl
  | n + 1, t => by
    have ih : (fun u => wholeT n u 0) = (fun u => rT n u) := funext fun u => wholeT_eq n u
    rw [wholeT, rT, ih]
    unfold fitT
    rw [if_neg (by simp)]
    unfold tSh
    by_cases h0 : t.kind < 1 ∨ 14 < t.kind
    · rw [if_pos h0, if_neg (by omega), if_neg (by omega), if_neg (by omega)]; rfl
    · rw [if_neg h0]
      by_cases h1 : t.kind = 1 ∨ t.kind = 2 ∨ t.kind = 3 ∨ t.kind = 10
      · rw [if_pos h1, if_pos h1]
        simp only [txB]
        cases ha : t.args with
        | nil => simp
        | cons a l => simp
      · rw [if_neg h1, if_neg h1]
        by_cases h4 : t.kind = 4
        · rw [if_pos h4, if_pos h4]
          cases ha : t.args with
          | nil => simp [txB]
          | cons a l => simp [txB]
        · rw [if_neg h4, if_neg h4, if_pos (by omega)]
          simp [txB, Bool.and_assoc]
theorem samePl_zero (x : PP) : samePl x zeroP = (noB x.name && decide (x.path.length = 0)) := by
  unfold samePl zeroP
  rw [noB_iff, sameW_eq, allW_eq]
  simp
theorem op_cases {k : Int} (h : 0 ≤ k ∧ k ≤ 255) : (36 < k ∧ k ≤ 255) ∨ k = 0 ∨ k = 1 ∨ k = 2 ∨ k = 3 ∨ k = 4 ∨ k = 5 ∨ k = 6 ∨ k = 7 ∨ k = 8 ∨ k = 9 ∨ k = 10 ∨ k = 11 ∨ k = 12 ∨ k = 13 ∨ k = 14 ∨ k = 15 ∨ k = 16 ∨ k = 17 ∨ k = 18 ∨ k = 19 ∨ k = 20 ∨ k = 21 ∨ k = 22 ∨ k = 23 ∨ k = 24 ∨ k = 25 ∨ k = 26 ∨ k = 27 ∨ k = 28 ∨ k = 29 ∨ k = 30 ∨ k = 31 ∨ k = 32 ∨ k = 33 ∨ k = 34 ∨ k = 35 ∨ k = 36 := by omega
set_option maxHeartbeats 4000000 in
theorem fitSh_eq (e : PE) (hu : U8 e.op) (hi : I64 e.int) : fitSh (eSh e.op) e = rSh e := by
  have h1 := u8_lt hu
  have h2 := i64_lt hi
  have hz := samePl_zero e.place
  have h3 : (decide (0 ≤ e.int) && decide (e.int ≤ 0)) = decide (e.int = 0) := by rw [Bool.eq_iff_iff]; simp; omega
  have h4 : (decide (0 ≤ e.int) && decide (e.int ≤ 1)) = decide (e.int = 0 ∨ e.int = 1) := by rw [Bool.eq_iff_iff]; simp; omega
  have h5 : decide (e.int ≤ 9223372036854775807) = true := by simpa using h2
  have a0 : decide (e.args.length ≤ 0) = decide (e.args.length = 0) := by rw [Bool.eq_iff_iff]; simp
  have a1 : (decide (1 ≤ e.args.length) && decide (e.args.length ≤ 1)) = decide (e.args.length = 1) := by rw [Bool.eq_iff_iff]; simp; omega
  have a2 : (decide (2 ≤ e.args.length) && decide (e.args.length ≤ 2)) = decide (e.args.length = 2) := by rw [Bool.eq_iff_iff]; simp; omega
  generalize hop : e.op = k at *
  rcases op_cases h1 with h | h
  · unfold fitSh rSh
    have e1 : eSh k = ⟨false, 0, 0, 0, false, false, 0, 0⟩ := by
      unfold eSh
      repeat rw [if_neg (by omega)]
    have e2 : formL k = [] := by
      unfold formL
      rw [List.getD_eq_getElem?_getD, List.getElem?_eq_none (by simp [formTab]; omega)]; rfl
    rw [hop, e1, e2]; rfl
  · unfold fitSh rSh fitPl rInt rPlace rName rSecond rFields
    rw [hop]
    clear hop
    rcases h with rfl | rfl | rfl | rfl | rfl | rfl | rfl | rfl | rfl | rfl | rfl | rfl | rfl | rfl | rfl | rfl | rfl | rfl | rfl | rfl | rfl | rfl | rfl | rfl | rfl | rfl | rfl | rfl | rfl | rfl | rfl | rfl | rfl | rfl | rfl | rfl | rfl
    all_goals (rw [Bool.eq_iff_iff]; simp [eSh, formL, formTab, manyL, txB, hz]; try grind)
theorem PE.Row.mem {B : Nat} {w : World} {b : Nat} : ∀ {l : List PE} {o : Nat} {a : PE}, PE.Row B w b o l → a ∈ l → ∃ v, a.In B w v
  | x :: l, o, a, h, hm => by
    cases hm with
    | head => obtain ⟨⟨v, _, hv⟩, _⟩ := h; exact ⟨v, hv⟩
    | tail _ hm => exact PE.Row.mem h.2 hm
theorem all_congr {α : Type} {f g : α → Bool} : ∀ {l : List α}, (∀ a, a ∈ l → f a = g a) → l.all f = l.all g
  | [], _ => rfl
  | a :: l, h => by rw [List.all_cons, List.all_cons, h a (by simp), all_congr (fun b hb => h b (by simp [hb]))]
theorem wholeE_eq {B : Nat} {w : World} : ∀ (n : Nat) (e : PE) (v : VE) (st : Nat), e.In B w v → st < 2 → wholeE n e st = ((!lentB e || decide (st = 1)) && rE n e)
  | 0, _, _, _, _, _ => by rw [wholeE, rE, Bool.and_false]
  | n + 1, e, v, st, h, hs => by
    have hall : e.args.all (fun u => wholeE n u (inArgs e st)) = e.args.all (fun a => (!lentB a || decide (e.op = 18)) && rE n a) := by
      refine all_congr fun a ha => ?_
      have hin : ∃ va, a.In B w va := by
        obtain ⟨op, iv, nm, sc, pl, xs, ps⟩ := e
        obtain ⟨_, _, b, o, _, hr⟩ := h
        exact PE.Row.mem hr ha
      obtain ⟨va, hva⟩ := hin
      unfold inArgs
      rw [if_neg (by omega)]
      by_cases h18 : e.op = 18
      · rw [if_pos h18, wholeE_eq n a va 1 hva (by omega)]; simp [h18]
      · rw [if_neg h18, wholeE_eq n a va 0 hva (by omega)]; simp [h18]
    have hf : fitE e st = ((!lentB e || decide (st = 1)) && rSh e) := by
      unfold fitE
      rw [if_neg (by omega)]
      obtain ⟨op, iv, nm, sc, pl, xs, ps⟩ := e
      obtain ⟨⟨hu, hi, _⟩, _⟩ := h
      rw [fitSh_eq (.mk op iv nm sc pl xs ps) hu hi]
    rw [wholeE, rE, hall, hf, Bool.and_assoc]
end Go.Proofs.YthilicmhdkmipaaGreatDoor
