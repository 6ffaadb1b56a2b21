/- The plain part of what may be a tree: parts and what they have, shapes (the tables of the chapter), what is whole; the document's own way of saying so; that both are one. -/
import Derived.Test.YtabncmmadbjegaaJoinA
import Derived.Test.YtabncmmadbjegaaJoinB
import Derived.Test.YtabncmmadbjegaaChecked
import Derived.Test.YtabncmmadbjegaaShelf
import Derived.Shelf.Abstract
import Derived.Outline
import Derived.IntWalk
import Derived.WalkKit
import Derived.BigQuiet
import Derived.Deep.QuietTactic
import Derived.Deep.Cut
namespace Go.Proofs.Ytabncmmadbjegaa
open Go.RowKit
set_option linter.unusedVariables false

/-! ### parts -/
inductive Q where
  | prog (p : List PI)
  | item (x : PI)
  | stmt (s : PS)
  | expr (e : PE) (st : Nat)
  | typ (t : PT) (st : Nat)
namespace PS
def op : PS → Int | .mk a _ _ _ _ _ _ _ _ _ _ _ => a
def name : PS → ByteArray | .mk _ a _ _ _ _ _ _ _ _ _ _ => a
def second : PS → ByteArray | .mk _ _ a _ _ _ _ _ _ _ _ _ => a
def names : PS → List ByteArray | .mk _ _ _ a _ _ _ _ _ _ _ _ => a
def type : PS → PT | .mk _ _ _ _ a _ _ _ _ _ _ _ => a
def int : PS → Int | .mk _ _ _ _ _ a _ _ _ _ _ _ => a
def place : PS → PP | .mk _ _ _ _ _ _ a _ _ _ _ _ => a
def exprs : PS → List PE | .mk _ _ _ _ _ _ _ a _ _ _ _ => a
def body : PS → List PS | .mk _ _ _ _ _ _ _ _ a _ _ _ => a
def els : PS → List PS | .mk _ _ _ _ _ _ _ _ _ a _ _ => a
def arms : PS → List PA | .mk _ _ _ _ _ _ _ _ _ _ a _ => a
end PS
namespace PA
def variant : PA → ByteArray | .mk a _ _ => a
def name : PA → ByteArray | .mk _ a _ => a
def body : PA → List PS | .mk _ _ a => a
end PA

/-! ### texts -/
def nmB (s : ByteArray) : Bool := decide (kindL s.data.toList = 2)
def tyB (s : ByteArray) : Bool := decide (kindL s.data.toList = 3)
def noB (s : ByteArray) : Bool := decide (s.size = 0)
/-- the code's text: 0 none, 1 a name, 2 a name or none, 3 a type's name -/
def txB (x : Nat) (s : ByteArray) : Bool := if x = 1 then nmB s else if x = 2 then noB s || nmB s else if x = 3 then tyB s else noB s
def stepB (s : ByteArray) : Bool := decide (s.data.toList = [42]) || nmB s
def plB (x : PP) : Bool := nmB x.name && (decide (x.path.length ≤ 40) && x.path.all stepB)
def zeroP : PP := ⟨ByteArray.empty, []⟩
def zeroT : PT := .mk 0 ByteArray.empty []
def zeroE : PE := .mk 0 0 ByteArray.empty ByteArray.empty zeroP [] 0

/-! ### shapes of types and expressions -/
structure TSh where
  known : Bool
  name : Nat
  args : Nat
def tSh (k : Int) : TSh :=
  if k = 1 ∨ k = 2 ∨ k = 3 ∨ k = 10 then ⟨true, 0, 0⟩ else if k = 4 then ⟨true, 3, 0⟩ else if 5 ≤ k ∧ k ≤ 14 then ⟨true, 0, 1⟩ else ⟨false, 0, 0⟩
structure ESh where
  known : Bool
  greatest : Int
  name : Nat
  second : Nat
  place : Bool
  fields : Bool
  fewest : Nat
  most : Nat
def eSh (k : Int) : ESh :=
  if k = 1 then ⟨true, 9223372036854775807, 0, 0, false, false, 0, 0⟩ else if k = 2 then ⟨true, 1, 0, 0, false, false, 0, 0⟩ else if k = 3 then ⟨true, 0, 0, 0, false, false, 0, 0⟩
  else if k = 4 ∨ k = 5 ∨ k = 6 ∨ k = 24 ∨ k = 28 ∨ k = 32 ∨ k = 36 then ⟨true, 0, 0, 0, true, false, 0, 0⟩
  else if k = 25 ∨ k = 33 ∨ k = 34 ∨ k = 35 then ⟨true, 0, 0, 0, true, false, 1, 1⟩
  else if k = 7 ∨ k = 8 ∨ k = 21 ∨ k = 22 ∨ k = 23 ∨ k = 26 ∨ k = 27 ∨ k = 29 ∨ k = 30 ∨ k = 31 then ⟨true, 0, 0, 0, false, false, 1, 1⟩
  else if 9 ≤ k ∧ k ≤ 17 then ⟨true, 0, 0, 0, false, false, 2, 2⟩
  else if k = 18 then ⟨true, 0, 1, 0, false, false, 0, 6⟩ else if k = 19 then ⟨true, 0, 3, 0, false, true, 0, 6⟩ else if k = 20 then ⟨true, 0, 3, 3, false, false, 0, 1⟩
  else ⟨false, 0, 0, 0, false, false, 0, 0⟩

/-! ### what fits -/
/-- the standings: 0 what is whole, 1 or lent, 2 or zero, 3 zero alone -/
def fitT (t : PT) (st : Nat) : Bool :=
  if st = 3 ∨ (st = 2 ∧ t.kind = 0) then sameT t zeroT else (tSh t.kind).known && txB (tSh t.kind).name t.name && decide (t.args.length = (tSh t.kind).args)
def lentB (e : PE) : Bool := decide (e.op = 5) || decide (e.op = 6)
def fitPl (h : ESh) (e : PE) : Bool :=
  if h.place then plB e.place else if h.fields then noB e.place.name && (decide (e.place.path.length = e.args.length) && (decide (e.place.path.length ≤ 6) && e.place.path.all nmB)) else samePl e.place zeroP
def fitSh (h : ESh) (e : PE) : Bool :=
  h.known && (decide (0 ≤ e.int) && (decide (e.int ≤ h.greatest) && (txB h.name e.name && (txB h.second e.second && (fitPl h e && (decide (h.fewest ≤ e.args.length) && decide (e.args.length ≤ h.most)))))))
def fitE (e : PE) (st : Nat) : Bool := if st = 3 then sameE false e zeroE else (!lentB e || decide (st = 1)) && fitSh (eSh e.op) e
def inArgs (e : PE) (st : Nat) : Nat := if st = 3 then 3 else if e.op = 18 then 1 else 0
def wholeT : Nat → PT → Nat → Bool
  | 0, _, _ => false
  | n + 1, t, st => fitT t st && t.args.all (fun u => wholeT n u 0)
def wholeE : Nat → PE → Nat → Bool
  | 0, _, _ => false
  | n + 1, e, st => fitE e st && e.args.all (fun u => wholeE n u (inArgs e st))

/-! ### the document's own way -/
def rT : Nat → PT → Bool
  | 0, _ => false
  | n + 1, t => if t.kind < 1 ∨ 14 < t.kind then false else if t.kind = 1 ∨ t.kind = 2 ∨ t.kind = 3 ∨ t.kind = 10 then noB t.name && decide (t.args.length = 0)
      else if t.kind = 4 then tyB t.name && decide (t.args.length = 0) else noB t.name && (decide (t.args.length = 1) && t.args.all (fun u => rT n u))
def formTab : List (List UInt8) := [[], [105, 48], [98, 48], [48], [112, 48], [112, 48], [112, 48], [49], [49], [50], [50], [50], [50], [50], [50], [50], [50], [50], [110, 54], [116, 102, 54], [116, 118, 57], [49], [49], [49], [112, 48], [112, 49], [49], [49], [112, 48], [49], [49], [49], [112, 48], [112, 49], [112, 49], [112, 49], [112, 48]]
def formL (op : Int) : List UInt8 := formTab.getD op.toNat []
def manyL (f : List UInt8) (n : Nat) : Bool :=
  if f.getLastD 0 = 54 then decide (n ≤ 6) else if f.getLastD 0 = 57 then decide (n ≤ 1) else decide ((n : Int) = (f.getLastD 0).toNat - 48)
def rFields (e : PE) : Bool := noB e.place.name && (decide (e.place.path.length = e.args.length) && e.place.path.all nmB)
def rInt (f : List UInt8) (e : PE) : Bool := if f.contains 105 then decide (0 ≤ e.int) else if f.contains 98 then decide (e.int = 0 ∨ e.int = 1) else decide (e.int = 0)
def rPlace (f : List UInt8) (e : PE) : Bool := if f.contains 112 then plB e.place else if f.contains 102 then rFields e else noB e.place.name && decide (e.place.path.length = 0)
def rName (f : List UInt8) (e : PE) : Bool := if f.contains 110 then nmB e.name else if f.contains 116 then tyB e.name else noB e.name
def rSecond (f : List UInt8) (e : PE) : Bool := if f.contains 118 then tyB e.second else noB e.second
def rSh (e : PE) : Bool := !(formL e.op).isEmpty && (manyL (formL e.op) e.args.length && (rInt (formL e.op) e && (rPlace (formL e.op) e && (rName (formL e.op) e && rSecond (formL e.op) e))))
def rE : Nat → PE → Bool
  | 0, _ => false
  | n + 1, e => rSh e && e.args.all (fun a => (!lentB a || decide (e.op = 18)) && rE n a)

/-! ### both are one -/
theorem noB_iff (s : ByteArray) : noB s = decide (s = ByteArray.empty) := by
  unfold noB
  rw [Bool.eq_iff_iff, decide_eq_true_eq, decide_eq_true_eq]
  constructor
  · intro h
    obtain ⟨⟨l⟩⟩ := s
    have : l = [] := by simpa [ByteArray.size] using h
    subst this; rfl
  · rintro rfl; rfl
theorem u8_lt {x : Int} (h : U8 x) : 0 ≤ x ∧ x ≤ 255 := by
  unfold U8 at h
  simp only [Lit.wf, Bool.and_eq_true, decide_eq_true_eq] at h
  have a : IntKind.u8.min = 0 := by decide
  have b : IntKind.u8.max = 255 := by decide
  omega
theorem i64_lt {x : Int} (h : I64 x) : x ≤ 9223372036854775807 := by
  unfold I64 at h
  simp only [Lit.wf, Bool.and_eq_true, decide_eq_true_eq] at h
  have b : IntKind.i64.max = 9223372036854775807 := by decide
  omega
theorem wholeT_eq : ∀ (n : Nat) (t : PT), wholeT n t 0 = rT n t
  | 0, _ => rfl
  | n + 1, t => by
    have ih : (fun u => wholeT n u 0) = (fun u => rT n u) := funext fun u => wholeT_eq n u
    rw [wholeT, rT, ih]
    unfold fitT
    rw [if_neg (by simp)]
    unfold tSh
    by_cases h0 : t.kind < 1 ∨ 14 < t.kind
    · rw [if_pos h0, if_neg (by omega), if_neg (by omega), if_neg (by omega)]; rfl
    · rw [if_neg h0]
      by_cases h1 : t.kind = 1 ∨ t.kind = 2 ∨ t.kind = 3 ∨ t.kind = 10
      · rw [if_pos h1, if_pos h1]
        simp only [txB]
        cases ha : t.args with
        | nil => simp
        | cons a l => simp
      · rw [if_neg h1, if_neg h1]
        by_cases h4 : t.kind = 4
        · rw [if_pos h4, if_pos h4]
          cases ha : t.args with
          | nil => simp [txB]
          | cons a l => simp [txB]
        · rw [if_neg h4, if_neg h4, if_pos (by omega)]
          simp [txB, Bool.and_assoc]
theorem samePl_zero (x : PP) : samePl x zeroP = (noB x.name && decide (x.path.length = 0)) := by
  unfold samePl zeroP
  rw [noB_iff, sameW_eq, allW_eq]
  simp
theorem op_cases {k : Int} (h : 0 ≤ k ∧ k ≤ 255) : (36 < k ∧ k ≤ 255) ∨ k = 0 ∨ k = 1 ∨ k = 2 ∨ k = 3 ∨ k = 4 ∨ k = 5 ∨ k = 6 ∨ k = 7 ∨ k = 8 ∨ k = 9 ∨ k = 10 ∨ k = 11 ∨ k = 12 ∨ k = 13 ∨ k = 14 ∨ k = 15 ∨ k = 16 ∨ k = 17 ∨ k = 18 ∨ k = 19 ∨ k = 20 ∨ k = 21 ∨ k = 22 ∨ k = 23 ∨ k = 24 ∨ k = 25 ∨ k = 26 ∨ k = 27 ∨ k = 28 ∨ k = 29 ∨ k = 30 ∨ k = 31 ∨ k = 32 ∨ k = 33 ∨ k = 34 ∨ k = 35 ∨ k = 36 := by omega
set_option maxHeartbeats 4000000 in
theorem fitSh_eq (e : PE) (hu : U8 e.op) (hi : I64 e.int) : fitSh (eSh e.op) e = rSh e := by
  have h1 := u8_lt hu
  have h2 := i64_lt hi
  have hz := samePl_zero e.place
  have h3 : (decide (0 ≤ e.int) && decide (e.int ≤ 0)) = decide (e.int = 0) := by rw [Bool.eq_iff_iff]; simp; omega
  have h4 : (decide (0 ≤ e.int) && decide (e.int ≤ 1)) = decide (e.int = 0 ∨ e.int = 1) := by rw [Bool.eq_iff_iff]; simp; omega
  have h5 : decide (e.int ≤ 9223372036854775807) = true := by simpa using h2
  have a0 : decide (e.args.length ≤ 0) = decide (e.args.length = 0) := by rw [Bool.eq_iff_iff]; simp
  have a1 : (decide (1 ≤ e.args.length) && decide (e.args.length ≤ 1)) = decide (e.args.length = 1) := by rw [Bool.eq_iff_iff]; simp; omega
  have a2 : (decide (2 ≤ e.args.length) && decide (e.args.length ≤ 2)) = decide (e.args.length = 2) := by rw [Bool.eq_iff_iff]; simp; omega
  generalize hop : e.op = k at *
  rcases op_cases h1 with h | h
  · unfold fitSh rSh
    have e1 : eSh k = ⟨false, 0, 0, 0, false, false, 0, 0⟩ := by
      unfold eSh
      repeat rw [if_neg (by omega)]
    have e2 : formL k = [] := by
      unfold formL
      rw [List.getD_eq_getElem?_getD, List.getElem?_eq_none (by simp [formTab]; omega)]; rfl
    rw [hop, e1, e2]; rfl
  · unfold fitSh rSh fitPl rInt rPlace rName rSecond rFields
    rw [hop]
    clear hop
    rcases h with rfl | rfl | rfl | rfl | rfl | rfl | rfl | rfl | rfl | rfl | rfl | rfl | rfl | rfl | rfl | rfl | rfl | rfl | rfl | rfl | rfl | rfl | rfl | rfl | rfl | rfl | rfl | rfl | rfl | rfl | rfl | rfl | rfl | rfl | rfl | rfl | rfl
    all_goals (rw [Bool.eq_iff_iff]; simp [eSh, formL, formTab, manyL, txB, hz]; try grind)
theorem PE.Row.mem {B : Nat} {w : World} {b : Nat} : ∀ {l : List PE} {o : Nat} {a : PE}, PE.Row B w b o l → a ∈ l → ∃ v, a.In B w v
  | x :: l, o, a, h, hm => by
    cases hm with
    | head => obtain ⟨⟨v, _, hv⟩, _⟩ := h; exact ⟨v, hv⟩
    | tail _ hm => exact PE.Row.mem h.2 hm
theorem all_congr {α : Type} {f g : α → Bool} : ∀ {l : List α}, (∀ a, a ∈ l → f a = g a) → l.all f = l.all g
  | [], _ => rfl
  | a :: l, h => by rw [List.all_cons, List.all_cons, h a (by simp), all_congr (fun b hb => h b (by simp [hb]))]
theorem wholeE_eq {B : Nat} {w : World} : ∀ (n : Nat) (e : PE) (v : VE) (st : Nat), e.In B w v → st < 2 → wholeE n e st = ((!lentB e || decide (st = 1)) && rE n e)
  | 0, _, _, _, _, _ => by rw [wholeE, rE, Bool.and_false]
  | n + 1, e, v, st, h, hs => by
    have hall : e.args.all (fun u => wholeE n u (inArgs e st)) = e.args.all (fun a => (!lentB a || decide (e.op = 18)) && rE n a) := by
      refine all_congr fun a ha => ?_
      have hin : ∃ va, a.In B w va := by
        obtain ⟨op, iv, nm, sc, pl, xs, ps⟩ := e
        obtain ⟨_, _, b, o, _, hr⟩ := h
        exact PE.Row.mem hr ha
      obtain ⟨va, hva⟩ := hin
      unfold inArgs
      rw [if_neg (by omega)]
      by_cases h18 : e.op = 18
      · rw [if_pos h18, wholeE_eq n a va 1 hva (by omega)]; simp [h18]
      · rw [if_neg h18, wholeE_eq n a va 0 hva (by omega)]; simp [h18]
    have hf : fitE e st = ((!lentB e || decide (st = 1)) && rSh e) := by
      unfold fitE
      rw [if_neg (by omega)]
      obtain ⟨op, iv, nm, sc, pl, xs, ps⟩ := e
      obtain ⟨⟨hu, hi, _⟩, _⟩ := h
      rw [fitSh_eq (.mk op iv nm sc pl xs ps) hu hi]
    rw [wholeE, rE, hall, hf, Bool.and_assoc]
end Go.Proofs.Ytabncmmadbjegaa
/- Contracts of package tree, first part: whether two types are the same. -/
namespace Go.Proofs.Ytabncmmadbjegaa
open Go.RowKit
set_option linter.unusedVariables false

theorem up_tr {w w1 w2 : World} (a : Below w.heap.size w w1) (b : Below w1.heap.size w1 w2) : Below w.heap.size w w2 := a.trans (b.mono a.size)
theorem box2 (w : World) (a b : Obj) : Below w.heap.size w ((w.alloc a).alloc b) := ((Below.refl _ w).alloc (Nat.le_refl _) _).alloc (by simp) _
theorem box2B {B : Nat} (w : World) (hB : B ≤ w.heap.size) (a b : Obj) : Below B w ((w.alloc a).alloc b) := (box2 w a b).mono hB
theorem old_cells {W w1 : World} (hb : Below W.heap.size W w1) : ∀ b o, b < W.heap.size → w1.cell? ⟨b, o, none⟩ = W.cell? ⟨b, o, none⟩ := fun b o h => hb.cell (p := ⟨b, o, none⟩) h
theorem below_drewN (w : World) (q : Nat) : Below w.heap.size w (w.drewN q) := by
  refine ⟨?_, ?_, ?_, ?_, ?_⟩ <;> first | rfl | simp
theorem get_at {α : Type} {l : List α} {k : Nat} (h : k < l.length) : ∃ a, l[k]? = some a ∧ a ∈ l := ⟨l[k], List.getElem?_eq_getElem h, List.getElem_mem h⟩

/-! ### names and places -/
end Go.Proofs.Ytabncmmadbjegaa
/- Contracts of package tree: slices.EqualFunc at its sort E (made by gen_same.py). -/
namespace Go.Proofs.Ytabncmmadbjegaa
open Go.RowKit
set_option linter.unusedVariables false

end Go.Proofs.Ytabncmmadbjegaa
/- Contracts of package tree: sameness, SameE (made by gen_same.py). -/
namespace Go.Proofs.Ytabncmmadbjegaa
open Go.RowKit
set_option linter.unusedVariables false

end Go.Proofs.Ytabncmmadbjegaa
/- Contracts of package lex, first part: bytes, and how many of them belong together. -/
namespace Go.Proofs.Ytabncmmadbjegaa
open Go.RowKit
set_option linter.unusedVariables false

theorem smallB_iff (c : UInt8) : smallB c = true ↔ 97 ≤ c.toNat ∧ c.toNat ≤ 122 := by simp [smallB]
theorem greatB_iff (c : UInt8) : greatB c = true ↔ 65 ≤ c.toNat ∧ c.toNat ≤ 90 := by simp [greatB]
theorem smallB_no {c : UInt8} (h : c.toNat < 97 ∨ 122 < c.toNat) : smallB c = false := by simp only [smallB, decide_eq_false_iff_not]; omega
theorem greatB_no {c : UInt8} (h : c.toNat < 65 ∨ 90 < c.toNat) : greatB c = false := by simp only [greatB, decide_eq_false_iff_not]; omega

theorem byte95 (c : UInt8) : ((c.toNat : Int) == 95) = decide (c.toNat = 95) := by
  rw [Bool.eq_iff_iff]; simp; omega

theorem take_pre {p : UInt8 → Bool} : ∀ {l : List UInt8} {k : Nat}, k ≤ l.length → (l.take k).all p = true → (∀ c, l[k]? = some c → p c = false) → pre p l = k
  | [], k, hk, _, _ => by simp at hk; subst hk; rfl
  | c :: r, 0, _, _, h => pre_cons_no (h c rfl)
  | c :: r, k + 1, hk, ha, h => by
    simp only [List.take_succ_cons, List.all_cons, Bool.and_eq_true] at ha
    rw [pre_cons_yes ha.1, take_pre (by simpa using hk) ha.2 (fun d hd => h d (by simpa using hd))]; omega
theorem all_snoc' {p : UInt8 → Bool} {s : ByteArray} {k : Nat} (h : k < s.size) (ha : (s.data.toList.take k).all p = true) (hd : p s[k] = true) : (s.data.toList.take (k + 1)).all p = true := by
  rw [take_snoc s k h, List.all_append, ha]; simp [hd]
theorem at_byte {s : ByteArray} {k : Nat} (h : k < s.size) : s.data.toList[k]? = some s[k] := by
  rw [List.getElem?_eq_getElem (by simpa using h)]; rfl
theorem ret_int {a b : Int} (h : a = b) : Ending.returned (.int .i64 a) = .returned (.int .i64 b) := by rw [h]

end Go.Proofs.Ytabncmmadbjegaa
/- Contracts of package lex, second part: signs, names, numerals; what stands between tokens; what belongs together. -/
namespace Go.Proofs.Ytabncmmadbjegaa
open Go.RowKit
set_option linter.unusedVariables false

theorem ext_drop (s : ByteArray) (k : Nat) : (s.extract k s.size).data.toList = s.data.toList.drop k := by
  simp only [ByteArray.data_extract, Array.toList_extract, List.extract_eq_take_drop]
  exact List.take_of_length_le (by rw [List.length_drop]; exact Nat.le_refl _)
theorem ext_take (s : ByteArray) (k : Nat) (h : k ≤ s.size) : (s.extract 0 k).data.toList = s.data.toList.take k := by
  simp
theorem index_line : ∀ l : List UInt8, (Lib.indexByte l 10 = (lineL l : Int) ∧ lineL l < l.length) ∨ (Lib.indexByte l 10 = -1 ∧ lineL l = l.length)
  | [] => .inr ⟨rfl, rfl⟩
  | c :: r => by
    by_cases h : c = 10
    · subst h
      refine .inl ⟨?_, ?_⟩
      · rw [show lineL (10 :: r) = 0 from pre_cons_no (by decide)]; rfl
      · rw [show lineL (10 :: r) = 0 from pre_cons_no (by decide)]; simp
    · have hn : c.toNat ≠ 10 := fun e => h (UInt8.toNat_inj.1 e)
      have e : lineL (c :: r) = lineL r + 1 := (pre_cons_yes (by simp [hn])).trans (by unfold lineL; omega)
      have hb : (c == 10) = false := by simp [h]
      rcases index_line r with ⟨h1, h2⟩ | ⟨h1, h2⟩
      · refine .inl ⟨?_, by rw [e, List.length_cons]; omega⟩
        rw [Lib.indexByte, hb, h1, e]
        have : ((lineL r : Int) == -1) = false := by rw [beq_eq_false_iff_ne]; omega
        simp [this]
      · refine .inr ⟨?_, by rw [e, h2]; rfl⟩
        rw [Lib.indexByte, hb, h1]; rfl

theorem toList_is (s : ByteArray) (l : List UInt8) : (s.toList == l) = (s.data.toList == l) := by rw [ByteArray.toList_eq]
theorem one_of {s : ByteArray} (h : s.size = 1) : ∃ c, s = ⟨#[c]⟩ := by
  obtain ⟨⟨l⟩⟩ := s
  match l, h with
  | [c], _ => exact ⟨c, rfl⟩
theorem oneL_no {s : ByteArray} (h : ¬ s.size = 1) : oneL s.data.toList = false := by
  obtain ⟨⟨l⟩⟩ := s
  match l, h with
  | [], _ => rfl
  | [c], h => exact absurd rfl h
  | a :: b :: r, _ => rfl
theorem short_index (c : UInt8) : ∀ l : List UInt8, decide (0 ≤ Lib.indexByte l c) = l.contains c
  | [] => rfl
  | b :: l => by
    have ih := short_index c l
    have hg := Lib.indexByte_ge l c
    rw [Lib.indexByte, List.contains_cons]
    by_cases h : b = c
    · subst h; simp
    · have h1 : (b == c) = false := by simp [h]
      have h2 : (c == b) = false := by simp [Ne.symm h]
      rw [h1, h2, Bool.false_or, ← ih]
      simp only [Bool.false_eq_true, if_false]
      by_cases hi : Lib.indexByte l c = -1
      · simp [hi]
      · have : (Lib.indexByte l c == -1) = false := by simp [hi]
        rw [this]
        simp only [Bool.false_eq_true, if_false]
        exact decide_eq_decide.2 (by omega)

theorem like_pre (l : List UInt8) : (pre nameB l = l.length) ↔ l.all nameB = true := by
  constructor
  · intro h
    have hp := List.takeWhile_prefix nameB (l := l)
    have e : l.takeWhile nameB = l := hp.eq_of_length h
    rw [← e]
    exact List.all_takeWhile
  · intro h
    exact take_pre (Nat.le_refl _) (by rw [List.take_length]; exact h) (fun c hc => by simp at hc)

theorem blank_index (c : UInt8) : decide (0 ≤ Lib.indexByte [32, 9, 10, 13] c) = blankB c := by
  rw [short_index, Bool.eq_iff_iff]
  simp only [List.contains_cons, List.contains_nil, Bool.or_false, Bool.or_eq_true, beq_iff_eq, blankB, decide_eq_true_eq]
  have h : ∀ d : UInt8, c = d ↔ c.toNat = d.toNat := fun d => ⟨fun e => by rw [e], fun e => UInt8.toNat_inj.1 e⟩
  rw [h 32, h 9, h 10, h 13]; rfl
theorem drop_byte {s : ByteArray} {k : Nat} (h : k < s.size) : s.data.toList.drop k = s[k] :: s.data.toList.drop (k + 1) := by
  rw [List.drop_eq_getElem_cons (by simpa using h)]; rfl
theorem slashes (l : List UInt8) : Lib.hasPrefix l [47, 47] = (headB (fun d => decide (d.toNat = 47)) l && headB (fun d => decide (d.toNat = 47)) (l.drop 1)) := by
  have h : ∀ d : UInt8, ((47 : UInt8) == d) = decide (d.toNat = 47) := fun d => by
    rw [Bool.eq_iff_iff, beq_iff_eq, decide_eq_true_eq]
    exact ⟨fun e => by rw [← e]; rfl, fun e => (UInt8.toNat_inj.1 e).symm⟩
  match l with
  | [] => rfl
  | [c] => show ((47 : UInt8) == c && false) = _; rw [h]; rfl
  | c :: d :: r => show ((47 : UInt8) == c && ((47 : UInt8) == d && true)) = _; rw [h, h, Bool.and_true]; rfl
theorem head47 {l : List UInt8} (h : headB (fun d => decide (d.toNat = 47)) l = true) : ∃ r, l = 47 :: r := by
  cases l with
  | nil => cases h
  | cons c r => exact ⟨r, by rw [show c = 47 from UInt8.toNat_inj.1 (by simpa [headB] using h)]⟩
theorem gap_remark {l : List UInt8} (h : Lib.hasPrefix l [47, 47] = true) : 2 ≤ lineL l ∧ gapF false l = lineL l + gapF false (l.drop (lineL l)) := by
  rw [slashes, Bool.and_eq_true] at h
  obtain ⟨r, rfl⟩ := head47 h.1
  obtain ⟨r, rfl⟩ := head47 (l := r) h.2
  have e : lineL (47 :: 47 :: r) = lineL r + 2 := by
    unfold lineL
    rw [pre_cons_yes (by decide), pre_cons_yes (by decide)]; omega
  rw [e, gapF_slash, gapF_line]
  exact ⟨by omega, by rw [List.drop_succ_cons, List.drop_succ_cons]; omega⟩
theorem gap_stop {s : ByteArray} {j : Nat} (hj : j < s.size) (hb : blankB s[j] = false) (h : Lib.hasPrefix (s.data.toList.drop j) [47, 47] = false) : gapF false (s.data.toList.drop j) = 0 := by
  rw [drop_byte hj] at h ⊢
  refine gapF_none hb fun h2 => ?_
  rw [slashes] at h
  rw [List.drop_succ_cons, List.drop_zero, h2.2, Bool.and_true] at h
  simp [headB, h2.1] at h

end Go.Proofs.Ytabncmmadbjegaa
/- Contracts of package lex, third part: what belongs together at the beginning of a text. -/
namespace Go.Proofs.Ytabncmmadbjegaa
open Go.RowKit
set_option linter.unusedVariables false

/-- a string of the bytes of a list -/
def bs (l : List UInt8) : ByteArray := ⟨l.toArray⟩
theorem bs_list (l : List UInt8) : (bs l).data.toList = l := rfl
theorem bs_size (l : List UInt8) : (bs l).size = l.length := rfl
theorem bs_of (s : ByteArray) : bs s.data.toList = s := rfl
theorem ext_bs (s : ByteArray) (k : Nat) (h : k ≤ s.size) : s.extract 0 k = bs (s.data.toList.take k) := by
  rw [← ext_take s k h]; rfl
theorem ret_str {a b : ByteArray} (h : a = b) : Ending.returned (.string a) = .returned (.string b) := by rw [h]
theorem head_byte (p : UInt8 → Bool) (s : ByteArray) (h : 0 < s.size) : headB p s.data.toList = p s[0] := by
  have := drop_byte h
  rw [List.drop_zero] at this
  rw [this]; rfl
theorem togL_letter {l : List UInt8} (h : headB smallB l = true ∨ headB greatB l = true) : togL l = pre nameB l := by
  unfold togL; rw [if_pos (by rw [Bool.or_eq_true]; exact h)]
theorem togL_digit {l : List UInt8} (h1 : headB smallB l = false) (h2 : headB greatB l = false) (h3 : headB dgt l = true) : togL l = pre dgt l := by
  unfold togL; rw [if_neg (by simp [h1, h2]), if_pos h3]
theorem togL_two {l : List UInt8} (h1 : headB smallB l = false) (h2 : headB greatB l = false) (h3 : headB dgt l = false) (h4 : 1 < l.length) (h5 : signL (l.take 2) = true) : togL l = 2 := by
  unfold togL; rw [if_neg (by simp [h1, h2]), if_neg (by simp [h3]), if_pos (by simp [h4, h5])]
theorem togL_one {l : List UInt8} (h1 : headB smallB l = false) (h2 : headB greatB l = false) (h3 : headB dgt l = false) (h4 : ¬ 1 < l.length ∨ signL (l.take 2) = false) : togL l = 1 := by
  unfold togL; rw [if_neg (by simp [h1, h2]), if_neg (by simp [h3]), if_neg (by rcases h4 with h4 | h4 <;> simp [h4])]

end Go.Proofs.Ytabncmmadbjegaa
