/- The plain part of layer 4: the tokens of trees, and the text of a row of tokens. -/
import Derived.Test.YthilicmhdkmipaaGreatDoorITreeMath
import Derived.Lib.ItoaMem
import Derived.Test.YthilicmhdkmipaaGreatDoorIJoinAW
import Derived.Lib.ItoaLen
import Derived.Test.YthilicmhdkmipaaGreatDoorIJoinAE
namespace Go.Proofs.YthilicmhdkmipaaGreatDoor
open Go.RowKit
set_option linter.unusedVariables false

abbrev TkB := List UInt8
/-- what a row of tokens leaves behind a text: g stands ahead of the first one, a blank ahead of each other one -/
def puts (g : TkB) : List TkB → TkB
  | [] => []
  | t :: l => g ++ t ++ puts [32] l
/-- what stands ahead of the next one -/
def gapA (g : TkB) : List TkB → TkB
  | [] => g
  | _ :: _ => [32]
theorem puts_append (g : TkB) : ∀ a b : List TkB, puts g (a ++ b) = puts g a ++ puts (gapA g a) b
  | [], b => rfl
  | t :: a, b => by
    rw [List.cons_append, puts, puts, puts_append [32] a b]
    cases a <;> simp [gapA]
theorem gapA_append (g : TkB) : ∀ a b : List TkB, gapA g (a ++ b) = gapA (gapA g a) b
  | [], b => rfl
  | t :: a, [] => by simp [gapA]
  | t :: a, u :: b => rfl
/-- tokens with one blank between any two -/
def lineT (l : List TkB) : TkB := puts [] l

/-! ### words -/
def kT (s : ByteArray) : TkB := s.data.toList
def wOpen : TkB := [40]
def wEnd : TkB := [41]
def wComma : TkB := [44]
def wDot : TkB := [46]
def wColon : TkB := [58]
def wSemi : TkB := [59]
def wLess : TkB := [60]
def wGives : TkB := [61]
def wMore : TkB := [62]
def wLeft : TkB := [123]
def wRight : TkB := [125]
def wAmp : TkB := [38]
def wMut : TkB := [109, 117, 116]
def typeWord (k : Int) : TkB :=
  [[], [105, 110, 116], [98, 111, 111, 108], [117, 110, 105, 116], [], [66, 111, 120], [67, 101, 108, 108], [82, 99], [65, 114, 99], [77, 117, 116, 101, 120], [65, 116, 111, 109, 105, 99], [83, 101, 110, 100, 101, 114], [82, 101, 99, 101, 105, 118, 101, 114]].getD k.toNat []
/-- lists of tokens with commas between -/
def joinT : List (List TkB) → List TkB
  | [] => []
  | [a] => a
  | a :: b :: l => a ++ wComma :: joinT (b :: l)
/-- the same, as a list goes on: k of them are written -/
def restT : List (List TkB) → List TkB
  | [] => []
  | a :: l => wComma :: a ++ restT l
theorem joinT_cons (a : List TkB) (l : List (List TkB)) : joinT (a :: l) = a ++ restT l := by
  induction l generalizing a with
  | nil => simp [joinT, restT]
  | cons b l ih => rw [joinT, ih b, restT]; simp

/-! ### types, places -/
mutual
def tokT : PT → List TkB
  | .mk k n l => if k = 4 then [kT n] else if k = 1 ∨ k = 2 ∨ k = 3 ∨ k = 10 then [typeWord k] else if k = 13 then wAmp :: tokTs l else if k = 14 then wAmp :: wMut :: tokTs l
      else typeWord k :: wLess :: (tokTs l ++ [wMore])
def tokTs : List PT → List TkB
  | [] => []
  | t :: _ => tokT t
end
def stepsT : List ByteArray → List TkB
  | [] => []
  | s :: l => wDot :: kT s :: stepsT l
def tokP (x : PP) : List TkB := kT x.name :: stepsT x.path

/-! ### expressions -/
def strongB (op : Int) : Nat := if op = 17 then 0 else if op = 16 then 1 else if op = 8 then 2 else if op = 14 ∨ op = 15 then 3 else if op = 9 ∨ op = 10 then 4 else if op = 11 ∨ op = 12 ∨ op = 13 then 5 else if op = 7 then 6 else 7
def exprWord (k : Int) : TkB :=
  [[], [], [], [], [], [], [], [45], [110, 111, 116], [43], [45], [42], [47], [37], [60], [61, 61], [97, 110, 100], [111, 114], [], [], [], [98, 111, 120], [117, 110, 98, 111, 120], [99, 101, 108, 108], [103, 101, 116], [115, 101, 116], [114, 99], [97, 114, 99], [99, 108, 111, 110, 101], [109, 117, 116, 101, 120], [111, 112, 101, 110], [97, 116, 111, 109, 105, 99], [108, 111, 97, 100], [115, 116, 111, 114, 101], [102, 101, 116, 99, 104], [115, 101, 110, 100], [114, 101, 99, 118]].getD k.toNat []
def opAt (l : List PE) (j : Nat) : Int := (l[j]?.map PE.op).getD 0
/-- what stands beside a sign -/
def sideT (k : Nat) (op : Int) (ts : List TkB) : List TkB := if k ≤ strongB op then ts else wOpen :: (ts ++ [wEnd])
def leftB (op : Int) : Nat := if strongB op = 3 then 4 else strongB op
/-- names, and what they are given -/
def pairsT : List ByteArray → List (List TkB) → List (List TkB)
  | n :: ns, t :: ts => (kT n :: wGives :: t) :: pairsT ns ts
  | _, _ => []
def boolWord (i : Int) : TkB := if i = 1 then [116, 114, 117, 101] else [102, 97, 108, 115, 101]
def enumT (ts : List (List TkB)) : List TkB := match ts with
  | [] => []
  | t :: _ => wOpen :: (t ++ [wEnd])
def placeT (p : PP) (l : List (List TkB)) : List TkB := if kT p.name = [] then joinT l else tokP p ++ (match l with | [] => [] | a :: r => wComma :: joinT (a :: r))
mutual
def tokE : PE → List TkB
  | .mk op i n s p l _ =>
    if op = 1 then [Lib.itoa i] else if op = 2 then [boolWord i] else if op = 3 then [wOpen, wEnd] else if op = 4 then tokP p else if op = 5 then wAmp :: tokP p else if op = 6 then wAmp :: wMut :: tokP p
    else if op = 18 then kT n :: wOpen :: (joinT (tokEs l) ++ [wEnd]) else if op = 19 then kT n :: wLeft :: (joinT (pairsT p.path (tokEs l)) ++ [wRight])
    else if op = 20 then kT n :: wDot :: kT s :: enumT (tokEs l)
    else if op = 7 ∨ op = 8 then exprWord op :: sideT (strongB op) (opAt l 0) ((tokEs l).getD 0 [])
    else if 9 ≤ op ∧ op ≤ 17 then sideT (leftB op) (opAt l 0) ((tokEs l).getD 0 []) ++ exprWord op :: sideT (strongB op + 1) (opAt l 1) ((tokEs l).getD 1 [])
    else exprWord op :: wOpen :: (placeT p (tokEs l) ++ [wEnd])
def tokEs : List PE → List (List TkB)
  | [] => []
  | e :: l => tokE e :: tokEs l
end
/-! ### statements -/
def wLet : TkB := [108, 101, 116]
def wDrop : TkB := [100, 114, 111, 112]
def wChan : TkB := [99, 104, 97, 110]
def wAs : TkB := [97, 115]
def wIf : TkB := [105, 102]
def wElse : TkB := [101, 108, 115, 101]
def wWhile : TkB := [119, 104, 105, 108, 101]
def wMatch : TkB := [109, 97, 116, 99, 104]
def wScope : TkB := [115, 99, 111, 112, 101]
def wSpawn : TkB := [115, 112, 97, 119, 110]
def wLock : TkB := [108, 111, 99, 107]
def wThen : TkB := [61, 62]
def wInto : TkB := [45, 62]
def endT (es : List PE) : List TkB := (tokEs es).getD 0 [] ++ [wSemi]
def blockT (ts : List TkB) : List TkB := wLeft :: (ts ++ [wRight])
def elseT (b : Bool) (ts : List TkB) : List TkB := if b then [] else wElse :: blockT ts
mutual
def tokS : PS → List TkB
  | .mk op n s ns t i p es bo el ar _ =>
    if op = 1 then wLet :: kT n :: wGives :: endT es else if op = 2 then wLet :: kT n :: wLeft :: (joinT (ns.map fun x => [kT x]) ++ wRight :: wGives :: endT es)
    else if op = 3 then tokP p ++ wGives :: endT es else if op = 4 then endT es else if op = 5 then [wDrop, kT n, wSemi]
    else if op = 12 then wChan :: wLess :: (tokT t ++ [wMore, wOpen, Lib.itoa i, wEnd, wAs, kT n, wComma, kT s, wSemi])
    else if op = 6 then wIf :: ((tokEs es).getD 0 [] ++ (blockT (tokSs bo) ++ elseT el.isEmpty (tokSs el)))
    else if op = 7 then wWhile :: ((tokEs es).getD 0 [] ++ blockT (tokSs bo))
    else if op = 8 then wMatch :: kT n :: wColon :: kT s :: wLeft :: (tokAs ar ++ [wRight])
    else if op = 9 then wScope :: blockT (tokSs bo)
    else if op = 10 then wSpawn :: wOpen :: (joinT (pairsT ns (tokEs es)) ++ wEnd :: blockT (tokSs bo))
    else if op = 11 then wLock :: (tokP p ++ wAs :: kT n :: blockT (tokSs bo))
    else if op = 13 then blockT (tokSs bo)
    else []
def tokA : PA → List TkB
  | .mk v n bo => kT v :: ((if kT n = [] then [] else [wOpen, kT n, wEnd]) ++ wThen :: blockT (tokSs bo))
def tokSs : List PS → List TkB
  | [] => []
  | s :: l => tokS s ++ tokSs l
def tokAs : List PA → List TkB
  | [] => []
  | a :: l => tokA a ++ tokAs l
end
/-! ### items -/
def wStruct : TkB := [115, 116, 114, 117, 99, 116]
def wEnum : TkB := [101, 110, 117, 109]
def wFn : TkB := [102, 110]
def fieldT (f : PF) : List TkB := kT f.name :: wColon :: tokT f.type
def variantT (f : PF) : List TkB := kT f.name :: (if f.type.kind = 0 then [] else wOpen :: (tokT f.type ++ [wEnd]))
def tokI (x : PI) : List TkB :=
  if x.kind = 1 then wStruct :: kT x.name :: wLeft :: (joinT (x.fields.map fieldT) ++ [wRight])
  else if x.kind = 2 then wEnum :: kT x.name :: wLeft :: (joinT (x.fields.map variantT) ++ [wRight])
  else if x.kind = 3 then wFn :: kT x.name :: wOpen :: (joinT (x.fields.map fieldT) ++ wEnd :: wInto :: (tokT x.result ++ wLeft :: (tokSs x.body ++ (tokE x.ret ++ [wRight]))))
  else []
/-- a program's text -/
def textP : List PI → TkB
  | [] => []
  | x :: l => lineT (tokI x) ++ [10] ++ textP l
end Go.Proofs.YthilicmhdkmipaaGreatDoor
/- How long the texts of types, places and expressions are that are not too great. -/
namespace Go.Proofs.YthilicmhdkmipaaGreatDoor
open Go.RowKit
set_option linter.unusedVariables false

/-- what a row of tokens weighs: its bytes, and a blank for each -/
def wtT : List TkB → Nat
  | [] => 0
  | t :: l => t.length + 1 + wtT l
theorem wtT_app : ∀ a b : List TkB, wtT (a ++ b) = wtT a + wtT b
  | [], b => by simp [wtT]
  | t :: a, b => by rw [List.cons_append, wtT, wtT, wtT_app a b]; omega
theorem wtT_puts : ∀ (a : List TkB) (g : TkB), (puts g a).length ≤ g.length + wtT a
  | [], g => by simp [puts]
  | t :: a, g => by
    rw [puts, List.length_append, List.length_append, wtT]
    have := wtT_puts a [32]
    simp at this; omega
theorem wtT_line (a : List TkB) : (lineT a).length ≤ wtT a := by
  have := wtT_puts a []
  simpa [lineT] using this
theorem typeWord_len (k : Int) : (typeWord k).length ≤ 8 := by
  unfold typeWord
  generalize k.toNat = j
  by_cases h : j < 13
  · have hall : ∀ j : Fin 13, (([[], [105, 110, 116], [98, 111, 111, 108], [117, 110, 105, 116], [], [66, 111, 120], [67, 101, 108, 108], [82, 99], [65, 114, 99], [77, 117, 116, 101, 120], [65, 116, 111, 109, 105, 99], [83, 101, 110, 100, 101, 114], [82, 101, 99, 101, 105, 118, 101, 114]] : List TkB).getD j.val []).length ≤ 8 := by decide
    exact hall ⟨j, h⟩
  · rw [List.getD_eq_getElem?_getD, List.getElem?_eq_none (by simp; omega)]; simp
theorem exprWord_len (k : Int) : (exprWord k).length ≤ 6 := by
  unfold exprWord
  generalize k.toNat = j
  by_cases h : j < 37
  · have hall : ∀ j : Fin 37, (([[], [], [], [], [], [], [], [45], [110, 111, 116], [43], [45], [42], [47], [37], [60], [61, 61], [97, 110, 100], [111, 114], [], [], [], [98, 111, 120], [117, 110, 98, 111, 120], [99, 101, 108, 108], [103, 101, 116], [115, 101, 116], [114, 99], [97, 114, 99], [99, 108, 111, 110, 101], [109, 117, 116, 101, 120], [111, 112, 101, 110], [97, 116, 111, 109, 105, 99], [108, 111, 97, 100], [115, 116, 111, 114, 101], [102, 101, 116, 99, 104], [115, 101, 110, 100], [114, 101, 99, 118]] : List TkB).getD j.val []).length ≤ 6 := by decide
    exact hall ⟨j, h⟩
  · rw [List.getD_eq_getElem?_getD, List.getElem?_eq_none (by simp; omega)]; simp
theorem nameR_ok {m : Int} {n : Nat} (h : 0 ≤ nameR m n) : nameR m n = m - 5 - n := by
  unfold nameR at *
  split at h
  · omega
  · rename_i h2; rw [if_neg h2]
theorem typesR_neg : ∀ (l : List PT) (m : Int), m < 0 → typesR l m = m
  | [], m, _ => by rw [typesR]
  | t :: l, m, h => by rw [typesR, if_pos h]
theorem exprsR_neg : ∀ (l : List PE) (m : Int), m < 0 → exprsR l m = m
  | [], m, _ => by rw [exprsR]
  | t :: l, m, h => by rw [exprsR, if_pos h]
theorem kT_len (s : ByteArray) : (kT s).length = s.size := rfl
mutual
theorem typeR_w : ∀ (t : PT) (m : Int), 0 ≤ typeR t m → (wtT (tokT t) : Int) + 2 ≤ 5 * (m - typeR t m)
  | .mk k n ts, m, h => by
    rw [typeR] at h ⊢
    by_cases h0 : nameR m n.size < 0
    · rw [typesR_neg _ _ h0] at h; omega
    have hn := nameR_ok (m := m) (n := n.size) (by omega)
    have ih := typesR_w ts (nameR m n.size) h
    have hk := typeWord_len k
    have hkl := kT_len n
    rw [tokT]
    split
    · simp only [wtT]; omega
    · split
      · simp only [wtT]; omega
      · split
        · simp only [wtT, wAmp, List.length_cons, List.length_nil]; omega
        · split
          · simp only [wtT, wAmp, wMut, List.length_cons, List.length_nil]; omega
          · simp only [wtT, wLess, wMore, wtT_app, List.length_cons, List.length_nil]; omega
theorem typesR_w : ∀ (l : List PT) (m : Int), 0 ≤ typesR l m → (wtT (tokTs l) : Int) ≤ 5 * (m - typesR l m)
  | [], m, h => by rw [typesR, tokTs]; simp [wtT]
  | t :: l, m, h => by
    rw [typesR] at h ⊢
    by_cases h0 : m < 0
    · rw [if_pos h0] at h; omega
    rw [if_neg h0] at h ⊢
    by_cases h1 : typeR t m < 0
    · rw [typesR_neg _ _ h1] at h; omega
    have a := typeR_w t m (by omega)
    have b := typesR_w l (typeR t m) h
    rw [tokTs]
    have : (0 : Int) ≤ (wtT (tokTs l) : Int) := by omega
    omega
end
/-- names, and steps -/
theorem namesR_w : ∀ (l : List ByteArray) (m : Int), 0 ≤ listR (fun s m => nameR m s.size) l m → (wtT (stepsT l) : Int) ≤ 5 * (m - listR (fun s m => nameR m s.size) l m) ∧ (wtT (l.map kT) : Int) + 4 * l.length ≤ 5 * (m - listR (fun s m => nameR m s.size) l m)
  | [], m, h => by simp [listR, stepsT, wtT]
  | s :: l, m, h => by
    rw [listR] at h ⊢
    by_cases h0 : m < 0
    · rw [if_pos h0] at h; omega
    rw [if_neg h0] at h ⊢
    by_cases h1 : nameR m s.size < 0
    · rw [listR_neg h1] at h; omega
    have hn := nameR_ok (m := m) (n := s.size) (by omega)
    obtain ⟨a, b⟩ := namesR_w l (nameR m s.size) h
    have hkl := kT_len s
    constructor
    · rw [stepsT]; simp only [wtT, wDot, List.length_cons, List.length_nil]; omega
    · rw [List.map_cons, wtT, List.length_cons]; omega
theorem placeR_w (x : PP) (m : Int) (h : 0 ≤ placeR x m) : (wtT (tokP x) : Int) ≤ 5 * (m - placeR x m) ∧ (wtT (x.path.map kT) : Int) + 4 * x.path.length ≤ 5 * (m - placeR x m) ∧ placeR x m + 10 ≤ m := by
  unfold placeR namesR at *
  by_cases h0 : nameR m x.name.size - 5 < 0
  · rw [listR_neg h0] at h; omega
  have hn := nameR_ok (m := m) (n := x.name.size) (by omega)
  obtain ⟨a, b⟩ := namesR_w x.path _ h
  have hkl := kT_len x.name
  refine ⟨?_, by omega, by omega⟩
  unfold tokP
  rw [wtT]
  omega
end Go.Proofs.YthilicmhdkmipaaGreatDoor
/- How long an expression's text is that is not too great; that it isn't empty. -/
namespace Go.Proofs.YthilicmhdkmipaaGreatDoor
open Go.RowKit
set_option linter.unusedVariables false

theorem i64_geS {x : Int} (h : I64 x) : -9223372036854775808 ≤ x := by
  unfold I64 at h
  simp only [Lit.wf, Bool.and_eq_true, decide_eq_true_eq] at h
  have b : IntKind.i64.min = -9223372036854775808 := by decide
  omega
def sumW : List PE → Nat
  | [] => 0
  | x :: l => wtT (tokE x) + 20 + sumW l
theorem rest_w : ∀ l : List PE, wtT (restT (tokEs l)) + 18 * l.length ≤ sumW l
  | [] => by rw [tokEs, restT]; simp [wtT, sumW]
  | x :: l => by
    rw [tokEs, restT, sumW, List.length_cons]
    have := rest_w l
    simp only [wtT, wtT_app, wComma, List.cons_append, List.length_cons, List.length_nil]; omega
theorem joinT_consS (a : List TkB) (l : List (List TkB)) : joinT (a :: l) = a ++ restT l := joinT_cons a l
theorem join_w (l : List PE) : wtT (joinT (tokEs l)) + 18 * l.length ≤ sumW l := by
  cases l with
  | nil => rw [tokEs]; simp [wtT, sumW, joinT]
  | cons x l =>
    rw [tokEs, joinT_consS, wtT_app, sumW, List.length_cons]
    have := rest_w l; omega
theorem restP_w : ∀ (ns : List ByteArray) (l : List PE), wtT (restT (pairsT ns (tokEs l))) ≤ sumW l + wtT (ns.map kT)
  | [], l => by rw [pairsT]; simp [wtT, restT]; intro _ _ _ _ h; cases h
  | n :: ns, [] => by rw [tokEs, pairsT]; simp [wtT, restT]; intro _ _ _ _ _ h; cases h
  | n :: ns, x :: l => by
    rw [tokEs, pairsT, restT, sumW, List.map_cons]
    have := restP_w ns l
    simp only [wtT, wtT_app, wComma, wGives, List.cons_append, List.length_cons, List.length_nil]; omega
theorem joinP_w (ns : List ByteArray) (l : List PE) : wtT (joinT (pairsT ns (tokEs l))) ≤ sumW l + wtT (ns.map kT) := by
  match ns, l with
  | [], l => rw [pairsT]; simp [wtT, joinT]; intro _ _ _ _ h; cases h
  | n :: ns, [] => rw [tokEs, pairsT]; simp [wtT, joinT]; intro _ _ _ _ _ h; cases h
  | n :: ns, x :: l =>
    rw [tokEs, pairsT, joinT_consS, wtT_app, sumW, List.map_cons, wtT]
    have := restP_w ns l
    simp only [wtT, wGives, List.length_cons, List.length_nil]; omega
theorem enum_w (l : List PE) : wtT (enumT (tokEs l)) ≤ sumW l := by
  cases l with
  | nil => rw [tokEs]; simp [enumT, wtT]
  | cons x l => rw [tokEs, enumT, sumW]; simp only [wtT, wtT_app, wOpen, wEnd, List.length_cons, List.length_nil]; omega
theorem getD_w (l : List PE) : wtT ((tokEs l).getD 0 []) + wtT ((tokEs l).getD 1 []) ≤ sumW l := by
  match l with
  | [] => rw [tokEs]; simp [wtT]
  | [x] => rw [tokEs, tokEs]; simp [sumW, wtT]
  | x :: y :: l => rw [tokEs, tokEs]; simp [sumW]; omega
theorem side_w (k : Nat) (op : Int) (ts : List TkB) : wtT (sideT k op ts) ≤ wtT ts + 4 := by
  unfold sideT
  split
  · omega
  · simp only [wtT, wtT_app, wOpen, wEnd, List.length_cons, List.length_nil]; omega
theorem placeT_w (p : PP) (l : List PE) : wtT (placeT p (tokEs l)) ≤ wtT (tokP p) + sumW l := by
  unfold placeT
  split
  · have := join_w l; omega
  · cases l with
    | nil => rw [tokEs]; simp
    | cons x l =>
      have h := join_w (x :: l)
      rw [tokEs] at h ⊢
      rw [List.length_cons] at h
      simp only [wtT_app, wtT, wComma, List.length_cons, List.length_nil]; omega
mutual
theorem exprR_w {B : Nat} {w : World} : ∀ (x : PE) (v : VE) (m : Int), x.In B w v → 0 ≤ exprR x m → (wtT (tokE x) : Int) + 20 ≤ 5 * (m - exprR x m)
  | .mk op i n s p l pos, v, m, hx, h => by
    obtain ⟨⟨_, hi, _, _, _⟩, _, b, o, _, hr⟩ := hx
    rw [exprR] at h ⊢
    by_cases h0 : placeR p (nameR (nameR m n.size) s.size) < 0
    · rw [exprsR_neg _ _ h0] at h; omega
    have hp := placeR_w p (nameR (nameR m n.size) s.size) (by omega)
    have h1 : 0 ≤ nameR (nameR m n.size) s.size := by omega
    have e1 := nameR_ok h1
    have e2 := nameR_ok (m := m) (n := n.size) (by omega)
    have ih := exprsR_w l o (placeR p (nameR (nameR m n.size) s.size)) hr h
    have hj := join_w l
    have hjp := joinP_w p.path l
    have he := enum_w l
    have hg := getD_w l
    have hpl := placeT_w p l
    have hit := Lib.itoa_length_le i (i64_geS hi) (i64_lt hi)
    have hw := exprWord_len op
    have hkn := kT_len n
    have hks := kT_len s
    have s1 := side_w (strongB op) (opAt l 0) ((tokEs l).getD 0 [])
    have s2 := side_w (leftB op) (opAt l 0) ((tokEs l).getD 0 [])
    have s3 := side_w (strongB op + 1) (opAt l 1) ((tokEs l).getD 1 [])
    have hb : (boolWord i).length ≤ 5 := by unfold boolWord; split <;> simp
    generalize exprsR l (placeR p (nameR (nameR m n.size) s.size)) = r at *
    generalize placeR p (nameR (nameR m n.size) s.size) = r2 at *
    suffices H : ∀ ts, tokE (.mk op i n s p l pos) = ts → (wtT ts : Int) + 20 ≤ 5 * (m - r) from H _ rfl
    intro ts hts
    rw [tokE] at hts
    by_cases c : op = 1
    · rw [if_pos c] at hts
      subst hts
      simp only [wtT]
      omega
    rw [if_neg c] at hts
    clear c
    by_cases c : op = 2
    · rw [if_pos c] at hts
      subst hts
      simp only [wtT]
      omega
    rw [if_neg c] at hts
    clear c
    by_cases c : op = 3
    · rw [if_pos c] at hts
      subst hts
      simp only [wtT, wOpen, wEnd, List.length_cons, List.length_nil]
      omega
    rw [if_neg c] at hts
    clear c
    by_cases c : op = 4
    · rw [if_pos c] at hts
      subst hts
      omega
    rw [if_neg c] at hts
    clear c
    by_cases c : op = 5
    · rw [if_pos c] at hts
      subst hts
      simp only [wtT, wAmp, List.length_cons, List.length_nil]
      omega
    rw [if_neg c] at hts
    clear c
    by_cases c : op = 6
    · rw [if_pos c] at hts
      subst hts
      simp only [wtT, wAmp, wMut, List.length_cons, List.length_nil]
      omega
    rw [if_neg c] at hts
    clear c
    by_cases c : op = 18
    · rw [if_pos c] at hts
      subst hts
      simp only [wtT, wtT_app, wOpen, wEnd, List.length_cons, List.length_nil]
      omega
    rw [if_neg c] at hts
    clear c
    by_cases c : op = 19
    · rw [if_pos c] at hts
      subst hts
      simp only [wtT, wtT_app, wLeft, wRight, List.length_cons, List.length_nil]
      omega
    rw [if_neg c] at hts
    clear c
    by_cases c : op = 20
    · rw [if_pos c] at hts
      subst hts
      simp only [wtT, wDot, List.length_cons, List.length_nil]
      omega
    rw [if_neg c] at hts
    clear c
    by_cases c : op = 7 ∨ op = 8
    · rw [if_pos c] at hts
      subst hts
      simp only [wtT]
      omega
    rw [if_neg c] at hts
    clear c
    by_cases c : 9 ≤ op ∧ op ≤ 17
    · rw [if_pos c] at hts
      subst hts
      simp only [wtT, wtT_app]
      omega
    rw [if_neg c] at hts
    clear c
    subst hts
    simp only [wtT, wtT_app, wOpen, wEnd, List.length_cons, List.length_nil]
    omega
theorem exprsR_w {B : Nat} {w : World} {b : Nat} : ∀ (l : List PE) (o : Nat) (m : Int), PE.Row B w b o l → 0 ≤ exprsR l m → (sumW l : Int) ≤ 5 * (m - exprsR l m)
  | [], o, m, _, h => by rw [exprsR, sumW]; simp
  | x :: l, o, m, hr, h => by
    obtain ⟨⟨v, _, hx⟩, hr⟩ := hr
    rw [exprsR] at h ⊢
    by_cases h0 : m < 0
    · rw [if_pos h0] at h; omega
    rw [if_neg h0] at h ⊢
    by_cases h1 : exprR x m < 0
    · rw [exprsR_neg _ _ h1] at h; omega
    have a := exprR_w x v m hx (by omega)
    have c := exprsR_w l (o + 8) (exprR x m) hr h
    rw [sumW]
    omega
end
/-! ### texts that aren't empty -/
theorem line_ne {a : List TkB} {t : TkB} (h : t ∈ a) (ht : t ≠ []) : lineT a ≠ [] := by
  have : ∀ (a : List TkB) (g : TkB), t ∈ a → puts g a ≠ [] := by
    intro a
    induction a with
    | nil => intro g h; cases h
    | cons u a ih =>
      intro g h e
      rw [puts] at e
      simp at e
      rcases List.mem_cons.1 h with rfl | h
      · exact ht e.2.1
      · exact ih [32] h e.2.2
  exact this a [] h
end Go.Proofs.YthilicmhdkmipaaGreatDoor
/- How long a program's text is that is not too great. -/
namespace Go.Proofs.YthilicmhdkmipaaGreatDoor
open Go.RowKit
set_option linter.unusedVariables false

theorem rest1_w : ∀ ns : List ByteArray, wtT (restT (ns.map fun x => [kT x])) ≤ wtT (ns.map kT) + 2 * ns.length
  | [] => by simp [restT, wtT]
  | n :: ns => by
    rw [List.map_cons, restT, List.map_cons, List.length_cons]
    have := rest1_w ns
    simp only [wtT, wComma, List.cons_append, List.nil_append, List.length_cons, List.length_nil]; omega
theorem join1_w (ns : List ByteArray) : wtT (joinT (ns.map fun x => [kT x])) ≤ wtT (ns.map kT) + 2 * ns.length := by
  cases ns with
  | nil => simp [joinT, wtT]
  | cons n ns =>
    rw [List.map_cons, joinT_consS, List.map_cons, List.length_cons]
    have := rest1_w ns
    simp only [wtT, wtT_app]; omega
theorem getD0_w (l : List PE) : wtT ((tokEs l).getD 0 []) ≤ sumW l := by have := getD_w l; omega
mutual
theorem stmtR_w {B : Nat} {w : World} : ∀ (x : PS) (v : VS) (m : Int), x.In B w v → 0 ≤ stmtR x m → (wtT (tokS x) : Int) ≤ 5 * (m - stmtR x m)
  | .mk op n s ns t i p es bo el ar pos, v, m, hx, h => by
    obtain ⟨⟨_, hi, _, _, _⟩, _, _, _, ⟨b4, o4, _, r4⟩, ⟨b5, o5, _, r5⟩, ⟨b6, o6, _, r6⟩, b7, o7, _, r7⟩ := hx
    rw [stmtR] at h ⊢
    obtain ⟨m1, h1⟩ : ∃ m1, m1 = nameR (nameR m n.size) s.size := ⟨_, rfl⟩
    obtain ⟨m2, h2⟩ : ∃ m2, m2 = namesR ns m1 := ⟨_, rfl⟩
    obtain ⟨m3, h3⟩ : ∃ m3, m3 = typeR t m2 := ⟨_, rfl⟩
    obtain ⟨m4, h4⟩ : ∃ m4, m4 = placeR p m3 := ⟨_, rfl⟩
    obtain ⟨m5, h5⟩ : ∃ m5, m5 = exprsR es m4 := ⟨_, rfl⟩
    obtain ⟨m6, h6⟩ : ∃ m6, m6 = stmtsR bo m5 := ⟨_, rfl⟩
    obtain ⟨m7, h7⟩ : ∃ m7, m7 = stmtsR el m6 := ⟨_, rfl⟩
    obtain ⟨m8, h8⟩ : ∃ m8, m8 = armsR ar m7 := ⟨_, rfl⟩
    rw [← h1, ← h2, ← h3, ← h4, ← h5, ← h6, ← h7, ← h8] at h ⊢
    have p7 : 0 ≤ m7 := by
      by_cases c : m7 < 0
      · rw [armsR_neg c] at h8; omega
      · omega
    have p6 : 0 ≤ m6 := by
      by_cases c : m6 < 0
      · rw [stmtsR_neg c] at h7; omega
      · omega
    have p5 : 0 ≤ m5 := by
      by_cases c : m5 < 0
      · rw [stmtsR_neg c] at h6; omega
      · omega
    have p4 : 0 ≤ m4 := by
      by_cases c : m4 < 0
      · rw [exprsR_neg _ _ c] at h5; omega
      · omega
    obtain ⟨wp, _, p3⟩ := placeR_w p m3 (by rw [← h4]; exact p4)
    rw [← h4] at wp p3
    have wt := typeR_w t m2 (by rw [← h3]; omega)
    rw [← h3] at wt
    have p1 : 0 ≤ m1 - 5 := by
      by_cases c : m1 - 5 < 0
      · unfold namesR at h2
        rw [listR_neg c] at h2; omega
      · omega
    obtain ⟨_, wn⟩ := namesR_w ns (m1 - 5) (by
      have : listR (fun s m => nameR m s.size) ns (m1 - 5) = m2 := by rw [h2]; rfl
      rw [this]; omega)
    have e2 : listR (fun s m => nameR m s.size) ns (m1 - 5) = m2 := by rw [h2]; rfl
    rw [e2] at wn
    have e1 := nameR_ok (m := nameR m n.size) (n := s.size) (by omega)
    have e0 := nameR_ok (m := m) (n := n.size) (by omega)
    rw [← h1] at e1
    have we := exprsR_w es o4 m4 r4 (by rw [← h5]; exact p5)
    rw [← h5] at we
    have wb := stmtsR_w bo o5 m5 r5 (by rw [← h6]; exact p6)
    rw [← h6] at wb
    have wl := stmtsR_w el o6 m6 r6 (by rw [← h7]; exact p7)
    rw [← h7] at wl
    have wa := armsR_w ar o7 m7 r7 (by rw [← h8]; exact h)
    rw [← h8] at wa
    have hit := Lib.itoa_length_le i (i64_geS hi) (i64_lt hi)
    have hg := getD0_w es
    have hj1 := join1_w ns
    have hjp := joinP_w ns es
    have hkn := kT_len n
    have hks := kT_len s
    have hel : wtT (elseT el.isEmpty (tokSs el)) ≤ wtT (tokSs el) + 9 := by
      unfold elseT blockT
      split
      · simp [wtT]
      · simp only [wtT, wtT_app, wElse, wLeft, wRight, List.length_cons, List.length_nil]; omega
    clear h1 h2 h3 h4 h5 h6 h7 h8 e2 r4 r5 r6 r7
    suffices H : ∀ ts, tokS (.mk op n s ns t i p es bo el ar pos) = ts → (wtT ts : Int) ≤ 5 * (m - m8) from H _ rfl
    intro ts hts
    rw [tokS] at hts
    by_cases c : op = 1
    · rw [if_pos c] at hts; subst hts
      simp only [wtT, wtT_app, endT, wLet, wGives, wSemi, List.length_cons, List.length_nil]; omega
    rw [if_neg c] at hts; clear c
    by_cases c : op = 2
    · rw [if_pos c] at hts; subst hts
      simp only [wtT, wtT_app, endT, wLet, wLeft, wRight, wGives, wSemi, List.length_cons, List.length_nil]; omega
    rw [if_neg c] at hts; clear c
    by_cases c : op = 3
    · rw [if_pos c] at hts; subst hts
      simp only [wtT, wtT_app, endT, wGives, wSemi, List.length_cons, List.length_nil]; omega
    rw [if_neg c] at hts; clear c
    by_cases c : op = 4
    · rw [if_pos c] at hts; subst hts
      simp only [wtT, wtT_app, endT, wSemi, List.length_cons, List.length_nil]; omega
    rw [if_neg c] at hts; clear c
    by_cases c : op = 5
    · rw [if_pos c] at hts; subst hts
      simp only [wtT, wDrop, wSemi, List.length_cons, List.length_nil]; omega
    rw [if_neg c] at hts; clear c
    by_cases c : op = 12
    · rw [if_pos c] at hts; subst hts
      simp only [wtT, wtT_app, wChan, wLess, wMore, wOpen, wEnd, wAs, wComma, wSemi, List.length_cons, List.length_nil]; omega
    rw [if_neg c] at hts; clear c
    by_cases c : op = 6
    · rw [if_pos c] at hts; subst hts
      simp only [wtT, wtT_app, blockT, wIf, wLeft, wRight, List.length_cons, List.length_nil]; omega
    rw [if_neg c] at hts; clear c
    by_cases c : op = 7
    · rw [if_pos c] at hts; subst hts
      simp only [wtT, wtT_app, blockT, wWhile, wLeft, wRight, List.length_cons, List.length_nil]; omega
    rw [if_neg c] at hts; clear c
    by_cases c : op = 8
    · rw [if_pos c] at hts; subst hts
      simp only [wtT, wtT_app, wMatch, wColon, wLeft, wRight, List.length_cons, List.length_nil]; omega
    rw [if_neg c] at hts; clear c
    by_cases c : op = 9
    · rw [if_pos c] at hts; subst hts
      simp only [wtT, wtT_app, blockT, wScope, wLeft, wRight, List.length_cons, List.length_nil]; omega
    rw [if_neg c] at hts; clear c
    by_cases c : op = 10
    · rw [if_pos c] at hts; subst hts
      simp only [wtT, wtT_app, blockT, wSpawn, wOpen, wEnd, wLeft, wRight, List.length_cons, List.length_nil]; omega
    rw [if_neg c] at hts; clear c
    by_cases c : op = 11
    · rw [if_pos c] at hts; subst hts
      simp only [wtT, wtT_app, blockT, wLock, wAs, wLeft, wRight, List.length_cons, List.length_nil]; omega
    rw [if_neg c] at hts; clear c
    by_cases c : op = 13
    · rw [if_pos c] at hts; subst hts
      simp only [wtT, wtT_app, blockT, wLeft, wRight, List.length_cons, List.length_nil]; omega
    rw [if_neg c] at hts; clear c
    subst hts
    simp only [wtT]; omega
theorem armR_w {B : Nat} {w : World} : ∀ (x : PA) (v : Value) (m : Int), x.In B w v → 0 ≤ armR x m → (wtT (tokA x) : Int) ≤ 5 * (m - armR x m)
  | .mk va na bo, v, m, hx, h => by
    obtain ⟨_, b, o, _, r⟩ := hx
    rw [armR] at h ⊢
    obtain ⟨m1, h1⟩ : ∃ m1, m1 = nameR (nameR m va.size) na.size := ⟨_, rfl⟩
    obtain ⟨m2, h2⟩ : ∃ m2, m2 = stmtsR bo m1 := ⟨_, rfl⟩
    rw [← h1, ← h2] at h ⊢
    have p1 : 0 ≤ m1 := by
      by_cases c : m1 < 0
      · rw [stmtsR_neg c] at h2; omega
      · omega
    have wb := stmtsR_w bo o m1 r (by rw [← h2]; exact h)
    rw [← h2] at wb
    have e1 := nameR_ok (m := nameR m va.size) (n := na.size) (by omega)
    have e0 := nameR_ok (m := m) (n := va.size) (by omega)
    rw [← h1] at e1
    have hkn := kT_len va
    have hks := kT_len na
    rw [tokA]
    split
    · simp only [wtT, wtT_app, blockT, wThen, wLeft, wRight, List.length_cons, List.length_nil]; omega
    · simp only [wtT, wtT_app, blockT, wOpen, wEnd, wThen, wLeft, wRight, List.length_cons, List.length_nil]; omega
theorem stmtsR_w {B b : Nat} {w : World} : ∀ (l : List PS) (o : Nat) (m : Int), PS.Row B w b o l → 0 ≤ stmtsR l m → (wtT (tokSs l) : Int) ≤ 5 * (m - stmtsR l m)
  | [], o, m, _, h => by rw [stmtsR, tokSs]; simp [wtT]
  | x :: l, o, m, hr, h => by
    obtain ⟨⟨v, _, hi⟩, hr⟩ := hr
    rw [stmtsR] at h ⊢
    by_cases h0 : m < 0
    · rw [if_pos h0] at h; omega
    rw [if_neg h0] at h ⊢
    by_cases h1 : stmtR x m < 0
    · rw [stmtsR_neg h1] at h; omega
    have a := stmtR_w x v m hi (by omega)
    have b := stmtsR_w l (o + 15) (stmtR x m) hr h
    rw [tokSs, wtT_app]
    omega
theorem armsR_w {B b : Nat} {w : World} : ∀ (l : List PA) (o : Nat) (m : Int), PA.Row B w b o l → 0 ≤ armsR l m → (wtT (tokAs l) : Int) ≤ 5 * (m - armsR l m)
  | [], o, m, _, h => by rw [armsR, tokAs]; simp [wtT]
  | x :: l, o, m, hr, h => by
    obtain ⟨⟨v, _, hi⟩, hr⟩ := hr
    rw [armsR] at h ⊢
    by_cases h0 : m < 0
    · rw [if_pos h0] at h; omega
    rw [if_neg h0] at h ⊢
    by_cases h1 : armR x m < 0
    · rw [armsR_neg h1] at h; omega
    have a := armR_w x v m hi (by omega)
    have b := armsR_w l (o + 3) (armR x m) hr h
    rw [tokAs, wtT_app]
    omega
end
/-! ### items, programs -/
theorem nameR_low {m : Int} (h : m < 0) (n : Nat) : nameR m n = -1 := by unfold nameR; rw [if_pos (.inl (by omega))]
theorem typeR_low {t : PT} {m : Int} (h : m < 0) : typeR t m < 0 := by
  obtain ⟨k, n, ts⟩ := t
  rw [typeR, nameR_low h, typesR_neg _ _ (by omega)]; omega
theorem placeR_low {x : PP} {m : Int} (h : m < 0) : placeR x m < 0 := by
  unfold placeR namesR
  rw [nameR_low h, listR_neg (by omega)]; omega
theorem exprR_low {x : PE} {m : Int} (h : m < 0) : exprR x m < 0 := by
  obtain ⟨op, i, n, s, p, ts, pos⟩ := x
  have h1 : placeR p (nameR (nameR m n.size) s.size) < 0 := placeR_low (by rw [nameR_low h, nameR_low (by omega)]; omega)
  rw [exprR, exprsR_neg _ _ h1]; exact h1
theorem fieldR_w (f : PF) (m : Int) (h : 0 ≤ fieldR f m) : (wtT (fieldT f) : Int) + 4 ≤ 5 * (m - fieldR f m) ∧ (wtT (variantT f) : Int) + 4 ≤ 5 * (m - fieldR f m) := by
  unfold fieldR at *
  have p1 : 0 ≤ nameR m f.name.size := by
    by_cases c : nameR m f.name.size < 0
    · have := typeR_low (t := f.type) c; omega
    · omega
  have e1 := nameR_ok p1
  have wt := typeR_w f.type _ h
  have hk := kT_len f.name
  refine ⟨?_, ?_⟩
  · unfold fieldT
    simp only [wtT, wColon, List.length_cons, List.length_nil]; omega
  · unfold variantT
    split
    · simp only [wtT]; omega
    · simp only [wtT, wtT_app, wOpen, wEnd, List.length_cons, List.length_nil]; omega
theorem fieldsR_w (g : PF → List TkB) (hg : ∀ f m, 0 ≤ fieldR f m → (wtT (g f) : Int) + 4 ≤ 5 * (m - fieldR f m)) : ∀ (l : List PF) (m : Int), 0 ≤ listR fieldR l m → (wtT (restT (l.map g)) : Int) ≤ 5 * (m - listR fieldR l m)
  | [], m, h => by simp [listR, restT, wtT]
  | f :: l, m, h => by
    rw [listR] at h ⊢
    by_cases h0 : m < 0
    · rw [if_pos h0] at h; omega
    rw [if_neg h0] at h ⊢
    by_cases h1 : fieldR f m < 0
    · rw [listR_neg h1] at h; omega
    have a := hg f m (by omega)
    have b := fieldsR_w g hg l _ h
    rw [List.map_cons, restT]
    simp only [wtT, wtT_app, wComma, List.cons_append, List.length_cons, List.length_nil]
    omega
theorem joinR_w (l : List (List TkB)) : wtT (joinT l) ≤ wtT (restT l) := by
  cases l with
  | nil => simp [joinT, wtT]
  | cons a l =>
    rw [joinT_consS, restT]
    simp only [wtT, wtT_app, List.cons_append]; omega
theorem itemR_w {B : Nat} {w : World} (x : PI) (v : VI) (m : Int) (hx : PI.In B w x v) (h : 0 ≤ itemR x m) : (wtT (tokI x) : Int) + 1 ≤ 5 * (m - itemR x m) := by
  obtain ⟨kd, nm, fs, ty, bo, ret, pos⟩ := x
  obtain ⟨_, _, _, ⟨b3, o3, _, r3⟩, hre⟩ := hx
  unfold itemR at *
  dsimp only at *
  obtain ⟨m1, h1⟩ : ∃ m1, m1 = nameR m nm.size := ⟨_, rfl⟩
  obtain ⟨m2, h2⟩ : ∃ m2, m2 = fieldsR fs m1 := ⟨_, rfl⟩
  obtain ⟨m3, h3⟩ : ∃ m3, m3 = typeR ty m2 := ⟨_, rfl⟩
  obtain ⟨m4, h4⟩ : ∃ m4, m4 = stmtsR bo m3 := ⟨_, rfl⟩
  obtain ⟨m5, h5⟩ : ∃ m5, m5 = exprR ret m4 := ⟨_, rfl⟩
  rw [← h1, ← h2, ← h3, ← h4, ← h5] at h ⊢
  have p4 : 0 ≤ m4 := by
    by_cases c : m4 < 0
    · have := exprR_low (x := ret) c; omega
    · omega
  have p3 : 0 ≤ m3 := by
    by_cases c : m3 < 0
    · rw [stmtsR_neg c] at h4; omega
    · omega
  have p2 : 0 ≤ m2 := by
    by_cases c : m2 < 0
    · have := typeR_low (t := ty) c; omega
    · omega
  have p1 : 0 ≤ m1 := by
    by_cases c : m1 < 0
    · unfold fieldsR at h2
      rw [listR_neg c] at h2; omega
    · omega
  have e1 := nameR_ok (m := m) (n := nm.size) (by omega)
  rw [← h1] at e1
  have wr := exprR_w ret _ m4 hre (by rw [← h5]; exact h)
  rw [← h5] at wr
  have wb := stmtsR_w bo o3 m3 r3 (by rw [← h4]; exact p4)
  rw [← h4] at wb
  have wt := typeR_w ty m2 (by rw [← h3]; exact p3)
  rw [← h3] at wt
  have wf := fieldsR_w fieldT (fun f m h => (fieldR_w f m h).1) fs m1 (by rw [show listR fieldR fs m1 = m2 from h2.symm]; exact p2)
  have wv := fieldsR_w variantT (fun f m h => (fieldR_w f m h).2) fs m1 (by rw [show listR fieldR fs m1 = m2 from h2.symm]; exact p2)
  rw [show listR fieldR fs m1 = m2 from h2.symm] at wf wv
  have jf := joinR_w (fs.map fieldT)
  have jv := joinR_w (fs.map variantT)
  have hk := kT_len nm
  unfold tokI
  dsimp only
  split
  · simp only [wtT, wtT_app, wStruct, wLeft, wRight, List.length_cons, List.length_nil]; omega
  · split
    · simp only [wtT, wtT_app, wEnum, wLeft, wRight, List.length_cons, List.length_nil]; omega
    · split
      · simp only [wtT, wtT_app, wFn, wOpen, wEnd, wInto, wLeft, wRight, List.length_cons, List.length_nil]; omega
      · simp only [wtT]; omega
theorem itemsR_w {B b : Nat} {w : World} : ∀ (l : List PI) (o : Nat) (m : Int), PI.Row B w b o l → 0 ≤ listR itemR l m → ((textP l).length : Int) ≤ 5 * (m - listR itemR l m)
  | [], o, m, _, h => by simp [textP, listR]
  | x :: l, o, m, hr, h => by
    obtain ⟨⟨v, _, hi⟩, hr⟩ := hr
    rw [listR] at h ⊢
    by_cases h0 : m < 0
    · rw [if_pos h0] at h; omega
    rw [if_neg h0] at h ⊢
    by_cases h1 : itemR x m < 0
    · rw [listR_neg h1] at h; omega
    have a := itemR_w x v m hi (by omega)
    have b := itemsR_w l (o + 16) (itemR x m) hr h
    have c := wtT_line (tokI x)
    rw [textP]
    simp only [List.length_append, List.length_cons, List.length_nil]
    omega
theorem progR_w {B : Nat} {w : World} {l : List PI} {v : Value} (hp : ProgIn B w l v) (h : 0 ≤ progR l 20000) : (textP l).length ≤ 100000 := by
  obtain ⟨b, o, _, r⟩ := hp
  have := itemsR_w l o 20000 r h
  unfold progR at h
  omega
end Go.Proofs.YthilicmhdkmipaaGreatDoor
