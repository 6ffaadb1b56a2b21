/- The plain part beneath the laws of layer 3: how much room a tree takes; and worlds in which one block alone was written. -/
import Derived.Test.YthilicmhdkmipaaGreatDoorQTreeMath
import Derived.Lib.ItoaMem
namespace Go.Proofs.YthilicmhdkmipaaGreatDoor
open Go.RowKit
set_option linter.unusedVariables false

def nameR (m : Int) (n : Nat) : Int := if m < 5 ∨ m - 5 < (n : Int) then -1 else m - 5 - n
def listR {α : Type} (f : α → Int → Int) : List α → Int → Int
  | [], m => m
  | x :: l, m => if m < 0 then m else listR f l (f x m)
def namesR (l : List ByteArray) (m : Int) : Int := listR (fun s m => nameR m s.size) l (m - 5)
mutual
def typeR : PT → Int → Int
  | .mk _ n ts, m => typesR ts (nameR m n.size)
def typesR : List PT → Int → Int
  | [], m => m
  | t :: l, m => if m < 0 then m else typesR l (typeR t m)
end
def placeR (x : PP) (m : Int) : Int := namesR x.path (nameR m x.name.size)
mutual
def exprR : PE → Int → Int
  | .mk _ _ n s p ts _, m => exprsR ts (placeR p (nameR (nameR m n.size) s.size))
def exprsR : List PE → Int → Int
  | [], m => m
  | t :: l, m => if m < 0 then m else exprsR l (exprR t m)
end
mutual
def stmtR : PS → Int → Int
  | .mk _ n s ns t _ p es bo el ar _, m => armsR ar (stmtsR el (stmtsR bo (exprsR es (placeR p (typeR t (namesR ns (nameR (nameR m n.size) s.size)))))))
def armR : PA → Int → Int
  | .mk v n bo, m => stmtsR bo (nameR (nameR m v.size) n.size)
def stmtsR : List PS → Int → Int
  | [], m => m
  | t :: l, m => if m < 0 then m else stmtsR l (stmtR t m)
def armsR : List PA → Int → Int
  | [], m => m
  | t :: l, m => if m < 0 then m else armsR l (armR t m)
end
def fieldR (f : PF) (m : Int) : Int := typeR f.type (nameR m f.name.size)
def fieldsR (l : List PF) (m : Int) : Int := listR fieldR l m
def itemR (x : PI) (m : Int) : Int := exprR x.ret (stmtsR x.body (typeR x.result (fieldsR x.fields (nameR m x.name.size))))
def progR (p : List PI) (m : Int) : Int := listR itemR p m
theorem typesR_list : ∀ l m, typesR l m = listR typeR l m
  | [], _ => by rw [typesR, listR]
  | t :: l, m => by rw [typesR, listR, typesR_list]
theorem exprsR_list : ∀ l m, exprsR l m = listR exprR l m
  | [], _ => by rw [exprsR, listR]
  | t :: l, m => by rw [exprsR, listR, exprsR_list]
theorem stmtsR_list : ∀ l m, stmtsR l m = listR stmtR l m
  | [], _ => by rw [stmtsR, listR]
  | t :: l, m => by rw [stmtsR, listR, stmtsR_list]
theorem armsR_list : ∀ l m, armsR l m = listR armR l m
  | [], _ => by rw [armsR, listR]
  | t :: l, m => by rw [armsR, listR, armsR_list]
theorem listR_neg {α : Type} {f : α → Int → Int} : ∀ {l : List α} {m : Int}, m < 0 → listR f l m = m
  | [], _, _ => rfl
  | _ :: _, _, h => by rw [listR, if_pos h]
theorem listR_cons {α : Type} {f : α → Int → Int} {x : α} {l : List α} {m : Int} (h : 0 ≤ m) : listR f (x :: l) m = listR f l (f x m) := by
  rw [listR, if_neg (by omega)]

/-! ### what is left stays within bounds -/
/-- what a number may be that says how much room is left -/
def RB (m : Int) : Prop := -6 ≤ m ∧ m ≤ 20000
theorem nameR_b {m : Int} (h : RB m) (n : Nat) : -1 ≤ nameR m n ∧ nameR m n ≤ 20000 := by
  obtain ⟨h1, h2⟩ := h
  unfold nameR
  split <;> constructor <;> omega
theorem nameR_rb {m : Int} (h : RB m) (n : Nat) : RB (nameR m n) := ⟨by have := nameR_b h n; omega, (nameR_b h n).2⟩
theorem listR_rb {α : Type} {f : α → Int → Int} : ∀ {l : List α} {m : Int}, (∀ x ∈ l, ∀ m, RB m → RB (f x m)) → RB m → RB (listR f l m)
  | [], _, _, h => h
  | x :: l, m, H, h => by
    rw [listR]
    split
    · exact h
    · exact listR_rb (fun y hy => H y (List.mem_cons_of_mem _ hy)) (H x (List.mem_cons_self ..) m h)
theorem namesR_rb {l : List ByteArray} {m : Int} (h1 : -1 ≤ m) (h2 : m ≤ 20000) : RB (namesR l m) := listR_rb (fun x _ m h => nameR_rb h _) ⟨by omega, by omega⟩
theorem placeR_rb (x : PP) {m : Int} (h : RB m) : RB (placeR x m) := namesR_rb (nameR_b h _).1 (nameR_b h _).2
mutual
theorem typeR_rb : ∀ (t : PT) (m : Int), RB m → RB (typeR t m)
  | .mk _ n ts, m, h => by rw [typeR]; exact typesR_rb ts _ (nameR_rb h _)
theorem typesR_rb : ∀ (l : List PT) (m : Int), RB m → RB (typesR l m)
  | [], m, h => by rw [typesR]; exact h
  | t :: l, m, h => by
    rw [typesR]
    split
    · exact h
    · exact typesR_rb l _ (typeR_rb t m h)
end
mutual
theorem exprR_rb : ∀ (t : PE) (m : Int), RB m → RB (exprR t m)
  | .mk _ _ n s p ts _, m, h => by rw [exprR]; exact exprsR_rb ts _ (placeR_rb p (nameR_rb (nameR_rb h _) _))
theorem exprsR_rb : ∀ (l : List PE) (m : Int), RB m → RB (exprsR l m)
  | [], m, h => by rw [exprsR]; exact h
  | t :: l, m, h => by
    rw [exprsR]
    split
    · exact h
    · exact exprsR_rb l _ (exprR_rb t m h)
end
mutual
theorem stmtR_rb : ∀ (t : PS) (m : Int), RB m → RB (stmtR t m)
  | .mk _ n s ns t _ p es bo el ar _, m, h => by
    rw [stmtR]
    have h1 := nameR_b (nameR_rb h n.size) s.size
    exact armsR_rb ar _ (stmtsR_rb el _ (stmtsR_rb bo _ (exprsR_rb es _ (placeR_rb p (typeR_rb t _ (namesR_rb h1.1 h1.2))))))
theorem armR_rb : ∀ (t : PA) (m : Int), RB m → RB (armR t m)
  | .mk v n bo, m, h => by rw [armR]; exact stmtsR_rb bo _ (nameR_rb (nameR_rb h _) _)
theorem stmtsR_rb : ∀ (l : List PS) (m : Int), RB m → RB (stmtsR l m)
  | [], m, h => by rw [stmtsR]; exact h
  | t :: l, m, h => by
    rw [stmtsR]
    split
    · exact h
    · exact stmtsR_rb l _ (stmtR_rb t m h)
theorem armsR_rb : ∀ (l : List PA) (m : Int), RB m → RB (armsR l m)
  | [], m, h => by rw [armsR]; exact h
  | t :: l, m, h => by
    rw [armsR]
    split
    · exact h
    · exact armsR_rb l _ (armR_rb t m h)
end
theorem fieldR_rb (f : PF) (m : Int) (h : RB m) : RB (fieldR f m) := typeR_rb _ _ (nameR_rb h _)
theorem fieldsR_rb (l : List PF) (m : Int) (h : RB m) : RB (fieldsR l m) := listR_rb (fun x _ => fieldR_rb x) h
theorem itemR_rb (x : PI) (m : Int) (h : RB m) : RB (itemR x m) := exprR_rb _ _ (stmtsR_rb _ _ (typeR_rb _ _ (fieldsR_rb _ _ (nameR_rb h _))))
theorem progR_rb (p : List PI) (m : Int) (h : RB m) : RB (progR p m) := listR_rb (fun x _ => itemR_rb x) h

/-! ### one block alone was written -/
structure But (R : Nat) (w w' : World) : Prop where
  os : w'.os = w.os
  tape : w'.tape = w.tape
  output : w'.output = w.output
  size : w.heap.size ≤ w'.heap.size
  block : ∀ k, k < w.heap.size → k ≠ R → w'.heap[k]? = w.heap[k]?
theorem But.refl (R : Nat) (w : World) : But R w w := ⟨rfl, rfl, rfl, Nat.le_refl _, fun _ _ _ => rfl⟩
theorem But.trans {R : Nat} {a b c : World} (h : But R a b) (k : But R b c) : But R a c :=
  ⟨k.os.trans h.os, k.tape.trans h.tape, k.output.trans h.output, Nat.le_trans h.size k.size, fun j hj hn => (k.block j (Nat.lt_of_lt_of_le hj h.size) hn).trans (h.block j hj hn)⟩
theorem But.of {R : Nat} {w w' : World} (h : Below w.heap.size w w') : But R w w' := ⟨h.os, h.tape, h.output, h.size, fun k hk _ => h.block k hk⟩
theorem But.alloc {R : Nat} (w : World) (o : Obj) : But R w (w.alloc o) := .of ((Below.refl _ w).alloc (Nat.le_refl _) o)
theorem But.set {R : Nat} (w : World) (v : Value) : But R w (w.setCell ⟨R, 0, none⟩ v) :=
  have h := (Below.refl 0 w).setCell (p := ⟨R, 0, none⟩) (Nat.zero_le _) v
  ⟨h.os, h.tape, h.output, h.size, fun k hk hn => Below.heap_setCell w ⟨R, 0, none⟩ v k hn⟩
theorem But.below {R B : Nat} {w w' : World} (h : But R w w') (hR : B ≤ R) (hB : B ≤ w.heap.size) : Below B w w' :=
  ⟨h.os, h.tape, h.output, h.size, fun k hk => h.block k (Nat.lt_of_lt_of_le hk hB) (by omega)⟩
theorem But.cell {R : Nat} {w w' : World} (h : But R w w') : ∀ b o, b < w.heap.size → b ≠ R → w'.cell? ⟨b, o, none⟩ = w.cell? ⟨b, o, none⟩ :=
  fun b o hb hn => World.cell?_of_block (w := w) (a := ⟨b, o, none⟩) (h.block b hb hn)
/-- block R has the number of how much room is left -/
def RoomAt (B R : Nat) (w : World) (m : Int) : Prop := B ≤ R ∧ R < w.heap.size ∧ w.cell? ⟨R, 0, none⟩ = some (.int .i64 m) ∧ w.frozen? ⟨R, 0, none⟩ = false
theorem RoomAt.below {B R : Nat} {w w' : World} {m : Int} (h : RoomAt B R w m) (k : Below w.heap.size w w') : RoomAt B R w' m :=
  ⟨h.1, Nat.lt_of_lt_of_le h.2.1 k.size, (k.cell (p := ⟨R, 0, none⟩) h.2.1).trans h.2.2.1, (k.frozen (p := ⟨R, 0, none⟩) h.2.1).trans h.2.2.2⟩
theorem RoomAt.set {B R : Nat} {w : World} {m : Int} (h : RoomAt B R w m) (m' : Int) : RoomAt B R (w.setCell ⟨R, 0, none⟩ (.int .i64 m')) m' := by
  obtain ⟨h1, h2, h3, h4⟩ := h
  exact ⟨h1, Nat.lt_of_lt_of_le h2 (But.set (R := R) w _).size, World.cell?_setCell_same _ _ _ h3, by rw [World.frozen?_setCell]; exact h4⟩
theorem nameR_no {m : Int} {n : Nat} (h : m < 5 ∨ m - 5 < (n : Int)) : nameR m n = -1 := by unfold nameR; rw [if_pos h]
theorem nameR_yes {m : Int} {n : Nat} (h1 : 5 ≤ m) (h2 : (n : Int) ≤ m - 5) : nameR m n = m - 5 - n := by unfold nameR; rw [if_neg (by omega)]
theorem drop_at {α : Type} {l : List α} {k : Nat} {a : α} (h : l[k]? = some a) : l.drop k = a :: l.drop (k + 1) := by
  obtain ⟨hk, rfl⟩ := List.getElem?_eq_some_iff.1 h
  exact List.drop_eq_getElem_cons hk
theorem stmtsR_neg {l : List PS} {m : Int} (h : m < 0) : stmtsR l m = m := by rw [stmtsR_list, listR_neg h]
theorem armsR_neg {l : List PA} {m : Int} (h : m < 0) : armsR l m = m := by rw [armsR_list, listR_neg h]
end Go.Proofs.YthilicmhdkmipaaGreatDoor
/- The plain part of layer 4: the tokens of trees, and the text of a row of tokens. -/
namespace Go.Proofs.YthilicmhdkmipaaGreatDoor
open Go.RowKit
set_option linter.unusedVariables false

abbrev TkB := List UInt8
/-- what a row of tokens leaves behind a text: g stands ahead of the first one, a blank ahead of each other one -/
def puts (g : TkB) : List TkB → TkB
  | [] => []
  | t :: l => g ++ t ++ puts [32] l
/-- what stands ahead of the next one -/
def gapA (g : TkB) : List TkB → TkB
  | [] => g
  | _ :: _ => [32]
theorem puts_append (g : TkB) : ∀ a b : List TkB, puts g (a ++ b) = puts g a ++ puts (gapA g a) b
  | [], b => rfl
  | t :: a, b => by
    rw [List.cons_append, puts, puts, puts_append [32] a b]
    cases a <;> simp [gapA]
theorem gapA_append (g : TkB) : ∀ a b : List TkB, gapA g (a ++ b) = gapA (gapA g a) b
  | [], b => rfl
  | t :: a, [] => by simp [gapA]
  | t :: a, u :: b => rfl
/-- tokens with one blank between any two -/
def lineT (l : List TkB) : TkB := puts [] l

/-! ### words -/
def kT (s : ByteArray) : TkB := s.data.toList
def wOpen : TkB := [40]
def wEnd : TkB := [41]
def wComma : TkB := [44]
def wDot : TkB := [46]
def wColon : TkB := [58]
def wSemi : TkB := [59]
def wLess : TkB := [60]
def wGives : TkB := [61]
def wMore : TkB := [62]
def wLeft : TkB := [123]
def wRight : TkB := [125]
def wAmp : TkB := [38]
def wMut : TkB := [109, 117, 116]
def typeWord (k : Int) : TkB :=
  [[], [105, 110, 116], [98, 111, 111, 108], [117, 110, 105, 116], [], [66, 111, 120], [67, 101, 108, 108], [82, 99], [65, 114, 99], [77, 117, 116, 101, 120], [65, 116, 111, 109, 105, 99], [83, 101, 110, 100, 101, 114], [82, 101, 99, 101, 105, 118, 101, 114]].getD k.toNat []
/-- lists of tokens with commas between -/
def joinT : List (List TkB) → List TkB
  | [] => []
  | [a] => a
  | a :: b :: l => a ++ wComma :: joinT (b :: l)
/-- the same, as a list goes on: k of them are written -/
def restT : List (List TkB) → List TkB
  | [] => []
  | a :: l => wComma :: a ++ restT l
theorem joinT_cons (a : List TkB) (l : List (List TkB)) : joinT (a :: l) = a ++ restT l := by
  induction l generalizing a with
  | nil => simp [joinT, restT]
  | cons b l ih => rw [joinT, ih b, restT]; simp

/-! ### types, places -/
mutual
def tokT : PT → List TkB
  | .mk k n l => if k = 4 then [kT n] else if k = 1 ∨ k = 2 ∨ k = 3 ∨ k = 10 then [typeWord k] else if k = 13 then wAmp :: tokTs l else if k = 14 then wAmp :: wMut :: tokTs l
      else typeWord k :: wLess :: (tokTs l ++ [wMore])
def tokTs : List PT → List TkB
  | [] => []
  | t :: _ => tokT t
end
def stepsT : List ByteArray → List TkB
  | [] => []
  | s :: l => wDot :: kT s :: stepsT l
def tokP (x : PP) : List TkB := kT x.name :: stepsT x.path

/-! ### expressions -/
def strongB (op : Int) : Nat := if op = 17 then 0 else if op = 16 then 1 else if op = 8 then 2 else if op = 14 ∨ op = 15 then 3 else if op = 9 ∨ op = 10 then 4 else if op = 11 ∨ op = 12 ∨ op = 13 then 5 else if op = 7 then 6 else 7
def exprWord (k : Int) : TkB :=
  [[], [], [], [], [], [], [], [45], [110, 111, 116], [43], [45], [42], [47], [37], [60], [61, 61], [97, 110, 100], [111, 114], [], [], [], [98, 111, 120], [117, 110, 98, 111, 120], [99, 101, 108, 108], [103, 101, 116], [115, 101, 116], [114, 99], [97, 114, 99], [99, 108, 111, 110, 101], [109, 117, 116, 101, 120], [111, 112, 101, 110], [97, 116, 111, 109, 105, 99], [108, 111, 97, 100], [115, 116, 111, 114, 101], [102, 101, 116, 99, 104], [115, 101, 110, 100], [114, 101, 99, 118]].getD k.toNat []
def opAt (l : List PE) (j : Nat) : Int := (l[j]?.map PE.op).getD 0
/-- what stands beside a sign -/
def sideT (k : Nat) (op : Int) (ts : List TkB) : List TkB := if k ≤ strongB op then ts else wOpen :: (ts ++ [wEnd])
def leftB (op : Int) : Nat := if strongB op = 3 then 4 else strongB op
/-- names, and what they are given -/
def pairsT : List ByteArray → List (List TkB) → List (List TkB)
  | n :: ns, t :: ts => (kT n :: wGives :: t) :: pairsT ns ts
  | _, _ => []
def boolWord (i : Int) : TkB := if i = 1 then [116, 114, 117, 101] else [102, 97, 108, 115, 101]
def enumT (ts : List (List TkB)) : List TkB := match ts with
  | [] => []
  | t :: _ => wOpen :: (t ++ [wEnd])
def placeT (p : PP) (l : List (List TkB)) : List TkB := if kT p.name = [] then joinT l else tokP p ++ (match l with | [] => [] | a :: r => wComma :: joinT (a :: r))
mutual
def tokE : PE → List TkB
  | .mk op i n s p l _ =>
    if op = 1 then [Lib.itoa i] else if op = 2 then [boolWord i] else if op = 3 then [wOpen, wEnd] else if op = 4 then tokP p else if op = 5 then wAmp :: tokP p else if op = 6 then wAmp :: wMut :: tokP p
    else if op = 18 then kT n :: wOpen :: (joinT (tokEs l) ++ [wEnd]) else if op = 19 then kT n :: wLeft :: (joinT (pairsT p.path (tokEs l)) ++ [wRight])
    else if op = 20 then kT n :: wDot :: kT s :: enumT (tokEs l)
    else if op = 7 ∨ op = 8 then exprWord op :: sideT (strongB op) (opAt l 0) ((tokEs l).getD 0 [])
    else if 9 ≤ op ∧ op ≤ 17 then sideT (leftB op) (opAt l 0) ((tokEs l).getD 0 []) ++ exprWord op :: sideT (strongB op + 1) (opAt l 1) ((tokEs l).getD 1 [])
    else exprWord op :: wOpen :: (placeT p (tokEs l) ++ [wEnd])
def tokEs : List PE → List (List TkB)
  | [] => []
  | e :: l => tokE e :: tokEs l
end
/-! ### statements -/
def wLet : TkB := [108, 101, 116]
def wDrop : TkB := [100, 114, 111, 112]
def wChan : TkB := [99, 104, 97, 110]
def wAs : TkB := [97, 115]
def wIf : TkB := [105, 102]
def wElse : TkB := [101, 108, 115, 101]
def wWhile : TkB := [119, 104, 105, 108, 101]
def wMatch : TkB := [109, 97, 116, 99, 104]
def wScope : TkB := [115, 99, 111, 112, 101]
def wSpawn : TkB := [115, 112, 97, 119, 110]
def wLock : TkB := [108, 111, 99, 107]
def wThen : TkB := [61, 62]
def wInto : TkB := [45, 62]
def endT (es : List PE) : List TkB := (tokEs es).getD 0 [] ++ [wSemi]
def blockT (ts : List TkB) : List TkB := wLeft :: (ts ++ [wRight])
def elseT (b : Bool) (ts : List TkB) : List TkB := if b then [] else wElse :: blockT ts
mutual
def tokS : PS → List TkB
  | .mk op n s ns t i p es bo el ar _ =>
    if op = 1 then wLet :: kT n :: wGives :: endT es else if op = 2 then wLet :: kT n :: wLeft :: (joinT (ns.map fun x => [kT x]) ++ wRight :: wGives :: endT es)
    else if op = 3 then tokP p ++ wGives :: endT es else if op = 4 then endT es else if op = 5 then [wDrop, kT n, wSemi]
    else if op = 12 then wChan :: wLess :: (tokT t ++ [wMore, wOpen, Lib.itoa i, wEnd, wAs, kT n, wComma, kT s, wSemi])
    else if op = 6 then wIf :: ((tokEs es).getD 0 [] ++ (blockT (tokSs bo) ++ elseT el.isEmpty (tokSs el)))
    else if op = 7 then wWhile :: ((tokEs es).getD 0 [] ++ blockT (tokSs bo))
    else if op = 8 then wMatch :: kT n :: wColon :: kT s :: wLeft :: (tokAs ar ++ [wRight])
    else if op = 9 then wScope :: blockT (tokSs bo)
    else if op = 10 then wSpawn :: wOpen :: (joinT (pairsT ns (tokEs es)) ++ wEnd :: blockT (tokSs bo))
    else if op = 11 then wLock :: (tokP p ++ wAs :: kT n :: blockT (tokSs bo))
    else if op = 13 then blockT (tokSs bo)
    else []
def tokA : PA → List TkB
  | .mk v n bo => kT v :: ((if kT n = [] then [] else [wOpen, kT n, wEnd]) ++ wThen :: blockT (tokSs bo))
def tokSs : List PS → List TkB
  | [] => []
  | s :: l => tokS s ++ tokSs l
def tokAs : List PA → List TkB
  | [] => []
  | a :: l => tokA a ++ tokAs l
end
/-! ### items -/
def wStruct : TkB := [115, 116, 114, 117, 99, 116]
def wEnum : TkB := [101, 110, 117, 109]
def wFn : TkB := [102, 110]
def fieldT (f : PF) : List TkB := kT f.name :: wColon :: tokT f.type
def variantT (f : PF) : List TkB := kT f.name :: (if f.type.kind = 0 then [] else wOpen :: (tokT f.type ++ [wEnd]))
def tokI (x : PI) : List TkB :=
  if x.kind = 1 then wStruct :: kT x.name :: wLeft :: (joinT (x.fields.map fieldT) ++ [wRight])
  else if x.kind = 2 then wEnum :: kT x.name :: wLeft :: (joinT (x.fields.map variantT) ++ [wRight])
  else if x.kind = 3 then wFn :: kT x.name :: wOpen :: (joinT (x.fields.map fieldT) ++ wEnd :: wInto :: (tokT x.result ++ wLeft :: (tokSs x.body ++ (tokE x.ret ++ [wRight]))))
  else []
/-- a program's text -/
def textP : List PI → TkB
  | [] => []
  | x :: l => lineT (tokI x) ++ [10] ++ textP l
end Go.Proofs.YthilicmhdkmipaaGreatDoor
