/- The plain part beneath the laws of layer 3: how much room a tree takes; and worlds in which one block alone was written. -/
import Derived.Test.YtabncmmadbjegaaJoinA
namespace Go.Proofs.Ytabncmmadbjegaa
open Go.RowKit
set_option linter.unusedVariables false

def nameR (m : Int) (n : Nat) : Int := if m < 5 ∨ m - 5 < (n : Int) then -1 else m - 5 - n
def listR {α : Type} (f : α → Int → Int) : List α → Int → Int
  | [], m => m
  | x :: l, m => if m < 0 then m else listR f l (f x m)
def namesR (l : List ByteArray) (m : Int) : Int := listR (fun s m => nameR m s.size) l (m - 5)
mutual
def typeR : PT → Int → Int
  | .mk _ n ts, m => typesR ts (nameR m n.size)
def typesR : List PT → Int → Int
  | [], m => m
  | t :: l, m => if m < 0 then m else typesR l (typeR t m)
end
def placeR (x : PP) (m : Int) : Int := namesR x.path (nameR m x.name.size)
mutual
def exprR : PE → Int → Int
  | .mk _ _ n s p ts _, m => exprsR ts (placeR p (nameR (nameR m n.size) s.size))
def exprsR : List PE → Int → Int
  | [], m => m
  | t :: l, m => if m < 0 then m else exprsR l (exprR t m)
end
mutual
def stmtR : PS → Int → Int
  | .mk _ n s ns t _ p es bo el ar _, m => armsR ar (stmtsR el (stmtsR bo (exprsR es (placeR p (typeR t (namesR ns (nameR (nameR m n.size) s.size)))))))
def armR : PA → Int → Int
  | .mk v n bo, m => stmtsR bo (nameR (nameR m v.size) n.size)
def stmtsR : List PS → Int → Int
  | [], m => m
  | t :: l, m => if m < 0 then m else stmtsR l (stmtR t m)
def armsR : List PA → Int → Int
  | [], m => m
  | t :: l, m => if m < 0 then m else armsR l (armR t m)
end
def fieldR (f : PF) (m : Int) : Int := typeR f.type (nameR m f.name.size)
def fieldsR (l : List PF) (m : Int) : Int := listR fieldR l m
def itemR (x : PI) (m : Int) : Int := exprR x.ret (stmtsR x.body (typeR x.result (fieldsR x.fields (nameR m x.name.size))))
def progR (p : List PI) (m : Int) : Int := listR itemR p m
theorem typesR_list : ∀ l m, typesR l m = listR typeR l m
  | [], _ => by rw [typesR, listR]
  | t :: l, m => by rw [typesR, listR, typesR_list]
theorem exprsR_list : ∀ l m, exprsR l m = listR exprR l m
  | [], _ => by rw [exprsR, listR]
  | t :: l, m => by rw [exprsR, listR, exprsR_list]
theorem stmtsR_list : ∀ l m, stmtsR l m = listR stmtR l m
  | [], _ => by rw [stmtsR, listR]
  | t :: l, m => by rw [stmtsR, listR, stmtsR_list]
theorem armsR_list : ∀ l m, armsR l m = listR armR l m
  | [], _ => by rw [armsR, listR]
  | t :: l, m => by rw [armsR, listR, armsR_list]
theorem listR_neg {α : Type} {f : α → Int → Int} : ∀ {l : List α} {m : Int}, m < 0 → listR f l m = m
  | [], _, _ => rfl
  | _ :: _, _, h => by rw [listR, if_pos h]
theorem listR_cons {α : Type} {f : α → Int → Int} {x : α} {l : List α} {m : Int} (h : 0 ≤ m) : listR f (x :: l) m = listR f l (f x m) := by
  rw [listR, if_neg (by omega)]

/-! ### what is left stays within bounds -/
/-- what a number may be that says how much room is left -/
def RB (m : Int) : Prop := -6 ≤ m ∧ m ≤ 20000
theorem nameR_b {m : Int} (h : RB m) (n : Nat) : -1 ≤ nameR m n ∧ nameR m n ≤ 20000 := by
  obtain ⟨h1, h2⟩ := h
  unfold nameR
  split <;> constructor <;> omega
theorem nameR_rb {m : Int} (h : RB m) (n : Nat) : RB (nameR m n) := ⟨by have := nameR_b h n; omega, (nameR_b h n).2⟩
theorem listR_rb {α : Type} {f : α → Int → Int} : ∀ {l : List α} {m : Int}, (∀ x ∈ l, ∀ m, RB m → RB (f x m)) → RB m → RB (listR f l m)
  | [], _, _, h => h
  | x :: l, m, H, h => by
    rw [listR]
    split
    · exact h
    · exact listR_rb (fun y hy => H y (List.mem_cons_of_mem _ hy)) (H x (List.mem_cons_self ..) m h)
theorem namesR_rb {l : List ByteArray} {m : Int} (h1 : -1 ≤ m) (h2 : m ≤ 20000) : RB (namesR l m) := listR_rb (fun x _ m h => nameR_rb h _) ⟨by omega, by omega⟩
theorem placeR_rb (x : PP) {m : Int} (h : RB m) : RB (placeR x m) := namesR_rb (nameR_b h _).1 (nameR_b h _).2
mutual
theorem typeR_rb : ∀ (t : PT) (m : Int), RB m → RB (typeR t m)
  | .mk _ n ts, m, h => by rw [typeR]; exact typesR_rb ts _ (nameR_rb h _)
theorem typesR_rb : ∀ (l : List PT) (m : Int), RB m → RB (typesR l m)
  | [], m, h => by rw [typesR]; exact h
  | t :: l, m, h => by
    rw [typesR]
    split
    · exact h
    · exact typesR_rb l _ (typeR_rb t m h)
end
mutual
theorem exprR_rb : ∀ (t : PE) (m : Int), RB m → RB (exprR t m)
  | .mk _ _ n s p ts _, m, h => by rw [exprR]; exact exprsR_rb ts _ (placeR_rb p (nameR_rb (nameR_rb h _) _))
theorem exprsR_rb : ∀ (l : List PE) (m : Int), RB m → RB (exprsR l m)
  | [], m, h => by rw [exprsR]; exact h
  | t :: l, m, h => by
    rw [exprsR]
    split
    · exact h
    · exact exprsR_rb l _ (exprR_rb t m h)
end
mutual
theorem stmtR_rb : ∀ (t : PS) (m : Int), RB m → RB (stmtR t m)
  | .mk _ n s ns t _ p es bo el ar _, m, h => by
    rw [stmtR]
    have h1 := nameR_b (nameR_rb h n.size) s.size
    exact armsR_rb ar _ (stmtsR_rb el _ (stmtsR_rb bo _ (exprsR_rb es _ (placeR_rb p (typeR_rb t _ (namesR_rb h1.1 h1.2))))))
theorem armR_rb : ∀ (t : PA) (m : Int), RB m → RB (armR t m)
  | .mk v n bo, m, h => by rw [armR]; exact stmtsR_rb bo _ (nameR_rb (nameR_rb h _) _)
theorem stmtsR_rb : ∀ (l : List PS) (m : Int), RB m → RB (stmtsR l m)
  | [], m, h => by rw [stmtsR]; exact h
  | t :: l, m, h => by
    rw [stmtsR]
    split
    · exact h
    · exact stmtsR_rb l _ (stmtR_rb t m h)
theorem armsR_rb : ∀ (l : List PA) (m : Int), RB m → RB (armsR l m)
  | [], m, h => by rw [armsR]; exact h
  | t :: l, m, h => by
    rw [armsR]
    split
    · exact h
    · exact armsR_rb l _ (armR_rb t m h)
end
theorem fieldR_rb (f : PF) (m : Int) (h : RB m) : RB (fieldR f m) := typeR_rb _ _ (nameR_rb h _)
theorem fieldsR_rb (l : List PF) (m : Int) (h : RB m) : RB (fieldsR l m) := listR_rb (fun x _ => fieldR_rb x) h
theorem itemR_rb (x : PI) (m : Int) (h : RB m) : RB (itemR x m) := exprR_rb _ _ (stmtsR_rb _ _ (typeR_rb _ _ (fieldsR_rb _ _ (nameR_rb h _))))
theorem progR_rb (p : List PI) (m : Int) (h : RB m) : RB (progR p m) := listR_rb (fun x _ => itemR_rb x) h

/-! ### one block alone was written -/
structure But (R : Nat) (w w' : World) : Prop where
  os : w'.os = w.os
  tape : w'.tape = w.tape
  output : w'.output = w.output
  size : w.heap.size ≤ w'.heap.size
  block : ∀ k, k < w.heap.size → k ≠ R → w'.heap[k]? = w.heap[k]?
theorem But.refl (R : Nat) (w : World) : But R w w := ⟨rfl, rfl, rfl, Nat.le_refl _, fun _ _ _ => rfl⟩
theorem But.trans {R : Nat} {a b c : World} (h : But R a b) (k : But R b c) : But R a c :=
  ⟨k.os.trans h.os, k.tape.trans h.tape, k.output.trans h.output, Nat.le_trans h.size k.size, fun j hj hn => (k.block j (Nat.lt_of_lt_of_le hj h.size) hn).trans (h.block j hj hn)⟩
theorem But.of {R : Nat} {w w' : World} (h : Below w.heap.size w w') : But R w w' := ⟨h.os, h.tape, h.output, h.size, fun k hk _ => h.block k hk⟩
theorem But.alloc {R : Nat} (w : World) (o : Obj) : But R w (w.alloc o) := .of ((Below.refl _ w).alloc (Nat.le_refl _) o)
theorem But.set {R : Nat} (w : World) (v : Value) : But R w (w.setCell ⟨R, 0, none⟩ v) :=
  have h := (Below.refl 0 w).setCell (p := ⟨R, 0, none⟩) (Nat.zero_le _) v
  ⟨h.os, h.tape, h.output, h.size, fun k hk hn => Below.heap_setCell w ⟨R, 0, none⟩ v k hn⟩
theorem But.below {R B : Nat} {w w' : World} (h : But R w w') (hR : B ≤ R) (hB : B ≤ w.heap.size) : Below B w w' :=
  ⟨h.os, h.tape, h.output, h.size, fun k hk => h.block k (Nat.lt_of_lt_of_le hk hB) (by omega)⟩
theorem But.cell {R : Nat} {w w' : World} (h : But R w w') : ∀ b o, b < w.heap.size → b ≠ R → w'.cell? ⟨b, o, none⟩ = w.cell? ⟨b, o, none⟩ :=
  fun b o hb hn => World.cell?_of_block (w := w) (a := ⟨b, o, none⟩) (h.block b hb hn)
/-- block R has the number of how much room is left -/
def RoomAt (B R : Nat) (w : World) (m : Int) : Prop := B ≤ R ∧ R < w.heap.size ∧ w.cell? ⟨R, 0, none⟩ = some (.int .i64 m) ∧ w.frozen? ⟨R, 0, none⟩ = false
theorem RoomAt.below {B R : Nat} {w w' : World} {m : Int} (h : RoomAt B R w m) (k : Below w.heap.size w w') : RoomAt B R w' m :=
  ⟨h.1, Nat.lt_of_lt_of_le h.2.1 k.size, (k.cell (p := ⟨R, 0, none⟩) h.2.1).trans h.2.2.1, (k.frozen (p := ⟨R, 0, none⟩) h.2.1).trans h.2.2.2⟩
theorem RoomAt.set {B R : Nat} {w : World} {m : Int} (h : RoomAt B R w m) (m' : Int) : RoomAt B R (w.setCell ⟨R, 0, none⟩ (.int .i64 m')) m' := by
  obtain ⟨h1, h2, h3, h4⟩ := h
  exact ⟨h1, Nat.lt_of_lt_of_le h2 (But.set (R := R) w _).size, World.cell?_setCell_same _ _ _ h3, by rw [World.frozen?_setCell]; exact h4⟩
theorem nameR_no {m : Int} {n : Nat} (h : m < 5 ∨ m - 5 < (n : Int)) : nameR m n = -1 := by unfold nameR; rw [if_pos h]
theorem nameR_yes {m : Int} {n : Nat} (h1 : 5 ≤ m) (h2 : (n : Int) ≤ m - 5) : nameR m n = m - 5 - n := by unfold nameR; rw [if_neg (by omega)]
theorem drop_at {α : Type} {l : List α} {k : Nat} {a : α} (h : l[k]? = some a) : l.drop k = a :: l.drop (k + 1) := by
  obtain ⟨hk, rfl⟩ := List.getElem?_eq_some_iff.1 h
  exact List.drop_eq_getElem_cons hk
theorem stmtsR_neg {l : List PS} {m : Int} (h : m < 0) : stmtsR l m = m := by rw [stmtsR_list, listR_neg h]
theorem armsR_neg {l : List PA} {m : Int} (h : m < 0) : armsR l m = m := by rw [armsR_list, listR_neg h]
end Go.Proofs.Ytabncmmadbjegaa
