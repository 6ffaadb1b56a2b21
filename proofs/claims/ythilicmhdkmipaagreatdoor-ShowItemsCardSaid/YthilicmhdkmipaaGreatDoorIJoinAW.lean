/- The plain part beneath the laws of layer 3: how much room a tree takes; and worlds in which one block alone was written. -/
import Derived.Test.YthilicmhdkmipaaGreatDoorITreeMath
import Derived.Test.YthilicmhdkmipaaGreatDoorChecked
import Derived.WalkKit
import Derived.ChangeArms
import Derived.ChangeSlices
namespace Go.Proofs.YthilicmhdkmipaaGreatDoor
open Go.RowKit
set_option linter.unusedVariables false

def nameR (m : Int) (n : Nat) : Int := if m < 5 ∨ m - 5 < (n : Int) then -1 else m - 5 - n
def listR {α : Type} (f : α → Int → Int) : List α → Int → Int
  | [], m => m
  | x :: l, m => if m < 0 then m else listR f l (f x m)
def namesR (l : List ByteArray) (m : Int) : Int := listR (fun s m => nameR m s.size) l (m - 5)
mutual
def typeR : PT → Int → Int
  | .mk _ n ts, m => typesR ts (nameR m n.size)
def typesR : List PT → Int → Int
  | [], m => m
  | t :: l, m => if m < 0 then m else typesR l (typeR t m)
end
def placeR (x : PP) (m : Int) : Int := namesR x.path (nameR m x.name.size)
mutual
def exprR : PE → Int → Int
  | .mk _ _ n s p ts _, m => exprsR ts (placeR p (nameR (nameR m n.size) s.size))
def exprsR : List PE → Int → Int
  | [], m => m
  | t :: l, m => if m < 0 then m else exprsR l (exprR t m)
end
mutual
def stmtR : PS → Int → Int
  | .mk _ n s ns t _ p es bo el ar _, m => armsR ar (stmtsR el (stmtsR bo (exprsR es (placeR p (typeR t (namesR ns (nameR (nameR m n.size) s.size)))))))
def armR : PA → Int → Int
  | .mk v n bo, m => stmtsR bo (nameR (nameR m v.size) n.size)
def stmtsR : List PS → Int → Int
  | [], m => m
  | t :: l, m => if m < 0 then m else stmtsR l (stmtR t m)
def armsR : List PA → Int → Int
  | [], m => m
  | t :: l, m => if m < 0 then m else armsR l (armR t m)
end
def fieldR (f : PF) (m : Int) : Int := typeR f.type (nameR m f.name.size)
def fieldsR (l : List PF) (m : Int) : Int := listR fieldR l m
def itemR (x : PI) (m : Int) : Int := exprR x.ret (stmtsR x.body (typeR x.result (fieldsR x.fields (nameR m x.name.size))))
def progR (p : List PI) (m : Int) : Int := listR itemR p m
theorem typesR_list : ∀ l m, typesR l m = listR typeR l m
  | [], _ => by rw [typesR, listR]
  | t :: l, m => by rw [typesR, listR, typesR_list]
theorem exprsR_list : ∀ l m, exprsR l m = listR exprR l m
  | [], _ => by rw [exprsR, listR]
  | t :: l, m => by rw [exprsR, listR, exprsR_list]
theorem stmtsR_list : ∀ l m, stmtsR l m = listR stmtR l m
  | [], _ => by rw [stmtsR, listR]
  | t :: l, m => by rw [stmtsR, listR, stmtsR_list]
theorem armsR_list : ∀ l m, armsR l m = listR armR l m
  | [], _ => by rw [armsR, listR]
  | t :: l, m => by rw [armsR, listR, armsR_list]
theorem listR_neg {α : Type} {f : α → Int → Int} : ∀ {l : List α} {m : Int}, m < 0 → listR f l m = m
  | [], _, _ => rfl
  | _ :: _, _, h => by rw [listR, if_pos h]
theorem listR_cons {α : Type} {f : α → Int → Int} {x : α} {l : List α} {m : Int} (h : 0 ≤ m) : listR f (x :: l) m = listR f l (f x m) := by
  rw [listR, if_neg (by omega)]

/-! ### what is left stays within bounds -/
/-- what a number may be that says how much room is left -/
def RB (m : Int) : Prop := -6 ≤ m ∧ m ≤ 20000
theorem nameR_b {m : Int} (h : RB m) (n : Nat) : -1 ≤ nameR m n ∧ nameR m n ≤ 20000 := by
  obtain ⟨h1, h2⟩ := h
  unfold nameR
  split <;> constructor <;> omega
theorem nameR_rb {m : Int} (h : RB m) (n : Nat) : RB (nameR m n) := ⟨by have := nameR_b h n; omega, (nameR_b h n).2⟩
theorem listR_rb {α : Type} {f : α → Int → Int} : ∀ {l : List α} {m : Int}, (∀ x ∈ l, ∀ m, RB m → RB (f x m)) → RB m → RB (listR f l m)
  | [], _, _, h => h
  | x :: l, m, H, h => by
    rw [listR]
    split
    · exact h
    · exact listR_rb (fun y hy => H y (List.mem_cons_of_mem _ hy)) (H x (List.mem_cons_self ..) m h)
theorem namesR_rb {l : List ByteArray} {m : Int} (h1 : -1 ≤ m) (h2 : m ≤ 20000) : RB (namesR l m) := listR_rb (fun x _ m h => nameR_rb h _) ⟨by omega, by omega⟩
theorem placeR_rb (x : PP) {m : Int} (h : RB m) : RB (placeR x m) := namesR_rb (nameR_b h _).1 (nameR_b h _).2
mutual
theorem typeR_rb : ∀ (t : PT) (m : Int), RB m → RB (typeR t m)
  | .mk _ n ts, m, h => by rw [typeR]; exact typesR_rb ts _ (nameR_rb h _)
theorem typesR_rb : ∀ (l : List PT) (m : Int), RB m → RB (typesR l m)
  | [], m, h => by rw [typesR]; exact h
  | t :: l, m, h => by
    rw [typesR]
    split
    · exact h
    · exact typesR_rb l _ (typeR_rb t m h)
end
mutual
theorem exprR_rb : ∀ (t : PE) (m : Int), RB m → RB (exprR t m)
  | .mk _ _ n s p ts _, m, h => by rw [exprR]; exact exprsR_rb ts _ (placeR_rb p (nameR_rb (nameR_rb h _) _))
theorem exprsR_rb : ∀ (l : List PE) (m : Int), RB m → RB (exprsR l m)
  | [], m, h => by rw [exprsR]; exact h
  | t :: l, m, h => by
    rw [exprsR]
    split
    · exact h
    · exact exprsR_rb l _ (exprR_rb t m h)
end
mutual
theorem stmtR_rb : ∀ (t : PS) (m : Int), RB m → RB (stmtR t m)
  | .mk _ n s ns t _ p es bo el ar _, m, h => by
    rw [stmtR]
    have h1 := nameR_b (nameR_rb h n.size) s.size
    exact armsR_rb ar _ (stmtsR_rb el _ (stmtsR_rb bo _ (exprsR_rb es _ (placeR_rb p (typeR_rb t _ (namesR_rb h1.1 h1.2))))))
theorem armR_rb : ∀ (t : PA) (m : Int), RB m → RB (armR t m)
  | .mk v n bo, m, h => by rw [armR]; exact stmtsR_rb bo _ (nameR_rb (nameR_rb h _) _)
theorem stmtsR_rb : ∀ (l : List PS) (m : Int), RB m → RB (stmtsR l m)
  | [], m, h => by rw [stmtsR]; exact h
  | t :: l, m, h => by
    rw [stmtsR]
    split
    · exact h
    · exact stmtsR_rb l _ (stmtR_rb t m h)
theorem armsR_rb : ∀ (l : List PA) (m : Int), RB m → RB (armsR l m)
  | [], m, h => by rw [armsR]; exact h
  | t :: l, m, h => by
    rw [armsR]
    split
    · exact h
    · exact armsR_rb l _ (armR_rb t m h)
end
theorem fieldR_rb (f : PF) (m : Int) (h : RB m) : RB (fieldR f m) := typeR_rb _ _ (nameR_rb h _)
theorem fieldsR_rb (l : List PF) (m : Int) (h : RB m) : RB (fieldsR l m) := listR_rb (fun x _ => fieldR_rb x) h
/-! ### one block alone was written -/
structure But (R : Nat) (w w' : World) : Prop where
  os : w'.os = w.os
  tape : w'.tape = w.tape
  output : w'.output = w.output
  size : w.heap.size ≤ w'.heap.size
  block : ∀ k, k < w.heap.size → k ≠ R → w'.heap[k]? = w.heap[k]?
theorem But.refl (R : Nat) (w : World) : But R w w := ⟨rfl, rfl, rfl, Nat.le_refl _, fun _ _ _ => rfl⟩
theorem But.trans {R : Nat} {a b c : World} (h : But R a b) (k : But R b c) : But R a c :=
  ⟨k.os.trans h.os, k.tape.trans h.tape, k.output.trans h.output, Nat.le_trans h.size k.size, fun j hj hn => (k.block j (Nat.lt_of_lt_of_le hj h.size) hn).trans (h.block j hj hn)⟩
theorem But.of {R : Nat} {w w' : World} (h : Below w.heap.size w w') : But R w w' := ⟨h.os, h.tape, h.output, h.size, fun k hk _ => h.block k hk⟩
theorem But.alloc {R : Nat} (w : World) (o : Obj) : But R w (w.alloc o) := .of ((Below.refl _ w).alloc (Nat.le_refl _) o)
theorem But.set {R : Nat} (w : World) (v : Value) : But R w (w.setCell ⟨R, 0, none⟩ v) :=
  have h := (Below.refl 0 w).setCell (p := ⟨R, 0, none⟩) (Nat.zero_le _) v
  ⟨h.os, h.tape, h.output, h.size, fun k hk hn => Below.heap_setCell w ⟨R, 0, none⟩ v k hn⟩
theorem But.below {R B : Nat} {w w' : World} (h : But R w w') (hR : B ≤ R) (hB : B ≤ w.heap.size) : Below B w w' :=
  ⟨h.os, h.tape, h.output, h.size, fun k hk => h.block k (Nat.lt_of_lt_of_le hk hB) (by omega)⟩
theorem But.cell {R : Nat} {w w' : World} (h : But R w w') : ∀ b o, b < w.heap.size → b ≠ R → w'.cell? ⟨b, o, none⟩ = w.cell? ⟨b, o, none⟩ :=
  fun b o hb hn => World.cell?_of_block (w := w) (a := ⟨b, o, none⟩) (h.block b hb hn)
/-- block R has the number of how much room is left -/
def RoomAt (B R : Nat) (w : World) (m : Int) : Prop := B ≤ R ∧ R < w.heap.size ∧ w.cell? ⟨R, 0, none⟩ = some (.int .i64 m) ∧ w.frozen? ⟨R, 0, none⟩ = false
theorem RoomAt.below {B R : Nat} {w w' : World} {m : Int} (h : RoomAt B R w m) (k : Below w.heap.size w w') : RoomAt B R w' m :=
  ⟨h.1, Nat.lt_of_lt_of_le h.2.1 k.size, (k.cell (p := ⟨R, 0, none⟩) h.2.1).trans h.2.2.1, (k.frozen (p := ⟨R, 0, none⟩) h.2.1).trans h.2.2.2⟩
theorem RoomAt.set {B R : Nat} {w : World} {m : Int} (h : RoomAt B R w m) (m' : Int) : RoomAt B R (w.setCell ⟨R, 0, none⟩ (.int .i64 m')) m' := by
  obtain ⟨h1, h2, h3, h4⟩ := h
  exact ⟨h1, Nat.lt_of_lt_of_le h2 (But.set (R := R) w _).size, World.cell?_setCell_same _ _ _ h3, by rw [World.frozen?_setCell]; exact h4⟩
theorem nameR_no {m : Int} {n : Nat} (h : m < 5 ∨ m - 5 < (n : Int)) : nameR m n = -1 := by unfold nameR; rw [if_pos h]
theorem nameR_yes {m : Int} {n : Nat} (h1 : 5 ≤ m) (h2 : (n : Int) ≤ m - 5) : nameR m n = m - 5 - n := by unfold nameR; rw [if_neg (by omega)]
theorem drop_at {α : Type} {l : List α} {k : Nat} {a : α} (h : l[k]? = some a) : l.drop k = a :: l.drop (k + 1) := by
  obtain ⟨hk, rfl⟩ := List.getElem?_eq_some_iff.1 h
  exact List.drop_eq_getElem_cons hk
theorem stmtsR_neg {l : List PS} {m : Int} (h : m < 0) : stmtsR l m = m := by rw [stmtsR_list, listR_neg h]
theorem armsR_neg {l : List PA} {m : Int} (h : m < 0) : armsR l m = m := by rw [armsR_list, listR_neg h]
end Go.Proofs.YthilicmhdkmipaaGreatDoor
/- What came in as data lies in memory as a tree: types, places, expressions (made by gen_open.py). -/
namespace Go.Proofs.YthilicmhdkmipaaGreatDoor
open Go.RowKit
set_option linter.unusedVariables false

section
variable {H : Type} {enc : TypeId × Value → H} {w : World} {spare : Nat → Bool} {held : Bool}
theorem cells_at {a : Addr} {n : Nat} {cs : List Value} (h : w.cells? 0 a n = some cs) (hn : 0 < n) : ∃ b o, a = ⟨b, o, none⟩ ∧ cs.length = n ∧ CellsAt w b o cs ∧ b < w.heap.size := by
  obtain ⟨_, hl, hc⟩ := World.cells?_some h
  have h0 := hc 0 hn
  have e0 : a.add 0 = a := by simp [Addr.add]
  rw [e0, List.getElem?_eq_getElem (by omega)] at h0
  obtain ⟨b, o, s⟩ := a
  have hs : s = none := by
    cases s with
    | none => rfl
    | some k =>
      unfold World.cell? at h0
      simp at h0
      split at h0 <;> simp at h0
  subst hs
  refine ⟨b, o, rfl, hl, fun i v hi => ?_, World.block_lt_of_cell? _ _ h0⟩
  have hil : i < n := by rw [← hl]; exact (List.getElem?_eq_some_iff.1 hi).1
  have := hc i hil
  rw [hi] at this
  rw [← this]
  congr 1
  unfold Addr.add
  split
  · rename_i h; subst h; rfl
  · rfl
/-- a slice that came in: each element's cells, and what they read as -/
theorem slice_open {t e : TypeId} {k fuel : Nat} {cs : List Value} {x : DataW H × List MemPlace} (ht : Tryz.prog.underlying t = some (.slice e)) (hk : Tryz.prog.cellsOf e = k) (hk0 : 0 < k)
    (h : DataW.trod enc Tryz.prog w 0 spare held fuel t cs = some x) :
    ∃ ao len cap n b o, cs = [.slice ao len cap] ∧ n < fuel ∧ SlV w.heap.size (.slice ao len cap) len b o ∧ ∀ i, i < len → ∃ ci y, CellsAt w b (o + i * k) ci ∧ DataW.trod enc Tryz.prog w 0 spare held n e ci = some y := by
  rcases DataW.trod_slice ht h with ⟨rfl, _⟩ | ⟨a, len, cap, elems, rest, n, rfl, rfl, _, _, hl, hm, hlen, hel, _, _⟩
  · refine ⟨none, 0, 0, 0, 0, 0, rfl, ?_, ⟨by unfold maxLen; omega, none, 0, rfl, .inl rfl⟩, fun i hi => by omega⟩
    cases fuel with
    | zero => simp [DataW.trod] at h
    | succ f => omega
  · rw [hk] at hel
    by_cases h0 : len = 0
    · subst h0
      exact ⟨some a, 0, cap, n, 0, 0, rfl, by omega, ⟨by unfold maxLen; omega, some a, cap, rfl, .inl rfl⟩, fun i hi => by omega⟩
    · have each : ∀ i, i < len → ∃ ci y, w.cells? 0 (a.add (i * k)) k = some ci ∧ DataW.trod enc Tryz.prog w 0 spare held n e ci = some y := by
        intro i hi
        have hi2 := hel i hi
        rw [List.getElem?_eq_getElem (by omega)] at hi2
        obtain ⟨ci, h1, h2⟩ := Option.bind_eq_some_iff.1 hi2
        exact ⟨ci, _, h1, h2⟩
      obtain ⟨c0, y0, hc0, _⟩ := each 0 (by omega)
      rw [show a.add (0 * k) = a from by simp [Addr.add]] at hc0
      obtain ⟨b, o, rfl, _, _, hb⟩ := cells_at hc0 hk0
      refine ⟨some ⟨b, o, none⟩, len, cap, n, b, o, rfl, by omega, ⟨by omega, _, _, rfl, .inr ⟨rfl, hb⟩⟩, fun i hi => ?_⟩
      obtain ⟨ci, y, h1, h2⟩ := each i hi
      have e1 : (⟨b, o, none⟩ : Addr).add (i * k) = ⟨b, o + i * k, none⟩ := by
        unfold Addr.add
        split
        · rename_i h; rw [h]; rfl
        · rfl
      rw [e1] at h1
      obtain ⟨b', o', e2, _, h3, _⟩ := cells_at h1 hk0
      cases e2
      exact ⟨ci, y, h3, h2⟩
theorem NRow.mk {b : Nat} : ∀ {n o : Nat}, (∀ i, i < n → ∃ s : ByteArray, s.size ≤ maxLen ∧ CellsAt w b (o + i * 1) [.string s]) → ∃ l : List ByteArray, l.length = n ∧ NRow w b o l
  | 0, _, _ => ⟨[], rfl, trivial⟩
  | n + 1, o, h => by
    obtain ⟨s, h1, h2⟩ := h 0 (by omega)
    obtain ⟨l, hl, hr⟩ := NRow.mk (n := n) (o := o + 1) (fun i hi => by
      obtain ⟨s, h1, h2⟩ := h (i + 1) (by omega)
      exact ⟨s, h1, by rwa [show o + 1 + i * 1 = o + (i + 1) * 1 from by omega]⟩)
    exact ⟨s :: l, by simp [hl], ⟨h1, by simpa using h2⟩, hr⟩
theorem PT.Row.mk {B b : Nat} : ∀ {n o : Nat}, (∀ i, i < n → ∃ (t : PT) (v : _), CellsAt w b (o + i * 3) (t.cells v) ∧ t.In B w v) → ∃ l : List PT, l.length = n ∧ PT.Row B w b o l
  | 0, _, _ => ⟨[], rfl, by unfold PT.Row; trivial⟩
  | n + 1, o, h => by
    obtain ⟨s, v, h1, h2⟩ := h 0 (by omega)
    obtain ⟨l, hl, hr⟩ := PT.Row.mk (n := n) (o := o + 3) (fun i hi => by
      obtain ⟨s, v, h1, h2⟩ := h (i + 1) (by omega)
      exact ⟨s, v, by rwa [show o + 3 + i * 3 = o + (i + 1) * 3 from by omega], h2⟩)
    exact ⟨s :: l, by simp [hl], by unfold PT.Row; exact ⟨⟨v, by simpa using h1, h2⟩, hr⟩⟩
theorem PE.Row.mk {B b : Nat} : ∀ {n o : Nat}, (∀ i, i < n → ∃ (t : PE) (v : _), CellsAt w b (o + i * 8) (t.cells v) ∧ t.In B w v) → ∃ l : List PE, l.length = n ∧ PE.Row B w b o l
  | 0, _, _ => ⟨[], rfl, by unfold PE.Row; trivial⟩
  | n + 1, o, h => by
    obtain ⟨s, v, h1, h2⟩ := h 0 (by omega)
    obtain ⟨l, hl, hr⟩ := PE.Row.mk (n := n) (o := o + 8) (fun i hi => by
      obtain ⟨s, v, h1, h2⟩ := h (i + 1) (by omega)
      exact ⟨s, v, by rwa [show o + 8 + i * 8 = o + (i + 1) * 8 from by omega], h2⟩)
    exact ⟨s :: l, by simp [hl], by unfold PE.Row; exact ⟨⟨v, by simpa using h1, h2⟩, hr⟩⟩
theorem PS.Row.mk {B b : Nat} : ∀ {n o : Nat}, (∀ i, i < n → ∃ (t : PS) (v : _), CellsAt w b (o + i * 15) (t.cells v) ∧ t.In B w v) → ∃ l : List PS, l.length = n ∧ PS.Row B w b o l
  | 0, _, _ => ⟨[], rfl, by unfold PS.Row; trivial⟩
  | n + 1, o, h => by
    obtain ⟨s, v, h1, h2⟩ := h 0 (by omega)
    obtain ⟨l, hl, hr⟩ := PS.Row.mk (n := n) (o := o + 15) (fun i hi => by
      obtain ⟨s, v, h1, h2⟩ := h (i + 1) (by omega)
      exact ⟨s, v, by rwa [show o + 15 + i * 15 = o + (i + 1) * 15 from by omega], h2⟩)
    exact ⟨s :: l, by simp [hl], by unfold PS.Row; exact ⟨⟨v, by simpa using h1, h2⟩, hr⟩⟩
theorem PA.Row.mk {B b : Nat} : ∀ {n o : Nat}, (∀ i, i < n → ∃ (t : PA) (v : _), CellsAt w b (o + i * 3) (t.cells v) ∧ t.In B w v) → ∃ l : List PA, l.length = n ∧ PA.Row B w b o l
  | 0, _, _ => ⟨[], rfl, by unfold PA.Row; trivial⟩
  | n + 1, o, h => by
    obtain ⟨s, v, h1, h2⟩ := h 0 (by omega)
    obtain ⟨l, hl, hr⟩ := PA.Row.mk (n := n) (o := o + 3) (fun i hi => by
      obtain ⟨s, v, h1, h2⟩ := h (i + 1) (by omega)
      exact ⟨s, v, by rwa [show o + 3 + i * 3 = o + (i + 1) * 3 from by omega], h2⟩)
    exact ⟨s :: l, by simp [hl], by unfold PA.Row; exact ⟨⟨v, by simpa using h1, h2⟩, hr⟩⟩
theorem PF.Row.mk {B b : Nat} : ∀ {n o : Nat}, (∀ i, i < n → ∃ (t : PF) (v : _), CellsAt w b (o + i * 4) (t.cells v) ∧ t.In B w v) → ∃ l : List PF, l.length = n ∧ PF.Row B w b o l
  | 0, _, _ => ⟨[], rfl, by unfold PF.Row; trivial⟩
  | n + 1, o, h => by
    obtain ⟨s, v, h1, h2⟩ := h 0 (by omega)
    obtain ⟨l, hl, hr⟩ := PF.Row.mk (n := n) (o := o + 4) (fun i hi => by
      obtain ⟨s, v, h1, h2⟩ := h (i + 1) (by omega)
      exact ⟨s, v, by rwa [show o + 4 + i * 4 = o + (i + 1) * 4 from by omega], h2⟩)
    exact ⟨s :: l, by simp [hl], by unfold PF.Row; exact ⟨⟨v, by simpa using h1, h2⟩, hr⟩⟩
theorem PI.Row.mk {B b : Nat} : ∀ {n o : Nat}, (∀ i, i < n → ∃ (t : PI) (v : _), CellsAt w b (o + i * 16) (t.cells v) ∧ t.In B w v) → ∃ l : List PI, l.length = n ∧ PI.Row B w b o l
  | 0, _, _ => ⟨[], rfl, by unfold PI.Row; trivial⟩
  | n + 1, o, h => by
    obtain ⟨s, v, h1, h2⟩ := h 0 (by omega)
    obtain ⟨l, hl, hr⟩ := PI.Row.mk (n := n) (o := o + 16) (fun i hi => by
      obtain ⟨s, v, h1, h2⟩ := h (i + 1) (by omega)
      exact ⟨s, v, by rwa [show o + 16 + i * 16 = o + (i + 1) * 16 from by omega], h2⟩)
    exact ⟨s :: l, by simp [hl], by unfold PI.Row; exact ⟨⟨v, by simpa using h1, h2⟩, hr⟩⟩
theorem typeOf : ∀ (fuel : Nat) (cs : List Value) (x : DataW H × List MemPlace), DataW.trod enc Tryz.prog w 0 spare held fuel 31 cs = some x → ∃ (t : PT) (v : Value), cs = t.cells v ∧ t.In w.heap.size w v := by
  intro fuel
  induction fuel using Nat.strongRecOn with
  | _ fuel ih =>
  intro cs x h
  obtain ⟨xs, n, rfl, rfl, hlen, hxl, hf⟩ := DataW.trod_struct Tryz.underlying31 h
  rw [show Tryz.prog.cellsOf 31 = 3 from by kernel_rfl] at hlen
  obtain _ | ⟨k0, cs⟩ := cs
  · simp at hlen
  obtain _ | ⟨k1, cs⟩ := cs
  · simp at hlen
  obtain _ | ⟨k2, cs⟩ := cs
  · simp at hlen
  obtain rfl : cs = [] := by
    cases cs with
    | nil => rfl
    | cons c cs => simp at hlen
  clear hlen
  have fa := hf 0 _ rfl
  change DataW.trod enc Tryz.prog w 0 spare held n 5 ((List.drop 0 [k0, k1, k2]).take (Tryz.prog.cellsOf 5)) = xs[0]? at fa
  rw [show Tryz.prog.cellsOf 5 = 1 from by kernel_rfl, List.getElem?_eq_getElem (show 0 < xs.length by rw [hxl]; decide)] at fa
  replace fa : DataW.trod enc Tryz.prog w 0 spare held n 5 [k0] = some _ := fa
  have fb := hf 1 _ rfl
  change DataW.trod enc Tryz.prog w 0 spare held n 9 ((List.drop 1 [k0, k1, k2]).take (Tryz.prog.cellsOf 9)) = xs[1]? at fb
  rw [show Tryz.prog.cellsOf 9 = 1 from by kernel_rfl, List.getElem?_eq_getElem (show 1 < xs.length by rw [hxl]; decide)] at fb
  replace fb : DataW.trod enc Tryz.prog w 0 spare held n 9 [k1] = some _ := fb
  have fc := hf 2 _ rfl
  change DataW.trod enc Tryz.prog w 0 spare held n 29 ((List.drop 2 [k0, k1, k2]).take (Tryz.prog.cellsOf 29)) = xs[2]? at fc
  rw [show Tryz.prog.cellsOf 29 = 1 from by kernel_rfl, List.getElem?_eq_getElem (show 2 < xs.length by rw [hxl]; decide)] at fc
  replace fc : DataW.trod enc Tryz.prog w 0 spare held n 29 [k2] = some _ := fc
  obtain ⟨kd, e, _, wa⟩ := DataW.trod_int Tryz.underlying5 fa
  obtain rfl : k0 = .int .u8 kd := by simpa using e
  clear e
  obtain ⟨nm, e, _, wb⟩ := DataW.trod_string Tryz.underlying9 fb
  obtain rfl : k1 = .string nm := by simpa using e
  clear e
  obtain ⟨ax, lx, cx, nx, bx, ox, e, hnx, sx, elx⟩ := slice_open Tryz.underlying29 (show Tryz.prog.cellsOf 31 = 3 from by kernel_rfl) (by omega) fc
  obtain rfl : k2 = .slice ax lx cx := by simpa using e
  clear e
  obtain ⟨Lx, hLx, rLx⟩ := PT.Row.mk (B := w.heap.size) (w := w) (b := bx) (n := lx) (o := ox) (fun i hi => by
    obtain ⟨ci, y, h1, h2⟩ := elx i hi
    obtain ⟨t, v, rfl, hin⟩ := ih nx (by omega) ci y h2
    exact ⟨t, v, h1, hin⟩)
  subst hLx
  exact ⟨.mk kd nm Lx, _, rfl, ⟨wa, wb⟩, bx, ox, sx, rLx⟩
theorem placeOf (fuel : Nat) (cs : List Value) (x : DataW H × List MemPlace) (h : DataW.trod enc Tryz.prog w 0 spare held fuel 34 cs = some x) : ∃ (t : PP) (v : Value), cs = [.string t.name, v] ∧ t.In w.heap.size w v := by
  obtain ⟨xs, n, rfl, rfl, hlen, hxl, hf⟩ := DataW.trod_struct Tryz.underlying34 h
  rw [show Tryz.prog.cellsOf 34 = 2 from by kernel_rfl] at hlen
  obtain _ | ⟨k0, cs⟩ := cs
  · simp at hlen
  obtain _ | ⟨k1, cs⟩ := cs
  · simp at hlen
  obtain rfl : cs = [] := by
    cases cs with
    | nil => rfl
    | cons c cs => simp at hlen
  clear hlen
  have fa := hf 0 _ rfl
  change DataW.trod enc Tryz.prog w 0 spare held n 9 ((List.drop 0 [k0, k1]).take (Tryz.prog.cellsOf 9)) = xs[0]? at fa
  rw [show Tryz.prog.cellsOf 9 = 1 from by kernel_rfl, List.getElem?_eq_getElem (show 0 < xs.length by rw [hxl]; decide)] at fa
  replace fa : DataW.trod enc Tryz.prog w 0 spare held n 9 [k0] = some _ := fa
  have fb := hf 1 _ rfl
  change DataW.trod enc Tryz.prog w 0 spare held n 32 ((List.drop 1 [k0, k1]).take (Tryz.prog.cellsOf 32)) = xs[1]? at fb
  rw [show Tryz.prog.cellsOf 32 = 1 from by kernel_rfl, List.getElem?_eq_getElem (show 1 < xs.length by rw [hxl]; decide)] at fb
  replace fb : DataW.trod enc Tryz.prog w 0 spare held n 32 [k1] = some _ := fb
  obtain ⟨nm, e, _, wa⟩ := DataW.trod_string Tryz.underlying9 fa
  obtain rfl : k0 = .string nm := by simpa using e
  clear e
  obtain ⟨ax, lx, cx, nx, bx, ox, e, hnx, sx, elx⟩ := slice_open Tryz.underlying32 (show Tryz.prog.cellsOf 9 = 1 from by kernel_rfl) (by omega) fb
  obtain rfl : k1 = .slice ax lx cx := by simpa using e
  clear e
  obtain ⟨Lx, hLx, rLx⟩ := NRow.mk (w := w) (b := bx) (n := lx) (o := ox) (fun i hi => by
    obtain ⟨ci, y, h1, h2⟩ := elx i hi
    obtain ⟨st, rfl, _, hst⟩ := DataW.trod_string Tryz.underlying9 h2
    exact ⟨st, hst, h1⟩)
  subst hLx
  exact ⟨⟨nm, Lx⟩, _, rfl, wa, bx, ox, sx, rLx⟩
theorem exprOf : ∀ (fuel : Nat) (cs : List Value) (x : DataW H × List MemPlace), DataW.trod enc Tryz.prog w 0 spare held fuel 37 cs = some x → ∃ (t : PE) (v : VE), cs = t.cells v ∧ t.In w.heap.size w v := by
  intro fuel
  induction fuel using Nat.strongRecOn with
  | _ fuel ih =>
  intro cs x h
  obtain ⟨xs, n, rfl, rfl, hlen, hxl, hf⟩ := DataW.trod_struct Tryz.underlying37 h
  rw [show Tryz.prog.cellsOf 37 = 8 from by kernel_rfl] at hlen
  obtain _ | ⟨k0, cs⟩ := cs
  · simp at hlen
  obtain _ | ⟨k1, cs⟩ := cs
  · simp at hlen
  obtain _ | ⟨k2, cs⟩ := cs
  · simp at hlen
  obtain _ | ⟨k3, cs⟩ := cs
  · simp at hlen
  obtain _ | ⟨k4, cs⟩ := cs
  · simp at hlen
  obtain _ | ⟨k5, cs⟩ := cs
  · simp at hlen
  obtain _ | ⟨k6, cs⟩ := cs
  · simp at hlen
  obtain _ | ⟨k7, cs⟩ := cs
  · simp at hlen
  obtain rfl : cs = [] := by
    cases cs with
    | nil => rfl
    | cons c cs => simp at hlen
  clear hlen
  have fa := hf 0 _ rfl
  change DataW.trod enc Tryz.prog w 0 spare held n 5 ((List.drop 0 [k0, k1, k2, k3, k4, k5, k6, k7]).take (Tryz.prog.cellsOf 5)) = xs[0]? at fa
  rw [show Tryz.prog.cellsOf 5 = 1 from by kernel_rfl, List.getElem?_eq_getElem (show 0 < xs.length by rw [hxl]; decide)] at fa
  replace fa : DataW.trod enc Tryz.prog w 0 spare held n 5 [k0] = some _ := fa
  have fb := hf 1 _ rfl
  change DataW.trod enc Tryz.prog w 0 spare held n 2 ((List.drop 1 [k0, k1, k2, k3, k4, k5, k6, k7]).take (Tryz.prog.cellsOf 2)) = xs[1]? at fb
  rw [show Tryz.prog.cellsOf 2 = 1 from by kernel_rfl, List.getElem?_eq_getElem (show 1 < xs.length by rw [hxl]; decide)] at fb
  replace fb : DataW.trod enc Tryz.prog w 0 spare held n 2 [k1] = some _ := fb
  have fc := hf 2 _ rfl
  change DataW.trod enc Tryz.prog w 0 spare held n 9 ((List.drop 2 [k0, k1, k2, k3, k4, k5, k6, k7]).take (Tryz.prog.cellsOf 9)) = xs[2]? at fc
  rw [show Tryz.prog.cellsOf 9 = 1 from by kernel_rfl, List.getElem?_eq_getElem (show 2 < xs.length by rw [hxl]; decide)] at fc
  replace fc : DataW.trod enc Tryz.prog w 0 spare held n 9 [k2] = some _ := fc
  have fd := hf 3 _ rfl
  change DataW.trod enc Tryz.prog w 0 spare held n 9 ((List.drop 3 [k0, k1, k2, k3, k4, k5, k6, k7]).take (Tryz.prog.cellsOf 9)) = xs[3]? at fd
  rw [show Tryz.prog.cellsOf 9 = 1 from by kernel_rfl, List.getElem?_eq_getElem (show 3 < xs.length by rw [hxl]; decide)] at fd
  replace fd : DataW.trod enc Tryz.prog w 0 spare held n 9 [k3] = some _ := fd
  have fe := hf 4 _ rfl
  change DataW.trod enc Tryz.prog w 0 spare held n 34 ((List.drop 4 [k0, k1, k2, k3, k4, k5, k6, k7]).take (Tryz.prog.cellsOf 34)) = xs[4]? at fe
  rw [show Tryz.prog.cellsOf 34 = 2 from by kernel_rfl, List.getElem?_eq_getElem (show 4 < xs.length by rw [hxl]; decide)] at fe
  replace fe : DataW.trod enc Tryz.prog w 0 spare held n 34 [k4, k5] = some _ := fe
  have ff := hf 5 _ rfl
  change DataW.trod enc Tryz.prog w 0 spare held n 35 ((List.drop 6 [k0, k1, k2, k3, k4, k5, k6, k7]).take (Tryz.prog.cellsOf 35)) = xs[5]? at ff
  rw [show Tryz.prog.cellsOf 35 = 1 from by kernel_rfl, List.getElem?_eq_getElem (show 5 < xs.length by rw [hxl]; decide)] at ff
  replace ff : DataW.trod enc Tryz.prog w 0 spare held n 35 [k6] = some _ := ff
  have fg := hf 6 _ rfl
  change DataW.trod enc Tryz.prog w 0 spare held n 3 ((List.drop 7 [k0, k1, k2, k3, k4, k5, k6, k7]).take (Tryz.prog.cellsOf 3)) = xs[6]? at fg
  rw [show Tryz.prog.cellsOf 3 = 1 from by kernel_rfl, List.getElem?_eq_getElem (show 6 < xs.length by rw [hxl]; decide)] at fg
  replace fg : DataW.trod enc Tryz.prog w 0 spare held n 3 [k7] = some _ := fg
  obtain ⟨op, e, _, wa⟩ := DataW.trod_int Tryz.underlying5 fa
  obtain rfl : k0 = .int .u8 op := by simpa using e
  clear e
  obtain ⟨iv, e, _, wb⟩ := DataW.trod_int Tryz.underlying2 fb
  obtain rfl : k1 = .int .i64 iv := by simpa using e
  clear e
  obtain ⟨nm, e, _, wc⟩ := DataW.trod_string Tryz.underlying9 fc
  obtain rfl : k2 = .string nm := by simpa using e
  clear e
  obtain ⟨sc, e, _, wd⟩ := DataW.trod_string Tryz.underlying9 fd
  obtain rfl : k3 = .string sc := by simpa using e
  clear e
  obtain ⟨pl, vp, e, hpl⟩ := placeOf _ _ _ fe
  obtain ⟨rfl, rfl⟩ : k4 = .string pl.name ∧ k5 = vp := by simpa using e
  clear e
  obtain ⟨ax, lx, cx, nx, bx, ox, e, hnx, sx, elx⟩ := slice_open Tryz.underlying35 (show Tryz.prog.cellsOf 37 = 8 from by kernel_rfl) (by omega) ff
  obtain rfl : k6 = .slice ax lx cx := by simpa using e
  clear e
  obtain ⟨pos, e, _, wg⟩ := DataW.trod_int Tryz.underlying3 fg
  obtain rfl : k7 = .int .i64 pos := by simpa using e
  clear e
  obtain ⟨Lx, hLx, rLx⟩ := PE.Row.mk (B := w.heap.size) (w := w) (b := bx) (n := lx) (o := ox) (fun i hi => by
    obtain ⟨ci, y, h1, h2⟩ := elx i hi
    obtain ⟨t, v, rfl, hin⟩ := ih nx (by omega) ci y h2
    exact ⟨t, v, h1, hin⟩)
  subst hLx
  exact ⟨.mk op iv nm sc pl Lx pos, ⟨_, _⟩, rfl, ⟨wa, wb, wg, wc, wd⟩, hpl, bx, ox, sx, rLx⟩
end
end Go.Proofs.YthilicmhdkmipaaGreatDoor
