/- The plain part beneath layer 3: programs as trees of data, what it is that memory holds one, and when two are the same. -/
import Derived.Below
import Derived.Lib.Hide
import Derived.Lib.Bytealg
namespace Go.Proofs.YthilicmhdkmipaaGreatDoor
open Go.RowKit
set_option linter.unusedVariables false

/-! ### trees -/
inductive PT where
  | mk (kind : Int) (name : ByteArray) (args : List PT)
structure PP where
  name : ByteArray
  path : List ByteArray
inductive PE where
  | mk (op int : Int) (name second : ByteArray) (place : PP) (args : List PE) (pos : Int)
mutual
inductive PS where
  | mk (op : Int) (name second : ByteArray) (names : List ByteArray) (type : PT) (int : Int) (place : PP) (exprs : List PE) (body els : List PS) (arms : List PA) (pos : Int)
inductive PA where
  | mk (variant name : ByteArray) (body : List PS)
end
structure PF where
  name : ByteArray
  type : PT
structure PI where
  kind : Int
  name : ByteArray
  fields : List PF
  result : PT
  body : List PS
  ret : PE
  pos : Int

namespace PT
def kind : PT → Int | .mk k _ _ => k
def name : PT → ByteArray | .mk _ n _ => n
def args : PT → List PT | .mk _ _ a => a
end PT
namespace PE
def op : PE → Int | .mk a _ _ _ _ _ _ => a
def int : PE → Int | .mk _ a _ _ _ _ _ => a
def name : PE → ByteArray | .mk _ _ a _ _ _ _ => a
def second : PE → ByteArray | .mk _ _ _ a _ _ _ => a
def place : PE → PP | .mk _ _ _ _ a _ _ => a
def args : PE → List PE | .mk _ _ _ _ _ a _ => a
def pos : PE → Int | .mk _ _ _ _ _ _ a => a
end PE

/-! ### memory that holds them -/
/-- the cells from a place on -/
def CellsAt (w : World) (b o : Nat) (cs : List Value) : Prop := ∀ i v, cs[i]? = some v → w.cell? ⟨b, o + i, none⟩ = some v
/-- v is the slice value of a row of n elements: nil, or from a place below block B on -/
def SlV (B : Nat) (v : Value) (n : Nat) (b o : Nat) : Prop := n ≤ maxLen ∧ ∃ ao cap, v = .slice ao n cap ∧ (n = 0 ∨ (ao = some ⟨b, o, none⟩ ∧ b < B))
def U8 (x : Int) : Prop := (Lit.int .u8 x).wf = true
def I64 (x : Int) : Prop := (Lit.int .i64 x).wf = true

/-- names: one cell each -/
def NRow (w : World) (b : Nat) : Nat → List ByteArray → Prop
  | _, [] => True
  | o, s :: l => (s.size ≤ maxLen ∧ CellsAt w b o [.string s]) ∧ NRow w b (o + 1) l
def NIn (B : Nat) (w : World) (l : List ByteArray) (v : Value) : Prop := ∃ b o, SlV B v l.length b o ∧ NRow w b o l
def PP.In (B : Nat) (w : World) (x : PP) (v : Value) : Prop := x.name.size ≤ maxLen ∧ NIn B w x.path v

def PT.cells (t : PT) (v : Value) : List Value := [.int .u8 t.kind, .string t.name, v]
mutual
/-- memory holds the type t, v being the slice value of its Args -/
def PT.In (B : Nat) (w : World) : PT → Value → Prop
  | .mk k n as, v => (U8 k ∧ n.size ≤ maxLen) ∧ ∃ b o, SlV B v as.length b o ∧ PT.Row B w b o as
def PT.Row (B : Nat) (w : World) (b : Nat) : Nat → List PT → Prop
  | _, [] => True
  | o, t :: l => (∃ v, CellsAt w b o (t.cells v) ∧ PT.In B w t v) ∧ PT.Row B w b (o + 3) l
end

/-- the slice values in an expression: its Place's Path, its Args -/
structure VE where
  path : Value
  args : Value
def PE.cells (e : PE) (v : VE) : List Value := [.int .u8 e.op, .int .i64 e.int, .string e.name, .string e.second, .string e.place.name, v.path, v.args, .int .i64 e.pos]
mutual
def PE.In (B : Nat) (w : World) : PE → VE → Prop
  | .mk op i n s p as pos, v => (U8 op ∧ I64 i ∧ I64 pos ∧ n.size ≤ maxLen ∧ s.size ≤ maxLen) ∧ p.In B w v.path ∧ ∃ b o, SlV B v.args as.length b o ∧ PE.Row B w b o as
def PE.Row (B : Nat) (w : World) (b : Nat) : Nat → List PE → Prop
  | _, [] => True
  | o, e :: l => (∃ v, CellsAt w b o (e.cells v) ∧ PE.In B w e v) ∧ PE.Row B w b (o + 8) l
end

/-- the slice values in a statement -/
structure VS where
  names : Value
  targs : Value
  path : Value
  exprs : Value
  body : Value
  els : Value
  arms : Value
def PS.cells : PS → VS → List Value
  | .mk op n s _ t i p _ _ _ _ pos, v => [.int .u8 op, .string n, .string s, v.names, .int .u8 t.kind, .string t.name, v.targs, .int .i64 i, .string p.name, v.path, v.exprs, v.body, v.els, v.arms, .int .i64 pos]
def PA.cells : PA → Value → List Value
  | .mk x n _, v => [.string x, .string n, v]
mutual
def PS.In (B : Nat) (w : World) : PS → VS → Prop
  | .mk op n s ns t i p es bo el ar pos, v => (U8 op ∧ I64 i ∧ I64 pos ∧ n.size ≤ maxLen ∧ s.size ≤ maxLen) ∧ NIn B w ns v.names ∧ t.In B w v.targs ∧ p.In B w v.path ∧
      (∃ b o, SlV B v.exprs es.length b o ∧ PE.Row B w b o es) ∧ (∃ b o, SlV B v.body bo.length b o ∧ PS.Row B w b o bo) ∧ (∃ b o, SlV B v.els el.length b o ∧ PS.Row B w b o el) ∧
      ∃ b o, SlV B v.arms ar.length b o ∧ PA.Row B w b o ar
def PA.In (B : Nat) (w : World) : PA → Value → Prop
  | .mk x n bo, v => (x.size ≤ maxLen ∧ n.size ≤ maxLen) ∧ ∃ b o, SlV B v bo.length b o ∧ PS.Row B w b o bo
def PS.Row (B : Nat) (w : World) (b : Nat) : Nat → List PS → Prop
  | _, [] => True
  | o, s :: l => (∃ v, CellsAt w b o (s.cells v) ∧ PS.In B w s v) ∧ PS.Row B w b (o + 15) l
def PA.Row (B : Nat) (w : World) (b : Nat) : Nat → List PA → Prop
  | _, [] => True
  | o, a :: l => (∃ v, CellsAt w b o (a.cells v) ∧ PA.In B w a v) ∧ PA.Row B w b (o + 3) l
end

def PF.cells (f : PF) (v : Value) : List Value := [.string f.name, .int .u8 f.type.kind, .string f.type.name, v]
def PF.In (B : Nat) (w : World) (f : PF) (v : Value) : Prop := f.name.size ≤ maxLen ∧ f.type.In B w v
def PF.Row (B : Nat) (w : World) (b : Nat) : Nat → List PF → Prop
  | _, [] => True
  | o, f :: l => (∃ v, CellsAt w b o (f.cells v) ∧ PF.In B w f v) ∧ PF.Row B w b (o + 4) l
/-- the slice values in an item -/
structure VI where
  fields : Value
  targs : Value
  body : Value
  ret : VE
def PI.cells (x : PI) (v : VI) : List Value := [.int .u8 x.kind, .string x.name, v.fields] ++ x.result.cells v.targs ++ [v.body] ++ x.ret.cells v.ret ++ [.int .i64 x.pos]
def PI.In (B : Nat) (w : World) (x : PI) (v : VI) : Prop := (U8 x.kind ∧ I64 x.pos ∧ x.name.size ≤ maxLen) ∧ (∃ b o, SlV B v.fields x.fields.length b o ∧ PF.Row B w b o x.fields) ∧ x.result.In B w v.targs ∧
  (∃ b o, SlV B v.body x.body.length b o ∧ PS.Row B w b o x.body) ∧ x.ret.In B w v.ret
def PI.Row (B : Nat) (w : World) (b : Nat) : Nat → List PI → Prop
  | _, [] => True
  | o, x :: l => (∃ v, CellsAt w b o (x.cells v) ∧ PI.In B w x v) ∧ PI.Row B w b (o + 16) l
/-- memory holds the program, v being the slice value of its Items -/
def ProgIn (B : Nat) (w : World) (p : List PI) (v : Value) : Prop := ∃ b o, SlV B v p.length b o ∧ PI.Row B w b o p

/-! ### what lies below a block stays -/
theorem CellsAt.below {B : Nat} {w w' : World} {b o : Nat} {cs : List Value} (hb : b < B) (h : CellsAt w b o cs) (k : Below B w w') : CellsAt w' b o cs := fun i v hi => (k.cell (p := ⟨b, o + i, none⟩) hb).trans (h i v hi)
theorem NRow.below {B : Nat} {w w' : World} {b : Nat} (hb : b < B) (k : Below B w w') : ∀ {l : List ByteArray} {o : Nat}, NRow w b o l → NRow w' b o l
  | [], _, _ => trivial
  | s :: l, o, h => ⟨⟨h.1.1, h.1.2.below hb k⟩, NRow.below hb k h.2⟩
/-- of a row without elements nothing is asked -/
theorem SlV.lt {B : Nat} {v : Value} {n b o : Nat} (h : SlV B v n b o) (hn : n ≠ 0) : b < B := by
  obtain ⟨_, ao, cap, _, h | h⟩ := h
  · exact absurd h hn
  · exact h.2
theorem NIn.below {B : Nat} {w w' : World} {l : List ByteArray} {v : Value} (h : NIn B w l v) (k : Below B w w') : NIn B w' l v := by
  obtain ⟨b, o, hs, hr⟩ := h
  refine ⟨b, o, hs, ?_⟩
  cases l with
  | nil => trivial
  | cons s l => exact NRow.below (hs.lt (by simp)) k hr
theorem PP.In.below {B : Nat} {w w' : World} {x : PP} {v : Value} (h : x.In B w v) (k : Below B w w') : x.In B w' v := ⟨h.1, h.2.below k⟩
mutual
theorem PT.In.below {B : Nat} {w w' : World} (k : Below B w w') : ∀ {t : PT} {v : Value}, t.In B w v → t.In B w' v
  | .mk kd n [], v, ⟨h1, b, o, hs, _⟩ => ⟨h1, b, o, hs, trivial⟩
  | .mk kd n (t :: as), v, ⟨h1, b, o, hs, hr⟩ => ⟨h1, b, o, hs, PT.Row.below k (hs.lt (by simp)) hr⟩
theorem PT.Row.below {B : Nat} {w w' : World} (k : Below B w w') {b : Nat} (hb : b < B) : ∀ {l : List PT} {o : Nat}, PT.Row B w b o l → PT.Row B w' b o l
  | [], _, _ => trivial
  | t :: l, o, ⟨⟨v, h1, h2⟩, hr⟩ => ⟨⟨v, h1.below hb k, PT.In.below k h2⟩, PT.Row.below k hb hr⟩
end
mutual
theorem PE.In.below {B : Nat} {w w' : World} (k : Below B w w') : ∀ {t : PE} {v : VE}, t.In B w v → t.In B w' v
  | .mk _ _ _ _ _ [] _, v, ⟨h1, h2, b, o, hs, _⟩ => ⟨h1, h2.below k, b, o, hs, trivial⟩
  | .mk _ _ _ _ _ (t :: as) _, v, ⟨h1, h2, b, o, hs, hr⟩ => ⟨h1, h2.below k, b, o, hs, PE.Row.below k (hs.lt (by simp)) hr⟩
theorem PE.Row.below {B : Nat} {w w' : World} (k : Below B w w') {b : Nat} (hb : b < B) : ∀ {l : List PE} {o : Nat}, PE.Row B w b o l → PE.Row B w' b o l
  | [], _, _ => trivial
  | t :: l, o, ⟨⟨v, h1, h2⟩, hr⟩ => ⟨⟨v, h1.below hb k, PE.In.below k h2⟩, PE.Row.below k hb hr⟩
end
theorem PT.Row.below' {B : Nat} {w w' : World} (k : Below B w w') {v : Value} {l : List PT} {b o : Nat} (hs : SlV B v l.length b o) (h : PT.Row B w b o l) : PT.Row B w' b o l := by
  cases l with
  | nil => trivial
  | cons t l => exact PT.Row.below k (hs.lt (by simp)) h
theorem PE.Row.below' {B : Nat} {w w' : World} (k : Below B w w') {v : Value} {l : List PE} {b o : Nat} (hs : SlV B v l.length b o) (h : PE.Row B w b o l) : PE.Row B w' b o l := by
  cases l with
  | nil => trivial
  | cons t l => exact PE.Row.below k (hs.lt (by simp)) h
mutual
theorem PS.In.below {B : Nat} {w w' : World} (k : Below B w w') : ∀ {t : PS} {v : VS}, t.In B w v → t.In B w' v
  | .mk _ _ _ ns ty _ p es bo el ar _, v, ⟨h1, h2, h3, h4, ⟨b1, o1, s1, r1⟩, ⟨b2, o2, s2, r2⟩, ⟨b3, o3, s3, r3⟩, b4, o4, s4, r4⟩ =>
    ⟨h1, h2.below k, PT.In.below k h3, h4.below k, ⟨b1, o1, s1, PE.Row.below' k s1 r1⟩, ⟨b2, o2, s2, PS.Row.below k (fun h => s2.lt h) r2⟩, ⟨b3, o3, s3, PS.Row.below k (fun h => s3.lt h) r3⟩, b4, o4, s4, PA.Row.below k (fun h => s4.lt h) r4⟩
theorem PA.In.below {B : Nat} {w w' : World} (k : Below B w w') : ∀ {t : PA} {v : Value}, t.In B w v → t.In B w' v
  | .mk _ _ bo, v, ⟨h1, b2, o2, s2, r2⟩ => ⟨h1, b2, o2, s2, PS.Row.below k (fun h => s2.lt h) r2⟩
theorem PS.Row.below {B : Nat} {w w' : World} (k : Below B w w') {b : Nat} : ∀ {l : List PS} {o : Nat}, (l.length ≠ 0 → b < B) → PS.Row B w b o l → PS.Row B w' b o l
  | [], _, _, _ => trivial
  | t :: l, o, hb, ⟨⟨v, h1, h2⟩, hr⟩ => ⟨⟨v, h1.below (hb (by simp)) k, PS.In.below k h2⟩, PS.Row.below k (fun _ => hb (by simp)) hr⟩
theorem PA.Row.below {B : Nat} {w w' : World} (k : Below B w w') {b : Nat} : ∀ {l : List PA} {o : Nat}, (l.length ≠ 0 → b < B) → PA.Row B w b o l → PA.Row B w' b o l
  | [], _, _, _ => trivial
  | t :: l, o, hb, ⟨⟨v, h1, h2⟩, hr⟩ => ⟨⟨v, h1.below (hb (by simp)) k, PA.In.below k h2⟩, PA.Row.below k (fun _ => hb (by simp)) hr⟩
end

theorem PF.In.below {B : Nat} {w w' : World} (k : Below B w w') {t : PF} {v : Value} (h : t.In B w v) : t.In B w' v := ⟨h.1, PT.In.below k h.2⟩
theorem PF.Row.below {B : Nat} {w w' : World} (k : Below B w w') {b : Nat} (hb : b < B) : ∀ {l : List PF} {o : Nat}, PF.Row B w b o l → PF.Row B w' b o l
  | [], _, _ => trivial
  | t :: l, o, ⟨⟨v, h1, h2⟩, hr⟩ => ⟨⟨v, h1.below hb k, PF.In.below k h2⟩, PF.Row.below k hb hr⟩
theorem PF.Row.below' {B : Nat} {w w' : World} (k : Below B w w') {v : Value} {l : List PF} {b o : Nat} (hs : SlV B v l.length b o) (h : PF.Row B w b o l) : PF.Row B w' b o l := by
  cases l with
  | nil => trivial
  | cons t l => exact PF.Row.below k (hs.lt (by simp)) h
theorem PS.Row.below' {B : Nat} {w w' : World} (k : Below B w w') {v : Value} {l : List PS} {b o : Nat} (hs : SlV B v l.length b o) (h : PS.Row B w b o l) : PS.Row B w' b o l := PS.Row.below k (fun h => hs.lt h) h
theorem PA.Row.below' {B : Nat} {w w' : World} (k : Below B w w') {v : Value} {l : List PA} {b o : Nat} (hs : SlV B v l.length b o) (h : PA.Row B w b o l) : PA.Row B w' b o l := PA.Row.below k (fun h => hs.lt h) h
theorem PI.In.below {B : Nat} {w w' : World} (k : Below B w w') {t : PI} {v : VI} : t.In B w v → t.In B w' v
  | ⟨h1, ⟨b1, o1, s1, r1⟩, h3, ⟨b2, o2, s2, r2⟩, h5⟩ => ⟨h1, ⟨b1, o1, s1, PF.Row.below' k s1 r1⟩, PT.In.below k h3, ⟨b2, o2, s2, PS.Row.below' k s2 r2⟩, PE.In.below k h5⟩
theorem PI.Row.below {B : Nat} {w w' : World} (k : Below B w w') {b : Nat} (hb : b < B) : ∀ {l : List PI} {o : Nat}, PI.Row B w b o l → PI.Row B w' b o l
  | [], _, _ => trivial
  | t :: l, o, ⟨⟨v, h1, h2⟩, hr⟩ => ⟨⟨v, h1.below hb k, PI.In.below k h2⟩, PI.Row.below k hb hr⟩
theorem PI.Row.below' {B : Nat} {w w' : World} (k : Below B w w') {v : Value} {l : List PI} {b o : Nat} (hs : SlV B v l.length b o) (h : PI.Row B w b o l) : PI.Row B w' b o l := by
  cases l with
  | nil => trivial
  | cons t l => exact PI.Row.below k (hs.lt (by simp)) h

/-! ### a slice's value shows what it is -/
theorem SlV.shape {B : Nat} {v : Value} {n b o : Nat} (h : SlV B v n b o) : ∃ ao cap, v = .slice ao n cap := by
  obtain ⟨_, ao, cap, h, _⟩ := h
  exact ⟨ao, cap, h⟩
theorem NIn.shape {B : Nat} {w : World} {l : List ByteArray} {v : Value} (h : NIn B w l v) : ∃ ao n cap, v = .slice ao n cap := by
  obtain ⟨b, o, hs, _⟩ := h
  obtain ⟨ao, cap, e⟩ := hs.shape
  exact ⟨ao, _, cap, e⟩
theorem PT.In.shape {B : Nat} {w : World} : ∀ {t : PT} {v : Value}, t.In B w v → ∃ ao n cap, v = .slice ao n cap
  | .mk _ _ _, v, ⟨_, b, o, hs, _⟩ => by
    obtain ⟨ao, cap, e⟩ := hs.shape
    exact ⟨ao, _, cap, e⟩
theorem PE.In.shape {B : Nat} {w : World} : ∀ {t : PE} {v : VE}, t.In B w v → ∃ a1 n1 c1 a2 n2 c2, v = ⟨.slice a1 n1 c1, .slice a2 n2 c2⟩
  | .mk _ _ _ _ _ _ _, ⟨v1, v2⟩, ⟨_, h2, b, o, hs, _⟩ => by
    obtain ⟨ao, n, cap, e⟩ := h2.2.shape
    obtain ⟨ao2, cap2, e2⟩ := hs.shape
    exact ⟨ao, n, cap, ao2, _, cap2, by rw [VE.mk.injEq]; exact ⟨e, e2⟩⟩
theorem PA.In.shape {B : Nat} {w : World} : ∀ {t : PA} {v : Value}, t.In B w v → ∃ ao n cap, v = .slice ao n cap
  | .mk _ _ _, v, ⟨_, b, o, hs, _⟩ => by
    obtain ⟨ao, cap, e⟩ := hs.shape
    exact ⟨ao, _, cap, e⟩
theorem PS.In.shape {B : Nat} {w : World} : ∀ {t : PS} {v : VS}, t.In B w v → ∃ a1 n1 c1 a2 n2 c2 a3 n3 c3 a4 n4 c4 a5 n5 c5 a6 n6 c6 a7 n7 c7,
    v = ⟨.slice a1 n1 c1, .slice a2 n2 c2, .slice a3 n3 c3, .slice a4 n4 c4, .slice a5 n5 c5, .slice a6 n6 c6, .slice a7 n7 c7⟩
  | .mk _ _ _ ns ty _ p es bo el ar _, ⟨v1, v2, v3, v4, v5, v6, v7⟩, ⟨h1, h2, h3, h4, ⟨b1, o1, s1, r1⟩, ⟨b2, o2, s2, r2⟩, ⟨b3, o3, s3, r3⟩, b4, o4, s4, r4⟩ => by
    obtain ⟨a1, n1, c1, e1⟩ := h2.shape
    obtain ⟨a2, n2, c2, e2⟩ := h3.shape
    obtain ⟨a3, n3, c3, e3⟩ := h4.2.shape
    obtain ⟨a4, c4, e4⟩ := s1.shape
    obtain ⟨a5, c5, e5⟩ := s2.shape
    obtain ⟨a6, c6, e6⟩ := s3.shape
    obtain ⟨a7, c7, e7⟩ := s4.shape
    exact ⟨a1, n1, c1, a2, n2, c2, a3, n3, c3, a4, _, c4, a5, _, c5, a6, _, c6, a7, _, c7, by rw [VS.mk.injEq]; exact ⟨e1, e2, e3, e4, e5, e6, e7⟩⟩
theorem PF.In.shape {B : Nat} {w : World} {t : PF} {v : Value} (h : t.In B w v) : ∃ ao n cap, v = .slice ao n cap := h.2.shape
theorem PI.In.shape {B : Nat} {w : World} {t : PI} {v : VI} (h : t.In B w v) : ∃ a1 n1 c1 a2 n2 c2 a3 n3 c3 a4 n4 c4 a5 n5 c5,
    v = ⟨.slice a1 n1 c1, .slice a2 n2 c2, .slice a3 n3 c3, ⟨.slice a4 n4 c4, .slice a5 n5 c5⟩⟩ := by
  obtain ⟨v1, v2, v3, v4⟩ := v
  obtain ⟨h1, ⟨b1, o1, s1, r1⟩, h3, ⟨b2, o2, s2, r2⟩, h5⟩ := h
  obtain ⟨a1, c1, e1⟩ := s1.shape
  obtain ⟨a2, n2, c2, e2⟩ := h3.shape
  obtain ⟨a3, c3, e3⟩ := s2.shape
  obtain ⟨a4, n4, c4, a5, n5, c5, e4⟩ := h5.shape
  exact ⟨a1, _, c1, a2, n2, c2, a3, _, c3, a4, n4, c4, a5, n5, c5, by rw [VI.mk.injEq]; exact ⟨e1, e2, e3, e4⟩⟩

/-! ### one of a row -/
theorem NRow.get {w : World} {b : Nat} : ∀ {l : List ByteArray} {o k : Nat} {s : ByteArray}, NRow w b o l → l[k]? = some s → s.size ≤ maxLen ∧ CellsAt w b (o + k * 1) [.string s]
  | x :: l, o, 0, s, h, e => by obtain rfl : x = s := by simpa using e
                                simpa using h.1
  | x :: l, o, k + 1, s, h, e => by
    have := NRow.get (k := k) h.2 (by simpa using e)
    rwa [show o + (k + 1) * 1 = o + 1 + k * 1 from by omega]
theorem PT.Row.get {B : Nat} {w : World} {b : Nat} : ∀ {l : List PT} {o k : Nat} {t : PT}, PT.Row B w b o l → l[k]? = some t → ∃ v, CellsAt w b (o + k * 3) (t.cells v) ∧ t.In B w v
  | x :: l, o, 0, s, h, e => by obtain rfl : x = s := by simpa using e
                                simpa using h.1
  | x :: l, o, k + 1, s, h, e => by
    have := PT.Row.get (k := k) h.2 (by simpa using e)
    rwa [show o + (k + 1) * 3 = o + 3 + k * 3 from by omega]
theorem PE.Row.get {B : Nat} {w : World} {b : Nat} : ∀ {l : List PE} {o k : Nat} {t : PE}, PE.Row B w b o l → l[k]? = some t → ∃ v, CellsAt w b (o + k * 8) (t.cells v) ∧ t.In B w v
  | x :: l, o, 0, s, h, e => by obtain rfl : x = s := by simpa using e
                                simpa using h.1
  | x :: l, o, k + 1, s, h, e => by
    have := PE.Row.get (k := k) h.2 (by simpa using e)
    rwa [show o + (k + 1) * 8 = o + 8 + k * 8 from by omega]
theorem PS.Row.get {B : Nat} {w : World} {b : Nat} : ∀ {l : List PS} {o k : Nat} {t : PS}, PS.Row B w b o l → l[k]? = some t → ∃ v, CellsAt w b (o + k * 15) (t.cells v) ∧ t.In B w v
  | x :: l, o, 0, s, h, e => by obtain rfl : x = s := by simpa using e
                                simpa [PS.Row] using h.1
  | x :: l, o, k + 1, s, h, e => by
    have := PS.Row.get (k := k) h.2 (by simpa using e)
    rwa [show o + (k + 1) * 15 = o + 15 + k * 15 from by omega]
theorem PA.Row.get {B : Nat} {w : World} {b : Nat} : ∀ {l : List PA} {o k : Nat} {t : PA}, PA.Row B w b o l → l[k]? = some t → ∃ v, CellsAt w b (o + k * 3) (t.cells v) ∧ t.In B w v
  | x :: l, o, 0, s, h, e => by obtain rfl : x = s := by simpa using e
                                simpa [PA.Row] using h.1
  | x :: l, o, k + 1, s, h, e => by
    have := PA.Row.get (k := k) h.2 (by simpa using e)
    rwa [show o + (k + 1) * 3 = o + 3 + k * 3 from by omega]
theorem PF.Row.get {B : Nat} {w : World} {b : Nat} : ∀ {l : List PF} {o k : Nat} {t : PF}, PF.Row B w b o l → l[k]? = some t → ∃ v, CellsAt w b (o + k * 4) (t.cells v) ∧ t.In B w v
  | x :: l, o, 0, s, h, e => by obtain rfl : x = s := by simpa using e
                                simpa [PF.Row] using h.1
  | x :: l, o, k + 1, s, h, e => by
    have := PF.Row.get (k := k) h.2 (by simpa using e)
    rwa [show o + (k + 1) * 4 = o + 4 + k * 4 from by omega]
theorem PI.Row.get {B : Nat} {w : World} {b : Nat} : ∀ {l : List PI} {o k : Nat} {t : PI}, PI.Row B w b o l → l[k]? = some t → ∃ v, CellsAt w b (o + k * 16) (t.cells v) ∧ t.In B w v
  | x :: l, o, 0, s, h, e => by obtain rfl : x = s := by simpa using e
                                simpa [PI.Row] using h.1
  | x :: l, o, k + 1, s, h, e => by
    have := PI.Row.get (k := k) h.2 (by simpa using e)
    rwa [show o + (k + 1) * 16 = o + 16 + k * 16 from by omega]

/-! ### sameness -/
def sameW (a b : ByteArray) : Bool := a.data.toList == b.data.toList
def allW {α : Type} (f : α → α → Bool) : List α → List α → Bool
  | [], [] => true
  | a :: l, b :: m => f a b && allW f l m
  | _, _ => false
def samePl (a b : PP) : Bool := sameW a.name b.name && allW sameW a.path b.path
mutual
def sameT : PT → PT → Bool
  | .mk k n as, b => (decide (k = b.kind) && sameW n b.name) && sameTs as b.args
def sameTs : List PT → List PT → Bool
  | [], [] => true
  | a :: l, b :: m => sameT a b && sameTs l m
  | [], _ :: _ => false
  | _ :: _, [] => false
end
mutual
/-- at: whether the places in the text count -/
def sameE (at' : Bool) : PE → PE → Bool
  | .mk op i n s p as pos, b => (decide (op = b.op) && decide (i = b.int) && sameW n b.name && sameW s b.second && (!at' || decide (pos = b.pos)) && samePl p b.place) && sameEs at' as b.args
def sameEs (at' : Bool) : List PE → List PE → Bool
  | [], [] => true
  | a :: l, b :: m => sameE at' a b && sameEs at' l m
  | [], _ :: _ => false
  | _ :: _, [] => false
end
mutual
def sameS (at' : Bool) : PS → PS → Bool
  | .mk op n s ns t i p es bo el ar pos, .mk op' n' s' ns' t' i' p' es' bo' el' ar' pos' =>
    (decide (op = op') && sameW n n' && sameW s s' && decide (i = i') && (!at' || decide (pos = pos')) && allW sameW ns ns' && sameT t t' && samePl p p' && sameEs at' es es') &&
      sameSs at' bo bo' && sameSs at' el el' && sameAs at' ar ar'
def sameA (at' : Bool) : PA → PA → Bool
  | .mk x n bo, .mk x' n' bo' => (sameW x x' && sameW n n') && sameSs at' bo bo'
def sameSs (at' : Bool) : List PS → List PS → Bool
  | [], [] => true
  | a :: l, b :: m => sameS at' a b && sameSs at' l m
  | [], _ :: _ => false
  | _ :: _, [] => false
def sameAs (at' : Bool) : List PA → List PA → Bool
  | [], [] => true
  | a :: l, b :: m => sameA at' a b && sameAs at' l m
  | [], _ :: _ => false
  | _ :: _, [] => false
end
def sameF (a b : PF) : Bool := sameW a.name b.name && sameT a.type b.type
def sameI (at' : Bool) (a b : PI) : Bool :=
  decide (a.kind = b.kind) && sameW a.name b.name && (!at' || decide (a.pos = b.pos)) && allW sameF a.fields b.fields && sameT a.result b.result && sameSs at' a.body b.body && sameE at' a.ret b.ret
def sameProg (at' : Bool) (a b : List PI) : Bool := allW (sameI at') a b
theorem sameTs_all : ∀ a b, sameTs a b = allW sameT a b
  | [], [] => by simp [sameTs, allW]
  | [], _ :: _ => by simp [sameTs, allW]
  | _ :: _, [] => by simp [sameTs, allW]
  | _ :: l, _ :: m => by simp [sameTs, allW, sameTs_all l m]
theorem sameEs_all (x : Bool) : ∀ a b, sameEs x a b = allW (sameE x) a b
  | [], [] => by simp [sameEs, allW]
  | [], _ :: _ => by simp [sameEs, allW]
  | _ :: _, [] => by simp [sameEs, allW]
  | _ :: l, _ :: m => by simp [sameEs, allW, sameEs_all x l m]
/-- unlike lengths, unlike rows -/
theorem allW_len {α : Type} {f : α → α → Bool} : ∀ {a b : List α}, a.length ≠ b.length → allW f a b = false
  | [], [], h => absurd rfl h
  | [], _ :: _, _ => rfl
  | _ :: _, [], _ => rfl
  | x :: l, y :: m, h => by rw [allW, allW_len (a := l) (b := m) (by simpa using h), Bool.and_false]
/-- the first k agree, the next two don't -/
theorem allW_no {α : Type} {f : α → α → Bool} : ∀ {a b : List α} {k : Nat} {x y : α}, a[k]? = some x → b[k]? = some y → f x y = false → allW f a b = false
  | x :: l, y :: m, 0, x', y', hx, hy, h => by
    obtain rfl : x = x' := by simpa using hx
    obtain rfl : y = y' := by simpa using hy
    rw [allW, h]; rfl
  | x :: l, y :: m, k + 1, x', y', hx, hy, h => by
    rw [allW, allW_no (k := k) (a := l) (b := m) (by simpa using hx) (by simpa using hy) h, Bool.and_false]
  | [], _, _, _, _, hx, _, _ => by simp at hx
  | _ :: _, [], _, _, _, _, hy, _ => by simp at hy
theorem allW_step {α : Type} {f : α → α → Bool} {xs ys : List α} {k : Nat} {a b : α} (h : ∀ (j : Nat) x y, j < k → xs[j]? = some x → ys[j]? = some y → f x y = true) (ha : xs[k]? = some a) (hb : ys[k]? = some b) (hs : f a b = true) :
    ∀ (j : Nat) x y, j < k + 1 → xs[j]? = some x → ys[j]? = some y → f x y = true := fun j x y hj hx hy => by
  by_cases e : j = k
  · subst e
    rw [ha] at hx; rw [hb] at hy
    cases hx; cases hy; exact hs
  · exact h j x y (by omega) hx hy
theorem allW_yes {α : Type} {f : α → α → Bool} : ∀ {a b : List α}, a.length = b.length → (∀ (k : Nat) x y, a[k]? = some x → b[k]? = some y → f x y = true) → allW f a b = true
  | [], [], _, _ => rfl
  | [], _ :: _, h, _ => by simp at h
  | _ :: _, [], h, _ => by simp at h
  | x :: l, y :: m, h, H => by
    rw [allW, H 0 x y rfl rfl, allW_yes (a := l) (b := m) (by simpa using h) (fun k x y hx hy => H (k + 1) x y (by simpa using hx) (by simpa using hy))]; rfl
theorem sameT_mk (k : Int) (n : ByteArray) (xs : List PT) (k2 : Int) (n2 : ByteArray) (ys : List PT) : sameT (.mk k n xs) (.mk k2 n2 ys) = ((decide (k = k2) && sameW n n2) && sameTs xs ys) := by rw [sameT]; rfl
theorem toList_same {a b : ByteArray} (h : a.toList = b.toList) : sameW a b = true := by
  unfold sameW; rw [ByteArray.toList_eq, ByteArray.toList_eq] at h; rw [h]; simp
theorem toList_diff {a b : ByteArray} (h : ¬ a.toList = b.toList) : sameW a b = false := by
  unfold sameW; rw [ByteArray.toList_eq, ByteArray.toList_eq] at h; simpa using h
theorem sameW_eq (a b : ByteArray) : sameW a b = decide (a = b) := by
  unfold sameW
  rw [Bool.eq_iff_iff, beq_iff_eq, decide_eq_true_eq]
  constructor
  · intro h
    obtain ⟨⟨l⟩⟩ := a
    obtain ⟨⟨m⟩⟩ := b
    have : l = m := h
    rw [this]
  · intro h; rw [h]
theorem allW_eq : ∀ a b : List ByteArray, allW sameW a b = decide (a = b)
  | [], [] => by simp [allW]
  | [], _ :: _ => by simp [allW]
  | _ :: _, [] => by simp [allW]
  | x :: l, y :: m => by rw [allW, allW_eq l m, sameW_eq]; simp
theorem sameE_mk (z : Bool) (op i : Int) (n s : ByteArray) (p : PP) (xs : List PE) (pos : Int) (op2 i2 : Int) (n2 s2 : ByteArray) (p2 : PP) (ys : List PE) (pos2 : Int) : sameE z (.mk op i n s p xs pos) (.mk op2 i2 n2 s2 p2 ys pos2) = ((decide (op = op2) && decide (i = i2) && sameW n n2 && sameW s s2 && (!z || decide (pos = pos2)) && samePl p p2) && sameEs z xs ys) := by rw [sameE]; rfl
theorem sameW_toList (a b : ByteArray) : sameW a b = decide (a.toList = b.toList) := by
  rw [sameW_eq, Bool.eq_iff_iff, decide_eq_true_eq, decide_eq_true_eq, ByteArray.toList_eq, ByteArray.toList_eq]
  constructor
  · intro h; rw [h]
  · intro h
    have := toList_same (a := a) (b := b) (by rw [ByteArray.toList_eq, ByteArray.toList_eq]; exact h)
    rw [sameW_eq] at this
    simpa using this
end Go.Proofs.YthilicmhdkmipaaGreatDoor

