/- The plain part beneath layer 3: programs as trees of data, what it is that memory holds one, and when two are the same. -/
import Derived.Below
import Derived.Lib.Hide
import Derived.Lib.Bytealg
import Derived.Laws.AppendOwn
import Derived.Laws.World
import Derived.Deep.AppendLies
import Derived.Laws.OwnMore
import Derived.Maps.AppendAt
import Derived.Laws.Rows
namespace Go.Proofs.YtojeijeimpffgaaGreat
open Go.RowKit
set_option linter.unusedVariables false

/-! ### trees -/
inductive PT where
  | mk (kind : Int) (name : ByteArray) (args : List PT)
structure PP where
  name : ByteArray
  path : List ByteArray
inductive PE where
  | mk (op int : Int) (name second : ByteArray) (place : PP) (args : List PE) (pos : Int)
mutual
inductive PS where
  | mk (op : Int) (name second : ByteArray) (names : List ByteArray) (type : PT) (int : Int) (place : PP) (exprs : List PE) (body els : List PS) (arms : List PA) (pos : Int)
inductive PA where
  | mk (variant name : ByteArray) (body : List PS)
end
structure PF where
  name : ByteArray
  type : PT
structure PI where
  kind : Int
  name : ByteArray
  fields : List PF
  result : PT
  body : List PS
  ret : PE
  pos : Int

namespace PT
def kind : PT → Int | .mk k _ _ => k
def name : PT → ByteArray | .mk _ n _ => n
def args : PT → List PT | .mk _ _ a => a
end PT
namespace PE
def op : PE → Int | .mk a _ _ _ _ _ _ => a
def int : PE → Int | .mk _ a _ _ _ _ _ => a
def name : PE → ByteArray | .mk _ _ a _ _ _ _ => a
def second : PE → ByteArray | .mk _ _ _ a _ _ _ => a
def place : PE → PP | .mk _ _ _ _ a _ _ => a
def args : PE → List PE | .mk _ _ _ _ _ a _ => a
def pos : PE → Int | .mk _ _ _ _ _ _ a => a
end PE

/-! ### memory that holds them -/
/-- the cells from a place on -/
def CellsAt (w : World) (b o : Nat) (cs : List Value) : Prop := ∀ i v, cs[i]? = some v → w.cell? ⟨b, o + i, none⟩ = some v
/-- v is the slice value of a row of n elements: nil, or from a place below block B on -/
def SlV (B : Nat) (v : Value) (n : Nat) (b o : Nat) : Prop := n ≤ maxLen ∧ ∃ ao cap, v = .slice ao n cap ∧ (n = 0 ∨ (ao = some ⟨b, o, none⟩ ∧ b < B))
def U8 (x : Int) : Prop := (Lit.int .u8 x).wf = true
def I64 (x : Int) : Prop := (Lit.int .i64 x).wf = true

/-- names: one cell each -/
def NRow (w : World) (b : Nat) : Nat → List ByteArray → Prop
  | _, [] => True
  | o, s :: l => (s.size ≤ maxLen ∧ CellsAt w b o [.string s]) ∧ NRow w b (o + 1) l
def NIn (B : Nat) (w : World) (l : List ByteArray) (v : Value) : Prop := ∃ b o, SlV B v l.length b o ∧ NRow w b o l
def PP.In (B : Nat) (w : World) (x : PP) (v : Value) : Prop := x.name.size ≤ maxLen ∧ NIn B w x.path v

def PT.cells (t : PT) (v : Value) : List Value := [.int .u8 t.kind, .string t.name, v]
mutual
/-- memory holds the type t, v being the slice value of its Args -/
def PT.In (B : Nat) (w : World) : PT → Value → Prop
  | .mk k n as, v => (U8 k ∧ n.size ≤ maxLen) ∧ ∃ b o, SlV B v as.length b o ∧ PT.Row B w b o as
def PT.Row (B : Nat) (w : World) (b : Nat) : Nat → List PT → Prop
  | _, [] => True
  | o, t :: l => (∃ v, CellsAt w b o (t.cells v) ∧ PT.In B w t v) ∧ PT.Row B w b (o + 3) l
end

/-- the slice values in an expression: its Place's Path, its Args -/
structure VE where
  path : Value
  args : Value
def PE.cells (e : PE) (v : VE) : List Value := [.int .u8 e.op, .int .i64 e.int, .string e.name, .string e.second, .string e.place.name, v.path, v.args, .int .i64 e.pos]
mutual
def PE.In (B : Nat) (w : World) : PE → VE → Prop
  | .mk op i n s p as pos, v => (U8 op ∧ I64 i ∧ I64 pos ∧ n.size ≤ maxLen ∧ s.size ≤ maxLen) ∧ p.In B w v.path ∧ ∃ b o, SlV B v.args as.length b o ∧ PE.Row B w b o as
def PE.Row (B : Nat) (w : World) (b : Nat) : Nat → List PE → Prop
  | _, [] => True
  | o, e :: l => (∃ v, CellsAt w b o (e.cells v) ∧ PE.In B w e v) ∧ PE.Row B w b (o + 8) l
end

/-- the slice values in a statement -/
structure VS where
  names : Value
  targs : Value
  path : Value
  exprs : Value
  body : Value
  els : Value
  arms : Value
def PS.cells : PS → VS → List Value
  | .mk op n s _ t i p _ _ _ _ pos, v => [.int .u8 op, .string n, .string s, v.names, .int .u8 t.kind, .string t.name, v.targs, .int .i64 i, .string p.name, v.path, v.exprs, v.body, v.els, v.arms, .int .i64 pos]
def PA.cells : PA → Value → List Value
  | .mk x n _, v => [.string x, .string n, v]
mutual
def PS.In (B : Nat) (w : World) : PS → VS → Prop
  | .mk op n s ns t i p es bo el ar pos, v => (U8 op ∧ I64 i ∧ I64 pos ∧ n.size ≤ maxLen ∧ s.size ≤ maxLen) ∧ NIn B w ns v.names ∧ t.In B w v.targs ∧ p.In B w v.path ∧
      (∃ b o, SlV B v.exprs es.length b o ∧ PE.Row B w b o es) ∧ (∃ b o, SlV B v.body bo.length b o ∧ PS.Row B w b o bo) ∧ (∃ b o, SlV B v.els el.length b o ∧ PS.Row B w b o el) ∧
      ∃ b o, SlV B v.arms ar.length b o ∧ PA.Row B w b o ar
def PA.In (B : Nat) (w : World) : PA → Value → Prop
  | .mk x n bo, v => (x.size ≤ maxLen ∧ n.size ≤ maxLen) ∧ ∃ b o, SlV B v bo.length b o ∧ PS.Row B w b o bo
def PS.Row (B : Nat) (w : World) (b : Nat) : Nat → List PS → Prop
  | _, [] => True
  | o, s :: l => (∃ v, CellsAt w b o (s.cells v) ∧ PS.In B w s v) ∧ PS.Row B w b (o + 15) l
def PA.Row (B : Nat) (w : World) (b : Nat) : Nat → List PA → Prop
  | _, [] => True
  | o, a :: l => (∃ v, CellsAt w b o (a.cells v) ∧ PA.In B w a v) ∧ PA.Row B w b (o + 3) l
end

def PF.cells (f : PF) (v : Value) : List Value := [.string f.name, .int .u8 f.type.kind, .string f.type.name, v]
def PF.In (B : Nat) (w : World) (f : PF) (v : Value) : Prop := f.name.size ≤ maxLen ∧ f.type.In B w v
def PF.Row (B : Nat) (w : World) (b : Nat) : Nat → List PF → Prop
  | _, [] => True
  | o, f :: l => (∃ v, CellsAt w b o (f.cells v) ∧ PF.In B w f v) ∧ PF.Row B w b (o + 4) l
/-- the slice values in an item -/
structure VI where
  fields : Value
  targs : Value
  body : Value
  ret : VE
def PI.cells (x : PI) (v : VI) : List Value := [.int .u8 x.kind, .string x.name, v.fields] ++ x.result.cells v.targs ++ [v.body] ++ x.ret.cells v.ret ++ [.int .i64 x.pos]
def PI.In (B : Nat) (w : World) (x : PI) (v : VI) : Prop := (U8 x.kind ∧ I64 x.pos ∧ x.name.size ≤ maxLen) ∧ (∃ b o, SlV B v.fields x.fields.length b o ∧ PF.Row B w b o x.fields) ∧ x.result.In B w v.targs ∧
  (∃ b o, SlV B v.body x.body.length b o ∧ PS.Row B w b o x.body) ∧ x.ret.In B w v.ret
def PI.Row (B : Nat) (w : World) (b : Nat) : Nat → List PI → Prop
  | _, [] => True
  | o, x :: l => (∃ v, CellsAt w b o (x.cells v) ∧ PI.In B w x v) ∧ PI.Row B w b (o + 16) l
/-- memory holds the program, v being the slice value of its Items -/
def ProgIn (B : Nat) (w : World) (p : List PI) (v : Value) : Prop := ∃ b o, SlV B v p.length b o ∧ PI.Row B w b o p

/-! ### what lies below a block stays -/
theorem CellsAt.below {B : Nat} {w w' : World} {b o : Nat} {cs : List Value} (hb : b < B) (h : CellsAt w b o cs) (k : Below B w w') : CellsAt w' b o cs := fun i v hi => (k.cell (p := ⟨b, o + i, none⟩) hb).trans (h i v hi)
theorem NRow.below {B : Nat} {w w' : World} {b : Nat} (hb : b < B) (k : Below B w w') : ∀ {l : List ByteArray} {o : Nat}, NRow w b o l → NRow w' b o l
  | [], _, _ => trivial
  | s :: l, o, h => ⟨⟨h.1.1, h.1.2.below hb k⟩, NRow.below hb k h.2⟩
/-- of a row without elements nothing is asked -/
theorem SlV.lt {B : Nat} {v : Value} {n b o : Nat} (h : SlV B v n b o) (hn : n ≠ 0) : b < B := by
  obtain ⟨_, ao, cap, _, h | h⟩ := h
  · exact absurd h hn
  · exact h.2
theorem NIn.below {B : Nat} {w w' : World} {l : List ByteArray} {v : Value} (h : NIn B w l v) (k : Below B w w') : NIn B w' l v := by
  obtain ⟨b, o, hs, hr⟩ := h
  refine ⟨b, o, hs, ?_⟩
  cases l with
  | nil => trivial
  | cons s l => exact NRow.below (hs.lt (by simp)) k hr
theorem PP.In.below {B : Nat} {w w' : World} {x : PP} {v : Value} (h : x.In B w v) (k : Below B w w') : x.In B w' v := ⟨h.1, h.2.below k⟩
mutual
theorem PT.In.below {B : Nat} {w w' : World} (k : Below B w w') : ∀ {t : PT} {v : Value}, t.In B w v → t.In B w' v
  | .mk kd n [], v, ⟨h1, b, o, hs, _⟩ => ⟨h1, b, o, hs, trivial⟩
  | .mk kd n (t :: as), v, ⟨h1, b, o, hs, hr⟩ => ⟨h1, b, o, hs, PT.Row.below k (hs.lt (by simp)) hr⟩
theorem PT.Row.below {B : Nat} {w w' : World} (k : Below B w w') {b : Nat} (hb : b < B) : ∀ {l : List PT} {o : Nat}, PT.Row B w b o l → PT.Row B w' b o l
  | [], _, _ => trivial
  | t :: l, o, ⟨⟨v, h1, h2⟩, hr⟩ => ⟨⟨v, h1.below hb k, PT.In.below k h2⟩, PT.Row.below k hb hr⟩
end
mutual
theorem PE.In.below {B : Nat} {w w' : World} (k : Below B w w') : ∀ {t : PE} {v : VE}, t.In B w v → t.In B w' v
  | .mk _ _ _ _ _ [] _, v, ⟨h1, h2, b, o, hs, _⟩ => ⟨h1, h2.below k, b, o, hs, trivial⟩
  | .mk _ _ _ _ _ (t :: as) _, v, ⟨h1, h2, b, o, hs, hr⟩ => ⟨h1, h2.below k, b, o, hs, PE.Row.below k (hs.lt (by simp)) hr⟩
theorem PE.Row.below {B : Nat} {w w' : World} (k : Below B w w') {b : Nat} (hb : b < B) : ∀ {l : List PE} {o : Nat}, PE.Row B w b o l → PE.Row B w' b o l
  | [], _, _ => trivial
  | t :: l, o, ⟨⟨v, h1, h2⟩, hr⟩ => ⟨⟨v, h1.below hb k, PE.In.below k h2⟩, PE.Row.below k hb hr⟩
end
theorem PT.Row.below' {B : Nat} {w w' : World} (k : Below B w w') {v : Value} {l : List PT} {b o : Nat} (hs : SlV B v l.length b o) (h : PT.Row B w b o l) : PT.Row B w' b o l := by
  cases l with
  | nil => trivial
  | cons t l => exact PT.Row.below k (hs.lt (by simp)) h
theorem PE.Row.below' {B : Nat} {w w' : World} (k : Below B w w') {v : Value} {l : List PE} {b o : Nat} (hs : SlV B v l.length b o) (h : PE.Row B w b o l) : PE.Row B w' b o l := by
  cases l with
  | nil => trivial
  | cons t l => exact PE.Row.below k (hs.lt (by simp)) h
mutual
theorem PS.In.below {B : Nat} {w w' : World} (k : Below B w w') : ∀ {t : PS} {v : VS}, t.In B w v → t.In B w' v
  | .mk _ _ _ ns ty _ p es bo el ar _, v, ⟨h1, h2, h3, h4, ⟨b1, o1, s1, r1⟩, ⟨b2, o2, s2, r2⟩, ⟨b3, o3, s3, r3⟩, b4, o4, s4, r4⟩ =>
    ⟨h1, h2.below k, PT.In.below k h3, h4.below k, ⟨b1, o1, s1, PE.Row.below' k s1 r1⟩, ⟨b2, o2, s2, PS.Row.below k (fun h => s2.lt h) r2⟩, ⟨b3, o3, s3, PS.Row.below k (fun h => s3.lt h) r3⟩, b4, o4, s4, PA.Row.below k (fun h => s4.lt h) r4⟩
theorem PA.In.below {B : Nat} {w w' : World} (k : Below B w w') : ∀ {t : PA} {v : Value}, t.In B w v → t.In B w' v
  | .mk _ _ bo, v, ⟨h1, b2, o2, s2, r2⟩ => ⟨h1, b2, o2, s2, PS.Row.below k (fun h => s2.lt h) r2⟩
theorem PS.Row.below {B : Nat} {w w' : World} (k : Below B w w') {b : Nat} : ∀ {l : List PS} {o : Nat}, (l.length ≠ 0 → b < B) → PS.Row B w b o l → PS.Row B w' b o l
  | [], _, _, _ => trivial
  | t :: l, o, hb, ⟨⟨v, h1, h2⟩, hr⟩ => ⟨⟨v, h1.below (hb (by simp)) k, PS.In.below k h2⟩, PS.Row.below k (fun _ => hb (by simp)) hr⟩
theorem PA.Row.below {B : Nat} {w w' : World} (k : Below B w w') {b : Nat} : ∀ {l : List PA} {o : Nat}, (l.length ≠ 0 → b < B) → PA.Row B w b o l → PA.Row B w' b o l
  | [], _, _, _ => trivial
  | t :: l, o, hb, ⟨⟨v, h1, h2⟩, hr⟩ => ⟨⟨v, h1.below (hb (by simp)) k, PA.In.below k h2⟩, PA.Row.below k (fun _ => hb (by simp)) hr⟩
end

theorem PF.In.below {B : Nat} {w w' : World} (k : Below B w w') {t : PF} {v : Value} (h : t.In B w v) : t.In B w' v := ⟨h.1, PT.In.below k h.2⟩
theorem PF.Row.below {B : Nat} {w w' : World} (k : Below B w w') {b : Nat} (hb : b < B) : ∀ {l : List PF} {o : Nat}, PF.Row B w b o l → PF.Row B w' b o l
  | [], _, _ => trivial
  | t :: l, o, ⟨⟨v, h1, h2⟩, hr⟩ => ⟨⟨v, h1.below hb k, PF.In.below k h2⟩, PF.Row.below k hb hr⟩
theorem PF.Row.below' {B : Nat} {w w' : World} (k : Below B w w') {v : Value} {l : List PF} {b o : Nat} (hs : SlV B v l.length b o) (h : PF.Row B w b o l) : PF.Row B w' b o l := by
  cases l with
  | nil => trivial
  | cons t l => exact PF.Row.below k (hs.lt (by simp)) h
theorem PS.Row.below' {B : Nat} {w w' : World} (k : Below B w w') {v : Value} {l : List PS} {b o : Nat} (hs : SlV B v l.length b o) (h : PS.Row B w b o l) : PS.Row B w' b o l := PS.Row.below k (fun h => hs.lt h) h
theorem PA.Row.below' {B : Nat} {w w' : World} (k : Below B w w') {v : Value} {l : List PA} {b o : Nat} (hs : SlV B v l.length b o) (h : PA.Row B w b o l) : PA.Row B w' b o l := PA.Row.below k (fun h => hs.lt h) h
theorem PI.In.below {B : Nat} {w w' : World} (k : Below B w w') {t : PI} {v : VI} : t.In B w v → t.In B w' v
  | ⟨h1, ⟨b1, o1, s1, r1⟩, h3, ⟨b2, o2, s2, r2⟩, h5⟩ => ⟨h1, ⟨b1, o1, s1, PF.Row.below' k s1 r1⟩, PT.In.below k h3, ⟨b2, o2, s2, PS.Row.below' k s2 r2⟩, PE.In.below k h5⟩
theorem PI.Row.below {B : Nat} {w w' : World} (k : Below B w w') {b : Nat} (hb : b < B) : ∀ {l : List PI} {o : Nat}, PI.Row B w b o l → PI.Row B w' b o l
  | [], _, _ => trivial
  | t :: l, o, ⟨⟨v, h1, h2⟩, hr⟩ => ⟨⟨v, h1.below hb k, PI.In.below k h2⟩, PI.Row.below k hb hr⟩
theorem PI.Row.below' {B : Nat} {w w' : World} (k : Below B w w') {v : Value} {l : List PI} {b o : Nat} (hs : SlV B v l.length b o) (h : PI.Row B w b o l) : PI.Row B w' b o l := by
  cases l with
  | nil => trivial
  | cons t l => exact PI.Row.below k (hs.lt (by simp)) h

/-! ### a slice's value shows what it is -/
theorem SlV.shape {B : Nat} {v : Value} {n b o : Nat} (h : SlV B v n b o) : ∃ ao cap, v = .slice ao n cap := by
  obtain ⟨_, ao, cap, h, _⟩ := h
  exact ⟨ao, cap, h⟩
theorem NIn.shape {B : Nat} {w : World} {l : List ByteArray} {v : Value} (h : NIn B w l v) : ∃ ao n cap, v = .slice ao n cap := by
  obtain ⟨b, o, hs, _⟩ := h
  obtain ⟨ao, cap, e⟩ := hs.shape
  exact ⟨ao, _, cap, e⟩
theorem PT.In.shape {B : Nat} {w : World} : ∀ {t : PT} {v : Value}, t.In B w v → ∃ ao n cap, v = .slice ao n cap
  | .mk _ _ _, v, ⟨_, b, o, hs, _⟩ => by
    obtain ⟨ao, cap, e⟩ := hs.shape
    exact ⟨ao, _, cap, e⟩
theorem PE.In.shape {B : Nat} {w : World} : ∀ {t : PE} {v : VE}, t.In B w v → ∃ a1 n1 c1 a2 n2 c2, v = ⟨.slice a1 n1 c1, .slice a2 n2 c2⟩
  | .mk _ _ _ _ _ _ _, ⟨v1, v2⟩, ⟨_, h2, b, o, hs, _⟩ => by
    obtain ⟨ao, n, cap, e⟩ := h2.2.shape
    obtain ⟨ao2, cap2, e2⟩ := hs.shape
    exact ⟨ao, n, cap, ao2, _, cap2, by rw [VE.mk.injEq]; exact ⟨e, e2⟩⟩
theorem PA.In.shape {B : Nat} {w : World} : ∀ {t : PA} {v : Value}, t.In B w v → ∃ ao n cap, v = .slice ao n cap
  | .mk _ _ _, v, ⟨_, b, o, hs, _⟩ => by
    obtain ⟨ao, cap, e⟩ := hs.shape
    exact ⟨ao, _, cap, e⟩
theorem PS.In.shape {B : Nat} {w : World} : ∀ {t : PS} {v : VS}, t.In B w v → ∃ a1 n1 c1 a2 n2 c2 a3 n3 c3 a4 n4 c4 a5 n5 c5 a6 n6 c6 a7 n7 c7,
    v = ⟨.slice a1 n1 c1, .slice a2 n2 c2, .slice a3 n3 c3, .slice a4 n4 c4, .slice a5 n5 c5, .slice a6 n6 c6, .slice a7 n7 c7⟩
  | .mk _ _ _ ns ty _ p es bo el ar _, ⟨v1, v2, v3, v4, v5, v6, v7⟩, ⟨h1, h2, h3, h4, ⟨b1, o1, s1, r1⟩, ⟨b2, o2, s2, r2⟩, ⟨b3, o3, s3, r3⟩, b4, o4, s4, r4⟩ => by
    obtain ⟨a1, n1, c1, e1⟩ := h2.shape
    obtain ⟨a2, n2, c2, e2⟩ := h3.shape
    obtain ⟨a3, n3, c3, e3⟩ := h4.2.shape
    obtain ⟨a4, c4, e4⟩ := s1.shape
    obtain ⟨a5, c5, e5⟩ := s2.shape
    obtain ⟨a6, c6, e6⟩ := s3.shape
    obtain ⟨a7, c7, e7⟩ := s4.shape
    exact ⟨a1, n1, c1, a2, n2, c2, a3, n3, c3, a4, _, c4, a5, _, c5, a6, _, c6, a7, _, c7, by rw [VS.mk.injEq]; exact ⟨e1, e2, e3, e4, e5, e6, e7⟩⟩
theorem PF.In.shape {B : Nat} {w : World} {t : PF} {v : Value} (h : t.In B w v) : ∃ ao n cap, v = .slice ao n cap := h.2.shape
theorem PI.In.shape {B : Nat} {w : World} {t : PI} {v : VI} (h : t.In B w v) : ∃ a1 n1 c1 a2 n2 c2 a3 n3 c3 a4 n4 c4 a5 n5 c5,
    v = ⟨.slice a1 n1 c1, .slice a2 n2 c2, .slice a3 n3 c3, ⟨.slice a4 n4 c4, .slice a5 n5 c5⟩⟩ := by
  obtain ⟨v1, v2, v3, v4⟩ := v
  obtain ⟨h1, ⟨b1, o1, s1, r1⟩, h3, ⟨b2, o2, s2, r2⟩, h5⟩ := h
  obtain ⟨a1, c1, e1⟩ := s1.shape
  obtain ⟨a2, n2, c2, e2⟩ := h3.shape
  obtain ⟨a3, c3, e3⟩ := s2.shape
  obtain ⟨a4, n4, c4, a5, n5, c5, e4⟩ := h5.shape
  exact ⟨a1, _, c1, a2, n2, c2, a3, _, c3, a4, n4, c4, a5, n5, c5, by rw [VI.mk.injEq]; exact ⟨e1, e2, e3, e4⟩⟩

/-! ### one of a row -/
theorem NRow.get {w : World} {b : Nat} : ∀ {l : List ByteArray} {o k : Nat} {s : ByteArray}, NRow w b o l → l[k]? = some s → s.size ≤ maxLen ∧ CellsAt w b (o + k * 1) [.string s]
  | x :: l, o, 0, s, h, e => by obtain rfl : x = s := by simpa using e
                                simpa using h.1
  | x :: l, o, k + 1, s, h, e => by
    have := NRow.get (k := k) h.2 (by simpa using e)
    rwa [show o + (k + 1) * 1 = o + 1 + k * 1 from by omega]
theorem PT.Row.get {B : Nat} {w : World} {b : Nat} : ∀ {l : List PT} {o k : Nat} {t : PT}, PT.Row B w b o l → l[k]? = some t → ∃ v, CellsAt w b (o + k * 3) (t.cells v) ∧ t.In B w v
  | x :: l, o, 0, s, h, e => by obtain rfl : x = s := by simpa using e
                                simpa using h.1
  | x :: l, o, k + 1, s, h, e => by
    have := PT.Row.get (k := k) h.2 (by simpa using e)
    rwa [show o + (k + 1) * 3 = o + 3 + k * 3 from by omega]
theorem PE.Row.get {B : Nat} {w : World} {b : Nat} : ∀ {l : List PE} {o k : Nat} {t : PE}, PE.Row B w b o l → l[k]? = some t → ∃ v, CellsAt w b (o + k * 8) (t.cells v) ∧ t.In B w v
  | x :: l, o, 0, s, h, e => by obtain rfl : x = s := by simpa using e
                                simpa using h.1
  | x :: l, o, k + 1, s, h, e => by
    have := PE.Row.get (k := k) h.2 (by simpa using e)
    rwa [show o + (k + 1) * 8 = o + 8 + k * 8 from by omega]
theorem PS.Row.get {B : Nat} {w : World} {b : Nat} : ∀ {l : List PS} {o k : Nat} {t : PS}, PS.Row B w b o l → l[k]? = some t → ∃ v, CellsAt w b (o + k * 15) (t.cells v) ∧ t.In B w v
  | x :: l, o, 0, s, h, e => by obtain rfl : x = s := by simpa using e
                                simpa [PS.Row] using h.1
  | x :: l, o, k + 1, s, h, e => by
    have := PS.Row.get (k := k) h.2 (by simpa using e)
    rwa [show o + (k + 1) * 15 = o + 15 + k * 15 from by omega]
theorem PA.Row.get {B : Nat} {w : World} {b : Nat} : ∀ {l : List PA} {o k : Nat} {t : PA}, PA.Row B w b o l → l[k]? = some t → ∃ v, CellsAt w b (o + k * 3) (t.cells v) ∧ t.In B w v
  | x :: l, o, 0, s, h, e => by obtain rfl : x = s := by simpa using e
                                simpa [PA.Row] using h.1
  | x :: l, o, k + 1, s, h, e => by
    have := PA.Row.get (k := k) h.2 (by simpa using e)
    rwa [show o + (k + 1) * 3 = o + 3 + k * 3 from by omega]
theorem PF.Row.get {B : Nat} {w : World} {b : Nat} : ∀ {l : List PF} {o k : Nat} {t : PF}, PF.Row B w b o l → l[k]? = some t → ∃ v, CellsAt w b (o + k * 4) (t.cells v) ∧ t.In B w v
  | x :: l, o, 0, s, h, e => by obtain rfl : x = s := by simpa using e
                                simpa [PF.Row] using h.1
  | x :: l, o, k + 1, s, h, e => by
    have := PF.Row.get (k := k) h.2 (by simpa using e)
    rwa [show o + (k + 1) * 4 = o + 4 + k * 4 from by omega]
theorem PI.Row.get {B : Nat} {w : World} {b : Nat} : ∀ {l : List PI} {o k : Nat} {t : PI}, PI.Row B w b o l → l[k]? = some t → ∃ v, CellsAt w b (o + k * 16) (t.cells v) ∧ t.In B w v
  | x :: l, o, 0, s, h, e => by obtain rfl : x = s := by simpa using e
                                simpa [PI.Row] using h.1
  | x :: l, o, k + 1, s, h, e => by
    have := PI.Row.get (k := k) h.2 (by simpa using e)
    rwa [show o + (k + 1) * 16 = o + 16 + k * 16 from by omega]

/-! ### sameness -/
def sameW (a b : ByteArray) : Bool := a.data.toList == b.data.toList
def allW {α : Type} (f : α → α → Bool) : List α → List α → Bool
  | [], [] => true
  | a :: l, b :: m => f a b && allW f l m
  | _, _ => false
def samePl (a b : PP) : Bool := sameW a.name b.name && allW sameW a.path b.path
mutual
def sameT : PT → PT → Bool
  | .mk k n as, b => (decide (k = b.kind) && sameW n b.name) && sameTs as b.args
def sameTs : List PT → List PT → Bool
  | [], [] => true
  | a :: l, b :: m => sameT a b && sameTs l m
  | [], _ :: _ => false
  | _ :: _, [] => false
end
mutual
/-- at: whether the places in the text count -/
def sameE (at' : Bool) : PE → PE → Bool
  | .mk op i n s p as pos, b => (decide (op = b.op) && decide (i = b.int) && sameW n b.name && sameW s b.second && (!at' || decide (pos = b.pos)) && samePl p b.place) && sameEs at' as b.args
def sameEs (at' : Bool) : List PE → List PE → Bool
  | [], [] => true
  | a :: l, b :: m => sameE at' a b && sameEs at' l m
  | [], _ :: _ => false
  | _ :: _, [] => false
end
mutual
def sameS (at' : Bool) : PS → PS → Bool
  | .mk op n s ns t i p es bo el ar pos, .mk op' n' s' ns' t' i' p' es' bo' el' ar' pos' =>
    (decide (op = op') && sameW n n' && sameW s s' && decide (i = i') && (!at' || decide (pos = pos')) && allW sameW ns ns' && sameT t t' && samePl p p' && sameEs at' es es') &&
      sameSs at' bo bo' && sameSs at' el el' && sameAs at' ar ar'
def sameA (at' : Bool) : PA → PA → Bool
  | .mk x n bo, .mk x' n' bo' => (sameW x x' && sameW n n') && sameSs at' bo bo'
def sameSs (at' : Bool) : List PS → List PS → Bool
  | [], [] => true
  | a :: l, b :: m => sameS at' a b && sameSs at' l m
  | [], _ :: _ => false
  | _ :: _, [] => false
def sameAs (at' : Bool) : List PA → List PA → Bool
  | [], [] => true
  | a :: l, b :: m => sameA at' a b && sameAs at' l m
  | [], _ :: _ => false
  | _ :: _, [] => false
end
def sameF (a b : PF) : Bool := sameW a.name b.name && sameT a.type b.type
def sameI (at' : Bool) (a b : PI) : Bool :=
  decide (a.kind = b.kind) && sameW a.name b.name && (!at' || decide (a.pos = b.pos)) && allW sameF a.fields b.fields && sameT a.result b.result && sameSs at' a.body b.body && sameE at' a.ret b.ret
def sameProg (at' : Bool) (a b : List PI) : Bool := allW (sameI at') a b
theorem sameTs_all : ∀ a b, sameTs a b = allW sameT a b
  | [], [] => by simp [sameTs, allW]
  | [], _ :: _ => by simp [sameTs, allW]
  | _ :: _, [] => by simp [sameTs, allW]
  | _ :: l, _ :: m => by simp [sameTs, allW, sameTs_all l m]
theorem sameEs_all (x : Bool) : ∀ a b, sameEs x a b = allW (sameE x) a b
  | [], [] => by simp [sameEs, allW]
  | [], _ :: _ => by simp [sameEs, allW]
  | _ :: _, [] => by simp [sameEs, allW]
  | _ :: l, _ :: m => by simp [sameEs, allW, sameEs_all x l m]
theorem sameSs_all (x : Bool) : ∀ a b, sameSs x a b = allW (sameS x) a b
  | [], [] => by simp [sameSs, allW]
  | [], _ :: _ => by simp [sameSs, allW]
  | _ :: _, [] => by simp [sameSs, allW]
  | _ :: l, _ :: m => by simp [sameSs, allW, sameSs_all x l m]
theorem sameAs_all (x : Bool) : ∀ a b, sameAs x a b = allW (sameA x) a b
  | [], [] => by simp [sameAs, allW]
  | [], _ :: _ => by simp [sameAs, allW]
  | _ :: _, [] => by simp [sameAs, allW]
  | _ :: l, _ :: m => by simp [sameAs, allW, sameAs_all x l m]
/-- unlike lengths, unlike rows -/
theorem allW_len {α : Type} {f : α → α → Bool} : ∀ {a b : List α}, a.length ≠ b.length → allW f a b = false
  | [], [], h => absurd rfl h
  | [], _ :: _, _ => rfl
  | _ :: _, [], _ => rfl
  | x :: l, y :: m, h => by rw [allW, allW_len (a := l) (b := m) (by simpa using h), Bool.and_false]
/-- the first k agree, the next two don't -/
theorem allW_no {α : Type} {f : α → α → Bool} : ∀ {a b : List α} {k : Nat} {x y : α}, a[k]? = some x → b[k]? = some y → f x y = false → allW f a b = false
  | x :: l, y :: m, 0, x', y', hx, hy, h => by
    obtain rfl : x = x' := by simpa using hx
    obtain rfl : y = y' := by simpa using hy
    rw [allW, h]; rfl
  | x :: l, y :: m, k + 1, x', y', hx, hy, h => by
    rw [allW, allW_no (k := k) (a := l) (b := m) (by simpa using hx) (by simpa using hy) h, Bool.and_false]
  | [], _, _, _, _, hx, _, _ => by simp at hx
  | _ :: _, [], _, _, _, _, hy, _ => by simp at hy
theorem allW_step {α : Type} {f : α → α → Bool} {xs ys : List α} {k : Nat} {a b : α} (h : ∀ (j : Nat) x y, j < k → xs[j]? = some x → ys[j]? = some y → f x y = true) (ha : xs[k]? = some a) (hb : ys[k]? = some b) (hs : f a b = true) :
    ∀ (j : Nat) x y, j < k + 1 → xs[j]? = some x → ys[j]? = some y → f x y = true := fun j x y hj hx hy => by
  by_cases e : j = k
  · subst e
    rw [ha] at hx; rw [hb] at hy
    cases hx; cases hy; exact hs
  · exact h j x y (by omega) hx hy
theorem allW_yes {α : Type} {f : α → α → Bool} : ∀ {a b : List α}, a.length = b.length → (∀ (k : Nat) x y, a[k]? = some x → b[k]? = some y → f x y = true) → allW f a b = true
  | [], [], _, _ => rfl
  | [], _ :: _, h, _ => by simp at h
  | _ :: _, [], h, _ => by simp at h
  | x :: l, y :: m, h, H => by
    rw [allW, H 0 x y rfl rfl, allW_yes (a := l) (b := m) (by simpa using h) (fun k x y hx hy => H (k + 1) x y (by simpa using hx) (by simpa using hy))]; rfl
theorem sameT_mk (k : Int) (n : ByteArray) (xs : List PT) (k2 : Int) (n2 : ByteArray) (ys : List PT) : sameT (.mk k n xs) (.mk k2 n2 ys) = ((decide (k = k2) && sameW n n2) && sameTs xs ys) := by rw [sameT]; rfl
theorem toList_same {a b : ByteArray} (h : a.toList = b.toList) : sameW a b = true := by
  unfold sameW; rw [ByteArray.toList_eq, ByteArray.toList_eq] at h; rw [h]; simp
theorem toList_diff {a b : ByteArray} (h : ¬ a.toList = b.toList) : sameW a b = false := by
  unfold sameW; rw [ByteArray.toList_eq, ByteArray.toList_eq] at h; simpa using h
theorem sameW_eq (a b : ByteArray) : sameW a b = decide (a = b) := by
  unfold sameW
  rw [Bool.eq_iff_iff, beq_iff_eq, decide_eq_true_eq]
  constructor
  · intro h
    obtain ⟨⟨l⟩⟩ := a
    obtain ⟨⟨m⟩⟩ := b
    have : l = m := h
    rw [this]
  · intro h; rw [h]
theorem allW_eq : ∀ a b : List ByteArray, allW sameW a b = decide (a = b)
  | [], [] => by simp [allW]
  | [], _ :: _ => by simp [allW]
  | _ :: _, [] => by simp [allW]
  | x :: l, y :: m => by rw [allW, allW_eq l m, sameW_eq]; simp
theorem sameE_mk (z : Bool) (op i : Int) (n s : ByteArray) (p : PP) (xs : List PE) (pos : Int) (op2 i2 : Int) (n2 s2 : ByteArray) (p2 : PP) (ys : List PE) (pos2 : Int) : sameE z (.mk op i n s p xs pos) (.mk op2 i2 n2 s2 p2 ys pos2) = ((decide (op = op2) && decide (i = i2) && sameW n n2 && sameW s s2 && (!z || decide (pos = pos2)) && samePl p p2) && sameEs z xs ys) := by rw [sameE]; rfl
theorem sameS_mk (z : Bool) (op n s ns t i p es bo el ar pos op' n' s' ns' t' i' p' es' bo' el' ar' pos') : sameS z (.mk op n s ns t i p es bo el ar pos) (.mk op' n' s' ns' t' i' p' es' bo' el' ar' pos') =
    ((decide (op = op') && sameW n n' && sameW s s' && decide (i = i') && (!z || decide (pos = pos')) && allW sameW ns ns' && sameT t t' && samePl p p' && sameEs z es es') && sameSs z bo bo' && sameSs z el el' && sameAs z ar ar') := by rw [sameS]
theorem sameA_mk (z : Bool) (x n bo x' n' bo') : sameA z (.mk x n bo) (.mk x' n' bo') = ((sameW x x' && sameW n n') && sameSs z bo bo') := by rw [sameA]
theorem sameF_mk (a b : PF) : sameF a b = (sameW a.name b.name && sameT a.type b.type) := rfl
theorem sameI_mk (z : Bool) (k n fs r bo rx pos k' n' fs' r' bo' rx' pos') : sameI z ⟨k, n, fs, r, bo, rx, pos⟩ ⟨k', n', fs', r', bo', rx', pos'⟩ =
    (decide (k = k') && sameW n n' && (!z || decide (pos = pos')) && allW sameF fs fs' && sameT r r' && sameSs z bo bo' && sameE z rx rx') := rfl
theorem sameW_toList (a b : ByteArray) : sameW a b = decide (a.toList = b.toList) := by
  rw [sameW_eq, Bool.eq_iff_iff, decide_eq_true_eq, decide_eq_true_eq, ByteArray.toList_eq, ByteArray.toList_eq]
  constructor
  · intro h; rw [h]
  · intro h
    have := toList_same (a := a) (b := b) (by rw [ByteArray.toList_eq, ByteArray.toList_eq]; exact h)
    rw [sameW_eq] at this
    simpa using this
end Go.Proofs.YtojeijeimpffgaaGreat
/- Copies: what is held by some blocks of memory alone. -/
namespace Go.Proofs.YtojeijeimpffgaaGreat
open Go.RowKit
set_option linter.unusedVariables false

/-- w with the blocks of p alone: the others are empty -/
def only (p : Nat → Bool) (w : World) : World := { w with heap := w.heap.mapIdx fun i o => if p i then o else .cells #[] 0 }
theorem only_heap (p : Nat → Bool) (w : World) (i : Nat) : (only p w).heap[i]? = (w.heap[i]?).map (fun o => if p i then o else .cells #[] 0) := by simp [only]
theorem only_in {p : Nat → Bool} {w : World} {a : Addr} (h : p a.block = true) : (only p w).cell? a = w.cell? a := by
  apply World.cell?_of_block
  rw [only_heap]
  cases w.heap[a.block]? <;> simp [h]
theorem only_off {p : Nat → Bool} {w : World} {a : Addr} {v : Value} (h : (only p w).cell? a = some v) : p a.block = true := by
  cases hp : p a.block with
  | true => rfl
  | false =>
    unfold World.cell? at h
    rw [only_heap] at h
    cases hb : w.heap[a.block]? with
    | none => rw [hb] at h; simp at h
    | some o => rw [hb] at h; simp [hp] at h
theorem only_cell {p : Nat → Bool} {w : World} {a : Addr} {v : Value} (h : (only p w).cell? a = some v) : p a.block = true ∧ w.cell? a = some v :=
  ⟨only_off h, by rw [← only_in (only_off h)]; exact h⟩
/-- all that can be read in W can be read in W' -/
def Reads (W W' : World) : Prop := ∀ a v, W.cell? a = some v → W'.cell? a = some v
theorem Reads.only (p : Nat → Bool) (w : World) : Reads (only p w) w := fun _ _ h => (only_cell h).2
theorem Reads.to_only {p : Nat → Bool} {W w : World} (h : ∀ a v, W.cell? a = some v → p a.block = true ∧ w.cell? a = some v) : Reads W (Go.Proofs.YtojeijeimpffgaaGreat.only p w) := fun a v hc => by
  rw [only_in (h a v hc).1]; exact (h a v hc).2
theorem CellsAt.reads {W W' : World} {b o : Nat} {cs : List Value} (k : Reads W W') (h : CellsAt W b o cs) : CellsAt W' b o cs := fun i v hi => k _ _ (h i v hi)
theorem SlV.up {B B' : Nat} {v : Value} {n b o : Nat} (h : SlV B v n b o) (hb : B ≤ B') : SlV B' v n b o := by
  obtain ⟨h1, ao, cap, h2, h3⟩ := h
  exact ⟨h1, ao, cap, h2, h3.imp id fun h => ⟨h.1, by omega⟩⟩
theorem NRow.reads {W W' : World} {b : Nat} (k : Reads W W') : ∀ {l : List ByteArray} {o : Nat}, NRow W b o l → NRow W' b o l
  | [], _, _ => trivial
  | s :: l, o, ⟨⟨h1, h2⟩, hr⟩ => ⟨⟨h1, h2.reads k⟩, NRow.reads k hr⟩
theorem NIn.reads {B B' : Nat} {W W' : World} {l : List ByteArray} {v : Value} (hb : B ≤ B') (k : Reads W W') (h : NIn B W l v) : NIn B' W' l v := by
  obtain ⟨b, o, h1, h2⟩ := h
  exact ⟨b, o, h1.up hb, h2.reads k⟩
theorem PP.In.reads {B B' : Nat} {W W' : World} {x : PP} {v : Value} (hb : B ≤ B') (k : Reads W W') (h : x.In B W v) : x.In B' W' v := ⟨h.1, h.2.reads hb k⟩
mutual
theorem PT.In.reads {B B' : Nat} {W W' : World} (hb : B ≤ B') (k : Reads W W') : ∀ {t : PT} {v : Value}, t.In B W v → t.In B' W' v
  | .mk kd n [], v, ⟨h1, b, o, hs, _⟩ => ⟨h1, b, o, hs.up hb, trivial⟩
  | .mk kd n (t :: as), v, ⟨h1, b, o, hs, hr⟩ => ⟨h1, b, o, hs.up hb, PT.Row.reads hb k hr⟩
theorem PT.Row.reads {B B' : Nat} {W W' : World} (hb : B ≤ B') (k : Reads W W') {b : Nat} : ∀ {l : List PT} {o : Nat}, PT.Row B W b o l → PT.Row B' W' b o l
  | [], _, _ => trivial
  | t :: l, o, ⟨⟨v, h1, h2⟩, hr⟩ => ⟨⟨v, h1.reads k, PT.In.reads hb k h2⟩, PT.Row.reads hb k hr⟩
end
mutual
theorem PE.In.reads {B B' : Nat} {W W' : World} (hb : B ≤ B') (k : Reads W W') : ∀ {t : PE} {v : VE}, t.In B W v → t.In B' W' v
  | .mk _ _ _ _ _ [] _, v, ⟨h1, h2, b, o, hs, _⟩ => ⟨h1, h2.reads hb k, b, o, hs.up hb, trivial⟩
  | .mk _ _ _ _ _ (t :: as) _, v, ⟨h1, h2, b, o, hs, hr⟩ => ⟨h1, h2.reads hb k, b, o, hs.up hb, PE.Row.reads hb k hr⟩
theorem PE.Row.reads {B B' : Nat} {W W' : World} (hb : B ≤ B') (k : Reads W W') {b : Nat} : ∀ {l : List PE} {o : Nat}, PE.Row B W b o l → PE.Row B' W' b o l
  | [], _, _ => trivial
  | t :: l, o, ⟨⟨v, h1, h2⟩, hr⟩ => ⟨⟨v, h1.reads k, PE.In.reads hb k h2⟩, PE.Row.reads hb k hr⟩
end

/-! ### rows -/
/-- the cells of a row of types, vs being the slice values of their Args -/
def cellsTs : List PT → List Value → List Value
  | t :: l, v :: vs => t.cells v ++ cellsTs l vs
  | _, _ => []
theorem cellsTs_snoc : ∀ {l : List PT} {vs : List Value} (t : PT) (v : Value), vs.length = l.length → cellsTs (l ++ [t]) (vs ++ [v]) = cellsTs l vs ++ t.cells v
  | [], [], t, v, _ => by simp [cellsTs]
  | s :: l, x :: vs, t, v, h => by simp [cellsTs, cellsTs_snoc (l := l) (vs := vs) t v (by simpa using h)]
theorem rowT_of {B : Nat} {W : World} {b : Nat} : ∀ {l : List PT} {vs : List Value} {o : Nat}, vs.length = l.length → CellsAt W b o (cellsTs l vs) → (∀ (j : Nat) t x, l[j]? = some t → vs[j]? = some x → t.In B W x) → PT.Row B W b o l
  | [], _, _, _, _, _ => trivial
  | t :: l, v :: vs, o, h, hc, hi => by
    refine ⟨⟨v, fun i u hu => hc i u ?_, hi 0 t v rfl rfl⟩, rowT_of (vs := vs) (by simpa using h) (fun i u hu => ?_) (fun j t x h1 h2 => hi (j + 1) t x (by simpa using h1) (by simpa using h2))⟩
    · have hl : i < (t.cells v).length := (List.getElem?_eq_some_iff.1 hu).1
      simp only [cellsTs]
      rw [List.getElem?_append_left hl]
      exact hu
    · have h3 := hc (3 + i) u (by
        simp only [cellsTs]
        rw [List.getElem?_append_right (by simp [PT.cells])]
        simpa [PT.cells] using hu)
      rw [show o + 3 + i = o + (3 + i) from by omega]
      exact h3
/-- a slice that is owned lies in a row -/
theorem cells_own {w : World} {base : Nat} {e : TypeId} {size : Nat} {n : Nat} {g cap : Nat} {xs : List Value} (h : w.ownsRow base e size (.slice (some ⟨g, 0, none⟩) n cap) n xs) : CellsAt w g 0 xs := by
  obtain ⟨hl, h⟩ := h
  rcases h with ⟨h, _⟩ | ⟨g', cap', cur, hv, hb, hg, hn, hc, hs, ht⟩
  · cases h
  · cases hv
    intro i v hi
    have hi' : i < n * size := by rw [← hl]; exact (List.getElem?_eq_some_iff.1 hi).1
    rw [cell_of_row w g (0 + i) cur e (0, 0) hg, Nat.zero_add]
    rw [← ht, List.getElem?_take_of_lt hi'] at hi
    simpa using hi
theorem own_below {w w' : World} {base : Nat} {e : TypeId} {size : Nat} {v : Value} {n : Nat} {xs : List Value} (h : w.ownsRow base e size v n xs) (k : Below w.heap.size w w') : w'.ownsRow base e size v n xs := by
  obtain ⟨hl, h⟩ := h
  refine ⟨hl, h.imp id ?_⟩
  rintro ⟨g, cap, cur, hv, hb, hg, h5⟩
  refine ⟨g, cap, cur, hv, hb, ?_, h5⟩
  have : g < w.heap.size := by
    rcases Nat.lt_or_ge g w.heap.size with h | h
    · exact h
    · rw [Array.getElem?_eq_none h] at hg; cases hg
  rw [k.block g this]; exact hg
theorem own_ne {w : World} {base : Nat} {e : TypeId} {size : Nat} {v : Value} {n : Nat} {xs : List Value} (h : w.ownsRow base e size v n xs) {b : Nat} (hb : b < base) : some b ≠ v.ownBlock := fun e1 => by
  have := (h.lt b e1.symm).1
  omega
theorem own_ne' {w : World} {base : Nat} {e : TypeId} {size : Nat} {v : Value} {n : Nat} {xs : List Value} (h : w.ownsRow base e size v n xs) {b : Nat} (hb : w.heap.size ≤ b) : some b ≠ v.ownBlock := fun e1 => by
  have := (h.lt b e1.symm).2
  omega
theorem grown_cell {w1 w2 : World} {o : Obj} {q : Option Nat} (hg : (w1.alloc o).grownBy w2 q) {a : Addr} {v : Value} (h : w1.cell? a = some v) (hn : some a.block ≠ q) : w2.cell? a = some v :=
  hg.cell ((((Below.refl _ w1).alloc (Nat.le_refl _) o).cell (World.block_lt_of_cell? w1 a h)).trans h) hn
theorem grown_frozen {w1 w2 : World} {o : Obj} {q : Option Nat} (hg : (w1.alloc o).grownBy w2 q) {a : Addr} {b : Bool} (h : w1.frozen? a = b) (hb : a.block < w1.heap.size) (hn : some a.block ≠ q) : w2.frozen? a = b :=
  (World.frozen?_of_block (hg.block a.block (by simp; omega) hn)).trans ((((Below.refl _ w1).alloc (Nat.le_refl _) o).frozen hb).trans h)
theorem own_set {w : World} {base : Nat} {e : TypeId} {size : Nat} {v : Value} {n : Nat} {xs : List Value} (h : w.ownsRow base e size v n xs) {p : Addr} (hp : p.block < base) (z : Value) : (w.setCell p z).ownsRow base e size v n xs := by
  obtain ⟨hl, h⟩ := h
  refine ⟨hl, h.imp id ?_⟩
  rintro ⟨g, cap, cur, hv, hb, hg, h5⟩
  exact ⟨g, cap, cur, hv, hb, (Below.heap_setCell w p z g (by omega)).trans hg, h5⟩
/-- the part of memory that holds the elements, behind one append more: all that could be read can be read -/
theorem reads_next {base gg size : Nat} {u z : Value} {wr w1 w2 : World} {o : Obj} {p : Addr} {e : TypeId} {k : Nat} {xs : List Value}
    (bel1 : Below wr.heap.size wr w1) (hown : wr.ownsRow base e size u k xs)
    (hgrow : (w1.alloc o).grownBy w2 u.ownBlock) (hat : u.ownBlock = some gg ∨ gg = w1.heap.size + 1) (hp : p.block < base) (hbw : base ≤ wr.heap.size) {q : Nat → Bool} {W : World}
    (hW : W = wr ∧ (∀ i, q i = true → base ≤ i ∧ some i ≠ u.ownBlock) ∨ W = w1 ∧ (∀ i, q i = true → wr.heap.size ≤ i)) :
    Reads (only q W) (only (fun i => decide (base ≤ i) && decide (some i ≠ some gg)) (w2.setCell p z)) := by
  have hsz := bel1.size
  -- what block i holds, where it is below the size of w1, not the row itself, and not p's
  have key : ∀ i, i < w1.heap.size → some i ≠ u.ownBlock → i ≠ p.block → (w2.setCell p z).heap[i]? = w1.heap[i]? := fun i h1 h2 h3 =>
    ((Below.heap_setCell w2 p z i h3).trans (hgrow.block i (by simp; omega) h2)).trans (Below.heap_alloc w1 o i h1)
  apply Reads.to_only
  intro a v hc
  obtain ⟨hq, hc⟩ := only_cell hc
  have hlt := World.block_lt_of_cell? W a hc
  rcases hW with ⟨rfl, hW⟩ | ⟨rfl, hW⟩
  · obtain ⟨h1, h2⟩ := hW _ hq
    have h3 : some a.block ≠ some gg := by
      rcases hat with h | h
      · rw [← h]; exact h2
      · intro e1; injection e1; omega
    refine ⟨by simp [h1]; intro e1; exact h3 (by rw [e1]), ?_⟩
    rw [World.cell?_of_block (w := W) ((key a.block (by omega) h2 (by omega)).trans (bel1.block a.block hlt))]
    exact hc
  · have h1 := hW _ hq
    have h2 := own_ne' hown h1
    have h3 : some a.block ≠ some gg := by
      rcases hat with h | h
      · rw [← h]; exact h2
      · intro e1; injection e1; omega
    refine ⟨by simp; exact ⟨by omega, fun e1 => h3 (by rw [e1])⟩, ?_⟩
    rw [World.cell?_of_block (w := W) (key a.block hlt h2 (by omega))]
    exact hc
theorem rowsT_next {l : List PT} {k : Nat} {t : PT} {u x z : Value} {vs : List Value} {base gg cap1 : Nat} {w wr w1 w2 : World} {o : Obj} {p : Addr} {e : TypeId}
    (ht : l[k]? = some t) (hvs : vs.length = k)
    (hall : ∀ (j : Nat) t x, j < k → l[j]? = some t → vs[j]? = some x → t.In wr.heap.size (only (fun i => decide (base ≤ i) && decide (some i ≠ u.ownBlock)) wr) x)
    (hown : wr.ownsRow base e 3 u k (cellsTs (l.take k) vs)) (bel : Below w.heap.size w wr) (hbw : base ≤ wr.heap.size)
    (bel1 : Below wr.heap.size wr w1) (hf : t.In w1.heap.size (only (fun i => decide (wr.heap.size ≤ i)) w1) x)
    (hgrow : (w1.alloc o).grownBy w2 u.ownBlock) (hat : u.ownBlock = some gg ∨ gg = w1.heap.size + 1)
    (hown1 : w2.ownsRow base e 3 (.slice (some ⟨gg, 0, none⟩) (k + 1) cap1) (k + 1) (cellsTs (l.take k) vs ++ t.cells x))
    (hp : w.heap.size ≤ p.block ∧ p.block < base) :
    ∃ vs' : List Value, vs'.length = k + 1 ∧ (w2.setCell p z).ownsRow base e 3 (.slice (some ⟨gg, 0, none⟩) (k + 1) cap1) (k + 1) (cellsTs (l.take (k + 1)) vs') ∧
      (∀ (j : Nat) t x, j < k + 1 → l[j]? = some t → vs'[j]? = some x → t.In (w2.setCell p z).heap.size (only (fun i => decide (base ≤ i) && decide (some i ≠ (Value.slice (some ⟨gg, 0, none⟩) (k + 1) cap1).ownBlock)) (w2.setCell p z)) x) ∧ Below w.heap.size w (w2.setCell p z) ∧
      ∀ i, i < base → i ≠ p.block → (w2.setCell p z).heap[i]? = wr.heap[i]? := by
  have hsz := bel1.size
  have hsz2 : w1.heap.size + 1 ≤ w2.heap.size := by have := hgrow.size; simpa using this
  have hsz3 : (w2.setCell p z).heap.size = w2.heap.size := by simp
  have htake : l.take (k + 1) = l.take k ++ [t] := by rw [List.take_add_one, ht]; rfl
  have hlk : (l.take k).length = k := by
    have := (List.getElem?_eq_some_iff.1 ht).1
    rw [List.length_take]; omega
  refine ⟨vs ++ [x], by simp [hvs], ?_, ?_, ?_, fun i h1 h2 => ?_⟩
  · rw [htake, cellsTs_snoc _ _ (by rw [hvs, hlk])]
    exact own_set hown1 hp.2 z
  · intro j t' x' hj h1 h2
    rcases Nat.lt_or_ge j k with h | h
    · rw [List.getElem?_append_left (by omega)] at h2
      exact PT.In.reads (by omega) (reads_next bel1 hown hgrow hat hp.2 hbw (.inl ⟨rfl, fun i hi => by simpa using hi⟩)) (hall j t' x' h h1 h2)
    · obtain rfl : j = k := by omega
      rw [ht] at h1
      obtain rfl := Option.some.inj h1
      rw [List.getElem?_append_right (by omega), hvs, Nat.sub_self] at h2
      obtain rfl : x = x' := by simpa using h2
      exact PT.In.reads (by omega) (reads_next bel1 hown hgrow hat hp.2 hbw (.inr ⟨rfl, fun i hi => by simpa using hi⟩)) hf
  · have b1 : Below w.heap.size w w1 := bel.trans (bel1.mono bel.size)
    exact ((b1.alloc (by have := bel.size; omega) o).grown hgrow (by have := bel.size; simp; omega) (fun i hi => by have := (hown.lt i hi).1; omega)).setCell hp.1 z
  · exact (((Below.heap_setCell w2 p z i h2).trans (hgrow.block i (by simp; omega) (own_ne hown h1))).trans (Below.heap_alloc w1 o i (by omega))).trans (bel1.block i (by omega))
/-- the whole row, when all are there -/
theorem rowsT_end {l : List PT} {n : Nat} {kd : Int} {nm : ByteArray} {u : Value} {vs : List Value} {base m : Nat} {wr W : World} {e : TypeId} (hn : n = l.length) (hvs : vs.length = n) (hmax : n ≤ maxLen) (hu : U8 kd) (hs : nm.size ≤ maxLen)
    (hall : ∀ (j : Nat) t x, j < n → l[j]? = some t → vs[j]? = some x → t.In wr.heap.size (only (fun i => decide (base ≤ i) && decide (some i ≠ u.ownBlock)) wr) x)
    (hown : wr.ownsRow base e 3 u n (cellsTs (l.take n) vs)) (hm : m ≤ base) (hW : ∀ i, base ≤ i → i < wr.heap.size → W.heap[i]? = wr.heap[i]?) (hsz : wr.heap.size ≤ W.heap.size) :
    (PT.mk kd nm l).In W.heap.size (only (fun i => decide (m ≤ i)) W) u := by
  subst hn
  rw [List.take_length] at hown
  have hr : ∀ q : Nat → Bool, (∀ i, q i = true → base ≤ i) → Reads (only q wr) (only (fun i => decide (m ≤ i)) W) := fun q hq => by
    apply Reads.to_only
    intro a v hc
    obtain ⟨h1, h2⟩ := only_cell hc
    have h3 := hq _ h1
    have h4 := World.block_lt_of_cell? wr a h2
    exact ⟨by simp; omega, by rw [World.cell?_of_block (w := wr) (hW a.block h3 h4)]; exact h2⟩
  refine ⟨⟨hu, hs⟩, ?_⟩
  cases l with
  | nil =>
    rcases hown.2 with ⟨rfl, _⟩ | ⟨g, cap, cur, rfl, _⟩
    · exact ⟨0, 0, ⟨hmax, none, 0, rfl, .inl rfl⟩, trivial⟩
    · exact ⟨g, 0, ⟨hmax, _, cap, rfl, .inl rfl⟩, trivial⟩
  | cons t l =>
    rcases hown.2 with ⟨_, h0⟩ | ⟨g, cap, cur, rfl, hb, hg, _⟩
    · simp at h0
    · have hglt : g < wr.heap.size := by
        rcases Nat.lt_or_ge g wr.heap.size with h | h
        · exact h
        · rw [Array.getElem?_eq_none h] at hg; cases hg
      refine ⟨g, 0, ⟨hmax, _, cap, rfl, .inr ⟨rfl, by omega⟩⟩, rowT_of hvs (fun i v hi => ?_) (fun j t' x h1 h2 => PT.In.reads hsz (hr _ fun i hi => by simp at hi; exact hi.1) (hall j t' x (List.getElem?_eq_some_iff.1 h1).1 h1 h2))⟩
      have h1 := cells_own hown i v hi
      rw [only_in (by simp; omega), World.cell?_of_block (w := wr) (hW g hb hglt)]
      exact h1
theorem own_shape {w : World} {base : Nat} {e : TypeId} {size : Nat} {v : Value} {n : Nat} {xs : List Value} (h : w.ownsRow base e size v n xs) : ∃ a n c, v = .slice a n c := by
  rcases h.2 with ⟨rfl, _⟩ | ⟨g, cap, cur, rfl, _⟩
  · exact ⟨_, _, _, rfl⟩
  · exact ⟨_, _, _, rfl⟩
/-! ### lists of names -/
theorem nRow_of {W : World} {b : Nat} : ∀ {l : List ByteArray} {o : Nat}, (∀ s ∈ l, s.size ≤ maxLen) → CellsAt W b o (l.map .string) → NRow W b o l
  | [], _, _, _ => trivial
  | s :: l, o, h, hc => ⟨⟨h s (by simp), fun i u hu => by
      have hi : i = 0 := by have := (List.getElem?_eq_some_iff.1 hu).1; simp at this; omega
      subst hi
      exact hc 0 u (by simpa using hu)⟩, nRow_of (fun x hx => h x (by simp [hx])) (fun i u hu => by
      have := hc (1 + i) u (by rw [List.map_cons, Nat.add_comm, List.getElem?_cons_succ]; exact hu)
      rwa [show o + (1 + i) = o + 1 + i from by omega] at this)⟩
theorem NRow.small {W : World} {b : Nat} : ∀ {l : List ByteArray} {o : Nat}, NRow W b o l → ∀ s ∈ l, s.size ≤ maxLen
  | [], _, _ => by simp
  | x :: l, o, h => fun s hs => by
    rcases List.mem_cons.1 hs with rfl | h1
    · exact h.1.1
    · exact NRow.small h.2 s h1
theorem NRow.cellsAt {W : World} {b : Nat} : ∀ {l : List ByteArray} {o : Nat}, NRow W b o l → CellsAt W b o (l.map .string)
  | [], _, _ => fun i u hu => by simp at hu
  | x :: l, o, h => fun i u hu => by
    cases i with
    | zero => exact h.1.2 0 u (by simpa using hu)
    | succ i =>
      have := NRow.cellsAt h.2 i u (by simpa using hu)
      rwa [show o + (i + 1) = o + 1 + i from by omega]
theorem nIn_own {l : List ByteArray} {n : Nat} {u : Value} {base m : Nat} {wr W : World} {e : TypeId} (hn : n = l.length) (hmax : n ≤ maxLen) (hs : ∀ s ∈ l, s.size ≤ maxLen)
    (hown : wr.ownsRow base e 1 u n (l.map .string)) (hm : m ≤ base) (hW : ∀ i, base ≤ i → i < wr.heap.size → W.heap[i]? = wr.heap[i]?) (hsz : wr.heap.size ≤ W.heap.size) :
    NIn W.heap.size (only (fun i => decide (m ≤ i)) W) l u := by
  subst hn
  cases l with
  | nil =>
    rcases hown.2 with ⟨rfl, _⟩ | ⟨g, cap, cur, rfl, _⟩
    · exact ⟨0, 0, ⟨hmax, none, 0, rfl, .inl rfl⟩, trivial⟩
    · exact ⟨g, 0, ⟨hmax, _, cap, rfl, .inl rfl⟩, trivial⟩
  | cons t l =>
    rcases hown.2 with ⟨_, h0⟩ | ⟨g, cap, cur, rfl, hb, hg, _⟩
    · simp at h0
    · have hglt : g < wr.heap.size := by
        rcases Nat.lt_or_ge g wr.heap.size with h | h
        · exact h
        · rw [Array.getElem?_eq_none h] at hg; cases hg
      refine ⟨g, 0, ⟨hmax, _, cap, rfl, .inr ⟨rfl, by omega⟩⟩, nRow_of hs (fun i v hi => ?_)⟩
      have h1 := cells_own hown i v hi
      rw [only_in (by simp; omega), World.cell?_of_block (w := wr) (hW g hb hglt)]
      exact h1
end Go.Proofs.YtojeijeimpffgaaGreat
/- Copies: rows of expressions. -/
namespace Go.Proofs.YtojeijeimpffgaaGreat
open Go.RowKit
set_option linter.unusedVariables false
/-! ### rows of expressions -/
/-- the cells of a row of expressions -/
def cellsEs : List PE → List VE → List Value
  | t :: l, v :: vs => t.cells v ++ cellsEs l vs
  | _, _ => []
theorem cellsEs_snoc : ∀ {l : List PE} {vs : List VE} (t : PE) (v : VE), vs.length = l.length → cellsEs (l ++ [t]) (vs ++ [v]) = cellsEs l vs ++ t.cells v
  | [], [], t, v, _ => by simp [cellsEs]
  | s :: l, x :: vs, t, v, h => by simp [cellsEs, cellsEs_snoc (l := l) (vs := vs) t v (by simpa using h)]
theorem rowE_of {B : Nat} {W : World} {b : Nat} : ∀ {l : List PE} {vs : List VE} {o : Nat}, vs.length = l.length → CellsAt W b o (cellsEs l vs) → (∀ (j : Nat) t x, l[j]? = some t → vs[j]? = some x → t.In B W x) → PE.Row B W b o l
  | [], _, _, _, _, _ => trivial
  | t :: l, v :: vs, o, h, hc, hi => by
    refine ⟨⟨v, fun i u hu => hc i u ?_, hi 0 t v rfl rfl⟩, rowE_of (vs := vs) (by simpa using h) (fun i u hu => ?_) (fun j t x h1 h2 => hi (j + 1) t x (by simpa using h1) (by simpa using h2))⟩
    · have hl : i < (t.cells v).length := (List.getElem?_eq_some_iff.1 hu).1
      simp only [cellsEs]
      rw [List.getElem?_append_left hl]
      exact hu
    · have h3 := hc (8 + i) u (by
        simp only [cellsEs]
        rw [List.getElem?_append_right (by simp [PE.cells])]
        simpa [PE.cells] using hu)
      rw [show o + 8 + i = o + (8 + i) from by omega]
      exact h3
theorem rowsE_next {l : List PE} {k : Nat} {t : PE} {u z : Value} {x : VE} {vs : List VE} {base gg cap1 : Nat} {w wr w1 w2 : World} {o : Obj} {p : Addr} {e : TypeId}
    (ht : l[k]? = some t) (hvs : vs.length = k)
    (hall : ∀ (j : Nat) t x, j < k → l[j]? = some t → vs[j]? = some x → t.In wr.heap.size (only (fun i => decide (base ≤ i) && decide (some i ≠ u.ownBlock)) wr) x)
    (hown : wr.ownsRow base e 8 u k (cellsEs (l.take k) vs)) (bel : Below w.heap.size w wr) (hbw : base ≤ wr.heap.size)
    (bel1 : Below wr.heap.size wr w1) (hf : t.In w1.heap.size (only (fun i => decide (wr.heap.size ≤ i)) w1) x)
    (hgrow : (w1.alloc o).grownBy w2 u.ownBlock) (hat : u.ownBlock = some gg ∨ gg = w1.heap.size + 1)
    (hown1 : w2.ownsRow base e 8 (.slice (some ⟨gg, 0, none⟩) (k + 1) cap1) (k + 1) (cellsEs (l.take k) vs ++ t.cells x))
    (hp : w.heap.size ≤ p.block ∧ p.block < base) :
    ∃ vs' : List VE, vs'.length = k + 1 ∧ (w2.setCell p z).ownsRow base e 8 (.slice (some ⟨gg, 0, none⟩) (k + 1) cap1) (k + 1) (cellsEs (l.take (k + 1)) vs') ∧
      (∀ (j : Nat) t x, j < k + 1 → l[j]? = some t → vs'[j]? = some x → t.In (w2.setCell p z).heap.size (only (fun i => decide (base ≤ i) && decide (some i ≠ (Value.slice (some ⟨gg, 0, none⟩) (k + 1) cap1).ownBlock)) (w2.setCell p z)) x) ∧ Below w.heap.size w (w2.setCell p z) ∧
      ∀ i, i < base → i ≠ p.block → (w2.setCell p z).heap[i]? = wr.heap[i]? := by
  have hsz := bel1.size
  have hsz2 : w1.heap.size + 1 ≤ w2.heap.size := by have := hgrow.size; simpa using this
  have hsz3 : (w2.setCell p z).heap.size = w2.heap.size := by simp
  have htake : l.take (k + 1) = l.take k ++ [t] := by rw [List.take_add_one, ht]; rfl
  have hlk : (l.take k).length = k := by
    have := (List.getElem?_eq_some_iff.1 ht).1
    rw [List.length_take]; omega
  refine ⟨vs ++ [x], by simp [hvs], ?_, ?_, ?_, fun i h1 h2 => ?_⟩
  · rw [htake, cellsEs_snoc _ _ (by rw [hvs, hlk])]
    exact own_set hown1 hp.2 z
  · intro j t' x' hj h1 h2
    rcases Nat.lt_or_ge j k with h | h
    · rw [List.getElem?_append_left (by omega)] at h2
      exact PE.In.reads (by omega) (reads_next bel1 hown hgrow hat hp.2 hbw (.inl ⟨rfl, fun i hi => by simpa using hi⟩)) (hall j t' x' h h1 h2)
    · obtain rfl : j = k := by omega
      rw [ht] at h1
      obtain rfl := Option.some.inj h1
      rw [List.getElem?_append_right (by omega), hvs, Nat.sub_self] at h2
      obtain rfl : x = x' := by simpa using h2
      exact PE.In.reads (by omega) (reads_next bel1 hown hgrow hat hp.2 hbw (.inr ⟨rfl, fun i hi => by simpa using hi⟩)) hf
  · have b1 : Below w.heap.size w w1 := bel.trans (bel1.mono bel.size)
    exact ((b1.alloc (by have := bel.size; omega) o).grown hgrow (by have := bel.size; simp; omega) (fun i hi => by have := (hown.lt i hi).1; omega)).setCell hp.1 z
  · exact (((Below.heap_setCell w2 p z i h2).trans (hgrow.block i (by simp; omega) (own_ne hown h1))).trans (Below.heap_alloc w1 o i (by omega))).trans (bel1.block i (by omega))
/-- the whole row, when all are there -/
theorem rowsE_end {l : List PE} {n : Nat} {u : Value} {vs : List VE} {base m : Nat} {wr W : World} {e : TypeId} (hn : n = l.length) (hvs : vs.length = n) (hmax : n ≤ maxLen)
    (hall : ∀ (j : Nat) t x, j < n → l[j]? = some t → vs[j]? = some x → t.In wr.heap.size (only (fun i => decide (base ≤ i) && decide (some i ≠ u.ownBlock)) wr) x)
    (hown : wr.ownsRow base e 8 u n (cellsEs (l.take n) vs)) (hm : m ≤ base) (hW : ∀ i, base ≤ i → i < wr.heap.size → W.heap[i]? = wr.heap[i]?) (hsz : wr.heap.size ≤ W.heap.size) :
    ∃ b o, SlV W.heap.size u l.length b o ∧ PE.Row W.heap.size (only (fun i => decide (m ≤ i)) W) b o l := by
  subst hn
  rw [List.take_length] at hown
  have hr : ∀ q : Nat → Bool, (∀ i, q i = true → base ≤ i) → Reads (only q wr) (only (fun i => decide (m ≤ i)) W) := fun q hq => by
    apply Reads.to_only
    intro a v hc
    obtain ⟨h1, h2⟩ := only_cell hc
    have h3 := hq _ h1
    have h4 := World.block_lt_of_cell? wr a h2
    exact ⟨by simp; omega, by rw [World.cell?_of_block (w := wr) (hW a.block h3 h4)]; exact h2⟩
  cases l with
  | nil =>
    rcases hown.2 with ⟨rfl, _⟩ | ⟨g, cap, cur, rfl, _⟩
    · exact ⟨0, 0, ⟨hmax, none, 0, rfl, .inl rfl⟩, trivial⟩
    · exact ⟨g, 0, ⟨hmax, _, cap, rfl, .inl rfl⟩, trivial⟩
  | cons t l =>
    rcases hown.2 with ⟨_, h0⟩ | ⟨g, cap, cur, rfl, hb, hg, _⟩
    · simp at h0
    · have hglt : g < wr.heap.size := by
        rcases Nat.lt_or_ge g wr.heap.size with h | h
        · exact h
        · rw [Array.getElem?_eq_none h] at hg; cases hg
      refine ⟨g, 0, ⟨hmax, _, cap, rfl, .inr ⟨rfl, by omega⟩⟩, rowE_of hvs (fun i v hi => ?_) (fun j t' x h1 h2 => PE.In.reads hsz (hr _ fun i hi => by simp at hi; exact hi.1) (hall j t' x (List.getElem?_eq_some_iff.1 h1).1 h1 h2))⟩
      have h1 := cells_own hown i v hi
      rw [only_in (by simp; omega), World.cell?_of_block (w := wr) (hW g hb hglt)]
      exact h1
theorem reads_of {p : Nat → Bool} {m : Nat} {W1 W : World} (h : ∀ i, p i = true → m ≤ i) (hW : ∀ i, p i = true → i < W1.heap.size → W.heap[i]? = W1.heap[i]?) : Reads (only p W1) (only (fun i => decide (m ≤ i)) W) := by
  apply Reads.to_only
  intro a v hc
  obtain ⟨h1, h2⟩ := only_cell hc
  exact ⟨by simp; exact h _ h1, by rw [World.cell?_of_block (w := W1) (hW a.block h1 (World.block_lt_of_cell? W1 a h2))]; exact h2⟩
end Go.Proofs.YtojeijeimpffgaaGreat
/- Copies: rows that stand in a register: fields. -/
namespace Go.Proofs.YtojeijeimpffgaaGreat
open Go.RowKit
set_option linter.unusedVariables false
theorem reads_grow {base gg size : Nat} {u : Value} {wr w1 w2 : World} {o : Obj} {e : TypeId} {k : Nat} {xs : List Value}
    (bel1 : Below wr.heap.size wr w1) (hown : wr.ownsRow base e size u k xs)
    (hgrow : (w1.alloc o).grownBy w2 u.ownBlock) (hat : u.ownBlock = some gg ∨ gg = w1.heap.size + 1) (hbw : base ≤ wr.heap.size) {q : Nat → Bool} {W : World}
    (hW : W = wr ∧ (∀ i, q i = true → base ≤ i ∧ some i ≠ u.ownBlock) ∨ W = w1 ∧ (∀ i, q i = true → wr.heap.size ≤ i)) :
    Reads (only q W) (only (fun i => decide (base ≤ i) && decide (some i ≠ some gg)) w2) := by
  have hsz := bel1.size
  have key : ∀ i, i < w1.heap.size → some i ≠ u.ownBlock → w2.heap[i]? = w1.heap[i]? := fun i h1 h2 =>
    (hgrow.block i (by simp; omega) h2).trans (Below.heap_alloc w1 o i h1)
  apply Reads.to_only
  intro a v hc
  obtain ⟨hq, hc⟩ := only_cell hc
  have hlt := World.block_lt_of_cell? W a hc
  rcases hW with ⟨rfl, hW⟩ | ⟨rfl, hW⟩
  · obtain ⟨h1, h2⟩ := hW _ hq
    have h3 : some a.block ≠ some gg := by
      rcases hat with h | h
      · rw [← h]; exact h2
      · intro e1; injection e1; omega
    refine ⟨by simp [h1]; intro e1; exact h3 (by rw [e1]), ?_⟩
    rw [World.cell?_of_block (w := W) ((key a.block (by omega) h2).trans (bel1.block a.block hlt))]
    exact hc
  · have h1 := hW _ hq
    have h2 := own_ne' hown h1
    have h3 : some a.block ≠ some gg := by
      rcases hat with h | h
      · rw [← h]; exact h2
      · intro e1; injection e1; omega
    refine ⟨by simp; exact ⟨by omega, fun e1 => h3 (by rw [e1])⟩, ?_⟩
    rw [World.cell?_of_block (w := W) (key a.block hlt h2)]
    exact hc
theorem PF.In.reads {B B' : Nat} {W W' : World} {t : PF} {v : Value} (hb : B ≤ B') (k : Reads W W') (h : t.In B W v) : t.In B' W' v := ⟨h.1, PT.In.reads hb k h.2⟩
def cellsFs : List PF → List Value → List Value
  | t :: l, v :: vs => t.cells v ++ cellsFs l vs
  | _, _ => []
theorem cellsFs_snoc : ∀ {l : List PF} {vs : List Value} (t : PF) (v : Value), vs.length = l.length → cellsFs (l ++ [t]) (vs ++ [v]) = cellsFs l vs ++ t.cells v
  | [], [], t, v, _ => by simp [cellsFs]
  | s :: l, x :: vs, t, v, h => by simp [cellsFs, cellsFs_snoc (l := l) (vs := vs) t v (by simpa using h)]
theorem rowF_of {B : Nat} {W : World} {b : Nat} : ∀ {l : List PF} {vs : List Value} {o : Nat}, vs.length = l.length → CellsAt W b o (cellsFs l vs) → (∀ (j : Nat) t x, l[j]? = some t → vs[j]? = some x → t.In B W x) → PF.Row B W b o l
  | [], _, _, _, _, _ => trivial
  | t :: l, v :: vs, o, h, hc, hi => by
    refine ⟨⟨v, fun i u hu => hc i u ?_, hi 0 t v rfl rfl⟩, rowF_of (vs := vs) (by simpa using h) (fun i u hu => ?_) (fun j t x h1 h2 => hi (j + 1) t x (by simpa using h1) (by simpa using h2))⟩
    · have hl : i < (t.cells v).length := (List.getElem?_eq_some_iff.1 hu).1
      simp only [cellsFs]
      rw [List.getElem?_append_left hl]
      exact hu
    · have h3 := hc (4 + i) u (by
        simp only [cellsFs]
        rw [List.getElem?_append_right (by simp [PF.cells])]
        simpa [PF.cells] using hu)
      rw [show o + 4 + i = o + (4 + i) from by omega]
      exact h3
theorem rowsF_next {l : List PF} {k : Nat} {t : PF} {u x : Value} {vs : List Value} {base gg cap1 : Nat} {wr w1 w2 : World} {o : Obj} {e : TypeId}
    (ht : l[k]? = some t) (hvs : vs.length = k)
    (hall : ∀ (j : Nat) t x, j < k → l[j]? = some t → vs[j]? = some x → t.In wr.heap.size (only (fun i => decide (base ≤ i) && decide (some i ≠ u.ownBlock)) wr) x)
    (hown : wr.ownsRow base e 4 u k (cellsFs (l.take k) vs)) (hbw : base ≤ wr.heap.size)
    (bel1 : Below wr.heap.size wr w1) (hf : t.In w1.heap.size (only (fun i => decide (wr.heap.size ≤ i)) w1) x)
    (hgrow : (w1.alloc o).grownBy w2 u.ownBlock) (hat : u.ownBlock = some gg ∨ gg = w1.heap.size + 1)
    (hown1 : w2.ownsRow base e 4 (.slice (some ⟨gg, 0, none⟩) (k + 1) cap1) (k + 1) (cellsFs (l.take k) vs ++ t.cells x)) :
    ∃ vs' : List Value, vs'.length = k + 1 ∧ w2.ownsRow base e 4 (.slice (some ⟨gg, 0, none⟩) (k + 1) cap1) (k + 1) (cellsFs (l.take (k + 1)) vs') ∧
      (∀ (j : Nat) t x, j < k + 1 → l[j]? = some t → vs'[j]? = some x → t.In w2.heap.size (only (fun i => decide (base ≤ i) && decide (some i ≠ (Value.slice (some ⟨gg, 0, none⟩) (k + 1) cap1).ownBlock)) w2) x) ∧ Below base wr w2 := by
  have hsz := bel1.size
  have hsz2 : w1.heap.size + 1 ≤ w2.heap.size := by have := hgrow.size; simpa using this
  have htake : l.take (k + 1) = l.take k ++ [t] := by rw [List.take_add_one, ht]; rfl
  have hlk : (l.take k).length = k := by
    have := (List.getElem?_eq_some_iff.1 ht).1
    rw [List.length_take]; omega
  refine ⟨vs ++ [x], by simp [hvs], ?_, ?_, ?_⟩
  · rw [htake, cellsFs_snoc _ _ (by rw [hvs, hlk])]
    exact hown1
  · intro j t' x' hj h1 h2
    rcases Nat.lt_or_ge j k with h | h
    · rw [List.getElem?_append_left (by omega)] at h2
      exact PF.In.reads (by omega) (reads_grow bel1 hown hgrow hat hbw (.inl ⟨rfl, fun i hi => by simpa using hi⟩)) (hall j t' x' h h1 h2)
    · obtain rfl : j = k := by omega
      rw [ht] at h1
      obtain rfl := Option.some.inj h1
      rw [List.getElem?_append_right (by omega), hvs, Nat.sub_self] at h2
      obtain rfl : x = x' := by simpa using h2
      exact PF.In.reads (by omega) (reads_grow bel1 hown hgrow hat hbw (.inr ⟨rfl, fun i hi => by simpa using hi⟩)) hf
  · exact ((bel1.mono hbw).alloc (by omega) o).grown hgrow (by simp; omega) (fun i hi => (hown.lt i hi).1)
theorem rowsF_end {l : List PF} {n : Nat} {u : Value} {vs : List Value} {base m : Nat} {wr W : World} {e : TypeId} (hn : n = l.length) (hvs : vs.length = n) (hmax : n ≤ maxLen)
    (hall : ∀ (j : Nat) t x, j < n → l[j]? = some t → vs[j]? = some x → t.In wr.heap.size (only (fun i => decide (base ≤ i) && decide (some i ≠ u.ownBlock)) wr) x)
    (hown : wr.ownsRow base e 4 u n (cellsFs (l.take n) vs)) (hm : m ≤ base) (hW : ∀ i, base ≤ i → i < wr.heap.size → W.heap[i]? = wr.heap[i]?) (hsz : wr.heap.size ≤ W.heap.size) :
    ∃ b o, SlV W.heap.size u l.length b o ∧ PF.Row W.heap.size (only (fun i => decide (m ≤ i)) W) b o l := by
  subst hn
  rw [List.take_length] at hown
  have hr : ∀ q : Nat → Bool, (∀ i, q i = true → base ≤ i) → Reads (only q wr) (only (fun i => decide (m ≤ i)) W) := fun q hq => by
    apply Reads.to_only
    intro a v hc
    obtain ⟨h1, h2⟩ := only_cell hc
    have h3 := hq _ h1
    have h4 := World.block_lt_of_cell? wr a h2
    exact ⟨by simp; omega, by rw [World.cell?_of_block (w := wr) (hW a.block h3 h4)]; exact h2⟩
  cases l with
  | nil =>
    rcases hown.2 with ⟨rfl, _⟩ | ⟨g, cap, cur, rfl, _⟩
    · exact ⟨0, 0, ⟨hmax, none, 0, rfl, .inl rfl⟩, trivial⟩
    · exact ⟨g, 0, ⟨hmax, _, cap, rfl, .inl rfl⟩, trivial⟩
  | cons t l =>
    rcases hown.2 with ⟨_, h0⟩ | ⟨g, cap, cur, rfl, hb, hg, _⟩
    · simp at h0
    · have hglt : g < wr.heap.size := by
        rcases Nat.lt_or_ge g wr.heap.size with h | h
        · exact h
        · rw [Array.getElem?_eq_none h] at hg; cases hg
      refine ⟨g, 0, ⟨hmax, _, cap, rfl, .inr ⟨rfl, by omega⟩⟩, rowF_of hvs (fun i v hi => ?_) (fun j t' x h1 h2 => PF.In.reads hsz (hr _ fun i hi => by simp at hi; exact hi.1) (hall j t' x (List.getElem?_eq_some_iff.1 h1).1 h1 h2))⟩
      have h1 := cells_own hown i v hi
      rw [only_in (by simp; omega), World.cell?_of_block (w := wr) (hW g hb hglt)]
      exact h1
end Go.Proofs.YtojeijeimpffgaaGreat
/- Copies: rows of whatever sort, said once; statements, arms, items. -/
namespace Go.Proofs.YtojeijeimpffgaaGreat
open Go.RowKit
set_option linter.unusedVariables false

/-! ### rows of whatever sort -/
/-- a sort of what trees are made of: its cells, what it is that memory holds one -/
structure Srt (τ ν : Type) where
  sz : Nat
  cells : τ → ν → List Value
  len : ∀ t v, (cells t v).length = sz
  In : Nat → World → τ → ν → Prop
  reads : ∀ {B B' : Nat} {W W' : World} {t : τ} {v : ν}, B ≤ B' → Reads W W' → In B W t v → In B' W' t v
variable {τ ν : Type}
def Srt.row (S : Srt τ ν) : List τ → List ν → List Value
  | t :: l, v :: vs => S.cells t v ++ S.row l vs
  | _, _ => []
theorem Srt.row_snoc (S : Srt τ ν) : ∀ {l : List τ} {vs : List ν} (t : τ) (v : ν), vs.length = l.length → S.row (l ++ [t]) (vs ++ [v]) = S.row l vs ++ S.cells t v
  | [], [], t, v, _ => by simp [Srt.row]
  | s :: l, x :: vs, t, v, h => by simp [Srt.row, Srt.row_snoc S (l := l) (vs := vs) t v (by simpa using h)]
/-- the j-th element's cells -/
theorem Srt.row_at (S : Srt τ ν) : ∀ {l : List τ} {vs : List ν} {j : Nat} {t : τ} {x : ν}, vs.length = l.length → l[j]? = some t → vs[j]? = some x → ∀ i u, (S.cells t x)[i]? = some u → (S.row l vs)[j * S.sz + i]? = some u
  | t :: l, v :: vs, 0, t', x', h, h1, h2, i, u, hu => by
    obtain rfl : t = t' := by simpa using h1
    obtain rfl : v = x' := by simpa using h2
    have hl : i < (S.cells t v).length := (List.getElem?_eq_some_iff.1 hu).1
    rw [Srt.row, Nat.zero_mul, Nat.zero_add, List.getElem?_append_left hl]
    exact hu
  | t :: l, v :: vs, j + 1, t', x', h, h1, h2, i, u, hu => by
    have := Srt.row_at S (l := l) (vs := vs) (j := j) (by simpa using h) (by simpa using h1) (by simpa using h2) i u hu
    rw [Srt.row, List.getElem?_append_right (by rw [S.len, Nat.add_mul, Nat.one_mul]; omega), S.len]
    rw [show (j + 1) * S.sz + i - S.sz = j * S.sz + i from by rw [Nat.add_mul, Nat.one_mul]; omega]
    exact this
  | [], _, _, _, _, _, h1, _, _, _, _ => by simp at h1
  | _ :: _, [], _, _, _, _, _, h2, _, _, _ => by simp at h2
/-- a row in memory -/
def Srt.Row (S : Srt τ ν) (B : Nat) (w : World) (b : Nat) (o : Nat) (l : List τ) : Prop := ∀ j t, l[j]? = some t → ∃ v, CellsAt w b (o + j * S.sz) (S.cells t v) ∧ S.In B w t v
/-- the first k of l are copied: u is the row, all that they have lies from base on, beside the row itself -/
def Srt.Held (S : Srt τ ν) (base : Nat) (e : TypeId) (l : List τ) (k : Nat) (u : Value) (W : World) : Prop :=
  ∃ vs : List ν, vs.length = k ∧ W.ownsRow base e S.sz u k (S.row (l.take k) vs) ∧ ∀ (j : Nat) t x, j < k → l[j]? = some t → vs[j]? = some x → S.In W.heap.size (only (fun i => decide (base ≤ i) && decide (some i ≠ u.ownBlock)) W) t x
theorem Srt.Held.nil (S : Srt τ ν) (base : Nat) (e : TypeId) (l : List τ) (W : World) : S.Held base e l 0 (.slice none 0 0) W :=
  ⟨[], rfl, by simpa [Srt.row] using World.ownsRow_nil W base e S.sz, fun j t x h => by omega⟩
theorem Srt.held_next {S : Srt τ ν} {l : List τ} {k : Nat} {t : τ} {u : Value} {x : ν} {vs : List ν} {base gg cap1 : Nat} {wr w1 w2 : World} {o : Obj} {e : TypeId}
    (ht : l[k]? = some t) (hvs : vs.length = k)
    (hall : ∀ (j : Nat) t x, j < k → l[j]? = some t → vs[j]? = some x → S.In wr.heap.size (only (fun i => decide (base ≤ i) && decide (some i ≠ u.ownBlock)) wr) t x)
    (hown : wr.ownsRow base e S.sz u k (S.row (l.take k) vs)) (hbw : base ≤ wr.heap.size)
    (bel1 : Below wr.heap.size wr w1) (hf : S.In w1.heap.size (only (fun i => decide (wr.heap.size ≤ i)) w1) t x)
    (hgrow : (w1.alloc o).grownBy w2 u.ownBlock) (hat : u.ownBlock = some gg ∨ gg = w1.heap.size + 1)
    (hown1 : w2.ownsRow base e S.sz (.slice (some ⟨gg, 0, none⟩) (k + 1) cap1) (k + 1) (S.row (l.take k) vs ++ S.cells t x)) :
    S.Held base e l (k + 1) (.slice (some ⟨gg, 0, none⟩) (k + 1) cap1) w2 ∧ Below base wr w2 := by
  have hsz := bel1.size
  have hsz2 : w1.heap.size + 1 ≤ w2.heap.size := by have := hgrow.size; simpa using this
  have htake : l.take (k + 1) = l.take k ++ [t] := by rw [List.take_add_one, ht]; rfl
  have hlk : (l.take k).length = k := by
    have := (List.getElem?_eq_some_iff.1 ht).1
    rw [List.length_take]; omega
  refine ⟨⟨vs ++ [x], by simp [hvs], ?_, ?_⟩, ?_⟩
  · rw [htake, S.row_snoc _ _ (by rw [hvs, hlk])]
    exact hown1
  · intro j t' x' hj h1 h2
    rcases Nat.lt_or_ge j k with h | h
    · rw [List.getElem?_append_left (by omega)] at h2
      exact S.reads (by omega) (reads_grow bel1 hown hgrow hat hbw (.inl ⟨rfl, fun i hi => by simpa using hi⟩)) (hall j t' x' h h1 h2)
    · obtain rfl : j = k := by omega
      rw [ht] at h1
      obtain rfl := Option.some.inj h1
      rw [List.getElem?_append_right (by omega), hvs, Nat.sub_self] at h2
      obtain rfl : x = x' := by simpa using h2
      exact S.reads (by omega) (reads_grow bel1 hown hgrow hat hbw (.inr ⟨rfl, fun i hi => by simpa using hi⟩)) hf
  · exact ((bel1.mono hbw).alloc (by omega) o).grown hgrow (by simp; omega) (fun i hi => (hown.lt i hi).1)
/-- what is copied stays where nothing is written to blocks from base on -/
theorem Srt.Held.keep {S : Srt τ ν} {base : Nat} {e : TypeId} {l : List τ} {k : Nat} {u : Value} {W W' : World} (h : S.Held base e l k u W) (hsz : W.heap.size ≤ W'.heap.size) (hW : ∀ i, base ≤ i → i < W.heap.size → W'.heap[i]? = W.heap[i]?) : S.Held base e l k u W' := by
  obtain ⟨vs, h1, ⟨hl, h2⟩, h3⟩ := h
  refine ⟨vs, h1, ⟨hl, h2.imp id ?_⟩, fun j t x a b c => S.reads hsz ?_ (h3 j t x a b c)⟩
  · rintro ⟨g, cap, cur, hv, hb, hg, h5⟩
    refine ⟨g, cap, cur, hv, hb, (hW g hb ?_).trans hg, h5⟩
    rcases Nat.lt_or_ge g W.heap.size with h | h
    · exact h
    · rw [Array.getElem?_eq_none h] at hg; cases hg
  · apply Reads.to_only
    intro a v hc
    obtain ⟨q1, q2⟩ := only_cell hc
    have q3 : base ≤ a.block ∧ some a.block ≠ u.ownBlock := by simpa using q1
    exact ⟨q1, by rw [World.cell?_of_block (w := W) (hW a.block q3.1 (World.block_lt_of_cell? W a q2))]; exact q2⟩
theorem Srt.Held.shape {S : Srt τ ν} {base : Nat} {e : TypeId} {l : List τ} {k : Nat} {u : Value} {W : World} (h : S.Held base e l k u W) : ∃ ao cap, u = .slice ao k cap := by
  obtain ⟨vs, h1, ⟨hl, h2⟩, h3⟩ := h
  rcases h2 with ⟨rfl, h0⟩ | ⟨g, cap, cur, rfl, _⟩
  · exact ⟨none, 0, by rw [← h0]⟩
  · exact ⟨_, cap, rfl⟩
/-- all are there -/
theorem Srt.Held.all {S : Srt τ ν} {base m : Nat} {e : TypeId} {l : List τ} {n : Nat} {u : Value} {W : World} (h : S.Held base e l n u W) (hn : n = l.length) (hmax : n ≤ maxLen) (hm : m ≤ base) :
    ∃ b o, SlV W.heap.size u l.length b o ∧ S.Row W.heap.size (only (fun i => decide (m ≤ i)) W) b o l := by
  subst hn
  obtain ⟨vs, hvs, hown, hall⟩ := h
  rw [List.take_length] at hown
  cases l with
  | nil =>
    rcases hown.2 with ⟨rfl, _⟩ | ⟨g, cap, cur, rfl, _⟩
    · exact ⟨0, 0, ⟨hmax, none, 0, rfl, .inl rfl⟩, fun j t h => by simp at h⟩
    · exact ⟨g, 0, ⟨hmax, _, cap, rfl, .inl rfl⟩, fun j t h => by simp at h⟩
  | cons t l =>
    rcases hown.2 with ⟨_, h0⟩ | ⟨g, cap, cur, rfl, hb, hg, _⟩
    · simp at h0
    · have hglt : g < W.heap.size := by
        rcases Nat.lt_or_ge g W.heap.size with h | h
        · exact h
        · rw [Array.getElem?_eq_none h] at hg; cases hg
      refine ⟨g, 0, ⟨hmax, _, cap, rfl, .inr ⟨rfl, by omega⟩⟩, fun j t' hj => ?_⟩
      have hjl := (List.getElem?_eq_some_iff.1 hj).1
      obtain ⟨x, hx⟩ : ∃ x, vs[j]? = some x := ⟨_, List.getElem?_eq_getElem (by omega)⟩
      refine ⟨x, fun i v hi => ?_, S.reads (Nat.le_refl _) ?_ (hall j t' x hjl hj hx)⟩
      · have h1 := cells_own hown _ v (S.row_at hvs hj hx i v hi)
        rw [only_in (by simp; omega)]
        rw [show 0 + j * S.sz + i = 0 + (j * S.sz + i) from by omega]
        exact h1
      · apply Reads.to_only
        intro a v hc
        obtain ⟨q1, q2⟩ := only_cell hc
        have q3 : base ≤ a.block ∧ some a.block ≠ (Value.slice (some ⟨g, 0, none⟩) (t :: l).length cap).ownBlock := by simpa using q1
        exact ⟨by simp; omega, q2⟩

/-! ### statements, arms, items -/
theorem PF.Row.reads {B B' : Nat} {W W' : World} (hb : B ≤ B') (k : Reads W W') {b : Nat} : ∀ {l : List PF} {o : Nat}, PF.Row B W b o l → PF.Row B' W' b o l
  | [], _, _ => trivial
  | t :: l, o, ⟨⟨v, h1, h2⟩, hr⟩ => ⟨⟨v, h1.reads k, PF.In.reads hb k h2⟩, PF.Row.reads hb k hr⟩
mutual
theorem PS.In.reads {B B' : Nat} {W W' : World} (hb : B ≤ B') (k : Reads W W') : ∀ {t : PS} {v : VS}, t.In B W v → t.In B' W' v
  | .mk _ _ _ ns ty _ p es bo el ar _, v, ⟨h1, h2, h3, h4, ⟨b1, o1, s1, r1⟩, ⟨b2, o2, s2, r2⟩, ⟨b3, o3, s3, r3⟩, b4, o4, s4, r4⟩ =>
    ⟨h1, h2.reads hb k, PT.In.reads hb k h3, h4.reads hb k, ⟨b1, o1, s1.up hb, PE.Row.reads hb k r1⟩, ⟨b2, o2, s2.up hb, PS.Row.reads hb k r2⟩, ⟨b3, o3, s3.up hb, PS.Row.reads hb k r3⟩, b4, o4, s4.up hb, PA.Row.reads hb k r4⟩
theorem PA.In.reads {B B' : Nat} {W W' : World} (hb : B ≤ B') (k : Reads W W') : ∀ {t : PA} {v : Value}, t.In B W v → t.In B' W' v
  | .mk _ _ bo, v, ⟨h1, b2, o2, s2, r2⟩ => ⟨h1, b2, o2, s2.up hb, PS.Row.reads hb k r2⟩
theorem PS.Row.reads {B B' : Nat} {W W' : World} (hb : B ≤ B') (k : Reads W W') {b : Nat} : ∀ {l : List PS} {o : Nat}, PS.Row B W b o l → PS.Row B' W' b o l
  | [], _, _ => trivial
  | t :: l, o, ⟨⟨v, h1, h2⟩, hr⟩ => ⟨⟨v, h1.reads k, PS.In.reads hb k h2⟩, PS.Row.reads hb k hr⟩
theorem PA.Row.reads {B B' : Nat} {W W' : World} (hb : B ≤ B') (k : Reads W W') {b : Nat} : ∀ {l : List PA} {o : Nat}, PA.Row B W b o l → PA.Row B' W' b o l
  | [], _, _ => trivial
  | t :: l, o, ⟨⟨v, h1, h2⟩, hr⟩ => ⟨⟨v, h1.reads k, PA.In.reads hb k h2⟩, PA.Row.reads hb k hr⟩
end
theorem PI.In.reads {B B' : Nat} {W W' : World} (hb : B ≤ B') (k : Reads W W') {t : PI} {v : VI} : t.In B W v → t.In B' W' v
  | ⟨h1, ⟨b1, o1, s1, r1⟩, h3, ⟨b2, o2, s2, r2⟩, h5⟩ => ⟨h1, ⟨b1, o1, s1.up hb, PF.Row.reads hb k r1⟩, PT.In.reads hb k h3, ⟨b2, o2, s2.up hb, PS.Row.reads hb k r2⟩, PE.In.reads hb k h5⟩
theorem PI.Row.reads {B B' : Nat} {W W' : World} (hb : B ≤ B') (k : Reads W W') {b : Nat} : ∀ {l : List PI} {o : Nat}, PI.Row B W b o l → PI.Row B' W' b o l
  | [], _, _ => trivial
  | t :: l, o, ⟨⟨v, h1, h2⟩, hr⟩ => ⟨⟨v, h1.reads k, PI.In.reads hb k h2⟩, PI.Row.reads hb k hr⟩
def srtN : Srt ByteArray Unit := ⟨1, fun s _ => [.string s], fun _ _ => rfl, fun _ _ s _ => s.size ≤ maxLen, fun _ _ h => h⟩
def srtT : Srt PT Value := ⟨3, PT.cells, fun _ _ => rfl, fun B W t v => t.In B W v, fun hb k h => PT.In.reads hb k h⟩
def srtE : Srt PE VE := ⟨8, PE.cells, fun _ _ => rfl, fun B W t v => t.In B W v, fun hb k h => PE.In.reads hb k h⟩
def srtS : Srt PS VS := ⟨15, PS.cells, fun t v => by cases t; rfl, fun B W t v => t.In B W v, fun hb k h => PS.In.reads hb k h⟩
def srtA : Srt PA Value := ⟨3, PA.cells, fun t v => by cases t; rfl, fun B W t v => t.In B W v, fun hb k h => PA.In.reads hb k h⟩
def srtF : Srt PF Value := ⟨4, PF.cells, fun t v => rfl, fun B W t v => t.In B W v, fun hb k h => PF.In.reads hb k h⟩
def srtI : Srt PI VI := ⟨16, PI.cells, fun t v => rfl, fun B W t v => t.In B W v, fun hb k h => PI.In.reads hb k h⟩
theorem Srt.Row.tail {S : Srt τ ν} {B : Nat} {W : World} {b o : Nat} {t : τ} {l : List τ} (h : S.Row B W b o (t :: l)) : S.Row B W b (o + S.sz) l := fun j t' hj => by
  obtain ⟨v, h1, h2⟩ := h (j + 1) t' (by simpa using hj)
  refine ⟨v, ?_, h2⟩
  rwa [show o + S.sz + j * S.sz = o + (j + 1) * S.sz from by rw [Nat.add_mul, Nat.one_mul]; omega]
theorem Srt.Row.head {S : Srt τ ν} {B : Nat} {W : World} {b o : Nat} {t : τ} {l : List τ} (h : S.Row B W b o (t :: l)) : ∃ v, CellsAt W b o (S.cells t v) ∧ S.In B W t v := by
  obtain ⟨v, h1, h2⟩ := h 0 t rfl
  exact ⟨v, by simpa using h1, h2⟩
theorem rowE_all {B : Nat} {W : World} {b : Nat} : ∀ {l : List PE} {o : Nat}, srtE.Row B W b o l → PE.Row B W b o l
  | [], _, _ => trivial
  | t :: l, o, h => ⟨h.head, rowE_all h.tail⟩
theorem rowS_all {B : Nat} {W : World} {b : Nat} : ∀ {l : List PS} {o : Nat}, srtS.Row B W b o l → PS.Row B W b o l
  | [], _, _ => trivial
  | t :: l, o, h => ⟨h.head, rowS_all h.tail⟩
theorem rowA_all {B : Nat} {W : World} {b : Nat} : ∀ {l : List PA} {o : Nat}, srtA.Row B W b o l → PA.Row B W b o l
  | [], _, _ => trivial
  | t :: l, o, h => ⟨h.head, rowA_all h.tail⟩
theorem rowI_all {B : Nat} {W : World} {b : Nat} : ∀ {l : List PI} {o : Nat}, srtI.Row B W b o l → PI.Row B W b o l
  | [], _, _ => trivial
  | t :: l, o, h => ⟨h.head, rowI_all h.tail⟩
end Go.Proofs.YtojeijeimpffgaaGreat
/- Copies: 'append([]string(nil), names...)', whatever the names are, as a law at a step of a region that draws, and at a plain one. -/
namespace Go.Proofs.YtojeijeimpffgaaGreat
open Go.RowKit
set_option linter.unusedVariables false

theorem run_append_names {P : Program} {w : World} (t ty e : TypeId) (i : TypeInfo) (z : Value) (ht : P.underlying t = some (.slice e)) (hi : P.info? e = some i) (hz : i.zero = some z) (hsize : i.size = 1) (hby : i.bytes = 16) (hzs : z.cells.size = 1)
    {B : Nat} {l : List ByteArray} {v : Value} (hB : B ≤ w.heap.size) (h : NIn B w l v) (hl : l.length ≤ 1000000) :
    ∃ ua uc w', (Builtin.append_ #[t, t] ty #[.slice none 0 0, v]).run P w = .ok (.slice ua l.length uc) w' ∧ NIn w'.heap.size (only (fun i => decide (w.heap.size ≤ i)) w') l (.slice ua l.length uc) ∧ Below w.heap.size w w' := by
  obtain ⟨b1, o1, ⟨m1, ao, cap, rfl, h1⟩, r1⟩ := h
  cases ao with
  | none =>
    have h0 : l.length = 0 := h1.resolve_right (by simp)
    rw [h0]
    refine ⟨none, 0, w, ?_, ⟨0, 0, ⟨m1, none, 0, by rw [h0], .inl h0⟩, ?_⟩, Below.refl _ _⟩
    · simp [Builtin.append_, run_underlying ht, sizeOf, typeInfo, hi, Builtin.lenOf, Builtin.firstCells]
    · cases l with
      | nil => trivial
      | cons a b => simp at h0
  | some ad =>
    have hcells : ∀ (j : Nat) u, (l.map Value.string)[j]? = some u → w.cell? (ad.add j) = some u := fun j u hu => by
      have hj : l.length ≠ 0 := by
        have := (List.getElem?_eq_some_iff.1 hu).1
        rw [List.length_map] at this; omega
      obtain ⟨e1, e2⟩ := h1.resolve_left hj
      injection e1 with e1
      subst e1
      have h3 := NRow.cellsAt r1 j u hu
      have hadd : (⟨b1, o1, none⟩ : Addr).add j = ⟨b1, o1 + j, none⟩ := by unfold Addr.add; split <;> simp_all
      rw [hadd]
      exact h3
    have hone : ∀ u ∈ l.map Value.string, u.oneCell' = true := fun u hu => by
      obtain ⟨s, _, rfl⟩ := List.mem_map.1 hu; rfl
    obtain ⟨v', w', hr, h2, h3, h4, h5⟩ := run_append_own_at (P := P) w w.heap.size t ty e i z 1 16 ht hi hz hsize hby hzs (by omega) (.slice none 0 0) 0 [] (World.ownsRow_nil _ _ _ _) ad l.length cap (l.map .string) (by simp) hcells hone (by omega) (by omega) (Nat.le_refl _)
    obtain ⟨ua, un, uc, rfl⟩ := own_shape h2
    obtain rfl : un = l.length := by
      rcases h2.2 with ⟨h, h0⟩ | ⟨g, cap, cur, hv, _⟩
      · injection h; omega
      · injection hv; omega
    have hb : Below w.heap.size w w' := (Below.refl _ w).grown h3 (Nat.le_refl _) (fun k hk => by simp [Value.ownBlock] at hk)
    refine ⟨ua, uc, w', hr, ?_, hb⟩
    exact nIn_own rfl m1 r1.small (by simpa using h2) (Nat.le_refl _) (fun i h1 h2 => rfl) (Nat.le_refl _)

/-- at a step of a region that draws -/
theorem step_append_names {P : Program} {w : World} {ops : Array Oper} {o : Oper} {a : Act} {K : Act → World → Prop} {Q : Exit → Act → World → Prop} {E : Prop} (hgd : o.guard = none) (s x : Operand) (t : TypeId)
    (ho : o.op = .call { callee := .builtin .append, args := #[s, x], argTypes := #[t, t] }) (hs : a.eval s = .slice none 0 0)
    (e : TypeId) (i : TypeInfo) (z : Value) (ht : P.underlying t = some (.slice e)) (hi : P.info? e = some i) (hz : i.zero = some z) (hsize : i.size = 1) (hby : i.bytes = 16) (hzs : z.cells.size = 1)
    {B : Nat} {l : List ByteArray} {v : Value} (hx : a.eval x = v) (hB : B ≤ w.heap.size) (hN : NIn B w l v) (hl : l.length ≤ 1000000)
    (h : ∀ ua uc w', NIn w'.heap.size (only (fun i => decide (w.heap.size ≤ i)) w') l (.slice ua l.length uc) → Below w.heap.size w w' → K (a.put o.dst (.slice ua l.length uc)) w') :
    if Region.wanted o (yielded ops a.tmps) = true then Oper.wp P o a w K Q else E := by
  have hw : Region.wanted o (yielded ops a.tmps) = true := by simp [Region.wanted, hgd]
  rw [if_pos hw]
  obtain ⟨ua, uc, w', hr, h2, h3⟩ := run_append_names (P := P) t o.type e i z ht hi hz hsize hby hzs hB hN hl
  unfold Oper.wp execOp
  simp only [ho, resolve, invoke, builtin, Sem.run_bind, Sem.run_pure, Result.andThen_ok, List.map_toArray, List.map_cons, List.map_nil, hs, hx, hr]
  exact h ua uc w' h2 h3

/-! ### what lies above a box stays -/
/-- all that lies above block S stays -/
def Kp (S : Nat) (W W' : World) : Prop := W.heap.size ≤ W'.heap.size ∧ ∀ i, S < i → i < W.heap.size → W'.heap[i]? = W.heap[i]?
theorem Kp.refl (S : Nat) (W : World) : Kp S W W := ⟨Nat.le_refl _, fun _ _ _ => rfl⟩
theorem Kp.trans {S : Nat} {a b c : World} (h : Kp S a b) (k : Kp S b c) : Kp S a c := ⟨Nat.le_trans h.1 k.1, fun i h1 h2 => (k.2 i h1 (Nat.lt_of_lt_of_le h2 h.1)).trans (h.2 i h1 h2)⟩
theorem Kp.of {S : Nat} {W W' : World} (h : Below W.heap.size W W') : Kp S W W' := ⟨h.size, fun i _ h2 => h.block i h2⟩
theorem Kp.set {S o : Nat} {W W' : World} (h : Kp S W W') (z : Value) : Kp S W (W'.setCell ⟨S, o, none⟩ z) := ⟨by simpa using h.1, fun i h1 h2 => (Below.heap_setCell _ _ _ i (by simp; omega)).trans (h.2 i h1 h2)⟩
theorem Kp.reads {S m m' : Nat} {W W' : World} (h : Kp S W W') (hm : S < m) (hm' : m' ≤ m) : Reads (only (fun i => decide (m ≤ i)) W) (only (fun i => decide (m' ≤ i)) W') := by
  apply Reads.to_only
  intro a v hc
  obtain ⟨h1, h2⟩ := only_cell hc
  have h1 : m ≤ a.block := by simpa using h1
  exact ⟨by simp; omega, by rw [World.cell?_of_block (w := W) (h.2 a.block (by omega) (World.block_lt_of_cell? W a h2))]; exact h2⟩
theorem box_set {w : World} {S i : Nat} {cs : Array Value} {t : TypeId} (h : w.heap[S]? = some (.cells cs t (0, 0))) (v : Value) : (w.setCell ⟨S, i, none⟩ v).heap[S]? = some (.cells (cs.setIfInBounds i v) t (0, 0)) := heap_setCell_same w S i cs t v h
theorem box_frozen {w : World} {S i : Nat} {cs : Array Value} {t : TypeId} (h : w.heap[S]? = some (.cells cs t (0, 0))) : w.frozen? ⟨S, i, none⟩ = false := by simp [World.frozen?, h]
end Go.Proofs.YtojeijeimpffgaaGreat
/- The plain part beneath the laws of layer 3: how much room a tree takes; and worlds in which one block alone was written. -/
namespace Go.Proofs.YtojeijeimpffgaaGreat
open Go.RowKit
set_option linter.unusedVariables false

def nameR (m : Int) (n : Nat) : Int := if m < 5 ∨ m - 5 < (n : Int) then -1 else m - 5 - n
def listR {α : Type} (f : α → Int → Int) : List α → Int → Int
  | [], m => m
  | x :: l, m => if m < 0 then m else listR f l (f x m)
def namesR (l : List ByteArray) (m : Int) : Int := listR (fun s m => nameR m s.size) l (m - 5)
mutual
def typeR : PT → Int → Int
  | .mk _ n ts, m => typesR ts (nameR m n.size)
def typesR : List PT → Int → Int
  | [], m => m
  | t :: l, m => if m < 0 then m else typesR l (typeR t m)
end
def placeR (x : PP) (m : Int) : Int := namesR x.path (nameR m x.name.size)
mutual
def exprR : PE → Int → Int
  | .mk _ _ n s p ts _, m => exprsR ts (placeR p (nameR (nameR m n.size) s.size))
def exprsR : List PE → Int → Int
  | [], m => m
  | t :: l, m => if m < 0 then m else exprsR l (exprR t m)
end
mutual
def stmtR : PS → Int → Int
  | .mk _ n s ns t _ p es bo el ar _, m => armsR ar (stmtsR el (stmtsR bo (exprsR es (placeR p (typeR t (namesR ns (nameR (nameR m n.size) s.size)))))))
def armR : PA → Int → Int
  | .mk v n bo, m => stmtsR bo (nameR (nameR m v.size) n.size)
def stmtsR : List PS → Int → Int
  | [], m => m
  | t :: l, m => if m < 0 then m else stmtsR l (stmtR t m)
def armsR : List PA → Int → Int
  | [], m => m
  | t :: l, m => if m < 0 then m else armsR l (armR t m)
end
def fieldR (f : PF) (m : Int) : Int := typeR f.type (nameR m f.name.size)
def fieldsR (l : List PF) (m : Int) : Int := listR fieldR l m
def itemR (x : PI) (m : Int) : Int := exprR x.ret (stmtsR x.body (typeR x.result (fieldsR x.fields (nameR m x.name.size))))
def progR (p : List PI) (m : Int) : Int := listR itemR p m
theorem typesR_list : ∀ l m, typesR l m = listR typeR l m
  | [], _ => by rw [typesR, listR]
  | t :: l, m => by rw [typesR, listR, typesR_list]
theorem exprsR_list : ∀ l m, exprsR l m = listR exprR l m
  | [], _ => by rw [exprsR, listR]
  | t :: l, m => by rw [exprsR, listR, exprsR_list]
theorem stmtsR_list : ∀ l m, stmtsR l m = listR stmtR l m
  | [], _ => by rw [stmtsR, listR]
  | t :: l, m => by rw [stmtsR, listR, stmtsR_list]
theorem armsR_list : ∀ l m, armsR l m = listR armR l m
  | [], _ => by rw [armsR, listR]
  | t :: l, m => by rw [armsR, listR, armsR_list]
theorem listR_neg {α : Type} {f : α → Int → Int} : ∀ {l : List α} {m : Int}, m < 0 → listR f l m = m
  | [], _, _ => rfl
  | _ :: _, _, h => by rw [listR, if_pos h]
theorem listR_cons {α : Type} {f : α → Int → Int} {x : α} {l : List α} {m : Int} (h : 0 ≤ m) : listR f (x :: l) m = listR f l (f x m) := by
  rw [listR, if_neg (by omega)]

/-! ### what is left stays within bounds -/
/-- what a number may be that says how much room is left -/
def RB (m : Int) : Prop := -6 ≤ m ∧ m ≤ 20000
theorem nameR_b {m : Int} (h : RB m) (n : Nat) : -1 ≤ nameR m n ∧ nameR m n ≤ 20000 := by
  obtain ⟨h1, h2⟩ := h
  unfold nameR
  split <;> constructor <;> omega
theorem nameR_rb {m : Int} (h : RB m) (n : Nat) : RB (nameR m n) := ⟨by have := nameR_b h n; omega, (nameR_b h n).2⟩
theorem listR_rb {α : Type} {f : α → Int → Int} : ∀ {l : List α} {m : Int}, (∀ x ∈ l, ∀ m, RB m → RB (f x m)) → RB m → RB (listR f l m)
  | [], _, _, h => h
  | x :: l, m, H, h => by
    rw [listR]
    split
    · exact h
    · exact listR_rb (fun y hy => H y (List.mem_cons_of_mem _ hy)) (H x (List.mem_cons_self ..) m h)
theorem namesR_rb {l : List ByteArray} {m : Int} (h1 : -1 ≤ m) (h2 : m ≤ 20000) : RB (namesR l m) := listR_rb (fun x _ m h => nameR_rb h _) ⟨by omega, by omega⟩
theorem placeR_rb (x : PP) {m : Int} (h : RB m) : RB (placeR x m) := namesR_rb (nameR_b h _).1 (nameR_b h _).2
mutual
theorem typeR_rb : ∀ (t : PT) (m : Int), RB m → RB (typeR t m)
  | .mk _ n ts, m, h => by rw [typeR]; exact typesR_rb ts _ (nameR_rb h _)
theorem typesR_rb : ∀ (l : List PT) (m : Int), RB m → RB (typesR l m)
  | [], m, h => by rw [typesR]; exact h
  | t :: l, m, h => by
    rw [typesR]
    split
    · exact h
    · exact typesR_rb l _ (typeR_rb t m h)
end
mutual
theorem exprR_rb : ∀ (t : PE) (m : Int), RB m → RB (exprR t m)
  | .mk _ _ n s p ts _, m, h => by rw [exprR]; exact exprsR_rb ts _ (placeR_rb p (nameR_rb (nameR_rb h _) _))
theorem exprsR_rb : ∀ (l : List PE) (m : Int), RB m → RB (exprsR l m)
  | [], m, h => by rw [exprsR]; exact h
  | t :: l, m, h => by
    rw [exprsR]
    split
    · exact h
    · exact exprsR_rb l _ (exprR_rb t m h)
end
mutual
theorem stmtR_rb : ∀ (t : PS) (m : Int), RB m → RB (stmtR t m)
  | .mk _ n s ns t _ p es bo el ar _, m, h => by
    rw [stmtR]
    have h1 := nameR_b (nameR_rb h n.size) s.size
    exact armsR_rb ar _ (stmtsR_rb el _ (stmtsR_rb bo _ (exprsR_rb es _ (placeR_rb p (typeR_rb t _ (namesR_rb h1.1 h1.2))))))
theorem armR_rb : ∀ (t : PA) (m : Int), RB m → RB (armR t m)
  | .mk v n bo, m, h => by rw [armR]; exact stmtsR_rb bo _ (nameR_rb (nameR_rb h _) _)
theorem stmtsR_rb : ∀ (l : List PS) (m : Int), RB m → RB (stmtsR l m)
  | [], m, h => by rw [stmtsR]; exact h
  | t :: l, m, h => by
    rw [stmtsR]
    split
    · exact h
    · exact stmtsR_rb l _ (stmtR_rb t m h)
theorem armsR_rb : ∀ (l : List PA) (m : Int), RB m → RB (armsR l m)
  | [], m, h => by rw [armsR]; exact h
  | t :: l, m, h => by
    rw [armsR]
    split
    · exact h
    · exact armsR_rb l _ (armR_rb t m h)
end
theorem fieldR_rb (f : PF) (m : Int) (h : RB m) : RB (fieldR f m) := typeR_rb _ _ (nameR_rb h _)
theorem fieldsR_rb (l : List PF) (m : Int) (h : RB m) : RB (fieldsR l m) := listR_rb (fun x _ => fieldR_rb x) h
/-! ### one block alone was written -/
structure But (R : Nat) (w w' : World) : Prop where
  os : w'.os = w.os
  tape : w'.tape = w.tape
  output : w'.output = w.output
  size : w.heap.size ≤ w'.heap.size
  block : ∀ k, k < w.heap.size → k ≠ R → w'.heap[k]? = w.heap[k]?
theorem But.refl (R : Nat) (w : World) : But R w w := ⟨rfl, rfl, rfl, Nat.le_refl _, fun _ _ _ => rfl⟩
theorem But.trans {R : Nat} {a b c : World} (h : But R a b) (k : But R b c) : But R a c :=
  ⟨k.os.trans h.os, k.tape.trans h.tape, k.output.trans h.output, Nat.le_trans h.size k.size, fun j hj hn => (k.block j (Nat.lt_of_lt_of_le hj h.size) hn).trans (h.block j hj hn)⟩
theorem But.of {R : Nat} {w w' : World} (h : Below w.heap.size w w') : But R w w' := ⟨h.os, h.tape, h.output, h.size, fun k hk _ => h.block k hk⟩
theorem But.alloc {R : Nat} (w : World) (o : Obj) : But R w (w.alloc o) := .of ((Below.refl _ w).alloc (Nat.le_refl _) o)
theorem But.set {R : Nat} (w : World) (v : Value) : But R w (w.setCell ⟨R, 0, none⟩ v) :=
  have h := (Below.refl 0 w).setCell (p := ⟨R, 0, none⟩) (Nat.zero_le _) v
  ⟨h.os, h.tape, h.output, h.size, fun k hk hn => Below.heap_setCell w ⟨R, 0, none⟩ v k hn⟩
theorem But.below {R B : Nat} {w w' : World} (h : But R w w') (hR : B ≤ R) (hB : B ≤ w.heap.size) : Below B w w' :=
  ⟨h.os, h.tape, h.output, h.size, fun k hk => h.block k (Nat.lt_of_lt_of_le hk hB) (by omega)⟩
theorem But.cell {R : Nat} {w w' : World} (h : But R w w') : ∀ b o, b < w.heap.size → b ≠ R → w'.cell? ⟨b, o, none⟩ = w.cell? ⟨b, o, none⟩ :=
  fun b o hb hn => World.cell?_of_block (w := w) (a := ⟨b, o, none⟩) (h.block b hb hn)
/-- block R has the number of how much room is left -/
def RoomAt (B R : Nat) (w : World) (m : Int) : Prop := B ≤ R ∧ R < w.heap.size ∧ w.cell? ⟨R, 0, none⟩ = some (.int .i64 m) ∧ w.frozen? ⟨R, 0, none⟩ = false
theorem RoomAt.below {B R : Nat} {w w' : World} {m : Int} (h : RoomAt B R w m) (k : Below w.heap.size w w') : RoomAt B R w' m :=
  ⟨h.1, Nat.lt_of_lt_of_le h.2.1 k.size, (k.cell (p := ⟨R, 0, none⟩) h.2.1).trans h.2.2.1, (k.frozen (p := ⟨R, 0, none⟩) h.2.1).trans h.2.2.2⟩
theorem RoomAt.set {B R : Nat} {w : World} {m : Int} (h : RoomAt B R w m) (m' : Int) : RoomAt B R (w.setCell ⟨R, 0, none⟩ (.int .i64 m')) m' := by
  obtain ⟨h1, h2, h3, h4⟩ := h
  exact ⟨h1, Nat.lt_of_lt_of_le h2 (But.set (R := R) w _).size, World.cell?_setCell_same _ _ _ h3, by rw [World.frozen?_setCell]; exact h4⟩
theorem nameR_no {m : Int} {n : Nat} (h : m < 5 ∨ m - 5 < (n : Int)) : nameR m n = -1 := by unfold nameR; rw [if_pos h]
theorem nameR_yes {m : Int} {n : Nat} (h1 : 5 ≤ m) (h2 : (n : Int) ≤ m - 5) : nameR m n = m - 5 - n := by unfold nameR; rw [if_neg (by omega)]
theorem drop_at {α : Type} {l : List α} {k : Nat} {a : α} (h : l[k]? = some a) : l.drop k = a :: l.drop (k + 1) := by
  obtain ⟨hk, rfl⟩ := List.getElem?_eq_some_iff.1 h
  exact List.drop_eq_getElem_cons hk
theorem stmtsR_neg {l : List PS} {m : Int} (h : m < 0) : stmtsR l m = m := by rw [stmtsR_list, listR_neg h]
theorem armsR_neg {l : List PA} {m : Int} (h : m < 0) : armsR l m = m := by rw [armsR_list, listR_neg h]
end Go.Proofs.YtojeijeimpffgaaGreat
