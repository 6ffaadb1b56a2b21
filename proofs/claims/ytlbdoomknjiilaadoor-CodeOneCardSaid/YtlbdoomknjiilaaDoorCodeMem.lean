/- Instructions, functions, structs and enums, units in memory. -/
import Derived.Test.YtlbdoomknjiilaaDoorCodeMath
import Derived.Test.YtlbdoomknjiilaaDoorPathsOwnRow
import Derived.Deep.MidRow
namespace Go.Proofs.YtlbdoomknjiilaaDoor
open Go.RowKit
set_option linter.unusedVariables false

/-- cells that lie from a place on -/
def At (w : World) (b o : Nat) (cs : List Value) : Prop := ∀ (i : Nat) v, cs[i]? = some v → w.cell? ⟨b, o + i, none⟩ = some v
theorem At.below {B b o : Nat} {w w' : World} {cs : List Value} (h : At w b o cs) (hb : b < B) (k : Below B w w') : At w' b o cs :=
  fun i v hi => (k.cell (p := ⟨b, o + i, none⟩) hb).trans (h i v hi)
/-- a row of n-cell elements -/
def RowG {α : Type} (n : Nat) (P : World → Nat → Nat → α → Prop) (w : World) (b o : Nat) (l : List α) : Prop := ∀ (j : Nat) x, l[j]? = some x → P w b (o + j * n) x
def GIn {α : Type} (n : Nat) (P : World → Nat → Nat → α → Prop) (B : Nat) (w : World) (l : List α) (v : Value) : Prop := ∃ b o, SlP B v l.length b o ∧ RowG n P w b o l
theorem GIn.below {α : Type} {n B : Nat} {P : World → Nat → Nat → α → Prop} {w w' : World} {l : List α} {v : Value} (h : GIn n P B w l v) (hP : ∀ b o x, b < B → P w b o x → P w' b o x) : GIn n P B w' l v := by
  obtain ⟨b, o, hs, hr⟩ := h
  exact ⟨b, o, hs, fun j x hj => hP _ _ _ (hs.lt (some_pos hj)) (hr j x hj)⟩
theorem GIn.imp {α : Type} {n B B' : Nat} {P Q : World → Nat → Nat → α → Prop} {w : World} {l : List α} {v : Value} (h : GIn n P B w l v) (hB : B ≤ B') (hP : ∀ b o x, P w b o x → Q w b o x) : GIn n Q B' w l v := by
  obtain ⟨b, o, hs, hr⟩ := h
  exact ⟨b, o, hs.mono hB, fun j x hj => hP _ _ _ (hr j x hj)⟩
theorem GIn.shape {α : Type} {n B : Nat} {P : World → Nat → Nat → α → Prop} {w : World} {l : List α} {v : Value} (h : GIn n P B w l v) : ∃ ao cap, v = .slice ao l.length cap := by
  obtain ⟨b, o, hs, _⟩ := h
  exact hs.shape
theorem GIn.len {α : Type} {n B : Nat} {P : World → Nat → Nat → α → Prop} {w : World} {l : List α} {v : Value} (h : GIn n P B w l v) : l.length ≤ maxLen := by
  obtain ⟨b, o, hs, _⟩ := h
  exact hs.1
theorem GIn.at {α : Type} {n B : Nat} {P : World → Nat → Nat → α → Prop} {w : World} {l : List α} {ao : Option Addr} {m cap : Nat} (h : GIn n P B w l (.slice ao m cap)) :
    m = l.length ∧ m ≤ maxLen ∧ m ≤ cap ∧ ∃ b o, (m ≠ 0 → ao = some ⟨b, o, none⟩ ∧ b < B) ∧ RowG n P w b o l := by
  obtain ⟨b, o, ⟨hm, ao', cap', he, hc, h4⟩, hr⟩ := h
  obtain ⟨rfl, rfl, rfl⟩ := Value.slice.inj he
  exact ⟨rfl, hm, hc, b, o, fun h => h4.resolve_left h, hr⟩
theorem GIn.nil {α : Type} (n B : Nat) (P : World → Nat → Nat → α → Prop) (w : World) : GIn n P B w [] (.slice none 0 0) := ⟨0, 0, ⟨Nat.zero_le _, none, 0, rfl, Nat.le_refl _, .inl rfl⟩, fun j s h => by cases h⟩

/-- rows of ints -/
def ZAt (w : World) (b o : Nat) (i : Int) : Prop := w.cell? ⟨b, o, none⟩ = some (.int .i64 i)
def ZIn := GIn 1 ZAt
theorem ZIn.below {B : Nat} {w w' : World} {l : List Int} {v : Value} (h : ZIn B w l v) (k : Below B w w') : ZIn B w' l v := GIn.below h fun b o x hb hx => (k.cell (p := ⟨b, o, none⟩) hb).trans hx
theorem ZIn.mono {B B' : Nat} {w : World} {l : List Int} {v : Value} (h : ZIn B w l v) (hB : B ≤ B') : ZIn B' w l v := GIn.imp h hB fun _ _ _ h => h

/-! ### instructions -/
/-- where its Slots, Path, Names lie -/
structure VJ where
  s : Value
  p : Value
  n : Value
def JJ.cells (x : JJ) (v : VJ) : List Value := [.int .u8 x.op, .int .i64 x.a, .int .i64 x.b, .int .i64 x.c, v.s, v.p, .int .i64 x.int, .string x.name, v.n]
def JJ.In (B : Nat) (w : World) (x : JJ) (v : VJ) : Prop := (0 ≤ x.op ∧ x.op ≤ 255) ∧ x.name.size ≤ strMax ∧ ZIn B w x.slots v.s ∧ SIn B w x.path v.p ∧ ∃ b o, SlP B v.n x.names b o
theorem JJ.In.below {B : Nat} {w w' : World} {x : JJ} {v : VJ} (h : x.In B w v) (k : Below B w w') : x.In B w' v := ⟨h.1, h.2.1, h.2.2.1.below k, h.2.2.2.1.below k, h.2.2.2.2⟩
theorem JJ.In.mono {B B' : Nat} {w : World} {x : JJ} {v : VJ} (h : x.In B w v) (hB : B ≤ B') : x.In B' w v := by
  obtain ⟨h1, h2, h3, h4, b, o, h5⟩ := h
  exact ⟨h1, h2, h3.mono hB, h4.mono hB, b, o, h5.mono hB⟩
theorem SIn.shape' {B : Nat} {w : World} {l : List ByteArray} {v : Value} (h : SIn B w l v) : ∃ ao cap, v = .slice ao l.length cap := by
  obtain ⟨b, o, hs, _⟩ := h
  exact hs.shape
theorem JJ.In.shape {B : Nat} {w : World} {x : JJ} {v : VJ} (h : x.In B w v) : ∃ a1 c1 a2 c2 a3 c3, v = ⟨.slice a1 x.slots.length c1, .slice a2 x.path.length c2, .slice a3 x.names c3⟩ := by
  obtain ⟨s, p, n⟩ := v
  obtain ⟨_, _, h3, h4, b, o, h5⟩ := h
  obtain ⟨a1, c1, rfl⟩ := GIn.shape h3
  obtain ⟨a2, c2, rfl⟩ := h4.shape'
  obtain ⟨a3, c3, rfl⟩ := h5.shape
  exact ⟨a1, c1, a2, c2, a3, c3, rfl⟩
def JAt (B : Nat) (w : World) (b o : Nat) (x : JJ) : Prop := ∃ v, At w b o (x.cells v) ∧ x.In B w v
def JsIn (B : Nat) := GIn 9 (JAt B) B
theorem JsIn.below {B : Nat} {w w' : World} {l : List JJ} {v : Value} (h : JsIn B w l v) (k : Below B w w') : JsIn B w' l v := GIn.below h fun b o x hb ⟨v, h1, h2⟩ => ⟨v, h1.below hb k, h2.below k⟩
theorem JsIn.mono {B B' : Nat} {w : World} {l : List JJ} {v : Value} (h : JsIn B w l v) (hB : B ≤ B') : JsIn B' w l v := GIn.imp h hB fun b o x ⟨v, h1, h2⟩ => ⟨v, h1, h2.mono hB⟩

/-! ### functions -/
def FF.cells (f : FF) (v : Value) : List Value := [.string f.name, .int .i64 f.params, .int .i64 f.slots, v]
def FF.In (B : Nat) (w : World) (f : FF) (v : Value) : Prop := f.name.size ≤ strMax ∧ JsIn B w f.code v
theorem FF.In.below {B : Nat} {w w' : World} {x : FF} {v : Value} (h : x.In B w v) (k : Below B w w') : x.In B w' v := ⟨h.1, h.2.below k⟩
theorem FF.In.mono {B B' : Nat} {w : World} {x : FF} {v : Value} (h : x.In B w v) (hB : B ≤ B') : x.In B' w v := ⟨h.1, h.2.mono hB⟩
def FAt (B : Nat) (w : World) (b o : Nat) (x : FF) : Prop := ∃ v, At w b o (x.cells v) ∧ x.In B w v
def FsIn (B : Nat) := GIn 4 (FAt B) B
theorem FsIn.below {B : Nat} {w w' : World} {l : List FF} {v : Value} (h : FsIn B w l v) (k : Below B w w') : FsIn B w' l v := GIn.below h fun b o x hb ⟨v, h1, h2⟩ => ⟨v, h1.below hb k, h2.below k⟩
theorem FsIn.mono {B B' : Nat} {w : World} {l : List FF} {v : Value} (h : FsIn B w l v) (hB : B ≤ B') : FsIn B' w l v := GIn.imp h hB fun b o x ⟨v, h1, h2⟩ => ⟨v, h1, h2.mono hB⟩

/-! ### structs and enums: of the fields their names alone are known, of all else that it lies there -/
structure VFd where
  r1 : Value
  r2 : Value
  r3 : Value
def fieldCells (s : ByteArray) (v : VFd) : List Value := [.string s, v.r1, v.r2, v.r3]
def FdAt (w : World) (b o : Nat) (s : ByteArray) : Prop := s.size ≤ strMax ∧ ∃ v, At w b o (fieldCells s v)
def FdIn := GIn 4 FdAt
theorem FdIn.below {B : Nat} {w w' : World} {l : List ByteArray} {v : Value} (h : FdIn B w l v) (k : Below B w w') : FdIn B w' l v := GIn.below h fun b o x hb ⟨h0, v, h1⟩ => ⟨h0, v, h1.below hb k⟩
theorem FdIn.mono {B B' : Nat} {w : World} {l : List ByteArray} {v : Value} (h : FdIn B w l v) (hB : B ≤ B') : FdIn B' w l v := GIn.imp h hB fun b o x h => h
structure VT where
  f : Value
  k3 : Int
  s4 : ByteArray
  a5 : Option Addr
  n5 : Nat
  c5 : Nat
  a6 : Option Addr
  n6 : Nat
  c6 : Nat
  k7 : Int
  i8 : Int
  s9 : ByteArray
  s10 : ByteArray
  s11 : ByteArray
  a12 : Option Addr
  n12 : Nat
  c12 : Nat
  a13 : Option Addr
  n13 : Nat
  c13 : Nat
  i14 : Int
  i15 : Int
def TT.cells (t : TT) (v : VT) : List Value := [.int .u8 t.kind, .string t.name, v.f, .int .u8 v.k3, .string v.s4, .slice v.a5 v.n5 v.c5, .slice v.a6 v.n6 v.c6, .int .u8 v.k7, .int .i64 v.i8, .string v.s9, .string v.s10, .string v.s11, .slice v.a12 v.n12 v.c12, .slice v.a13 v.n13 v.c13, .int .i64 v.i14, .int .i64 v.i15]
def TT.In (B : Nat) (w : World) (t : TT) (v : VT) : Prop := (0 ≤ t.kind ∧ t.kind ≤ 255) ∧ t.name.size ≤ strMax ∧ FdIn B w t.fields v.f
theorem TT.In.below {B : Nat} {w w' : World} {x : TT} {v : VT} (h : x.In B w v) (k : Below B w w') : x.In B w' v := ⟨h.1, h.2.1, h.2.2.below k⟩
theorem TT.In.mono {B B' : Nat} {w : World} {x : TT} {v : VT} (h : x.In B w v) (hB : B ≤ B') : x.In B' w v := ⟨h.1, h.2.1, h.2.2.mono hB⟩
def TAt (B : Nat) (w : World) (b o : Nat) (x : TT) : Prop := ∃ v, At w b o (x.cells v) ∧ x.In B w v
def TsIn (B : Nat) := GIn 16 (TAt B) B
theorem TsIn.below {B : Nat} {w w' : World} {l : List TT} {v : Value} (h : TsIn B w l v) (k : Below B w w') : TsIn B w' l v := GIn.below h fun b o x hb ⟨v, h1, h2⟩ => ⟨v, h1.below hb k, h2.below k⟩
theorem TsIn.mono {B B' : Nat} {w : World} {l : List TT} {v : Value} (h : TsIn B w l v) (hB : B ≤ B') : TsIn B' w l v := GIn.imp h hB fun b o x ⟨v, h1, h2⟩ => ⟨v, h1, h2.mono hB⟩

/-! ### units -/
structure VU where
  f : Value
  t : Value
def UU.cells (u : UU) (v : VU) : List Value := [v.f, .int .i64 u.main, v.t]
def UU.In (B : Nat) (w : World) (u : UU) (v : VU) : Prop := FsIn B w u.funcs v.f ∧ TsIn B w u.types v.t
theorem UU.In.below {B : Nat} {w w' : World} {u : UU} {v : VU} (h : u.In B w v) (k : Below B w w') : u.In B w' v := ⟨h.1.below k, h.2.below k⟩
theorem UU.In.mono {B B' : Nat} {w : World} {u : UU} {v : VU} (h : u.In B w v) (hB : B ≤ B') : u.In B' w v := ⟨h.1.mono hB, h.2.mono hB⟩
theorem UU.In.shape {B : Nat} {w : World} {u : UU} {v : VU} (h : u.In B w v) : ∃ a1 c1 a2 c2, v = ⟨.slice a1 u.funcs.length c1, .slice a2 u.types.length c2⟩ := by
  obtain ⟨f, t⟩ := v
  obtain ⟨a1, c1, rfl⟩ := GIn.shape h.1
  obtain ⟨a2, c2, rfl⟩ := GIn.shape h.2
  exact ⟨a1, c1, a2, c2, rfl⟩
end Go.Proofs.YtlbdoomknjiilaaDoor
