/- Code: what the chapter says of instructions, functions, units. -/
import Derived.Test.YtlbdoomknjiilaaDoorPathsMem
namespace Go.Proofs.YtlbdoomknjiilaaDoor
open Go.RowKit
set_option linter.unusedVariables false

/-- an instruction; names: how many -/
structure JJ where
  op : Int
  a : Int
  b : Int
  c : Int
  slots : List Int
  path : List ByteArray
  int : Int
  name : ByteArray
  names : Nat
structure FF where
  name : ByteArray
  params : Int
  slots : Int
  code : List JJ
/-- a struct or an enum; fields: their names -/
structure TT where
  kind : Int
  name : ByteArray
  fields : List ByteArray
structure UU where
  funcs : List FF
  main : Int
  types : List TT

def withinB (n lo hi : Int) : Bool := decide (lo ≤ n) && decide (n ≤ hi)
def nameB (s : ByteArray) : Bool := decide (1 ≤ s.size) && decide (s.size ≤ 16)
def pathB (l : List ByteArray) : Bool := decide (l.length ≤ 40) && l.all nameB
def slotsB (l : List Int) (n : Int) : Bool := decide (l.length ≤ 6) && l.all fun k => withinB k 0 n
/-- what an Op asks for: its name, the sorts of A, B, Int, whether it has a Path, Slots, a Name -/
structure RR where
  op : List UInt8
  a : Nat
  b : Nat
  i : Nat
  p : Bool
  s : Bool
  n : Bool
def noRow : RR := ⟨[], 0, 0, 0, false, false, false⟩
def placeRow (w : List UInt8) : RR := ⟨w, 1, 0, 0, true, false, false⟩
def codeRows : List RR := [noRow,
  ⟨[108, 105, 118, 101], 1, 0, 0, false, false, false⟩,
  ⟨[100, 101, 97, 100], 1, 0, 0, false, false, false⟩,
  ⟨[99, 111, 110, 115, 116], 5, 0, 6, false, false, false⟩,
  placeRow [117, 115, 101], placeRow [114, 101, 102], placeRow [109, 117, 116], placeRow [112, 117, 116], placeRow [100, 114, 111, 112],
  ⟨[117, 110, 97, 114, 121], 7, 0, 0, false, false, false⟩,
  ⟨[98, 105, 110, 97, 114, 121], 8, 0, 0, false, false, false⟩,
  ⟨[115, 116, 114, 117, 99, 116], 0, 9, 0, false, false, true⟩,
  ⟨[101, 110, 117, 109], 10, 11, 0, false, false, true⟩,
  ⟨[115, 112, 108, 105, 116], 0, 9, 0, false, false, true⟩,
  ⟨[106, 117, 109, 112], 2, 0, 0, false, false, false⟩,
  ⟨[98, 114, 97, 110, 99, 104], 2, 0, 0, false, false, false⟩,
  ⟨[115, 119, 105, 116, 99, 104], 0, 0, 0, false, true, true⟩,
  ⟨[99, 97, 108, 108], 3, 4, 0, false, false, false⟩,
  ⟨[114, 101, 116, 117, 114, 110], 0, 0, 0, false, false, false⟩,
  ⟨[119, 114, 97, 112], 12, 0, 0, false, false, false⟩,
  ⟨[117, 110, 119, 114, 97, 112], 13, 0, 0, false, false, false⟩,
  placeRow [99, 108, 111, 110, 101], placeRow [99, 101, 108, 108, 103, 101, 116], placeRow [99, 101, 108, 108, 115, 101, 116], placeRow [108, 111, 97, 100], placeRow [115, 116, 111, 114, 101], placeRow [102, 101, 116, 99, 104],
  ⟨[99, 104, 97, 110], 0, 0, 14, false, false, false⟩,
  placeRow [115, 101, 110, 100], placeRow [114, 101, 99, 118],
  ⟨[108, 111, 99, 107], 1, 1, 0, true, false, false⟩,
  ⟨[117, 110, 108, 111, 99, 107], 0, 0, 0, false, false, false⟩,
  ⟨[115, 99, 111, 112, 101], 0, 0, 0, false, false, false⟩,
  ⟨[115, 112, 97, 119, 110], 3, 4, 0, false, false, false⟩,
  ⟨[106, 111, 105, 110], 0, 0, 0, false, false, false⟩]
def rowR (op : Int) : RR := (codeRows[op.toNat]?).getD noRow
def knownB (op : Int) : Bool := !(rowR op).op.isEmpty
def constB (a n : Int) : Bool := if a = 1 then true else if a = 2 then withinB n 0 1 else decide (n = 0)
/-- of the function that A tells: how many values -/
def paramsAt (u : UU) (a : Int) : Int := ((u.funcs[a.toNat]?).map FF.params).getD 0
def fitsB (u : UU) (f : FF) (asked : Nat) (n xa : Int) : Bool :=
  match asked with
  | 1 => decide (0 ≤ n) && decide (n < f.slots)
  | 2 => withinB n 0 f.code.length
  | 3 => withinB n 0 ((u.funcs.length : Int) - 1)
  | 4 => decide (n = paramsAt u xa)
  | 5 => withinB n 1 3
  | 6 => constB xa n
  | 7 => withinB n 7 8
  | 8 => withinB n 9 17
  | 9 => withinB n 0 6
  | 10 => withinB n 0 5
  | 11 => withinB n 0 1
  | 12 => withinB n 6 11
  | 13 => decide (n = 6) || decide (n = 10)
  | 14 => withinB n 1 8
  | _ => decide (n = 0)
def mayJ (u : UU) (f : FF) (x : JJ) : Bool :=
  knownB x.op && (fitsB u f (rowR x.op).a x.a x.a && (fitsB u f (rowR x.op).b x.b x.a && (fitsB u f (rowR x.op).i x.int x.a &&
    (decide (x.c = 0) && (decide (x.names = 0) && ((if (rowR x.op).p then pathB x.path else decide (x.path.length = 0)) && ((if (rowR x.op).s then slotsB x.slots f.code.length else decide (x.slots.length = 0)) &&
      (if (rowR x.op).n then nameB x.name else decide (x.name.size = 0)))))))))
def mayF (u : UU) (f : FF) : Bool := nameB f.name && (decide (0 ≤ f.params) && (decide (f.params ≤ f.slots) && (decide (f.slots ≤ 60) && (decide (f.code.length ≤ 4000) && f.code.all (mayJ u f)))))
/-- has one of the first k the name of number k? -/
def typesB (l : List TT) : Bool := decide (l.length ≤ 30) && (List.range l.length).all fun i =>
  match l[i]? with
  | none => true
  | some t => (decide (t.kind = 1) || decide (t.kind = 2)) && (decide (t.fields.length ≤ 6) && !(l.take i).any fun x => decide (keyS x.name = keyS t.name))
def mainB (u : UU) : Bool := decide (0 ≤ u.main) && (decide (u.main < u.funcs.length) && decide (paramsAt u u.main = 0))
def mayU (u : UU) : Bool := typesB u.types && (decide (u.funcs.length ≤ 200) && (mainB u && u.funcs.all (mayF u)))
def errB (b : Bool) : Int := if b then 0 else 170
def instrB (u : UU) (fn : Int) (x : JJ) : Bool :=
  match (if 0 ≤ fn then u.funcs[fn.toNat]? else none) with
  | some f => mayJ u f x
  | none => false

/-! ### what is left when an Op's fields are taken away -/
/-- nothing but its Op: A, B, Slots, Path, Int, Name are asked where they were not taken away -/
def leftB (x : JJ) (a b s p i n : Bool) : Bool :=
  (a || decide (x.a = 0)) && ((b || decide (x.b = 0)) && (decide (x.c = 0) && ((s || decide (x.slots.length = 0)) && ((p || decide (x.path.length = 0)) && ((i || decide (x.int = 0)) && ((n || decide (x.name.size = 0)) && decide (x.names = 0)))))))
def slotB (f : FF) (n : Int) : Bool := decide (0 ≤ n) && decide (n < f.slots)
/-- the document's: what the Op has may be, and there is no more -/
def docJ (u : UU) (f : FF) (x : JJ) : Bool :=
  let r := rowR x.op
  knownB x.op && (fitsB u f r.a x.a x.a && fitsB u f r.b x.b x.a && fitsB u f r.i x.int x.a && (!r.p || pathB x.path) && (!r.s || slotsB x.slots f.code.length) && (!r.n || nameB x.name)) &&
    leftB x (r.a != 0) (r.b != 0) r.s r.p (r.i != 0) r.n
theorem fits_zero (u : UU) (f : FF) (n xa : Int) : fitsB u f 0 n xa = decide (n = 0) := rfl
theorem docJ_eq (u : UU) (f : FF) (x : JJ) : docJ u f x = mayJ u f x := by
  unfold docJ mayJ leftB
  simp only []
  generalize rowR x.op = r
  generalize knownB x.op = kn
  obtain ⟨w, a, b, i, p, s, n⟩ := r
  simp only []
  have hz : ∀ (a : Nat) (n : Int), (fitsB u f a n x.a && (a != 0 || decide (n = 0))) = fitsB u f a n x.a := by
    intro a n
    by_cases ha : a = 0
    · subst ha; rw [fits_zero]; simp
    · simp [ha]
  have ha := hz a x.a
  have hb := hz b x.b
  have hi := hz i x.int
  generalize fitsB u f a x.a x.a = A at *
  generalize fitsB u f b x.b x.a = B at *
  generalize fitsB u f i x.int x.a = I at *
  generalize (a != 0 || decide (x.a = 0)) = A1 at *
  generalize (b != 0 || decide (x.b = 0)) = B1 at *
  generalize (i != 0 || decide (x.int = 0)) = I1 at *
  generalize pathB x.path = pp
  generalize slotsB x.slots f.code.length = ss
  generalize nameB x.name = nn
  generalize decide (x.path.length = 0) = p0
  generalize decide (x.slots.length = 0) = s0
  generalize decide (x.name.size = 0) = n0
  generalize decide (x.c = 0) = c0
  generalize decide (x.names = 0) = m0
  rw [← ha, ← hb, ← hi]
  cases kn <;> cases p <;> cases s <;> cases n <;> cases A <;> cases B <;> cases I <;> simp <;> grind
end Go.Proofs.YtlbdoomknjiilaaDoor
