/- Three rows of texts of one's own, each in memory apart from the others'. -/
import Derived.Test.YtcllflpfmpggoaaSetsRef2
import Derived.Maps.AppendAt
namespace Go.Proofs.Ytcllflpfmpggoaa
open Go.RowKit
set_option linter.unusedVariables false

def Apart (a b : Value) : Prop := ∀ g, a.ownBlock = some g → b.ownBlock = some g → False
theorem Apart.symm {a b : Value} (h : Apart a b) : Apart b a := fun g h1 h2 => h g h2 h1
def slLen : Value → Nat
  | .slice _ n _ => n
  | _ => 0
structure Three (base : Nat) (w : World) (u1 u2 u3 : Value) (l1 l2 l3 : List ByteArray) : Prop where
  o1 : w.ownsRow base 9 1 u1 l1.length (l1.map .string)
  o2 : w.ownsRow base 9 1 u2 l2.length (l2.map .string)
  o3 : w.ownsRow base 9 1 u3 l3.length (l3.map .string)
  a12 : Apart u1 u2
  a13 : Apart u1 u3
  a23 : Apart u2 u3
theorem Three.start (base : Nat) (w : World) : Three base w (.slice none 0 0) (.slice none 0 0) (.slice none 0 0) [] [] [] :=
  ⟨by simpa using World.ownsRow_nil w base 9 1, by simpa using World.ownsRow_nil w base 9 1, by simpa using World.ownsRow_nil w base 9 1, (fun g h => by cases h), (fun g h => by cases h), (fun g h => by cases h)⟩
section
variable {base : Nat} {w w' : World} {u1 u2 u3 v : Value} {l1 l2 l3 : List ByteArray}
theorem Three.rot (h : Three base w u1 u2 u3 l1 l2 l3) : Three base w u2 u3 u1 l2 l3 l1 := ⟨h.o2, h.o3, h.o1, h.a23, h.a12.symm, h.a13.symm⟩
theorem Three.below (h : Three base w u1 u2 u3 l1 l2 l3) (k : Below w.heap.size w w') : Three base w' u1 u2 u3 l1 l2 l3 :=
  ⟨own_below h.o1 k, own_below h.o2 k, own_below h.o3 k, h.a12, h.a13, h.a23⟩
theorem apart_kept {n : Nat} {xs : List Value} (h : w.ownsRow base 9 1 u2 n xs) (ha : Apart u1 u2) {o : Obj} (hg : (w.alloc o).grownBy w' u1.ownBlock) : w'.ownsRow base 9 1 u2 n xs := by
  refine (h.alloc o).kept hg ?_
  cases h2 : u2.ownBlock with
  | none => exact .inl rfl
  | some g => exact .inr fun e => ha g e.symm h2
theorem apart_new {n : Nat} {xs : List Value} (h : w.ownsRow base 9 1 u2 n xs) (ha : Apart u1 u2) (hv : v.ownBlock = u1.ownBlock ∨ v.ownBlock = some (w.heap.size + 1)) : Apart v u2 := by
  intro g h1 h2
  rcases hv with e | e
  · exact ha g (e ▸ h1) h2
  · rw [e] at h1
    have h3 := (h.lt g h2).2
    have h4 : w.heap.size + 1 = g := Option.some.inj h1
    omega
theorem Three.app1 (h : Three base w u1 u2 u3 l1 l2 l3) {s : ByteArray} {o : Obj} (hg : (w.alloc o).grownBy w' u1.ownBlock) (ho : w'.ownsRow base 9 1 v (l1.length + 1) (l1.map .string ++ [.string s])) (hv : v.ownBlock = u1.ownBlock ∨ v.ownBlock = some (w.heap.size + 1)) :
    Three base w' v u2 u3 (l1 ++ [s]) l2 l3 :=
  ⟨by rw [List.length_append, List.map_append]; exact ho, apart_kept h.o2 h.a12 hg, apart_kept h.o3 h.a13 hg, apart_new h.o2 h.a12 hv, apart_new h.o3 h.a13 hv, h.a23⟩
theorem Three.app2 (h : Three base w u1 u2 u3 l1 l2 l3) {s : ByteArray} {o : Obj} (hg : (w.alloc o).grownBy w' u2.ownBlock) (ho : w'.ownsRow base 9 1 v (l2.length + 1) (l2.map .string ++ [.string s])) (hv : v.ownBlock = u2.ownBlock ∨ v.ownBlock = some (w.heap.size + 1)) :
    Three base w' u1 v u3 l1 (l2 ++ [s]) l3 := (h.rot.app1 hg ho hv).rot.rot
theorem Three.app3 (h : Three base w u1 u2 u3 l1 l2 l3) {s : ByteArray} {o : Obj} (hg : (w.alloc o).grownBy w' u3.ownBlock) (ho : w'.ownsRow base 9 1 v (l3.length + 1) (l3.map .string ++ [.string s])) (hv : v.ownBlock = u3.ownBlock ∨ v.ownBlock = some (w.heap.size + 1)) :
    Three base w' u1 u2 v l1 l2 (l3 ++ [s]) := (h.rot.rot.app1 hg ho hv).rot
theorem own_apart {n : Nat} {xs : List Value} (h : w.ownsRow base 9 1 u2 n xs) (ha : Apart u1 u2) (hg : w.grownBy w' u1.ownBlock) : w'.ownsRow base 9 1 u2 n xs := by
  refine h.kept hg ?_
  cases h2 : u2.ownBlock with
  | none => exact .inl rfl
  | some g => exact .inr fun e => ha g e.symm h2
theorem RowS.drop {b o : Nat} {l : List ByteArray} (h : RowS w b o l) (p : Nat) : RowS w b (o + p) (l.drop p) := fun j s hj => by
  rw [List.getElem?_drop] at hj
  rw [Nat.add_assoc]
  exact h (p + j) s hj
theorem grown_below {wo : World} {n : Nat} {xs : List Value} (hO : w.ownsRow wo.heap.size 9 1 u1 n xs) (hB : Below wo.heap.size wo w) {o : Obj} (hg : (w.alloc o).grownBy w' u1.ownBlock) : Below wo.heap.size wo w' :=
  (hB.alloc hB.size _).grown hg (by have := hB.size; simp; omega) (fun k hk => (hO.lt k hk).1)
end
end Go.Proofs.Ytcllflpfmpggoaa
