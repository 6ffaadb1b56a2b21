/- The plain part of what may be a tree: parts and what they have, shapes (the tables of the chapter), what is whole; the document's own way of saying so; that both are one. -/
import Derived.Test.YthilicmhdkmipaaGreatDoorITreeMath
import Derived.Test.YthilicmhdkmipaaGreatDoorIJoinAM
import Derived.Test.YthilicmhdkmipaaGreatDoorChecked
import Derived.Test.YthilicmhdkmipaaGreatDoorShelf
import Derived.Shelf.Abstract
import Derived.Outline
import Derived.IntWalk
import Derived.WalkKit
import Derived.BigQuiet
import Derived.Deep.QuietTactic
import Derived.Deep.Cut
namespace Go.Proofs.YthilicmhdkmipaaGreatDoor
open Go.RowKit
set_option linter.unusedVariables false

/-! ### parts -/
inductive Q where
  | prog (p : List PI)
  | item (x : PI)
  | stmt (s : PS)
  | expr (e : PE) (st : Nat)
  | typ (t : PT) (st : Nat)
namespace PS
def op : PS → Int | .mk a _ _ _ _ _ _ _ _ _ _ _ => a
def name : PS → ByteArray | .mk _ a _ _ _ _ _ _ _ _ _ _ => a
def second : PS → ByteArray | .mk _ _ a _ _ _ _ _ _ _ _ _ => a
def names : PS → List ByteArray | .mk _ _ _ a _ _ _ _ _ _ _ _ => a
def type : PS → PT | .mk _ _ _ _ a _ _ _ _ _ _ _ => a
def int : PS → Int | .mk _ _ _ _ _ a _ _ _ _ _ _ => a
def place : PS → PP | .mk _ _ _ _ _ _ a _ _ _ _ _ => a
def exprs : PS → List PE | .mk _ _ _ _ _ _ _ a _ _ _ _ => a
def body : PS → List PS | .mk _ _ _ _ _ _ _ _ a _ _ _ => a
def els : PS → List PS | .mk _ _ _ _ _ _ _ _ _ a _ _ => a
def arms : PS → List PA | .mk _ _ _ _ _ _ _ _ _ _ a _ => a
end PS
namespace PA
def variant : PA → ByteArray | .mk a _ _ => a
def name : PA → ByteArray | .mk _ a _ => a
def body : PA → List PS | .mk _ _ a => a
end PA

/-! ### texts -/
def nmB (s : ByteArray) : Bool := decide (kindL s.data.toList = 2)
def tyB (s : ByteArray) : Bool := decide (kindL s.data.toList = 3)
def noB (s : ByteArray) : Bool := decide (s.size = 0)
/-- the code's text: 0 none, 1 a name, 2 a name or none, 3 a type's name -/
def txB (x : Nat) (s : ByteArray) : Bool := if x = 1 then nmB s else if x = 2 then noB s || nmB s else if x = 3 then tyB s else noB s
def stepB (s : ByteArray) : Bool := decide (s.data.toList = [42]) || nmB s
def plB (x : PP) : Bool := nmB x.name && (decide (x.path.length ≤ 40) && x.path.all stepB)
def zeroP : PP := ⟨ByteArray.empty, []⟩
def zeroT : PT := .mk 0 ByteArray.empty []
def zeroE : PE := .mk 0 0 ByteArray.empty ByteArray.empty zeroP [] 0

/-! ### shapes of types and expressions -/
structure TSh where
  known : Bool
  name : Nat
  args : Nat
def tSh (k : Int) : TSh :=
  if k = 1 ∨ k = 2 ∨ k = 3 ∨ k = 10 then ⟨true, 0, 0⟩ else if k = 4 then ⟨true, 3, 0⟩ else if 5 ≤ k ∧ k ≤ 14 then ⟨true, 0, 1⟩ else ⟨false, 0, 0⟩
structure ESh where
  known : Bool
  greatest : Int
  name : Nat
  second : Nat
  place : Bool
  fields : Bool
  fewest : Nat
  most : Nat
def eSh (k : Int) : ESh :=
  if k = 1 then ⟨true, 9223372036854775807, 0, 0, false, false, 0, 0⟩ else if k = 2 then ⟨true, 1, 0, 0, false, false, 0, 0⟩ else if k = 3 then ⟨true, 0, 0, 0, false, false, 0, 0⟩
  else if k = 4 ∨ k = 5 ∨ k = 6 ∨ k = 24 ∨ k = 28 ∨ k = 32 ∨ k = 36 then ⟨true, 0, 0, 0, true, false, 0, 0⟩
  else if k = 25 ∨ k = 33 ∨ k = 34 ∨ k = 35 then ⟨true, 0, 0, 0, true, false, 1, 1⟩
  else if k = 7 ∨ k = 8 ∨ k = 21 ∨ k = 22 ∨ k = 23 ∨ k = 26 ∨ k = 27 ∨ k = 29 ∨ k = 30 ∨ k = 31 then ⟨true, 0, 0, 0, false, false, 1, 1⟩
  else if 9 ≤ k ∧ k ≤ 17 then ⟨true, 0, 0, 0, false, false, 2, 2⟩
  else if k = 18 then ⟨true, 0, 1, 0, false, false, 0, 6⟩ else if k = 19 then ⟨true, 0, 3, 0, false, true, 0, 6⟩ else if k = 20 then ⟨true, 0, 3, 3, false, false, 0, 1⟩
  else ⟨false, 0, 0, 0, false, false, 0, 0⟩

/-! ### what fits -/
/-- the standings: 0 what is whole, 1 or lent, 2 or zero, 3 zero alone -/
def fitT (t : PT) (st : Nat) : Bool :=
  if st = 3 ∨ (st = 2 ∧ t.kind = 0) then sameT t zeroT else (tSh t.kind).known && txB (tSh t.kind).name t.name && decide (t.args.length = (tSh t.kind).args)
def lentB (e : PE) : Bool := decide (e.op = 5) || decide (e.op = 6)
def fitPl (h : ESh) (e : PE) : Bool :=
  if h.place then plB e.place else if h.fields then noB e.place.name && (decide (e.place.path.length = e.args.length) && (decide (e.place.path.length ≤ 6) && e.place.path.all nmB)) else samePl e.place zeroP
def fitSh (h : ESh) (e : PE) : Bool :=
  h.known && (decide (0 ≤ e.int) && (decide (e.int ≤ h.greatest) && (txB h.name e.name && (txB h.second e.second && (fitPl h e && (decide (h.fewest ≤ e.args.length) && decide (e.args.length ≤ h.most)))))))
def fitE (e : PE) (st : Nat) : Bool := if st = 3 then sameE false e zeroE else (!lentB e || decide (st = 1)) && fitSh (eSh e.op) e
def inArgs (e : PE) (st : Nat) : Nat := if st = 3 then 3 else if e.op = 18 then 1 else 0
def wholeT : Nat → PT → Nat → Bool
  | 0, _, _ => false
  | n + 1, t, st => fitT t st && t.args.all (fun u => wholeT n u 0)
def wholeE : Nat → PE → Nat → Bool
  | 0, _, _ => false
  | n + 1, e, st => fitE e st && e.args.all (fun u => wholeE n u (inArgs e st))

/-! ### the document's own way -/
def rT : Nat → PT → Bool
  | 0, _ => false
  | n + 1, t => if t.kind < 1 ∨ 14 < t.kind then false else if t.kind = 1 ∨ t.kind = 2 ∨ t.kind = 3 ∨ t.kind = 10 then noB t.name && decide (t.args.length = 0)
      else if t.kind = 4 then tyB t.name && decide (t.args.length = 0) else noB t.name && (decide (t.args.length = 1) && t.args.all (fun u => rT n u))
def formTab : List (List UInt8) := [[], [105, 48], [98, 48], [48], [112, 48], [112, 48], [112, 48], [49], [49], [50], [50], [50], [50], [50], [50], [50], [50], [50], [110, 54], [116, 102, 54], [116, 118, 57], [49], [49], [49], [112, 48], [112, 49], [49], [49], [112, 48], [49], [49], [49], [112, 48], [112, 49], [112, 49], [112, 49], [112, 48]]
def formL (op : Int) : List UInt8 := formTab.getD op.toNat []
def manyL (f : List UInt8) (n : Nat) : Bool :=
  if f.getLastD 0 = 54 then decide (n ≤ 6) else if f.getLastD 0 = 57 then decide (n ≤ 1) else decide ((n : Int) = (f.getLastD 0).toNat - 48)
def rFields (e : PE) : Bool := noB e.place.name && (decide (e.place.path.length = e.args.length) && e.place.path.all nmB)
def rInt (f : List UInt8) (e : PE) : Bool := if f.contains 105 then decide (0 ≤ e.int) else if f.contains 98 then decide (e.int = 0 ∨ e.int = 1) else decide (e.int = 0)
def rPlace (f : List UInt8) (e : PE) : Bool := if f.contains 112 then plB e.place else if f.contains 102 then rFields e else noB e.place.name && decide (e.place.path.length = 0)
def rName (f : List UInt8) (e : PE) : Bool := if f.contains 110 then nmB e.name else if f.contains 116 then tyB e.name else noB e.name
def rSecond (f : List UInt8) (e : PE) : Bool := if f.contains 118 then tyB e.second else noB e.second
def rSh (e : PE) : Bool := !(formL e.op).isEmpty && (manyL (formL e.op) e.args.length && (rInt (formL e.op) e && (rPlace (formL e.op) e && (rName (formL e.op) e && rSecond (formL e.op) e))))
def rE : Nat → PE → Bool
  | 0, _ => false
  | n + 1, e => rSh e && e.args.all (fun a => (!lentB a || decide (e.op = 18)) && rE n a)

/-! ### both are one -/
theorem noB_iff (s : ByteArray) : noB s = decide (s = ByteArray.empty) := by
  unfold noB
  rw [Bool.eq_iff_iff, decide_eq_true_eq, decide_eq_true_eq]
  constructor
  · intro h
    obtain ⟨⟨l⟩⟩ := s
    have : l = [] := by simpa [ByteArray.size] using h
    subst this; rfl
  · rintro rfl; rfl
theorem u8_lt {x : Int} (h : U8 x) : 0 ≤ x ∧ x ≤ 255 := by
  unfold U8 at h
  simp only [Lit.wf, Bool.and_eq_true, decide_eq_true_eq] at h
  have a : IntKind.u8.min = 0 := by decide
  have b : IntKind.u8.max = 255 := by decide
  omega
theorem i64_lt {x : Int} (h : I64 x) : x ≤ 9223372036854775807 := by
  unfold I64 at h
  simp only [Lit.wf, Bool.and_eq_true, decide_eq_true_eq] at h
  have b : IntKind.i64.max = 9223372036854775807 := by decide
  omega
theorem wholeT_eq : ∀ (n : Nat) (t : PT), wholeT n t 0 = rT n t
  | 0, _ => rfl
  | n + 1, t => by
    have ih : (fun u => wholeT n u 0) = (fun u => rT n u) := funext fun u => wholeT_eq n u
    rw [wholeT, rT, ih]
    unfold fitT
    rw [if_neg (by simp)]
    unfold tSh
    by_cases h0 : t.kind < 1 ∨ 14 < t.kind
    · rw [if_pos h0, if_neg (by omega), if_neg (by omega), if_neg (by omega)]; rfl
    · rw [if_neg h0]
      by_cases h1 : t.kind = 1 ∨ t.kind = 2 ∨ t.kind = 3 ∨ t.kind = 10
      · rw [if_pos h1, if_pos h1]
        simp only [txB]
        cases ha : t.args with
        | nil => simp
        | cons a l => simp
      · rw [if_neg h1, if_neg h1]
        by_cases h4 : t.kind = 4
        · rw [if_pos h4, if_pos h4]
          cases ha : t.args with
          | nil => simp [txB]
          | cons a l => simp [txB]
        · rw [if_neg h4, if_neg h4, if_pos (by omega)]
          simp [txB, Bool.and_assoc]
theorem samePl_zero (x : PP) : samePl x zeroP = (noB x.name && decide (x.path.length = 0)) := by
  unfold samePl zeroP
  rw [noB_iff, sameW_eq, allW_eq]
  simp
theorem op_cases {k : Int} (h : 0 ≤ k ∧ k ≤ 255) : (36 < k ∧ k ≤ 255) ∨ k = 0 ∨ k = 1 ∨ k = 2 ∨ k = 3 ∨ k = 4 ∨ k = 5 ∨ k = 6 ∨ k = 7 ∨ k = 8 ∨ k = 9 ∨ k = 10 ∨ k = 11 ∨ k = 12 ∨ k = 13 ∨ k = 14 ∨ k = 15 ∨ k = 16 ∨ k = 17 ∨ k = 18 ∨ k = 19 ∨ k = 20 ∨ k = 21 ∨ k = 22 ∨ k = 23 ∨ k = 24 ∨ k = 25 ∨ k = 26 ∨ k = 27 ∨ k = 28 ∨ k = 29 ∨ k = 30 ∨ k = 31 ∨ k = 32 ∨ k = 33 ∨ k = 34 ∨ k = 35 ∨ k = 36 := by omega
set_option maxHeartbeats 4000000 in
theorem fitSh_eq (e : PE) (hu : U8 e.op) (hi : I64 e.int) : fitSh (eSh e.op) e = rSh e := by
  have h1 := u8_lt hu
  have h2 := i64_lt hi
  have hz := samePl_zero e.place
  have h3 : (decide (0 ≤ e.int) && decide (e.int ≤ 0)) = decide (e.int = 0) := by rw [Bool.eq_iff_iff]; simp; omega
  have h4 : (decide (0 ≤ e.int) && decide (e.int ≤ 1)) = decide (e.int = 0 ∨ e.int = 1) := by rw [Bool.eq_iff_iff]; simp; omega
  have h5 : decide (e.int ≤ 9223372036854775807) = true := by simpa using h2
  have a0 : decide (e.args.length ≤ 0) = decide (e.args.length = 0) := by rw [Bool.eq_iff_iff]; simp
  have a1 : (decide (1 ≤ e.args.length) && decide (e.args.length ≤ 1)) = decide (e.args.length = 1) := by rw [Bool.eq_iff_iff]; simp; omega
  have a2 : (decide (2 ≤ e.args.length) && decide (e.args.length ≤ 2)) = decide (e.args.length = 2) := by rw [Bool.eq_iff_iff]; simp; omega
  generalize hop : e.op = k at *
  rcases op_cases h1 with h | h
  · unfold fitSh rSh
    have e1 : eSh k = ⟨false, 0, 0, 0, false, false, 0, 0⟩ := by
      unfold eSh
      repeat rw [if_neg (by omega)]
    have e2 : formL k = [] := by
      unfold formL
      rw [List.getD_eq_getElem?_getD, List.getElem?_eq_none (by simp [formTab]; omega)]; rfl
    rw [hop, e1, e2]; rfl
  · unfold fitSh rSh fitPl rInt rPlace rName rSecond rFields
    rw [hop]
    clear hop
    rcases h with rfl | rfl | rfl | rfl | rfl | rfl | rfl | rfl | rfl | rfl | rfl | rfl | rfl | rfl | rfl | rfl | rfl | rfl | rfl | rfl | rfl | rfl | rfl | rfl | rfl | rfl | rfl | rfl | rfl | rfl | rfl | rfl | rfl | rfl | rfl | rfl | rfl
    all_goals (rw [Bool.eq_iff_iff]; simp [eSh, formL, formTab, manyL, txB, hz]; try grind)
theorem PE.Row.mem {B : Nat} {w : World} {b : Nat} : ∀ {l : List PE} {o : Nat} {a : PE}, PE.Row B w b o l → a ∈ l → ∃ v, a.In B w v
  | x :: l, o, a, h, hm => by
    cases hm with
    | head => obtain ⟨⟨v, _, hv⟩, _⟩ := h; exact ⟨v, hv⟩
    | tail _ hm => exact PE.Row.mem h.2 hm
theorem all_congr {α : Type} {f g : α → Bool} : ∀ {l : List α}, (∀ a, a ∈ l → f a = g a) → l.all f = l.all g
  | [], _ => rfl
  | a :: l, h => by rw [List.all_cons, List.all_cons, h a (by simp), all_congr (fun b hb => h b (by simp [hb]))]
theorem wholeE_eq {B : Nat} {w : World} : ∀ (n : Nat) (e : PE) (v : VE) (st : Nat), e.In B w v → st < 2 → wholeE n e st = ((!lentB e || decide (st = 1)) && rE n e)
  | 0, _, _, _, _, _ => by rw [wholeE, rE, Bool.and_false]
  | n + 1, e, v, st, h, hs => by
    have hall : e.args.all (fun u => wholeE n u (inArgs e st)) = e.args.all (fun a => (!lentB a || decide (e.op = 18)) && rE n a) := by
      refine all_congr fun a ha => ?_
      have hin : ∃ va, a.In B w va := by
        obtain ⟨op, iv, nm, sc, pl, xs, ps⟩ := e
        obtain ⟨_, _, b, o, _, hr⟩ := h
        exact PE.Row.mem hr ha
      obtain ⟨va, hva⟩ := hin
      unfold inArgs
      rw [if_neg (by omega)]
      by_cases h18 : e.op = 18
      · rw [if_pos h18, wholeE_eq n a va 1 hva (by omega)]; simp [h18]
      · rw [if_neg h18, wholeE_eq n a va 0 hva (by omega)]; simp [h18]
    have hf : fitE e st = ((!lentB e || decide (st = 1)) && rSh e) := by
      unfold fitE
      rw [if_neg (by omega)]
      obtain ⟨op, iv, nm, sc, pl, xs, ps⟩ := e
      obtain ⟨⟨hu, hi, _⟩, _⟩ := h
      rw [fitSh_eq (.mk op iv nm sc pl xs ps) hu hi]
    rw [wholeE, rE, hall, hf, Bool.and_assoc]
end Go.Proofs.YthilicmhdkmipaaGreatDoor
/- Contracts of package tree, first part: whether two types are the same. -/
namespace Go.Proofs.YthilicmhdkmipaaGreatDoor
open Go.RowKit
set_option linter.unusedVariables false

theorem up_tr {w w1 w2 : World} (a : Below w.heap.size w w1) (b : Below w1.heap.size w1 w2) : Below w.heap.size w w2 := a.trans (b.mono a.size)
theorem box2 (w : World) (a b : Obj) : Below w.heap.size w ((w.alloc a).alloc b) := ((Below.refl _ w).alloc (Nat.le_refl _) _).alloc (by simp) _
theorem box2B {B : Nat} (w : World) (hB : B ≤ w.heap.size) (a b : Obj) : Below B w ((w.alloc a).alloc b) := (box2 w a b).mono hB
theorem old_cells {W w1 : World} (hb : Below W.heap.size W w1) : ∀ b o, b < W.heap.size → w1.cell? ⟨b, o, none⟩ = W.cell? ⟨b, o, none⟩ := fun b o h => hb.cell (p := ⟨b, o, none⟩) h
theorem below_drewN (w : World) (q : Nat) : Below w.heap.size w (w.drewN q) := by
  refine ⟨?_, ?_, ?_, ?_, ?_⟩ <;> first | rfl | simp
theorem get_at {α : Type} {l : List α} {k : Nat} (h : k < l.length) : ∃ a, l[k]? = some a ∧ a ∈ l := ⟨l[k], List.getElem?_eq_getElem h, List.getElem_mem h⟩

/-- the contract of sameType at a first type -/
def SameTAt (B : Nat) (a : PT) : Prop := ∀ (b : PT) (va vb : Value) (w : World), B ≤ w.heap.size → a.In B w va → b.In B w vb →
  Calls Tryz.prog 111 #[.agg #[.int .u8 a.kind, .string a.name, va], .agg #[.int .u8 b.kind, .string b.name, vb]] w fun e w' => e = .returned (.bool (sameT a b)) ∧ Below w.heap.size w w'

theorem sameType_enters : ∀ args w, (callFunc 111 args).run Tryz.prog w = .ok (.enter 111 args) w := enters_of Tryz.func111 (by kernel_rfl) rfl

set_option maxHeartbeats 1000000 in
theorem equalT_calls (B : Nat) (xs ys : List PT) (H : Hid (∀ a, a ∈ xs → SameTAt B a)) (b1 o1 b2 o2 : Nat) (v1 v2 : Value) (w : World) (hB : B ≤ w.heap.size)
    (s1 : SlV B v1 xs.length b1 o1) (r1 : PT.Row B w b1 o1 xs) (s2 : SlV B v2 ys.length b2 o2) (r2 : PT.Row B w b2 o2 ys) :
    Calls Tryz.prog 164 #[v1, v2, .func (.func 111) #[] #[]] w fun e w' => e = .returned (.bool (sameTs xs ys)) ∧ Below w.heap.size w w' := by
  rw [sameTs_all]
  obtain ⟨m1, ao1, cap1, rfl, h1⟩ := s1
  obtain ⟨m2, ao2, cap2, rfl, h2⟩ := s2
  unfold maxLen at m1 m2
  by_cases hn : xs.length = ys.length
  · have hyes := fun h => allW_yes (f := sameT) hn h
    obtain ⟨n, hx⟩ : ∃ n, n = xs.length := ⟨_, rfl⟩
    have hy : n = ys.length := hx.trans hn
    rw [← hx] at m1 h1 ⊢
    rw [← hy] at m2 h2 ⊢
    have Hyes := Lib.hid hyes
    have Hx := Lib.hid hx
    have Hy := Lib.hid hy
    have Hr := Lib.hid r1
    have Hs := Lib.hid r2
    have H1 := Lib.hid h1
    have H2 := Lib.hid h2
    clear hyes hn hx hy r1 r2 h1 h2
    have hE := sameType_enters
    go_enter Tryz.func164, Tryz.ntmps164
    go_wp2_with fail
    go_loopw [17] (fun i wr => ∃ k : Nat, k ≤ n ∧ i = .int .i64 k ∧ Below w.heap.size w wr ∧ Hid (∀ (j : Nat) x y, j < k → xs[j]? = some x → ys[j]? = some y → sameT x y = true))
      (fun i _ => n - (intOf i).toNat)
    case atStart => exact ⟨0, by omega, rfl, Below.refl _ _, Lib.hid fun j x y hj => by omega⟩
    case round =>
      obtain ⟨k, hk, rfl, hbel, HK⟩ := hrel
      have hsz := hbel.size
      have hbB := hbel.mono hB
      by_cases hlt : k < n
      · obtain ⟨a, ha, hin⟩ := get_at (l := xs) (k := k) (by rw [← Hx.out]; exact hlt)
        obtain ⟨b, hb, _⟩ := get_at (l := ys) (k := k) (by rw [← Hy.out]; exact hlt)
        obtain ⟨rfl, hb1⟩ := H1.out.resolve_left (by omega)
        obtain ⟨rfl, hb2⟩ := H2.out.resolve_left (by omega)
        obtain ⟨va, ca, ia⟩ := PT.Row.get (PT.Row.below hbB hb1 Hr.out) ha
        obtain ⟨vb, cb, ib⟩ := PT.Row.get (PT.Row.below hbB hb2 Hs.out) hb
        have g1 : b1 < wr.heap.size := by omega
        have g2 : b2 < wr.heap.size := by omega
        have c1 : wr.cell? ⟨b1, o1 + k * 3, none⟩ = some (.int .u8 a.kind) := ca 0 _ rfl
        have c2 := ca 1 _ rfl
        have c3 := ca 2 _ rfl
        have d1 : wr.cell? ⟨b2, o2 + k * 3, none⟩ = some (.int .u8 b.kind) := cb 0 _ rfl
        have d2 := cb 1 _ rfl
        have d3 := cb 2 _ rfl
        obtain ⟨p1, q1, t1, rfl⟩ := ia.shape
        obtain ⟨p2, q2, t2, rfl⟩ := ib.shape
        have C := Lib.hid (H.out a hin b (.slice p1 q1 t1) (.slice p2 q2 t2))
        have Ia := Lib.hid ia
        have Ib := Lib.hid ib
        have Ha := Lib.hid ha
        have Hb := Lib.hid hb
        clear ha hb ia ib ca cb hin
        go_wp2_with fail
        refine (C.out _ ?_ ?_ ?_).mono ?_
        · simp; omega
        · exact PT.In.below (((Below.refl B _).alloc (by omega) _).alloc (by simp; omega) _) Ia.out
        · exact PT.In.below (((Below.refl B _).alloc (by omega) _).alloc (by simp; omega) _) Ib.out
        rintro e w2 ⟨rfl, b2⟩
        have b3 := ((hbel.alloc (by omega) _).alloc (by simp; omega) _).trans (b2.mono (by simp; omega))
        clear b2 c1 c2 c3 d1 d2 d3
        cases hs : sameT a b
        · have hres := Lib.hid (allW_no Ha.out Hb.out hs)
          clear hs
          go_wp2
          go_ret
          exact ⟨ret_bool hres.out.symm, b3⟩
        · have HK2 := Lib.hid (allW_step HK.out Ha.out Hb.out hs)
          clear hs
          go_wp2
          go_roundw
          case rel => exact ⟨k + 1, by omega, by go_num, b3, HK2⟩
          case measure => simp [intOf]; omega
      · obtain rfl : k = n := by omega
        have hres := Lib.hid (Hyes.out fun j x y hx hy => HK.out j x y (by rw [Hx.out]; exact (List.getElem?_eq_some_iff.1 hx).1) hx hy)
        go_wp2
        go_ret
        exact ⟨ret_bool hres.out.symm, hbel⟩
  · have e1 : ((xs.length : Int) != (ys.length : Int)) = true := by rw [bne_iff_ne]; omega
    rw [allW_len hn]
    clear hn
    go_enter Tryz.func164, Tryz.ntmps164
    go_wp2
    go_ret
    exact ⟨rfl, Below.refl _ _⟩

theorem sameT_step (B : Nat) (k : Int) (n : ByteArray) (xs : List PT) (H : ∀ a, a ∈ xs → SameTAt B a) : SameTAt B (.mk k n xs) := by
  intro b va vb w hB ha hb
  obtain ⟨k2, n2, ys⟩ := b
  obtain ⟨⟨u1, z1⟩, b1, o1, s1, r1⟩ := ha
  obtain ⟨⟨u2, z2⟩, b2, o2, s2, r2⟩ := hb
  obtain ⟨p1, q1, rfl⟩ := s1.shape
  obtain ⟨p2, q2, rfl⟩ := s2.shape
  show Calls Tryz.prog 111 #[.agg #[.int .u8 k, .string n, .slice p1 xs.length q1], .agg #[.int .u8 k2, .string n2, .slice p2 ys.length q2]] w _
  go_enter Tryz.func111, Tryz.ntmps111
  go_wp2_with fail
  · have e1 : k = k2 := by assumption
    have e2 : n.toList = n2.toList := by assumption
    refine (equalT_calls B xs ys (Lib.hid H) b1 o1 b2 o2 _ _ _ (by simp; omega) s1 (PT.Row.below' (((Below.refl B w).alloc hB _).alloc (by simp; omega) _) s1 r1) s2 (PT.Row.below' (((Below.refl B w).alloc hB _).alloc (by simp; omega) _) s2 r2)).mono ?_
    rintro e w' ⟨rfl, b3⟩
    go_wp2
    go_ret
    exact ⟨ret_bool (by rw [sameT_mk, e1, toList_same e2]; simp), (((Below.refl _ w).alloc (Nat.le_refl _) _).alloc (by simp) _).trans (b3.mono (by simp; omega))⟩
  · have e2 : ¬ n.toList = n2.toList := by assumption
    go_ret
    exact ⟨ret_bool (by rw [sameT_mk, toList_diff e2]; simp), ((Below.refl _ w).alloc (Nat.le_refl _) _).alloc (by simp) _⟩
  · have e1 : ¬ k = k2 := by assumption
    go_ret
    exact ⟨ret_bool (by rw [sameT_mk]; simp [e1]), ((Below.refl _ w).alloc (Nat.le_refl _) _).alloc (by simp) _⟩
theorem sameT_calls (B : Nat) (a : PT) : SameTAt B a :=
  PT.rec (motive_1 := SameTAt B) (motive_2 := fun l => ∀ x, x ∈ l → SameTAt B x) (fun k n xs H => sameT_step B k n xs H)
    (fun x h => by cases h) (fun a l ha hl x h => by cases h with | head => exact ha | tail _ h => exact hl x h) a

/-! ### names and places -/
theorem equalN_calls (B : Nat) (xs ys : List ByteArray) (v1 v2 : Value) (w : World) (h1 : NIn B w xs v1) (h2 : NIn B w ys v2) :
    Calls Tryz.prog 165 #[v1, v2] w fun e w' => e = .returned (.bool (allW sameW xs ys)) ∧ Below w.heap.size w w' := by
  obtain ⟨b1, o1, ⟨m1, p1, q1, rfl, k1⟩, r1⟩ := h1
  obtain ⟨b2, o2, ⟨m2, p2, q2, rfl, k2⟩, r2⟩ := h2
  unfold maxLen at m1 m2
  rw [allW_eq]
  by_cases hn : xs.length = ys.length
  · rcases k1 with k1 | ⟨rfl, k1⟩
    · rw [k1] at hn ⊢
      refine (Tryz.slices_Equal_string_empty p1 p2 q1 ys.length q2 w m2).mono ?_
      rintro e w' ⟨rfl, rfl⟩
      have e1 := List.eq_nil_of_length_eq_zero k1
      have e2 := List.eq_nil_of_length_eq_zero hn.symm
      exact ⟨by rw [e1, e2]; rfl, Below.refl _ _⟩
    · rcases k2 with k2 | ⟨rfl, k2⟩
      · have e1 := List.eq_nil_of_length_eq_zero (hn.trans k2)
        have e2 := List.eq_nil_of_length_eq_zero k2
        subst e1 e2
        refine (Tryz.slices_Equal_string_empty _ p2 q1 0 q2 w (by omega)).mono ?_
        rintro e w' ⟨rfl, rfl⟩
        exact ⟨rfl, Below.refl _ _⟩
      · refine (Tryz.slices_Equal_string b1 o1 xs.length q1 b2 o2 ys.length q2 xs ys w (Nat.le_refl _) (Nat.le_refl _) m1 m2 (fun j hj => ?_) (fun j hj => ?_)).mono ?_
        · have := (NRow.get (k := j) (s := xs[j]) r1 (List.getElem?_eq_getElem hj)).2 0 _ rfl
          simpa [List.getD, hj] using this
        · have := (NRow.get (k := j) (s := ys[j]) r2 (List.getElem?_eq_getElem hj)).2 0 _ rfl
          simpa [List.getD, hj] using this
        rintro e w' ⟨rfl, q, rfl⟩
        exact ⟨by rw [List.take_length, List.take_length], below_drewN w q⟩
  · refine (Tryz.slices_Equal_string_lens p1 p2 xs.length q1 ys.length q2 w hn).mono ?_
    rintro e w' ⟨rfl, rfl⟩
    have hne : ¬ xs = ys := fun h => hn (by rw [h])
    exact ⟨by simp [hne], Below.refl _ _⟩
set_option maxHeartbeats 1000000 in
theorem samePl_calls (B : Nat) (a b : PP) (va vb : Value) (w : World) (hB : B ≤ w.heap.size) (ha : a.In B w va) (hb : b.In B w vb) :
    Calls Tryz.prog 166 #[.agg #[.string a.name, va], .agg #[.string b.name, vb]] w fun e w' => e = .returned (.bool (samePl a b)) ∧ Below w.heap.size w w' := by
  obtain ⟨p1, n1, q1, rfl⟩ := ha.2.shape
  obtain ⟨p2, n2, q2, rfl⟩ := hb.2.shape
  go_enter Tryz.func166, Tryz.ntmps166
  go_wp2_with fail
  · have e2 : a.name.toList = b.name.toList := by assumption
    refine (equalN_calls B a.path b.path _ _ _ (ha.2.below (box2B _ hB _ _)) (hb.2.below (box2B _ hB _ _))).mono ?_
    rintro e w' ⟨rfl, b3⟩
    go_wp2
    go_ret
    exact ⟨ret_bool (by rw [samePl, toList_same e2]; simp), up_tr (box2 _ _ _) b3⟩
  · have e2 : ¬ a.name.toList = b.name.toList := by assumption
    go_ret
    exact ⟨ret_bool (by rw [samePl, toList_diff e2]; simp), box2 _ _ _⟩
end Go.Proofs.YthilicmhdkmipaaGreatDoor
/- Contracts of package tree: slices.EqualFunc at its sort E (made by gen_same.py). -/
namespace Go.Proofs.YthilicmhdkmipaaGreatDoor
open Go.RowKit
set_option linter.unusedVariables false

/-- the contract of sameExpr at a first one -/
def SameEAt (B : Nat) (a : PE) : Prop := ∀ (b : PE) (va vb) (w : World), B ≤ w.heap.size → a.In B w va → b.In B w vb →
  Calls Tryz.prog 114 #[.agg (a.cells va).toArray, .agg (b.cells vb).toArray] w fun e w' => e = .returned (.bool (sameE false a b)) ∧ Below w.heap.size w w'
theorem sameExpr_enters : ∀ args w, (callFunc 114 args).run Tryz.prog w = .ok (.enter 114 args) w := enters_of Tryz.func114 (by kernel_rfl) rfl

set_option maxHeartbeats 2000000 in
theorem equalE_calls (B : Nat) (xs ys : List PE) (H : Hid (∀ a, a ∈ xs → SameEAt B a)) (b1 o1 b2 o2 : Nat) (v1 v2 : Value) (w : World) (hB : B ≤ w.heap.size)
    (s1 : SlV B v1 xs.length b1 o1) (r1 : PE.Row B w b1 o1 xs) (s2 : SlV B v2 ys.length b2 o2) (r2 : PE.Row B w b2 o2 ys) :
    Calls Tryz.prog 167 #[v1, v2, .func (.func 114) #[] #[]] w fun e w' => e = .returned (.bool (sameEs false xs ys)) ∧ Below w.heap.size w w' := by
  rw [sameEs_all false]
  obtain ⟨m1, ao1, cap1, rfl, h1⟩ := s1
  obtain ⟨m2, ao2, cap2, rfl, h2⟩ := s2
  unfold maxLen at m1 m2
  by_cases hn : xs.length = ys.length
  · have hyes := fun h => allW_yes (f := sameE false) hn h
    obtain ⟨n, hx⟩ : ∃ n, n = xs.length := ⟨_, rfl⟩
    have hy : n = ys.length := hx.trans hn
    rw [← hx] at m1 h1 ⊢
    rw [← hy] at m2 h2 ⊢
    have Hyes := Lib.hid hyes
    have Hx := Lib.hid hx
    have Hy := Lib.hid hy
    have Hr := Lib.hid r1
    have Hs := Lib.hid r2
    have H1 := Lib.hid h1
    have H2 := Lib.hid h2
    clear hyes hn hx hy r1 r2 h1 h2
    have hE := sameExpr_enters
    go_enter Tryz.func167, Tryz.ntmps167
    go_wp2_with fail
    go_loopw [17] (fun i wr => ∃ k : Nat, k ≤ n ∧ i = .int .i64 k ∧ Below w.heap.size w wr ∧ Hid (∀ (j : Nat) x y, j < k → xs[j]? = some x → ys[j]? = some y → sameE false x y = true))
      (fun i _ => n - (intOf i).toNat)
    case atStart => exact ⟨0, by omega, rfl, Below.refl _ _, Lib.hid fun j x y hj => by omega⟩
    case round =>
      obtain ⟨k, hk, rfl, hbel, HK⟩ := hrel
      have hsz := hbel.size
      have hbB := hbel.mono hB
      by_cases hlt : k < n
      · obtain ⟨a, ha, hin⟩ := get_at (l := xs) (k := k) (by rw [← Hx.out]; exact hlt)
        obtain ⟨b, hb, _⟩ := get_at (l := ys) (k := k) (by rw [← Hy.out]; exact hlt)
        obtain ⟨rfl, hb1⟩ := H1.out.resolve_left (by omega)
        obtain ⟨rfl, hb2⟩ := H2.out.resolve_left (by omega)
        obtain ⟨va, ca, ia⟩ := PE.Row.get (PE.Row.below hbB hb1 Hr.out) ha
        obtain ⟨vb, cb, ib⟩ := PE.Row.get (PE.Row.below hbB hb2 Hs.out) hb
        have g1 : b1 < wr.heap.size := by omega
        have g2 : b2 < wr.heap.size := by omega
        obtain ⟨pa0, na0, qa0, pa1, na1, qa1, rfl⟩ := ia.shape
        obtain ⟨pb0, nb0, qb0, pb1, nb1, qb1, rfl⟩ := ib.shape
        obtain ⟨opa, iva, nma, sca, pla, esa, ata⟩ := a
        obtain ⟨opb, ivb, nmb, scb, plb, esb, atb⟩ := b
        have c0 : wr.cell? ⟨b1, o1 + k * 8, none⟩ = some (.int .u8 opa) := ca 0 _ rfl
        have c1 : wr.cell? ⟨b1, o1 + k * 8 + 1, none⟩ = some (.int .i64 iva) := ca 1 _ rfl
        have c2 : wr.cell? ⟨b1, o1 + k * 8 + 2, none⟩ = some (.string nma) := ca 2 _ rfl
        have c3 : wr.cell? ⟨b1, o1 + k * 8 + 3, none⟩ = some (.string sca) := ca 3 _ rfl
        have c4 : wr.cell? ⟨b1, o1 + k * 8 + 4, none⟩ = some (.string pla.name) := ca 4 _ rfl
        have c5 : wr.cell? ⟨b1, o1 + k * 8 + 5, none⟩ = some (.slice pa0 na0 qa0) := ca 5 _ rfl
        have c6 : wr.cell? ⟨b1, o1 + k * 8 + 6, none⟩ = some (.slice pa1 na1 qa1) := ca 6 _ rfl
        have c7 : wr.cell? ⟨b1, o1 + k * 8 + 7, none⟩ = some (.int .i64 ata) := ca 7 _ rfl
        have d0 : wr.cell? ⟨b2, o2 + k * 8, none⟩ = some (.int .u8 opb) := cb 0 _ rfl
        have d1 : wr.cell? ⟨b2, o2 + k * 8 + 1, none⟩ = some (.int .i64 ivb) := cb 1 _ rfl
        have d2 : wr.cell? ⟨b2, o2 + k * 8 + 2, none⟩ = some (.string nmb) := cb 2 _ rfl
        have d3 : wr.cell? ⟨b2, o2 + k * 8 + 3, none⟩ = some (.string scb) := cb 3 _ rfl
        have d4 : wr.cell? ⟨b2, o2 + k * 8 + 4, none⟩ = some (.string plb.name) := cb 4 _ rfl
        have d5 : wr.cell? ⟨b2, o2 + k * 8 + 5, none⟩ = some (.slice pb0 nb0 qb0) := cb 5 _ rfl
        have d6 : wr.cell? ⟨b2, o2 + k * 8 + 6, none⟩ = some (.slice pb1 nb1 qb1) := cb 6 _ rfl
        have d7 : wr.cell? ⟨b2, o2 + k * 8 + 7, none⟩ = some (.int .i64 atb) := cb 7 _ rfl
        have C : Hid (∀ w', B ≤ w'.heap.size → PE.In B w' (.mk opa iva nma sca pla esa ata) ⟨.slice pa0 na0 qa0, .slice pa1 na1 qa1⟩ → PE.In B w' (.mk opb ivb nmb scb plb esb atb) ⟨.slice pb0 nb0 qb0, .slice pb1 nb1 qb1⟩ → Calls Tryz.prog 114 #[.agg #[.int .u8 opa, .int .i64 iva, .string nma, .string sca, .string pla.name, .slice pa0 na0 qa0, .slice pa1 na1 qa1, .int .i64 ata], .agg #[.int .u8 opb, .int .i64 ivb, .string nmb, .string scb, .string plb.name, .slice pb0 nb0 qb0, .slice pb1 nb1 qb1, .int .i64 atb]] w' fun e w'' => e = .returned (.bool (sameE false (.mk opa iva nma sca pla esa ata) (.mk opb ivb nmb scb plb esb atb))) ∧ Below w'.heap.size w' w'') := Lib.hid (H.out _ hin _ _ _)
        have Ia := Lib.hid ia
        have Ib := Lib.hid ib
        have Ha := Lib.hid ha
        have Hb := Lib.hid hb
        clear ha hb ia ib ca cb hin
        go_wp2_with fail
        refine (C.out _ (by simp; omega) (Ia.out.below (box2B _ (by omega) _ _)) (Ib.out.below (box2B _ (by omega) _ _))).mono ?_
        rintro e w2 ⟨rfl, b2⟩
        have b3 := ((hbel.alloc (by omega) _).alloc (by simp; omega) _).trans (b2.mono (by simp; omega))
        clear b2 c0 d0 c1 d1 c2 d2 c3 d3 c4 d4 c5 d5 c6 d6 c7 d7
        cases hs : sameE false (.mk opa iva nma sca pla esa ata) (.mk opb ivb nmb scb plb esb atb)
        · have hres := Lib.hid (allW_no Ha.out Hb.out hs)
          clear hs
          go_wp2
          go_ret
          exact ⟨ret_bool hres.out.symm, b3⟩
        · have HK2 := Lib.hid (allW_step HK.out Ha.out Hb.out hs)
          clear hs
          go_wp2
          go_roundw
          case rel => exact ⟨k + 1, by omega, by go_num, b3, HK2⟩
          case measure => simp [intOf]; omega
      · obtain rfl : k = n := by omega
        have hres := Lib.hid (Hyes.out fun j x y hx hy => HK.out j x y (by rw [Hx.out]; exact (List.getElem?_eq_some_iff.1 hx).1) hx hy)
        go_wp2
        go_ret
        exact ⟨ret_bool hres.out.symm, hbel⟩
  · have e1 : ((xs.length : Int) != (ys.length : Int)) = true := by rw [bne_iff_ne]; omega
    rw [allW_len hn]
    clear hn
    go_enter Tryz.func167, Tryz.ntmps167
    go_wp2
    go_ret
    exact ⟨rfl, Below.refl _ _⟩
end Go.Proofs.YthilicmhdkmipaaGreatDoor
/- Contracts of package tree: sameness, SameE (made by gen_same.py). -/
namespace Go.Proofs.YthilicmhdkmipaaGreatDoor
open Go.RowKit
set_option linter.unusedVariables false

set_option maxRecDepth 100000 in
set_option maxHeartbeats 4000000 in
theorem sameE_step (B : Nat) (opa iva : Int) (nma sca : ByteArray) (pla : PP) (esa : List PE) (ata : Int) (H : ∀ a, a ∈ esa → SameEAt B a) : SameEAt B (.mk opa iva nma sca pla esa ata) := by
  intro b va vb w hB ha hb
  obtain ⟨opb, ivb, nmb, scb, plb, esb, atb⟩ := b
  obtain ⟨pa0, na0, qa0, pa1, na1, qa1, rfl⟩ := ha.shape
  obtain ⟨pb0, nb0, qb0, pb1, nb1, qb1, rfl⟩ := hb.shape
  obtain ⟨_, hpa, ba, oa, sa, ra⟩ := ha
  obtain ⟨_, hpb, bb, ob, sb, rb⟩ := hb
  show Calls Tryz.prog 114 #[.agg #[.int .u8 opa, .int .i64 iva, .string nma, .string sca, .string pla.name, .slice pa0 na0 qa0, .slice pa1 na1 qa1, .int .i64 ata], .agg #[.int .u8 opb, .int .i64 ivb, .string nmb, .string scb, .string plb.name, .slice pb0 nb0 qb0, .slice pb1 nb1 qb1, .int .i64 atb]] w _
  go_enter Tryz.func114, Tryz.ntmps114
  go_wp2_with fail
  · refine (samePl_calls B pla plb _ _ _ (by simp; omega) (hpa.below (box2B w hB _ _)) (hpb.below (box2B w hB _ _))).mono ?_
    rintro e w1 ⟨rfl, b1⟩
    have bel1 := b1
    have bB1 := (box2B w hB _ _).trans (bel1.mono (by simp; omega))
    have hz1 : w.heap.size + 1 < w1.heap.size := by have := b1.size; simp at this; omega
    have hc1 := old_cells bel1
    go_wp2_with fail
    · refine (equalE_calls B esa esb (Lib.hid H) ba oa bb ob _ _ _ (by omega) sa (PE.Row.below' bB1 sa ra) sb (PE.Row.below' bB1 sb rb)).mono ?_
      rintro e w2 ⟨rfl, b2⟩
      have bel2 := up_tr bel1 b2
      go_wp2
      go_ret
      exact ⟨ret_bool (by simp [sameE_mk, sameW_toList, *]), up_tr (box2 _ _ _) bel2⟩
    all_goals (go_ret; exact ⟨ret_bool (by simp [sameE_mk, sameW_toList, *]), up_tr (box2 _ _ _) bel1⟩)
  all_goals (go_ret; exact ⟨ret_bool (by simp [sameE_mk, sameW_toList, *]), box2 _ _ _⟩)

theorem sameE_calls (B : Nat) (a : PE) : SameEAt B a :=
  PE.rec (motive_1 := SameEAt B) (motive_2 := fun l => ∀ x, x ∈ l → SameEAt B x) (fun op i n s p xs pos H => sameE_step B op i n s p xs pos H)
    (fun x h => by cases h) (fun a l ha hl x h => by cases h with | head => exact ha | tail _ h => exact hl x h) a
end Go.Proofs.YthilicmhdkmipaaGreatDoor
