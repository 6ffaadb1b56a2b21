/- Sets of names: rows that rise; what the chapter makes of them. -/
import Derived.Test.YtcllflpfmpggoaaPathsMem
namespace Go.Proofs.Ytcllflpfmpggoaa
open Go.RowKit
set_option linter.unusedVariables false

/-! ### the order of texts, as the model asks it -/
def lessS (a b : ByteArray) : Bool := Op.bytesLess a.toList b.toList
theorem lessB_cmp : ∀ x y : List UInt8, Op.bytesLess x y = decide (cmpS x y < 0)
  | [], [] => by simp [Op.bytesLess, lexc]
  | _ :: _, [] => by simp [Op.bytesLess, lexc]
  | [], _ :: _ => by simp [Op.bytesLess, lexc]
  | a :: x, b :: y => by
    have ih := lessB_cmp x y
    rw [Op.bytesLess, ih]
    show _ = decide ((if cmpU a b = 0 then lexc cmpU x y else cmpU a b) < 0)
    by_cases h : a = b
    · subst h
      simp [cmpU]
    · have hc : ¬ cmpU a b = 0 := fun e => h ((cmpU_good.zero a b).1 e)
      rw [if_neg hc]
      have hb : (a == b) = false := by simpa using h
      rw [hb]
      simp only [Bool.false_and, Bool.or_false]
      rw [decide_eq_decide]
      unfold cmpU at hc ⊢
      split
      · simp [*]
      · split <;> simp [*]
theorem lessS_iff {a b : ByteArray} : lessS a b = true ↔ cmpS (keyS a) (keyS b) < 0 := by
  unfold lessS
  rw [lessB_cmp, decide_eq_true_iff, ByteArray.toList_eq, ByteArray.toList_eq]
  rfl
theorem lessS_no {a b : ByteArray} : lessS a b = false ↔ 0 ≤ cmpS (keyS a) (keyS b) := by
  rw [← Bool.not_eq_true, lessS_iff]; omega
theorem lessS_irr (a : ByteArray) : lessS a a = false := by rw [lessS_no, cmpS_good.refl]; exact Int.le_refl _
theorem lessS_trans {a b c : ByteArray} (h1 : lessS a b = true) (h2 : lessS b c = true) : lessS a c = true := by
  rw [lessS_iff] at *
  exact cmpS_good.trans _ _ _ h1 h2
theorem lessS_asym {a b : ByteArray} (h : lessS a b = true) : lessS b a = false := by
  rw [lessS_iff] at h; rw [lessS_no, cmpS_good.neg]; omega
theorem lessS_eq {a b : ByteArray} (h1 : lessS a b = false) (h2 : lessS b a = false) : a = b := by
  rw [lessS_no] at h1 h2
  rw [cmpS_good.neg] at h2
  exact key_same.1 ((cmpS_good.zero _ _).1 (by omega))
theorem lessS_of {a b : ByteArray} (h1 : lessS b a = false) (h2 : a ≠ b) : lessS a b = true := by
  cases h : lessS a b with
  | true => rfl
  | false => exact absurd (lessS_eq h h1) h2

/-! ### a name among names -/
def hasN (l : List ByteArray) (s : ByteArray) : Bool := l.any fun x => decide (keyS x = keyS s)
theorem hasN_iff {l : List ByteArray} {s : ByteArray} : hasN l s = true ↔ s ∈ l := by
  unfold hasN
  rw [List.any_eq_true]
  constructor
  · rintro ⟨x, hx, h⟩
    rw [decide_eq_true_eq, key_same] at h
    exact h ▸ hx
  · exact fun h => ⟨s, h, by simp⟩
theorem hasN_no {l : List ByteArray} {s : ByteArray} : hasN l s = false ↔ s ∉ l := by rw [← hasN_iff, Bool.not_eq_true]
theorem hasN_take {l : List ByteArray} {s x : ByteArray} {k : Nat} (hx : l[k]? = some x) : hasN (l.take (k + 1)) s = (hasN (l.take k) s || decide (keyS x = keyS s)) := by
  unfold hasN
  rw [List.take_add_one, hx, List.any_append]
  simp

/-! ### rows that rise -/
def Rise (l : List ByteArray) : Prop := l.Pairwise fun a b => lessS a b = true
theorem Rise.nil : Rise [] := List.Pairwise.nil
theorem Rise.eq : ∀ {X Y : List ByteArray}, Rise X → Rise Y → (∀ s, s ∈ X ↔ s ∈ Y) → X = Y
  | [], [], _, _, _ => rfl
  | [], y :: Y, _, _, h => absurd ((h y).2 (by simp)) (by simp)
  | x :: X, [], _, _, h => absurd ((h x).1 (by simp)) (by simp)
  | x :: X, y :: Y, h1, h2, h => by
    have a1 := List.pairwise_cons.1 h1
    have a2 := List.pairwise_cons.1 h2
    have e : x = y := by
      rcases List.mem_cons.1 ((h x).1 (by simp)) with e | e
      · exact e
      · rcases List.mem_cons.1 ((h y).2 (by simp)) with e' | e'
        · exact e'.symm
        · have := lessS_asym (a2.1 x e)
          rw [a1.1 y e'] at this; cases this
    subst e
    congr 1
    refine Rise.eq a1.2 a2.2 fun s => ?_
    have hs := h s
    simp only [List.mem_cons] at hs
    constructor
    · intro hm
      rcases hs.1 (.inr hm) with rfl | h'
      · have := a1.1 s hm; rw [lessS_irr] at this; cases this
      · exact h'
    · intro hm
      rcases hs.2 (.inr hm) with rfl | h'
      · have := a2.1 s hm; rw [lessS_irr] at this; cases this
      · exact h'
theorem Rise.filter {l : List ByteArray} (h : Rise l) (p : ByteArray → Bool) : Rise (l.filter p) := List.Pairwise.filter p h
/-- one name put at its place -/
def insN (s : ByteArray) : List ByteArray → List ByteArray
  | [] => [s]
  | x :: r => if lessS s x then s :: x :: r else x :: insN s r
theorem insN_mem {s t : ByteArray} : ∀ {l : List ByteArray}, t ∈ insN s l ↔ t = s ∨ t ∈ l
  | [] => by simp [insN]
  | x :: r => by
    rw [insN]
    split
    · simp
    · rw [List.mem_cons, insN_mem, List.mem_cons]
      constructor
      · rintro (h | h | h)
        · exact .inr (.inl h)
        · exact .inl h
        · exact .inr (.inr h)
      · rintro (h | h | h)
        · exact .inr (.inl h)
        · exact .inl h
        · exact .inr (.inr h)
theorem insN_rise {s : ByteArray} : ∀ {l : List ByteArray}, Rise l → s ∉ l → Rise (insN s l)
  | [], _, _ => by simp [insN, Rise]
  | x :: r, h, hs => by
    have a := List.pairwise_cons.1 h
    rw [insN]
    split
    · rename_i hl
      refine List.pairwise_cons.2 ⟨fun t ht => ?_, h⟩
      rcases List.mem_cons.1 ht with rfl | ht
      · exact hl
      · exact lessS_trans hl (a.1 t ht)
    · rename_i hl
      refine List.pairwise_cons.2 ⟨fun t ht => ?_, insN_rise a.2 fun h => hs (by simp [h])⟩
      rcases insN_mem.1 ht with rfl | ht
      · exact lessS_of (by simpa using hl) (fun e => hs (by simp [e]))
      · exact a.1 t ht
theorem insN_len {s : ByteArray} : ∀ {l : List ByteArray}, (insN s l).length = l.length + 1
  | [] => rfl
  | x :: r => by
    rw [insN]
    split
    · rfl
    · rw [List.length_cons, insN_len, List.length_cons]
def putN (out : List ByteArray) (s : ByteArray) : List ByteArray := if hasN out s then out else insN s out
/-- the set of some names -/
def ofN (l : List ByteArray) : List ByteArray := l.foldl putN []
theorem ofN_take {l : List ByteArray} {x : ByteArray} {k : Nat} (hx : l[k]? = some x) : ofN (l.take (k + 1)) = putN (ofN (l.take k)) x := by
  unfold ofN
  rw [List.take_add_one, hx, List.foldl_append]
  rfl
theorem putN_mem {out : List ByteArray} {s t : ByteArray} : t ∈ putN out s ↔ t ∈ out ∨ t = s := by
  unfold putN
  split
  · rename_i h
    have := hasN_iff.1 h
    constructor
    · exact .inl
    · rintro (h | rfl)
      · exact h
      · exact this
  · rw [insN_mem]; exact Or.comm
theorem putN_rise {out : List ByteArray} {s : ByteArray} (h : Rise out) : Rise (putN out s) := by
  unfold putN
  split
  · exact h
  · rename_i h'
    exact insN_rise h (hasN_no.1 (by simpa using h'))
theorem putN_len {out : List ByteArray} {s : ByteArray} : (putN out s).length ≤ out.length + 1 := by
  unfold putN
  split
  · omega
  · rw [insN_len]; omega
theorem foldN {l out : List ByteArray} (h : Rise out) : Rise (l.foldl putN out) ∧ (∀ t, t ∈ l.foldl putN out ↔ t ∈ out ∨ t ∈ l) ∧ (l.foldl putN out).length ≤ out.length + l.length := by
  induction l generalizing out with
  | nil => exact ⟨h, fun t => by simp, by simp⟩
  | cons x l ih =>
    obtain ⟨h1, h2, h3⟩ := ih (putN_rise (s := x) h)
    refine ⟨h1, fun t => ?_, ?_⟩
    · rw [List.foldl_cons, h2, putN_mem, List.mem_cons, or_assoc]
    · have := putN_len (out := out) (s := x)
      rw [List.foldl_cons, List.length_cons]; omega
theorem ofN_rise (l : List ByteArray) : Rise (ofN l) := (foldN Rise.nil).1
theorem ofN_mem {l : List ByteArray} {s : ByteArray} : s ∈ ofN l ↔ s ∈ l := by
  have := (foldN (l := l) Rise.nil).2.1 s
  simpa [ofN] using this
theorem ofN_len (l : List ByteArray) : (ofN l).length ≤ l.length := by
  have := (foldN (l := l) Rise.nil).2.2
  simpa [ofN] using this
theorem ofN_eq {l X : List ByteArray} (h : Rise X) (hm : ∀ s, s ∈ X ↔ s ∈ l) : X = ofN l := h.eq (ofN_rise l) fun s => by rw [hm, ofN_mem]
theorem ofN_has (l : List ByteArray) (s : ByteArray) : hasN (ofN l) s = hasN l s := by
  rw [Bool.eq_iff_iff, hasN_iff, hasN_iff, ofN_mem]

/-! ### how the document puts one at its place: from left to right -/
def stepN (s : ByteArray) (p : Bool × List ByteArray) (x : ByteArray) : Bool × List ByteArray :=
  if !p.1 && lessS s x then (true, p.2 ++ [s] ++ [x]) else (p.1, p.2 ++ [x])
def goN (s : ByteArray) (l : List ByteArray) (k : Nat) : Bool × List ByteArray := (l.take k).foldl (stepN s) (false, [])
def endN (s : ByteArray) (p : Bool × List ByteArray) : List ByteArray := if p.1 then p.2 else p.2 ++ [s]
theorem goN_next {s x : ByteArray} {l : List ByteArray} {k : Nat} (hx : l[k]? = some x) : goN s l (k + 1) = stepN s (goN s l k) x := by
  unfold goN
  rw [List.take_add_one, hx, List.foldl_append]
  rfl
theorem fold_true {s : ByteArray} : ∀ (l acc : List ByteArray), l.foldl (stepN s) (true, acc) = (true, acc ++ l)
  | [], acc => by simp
  | x :: l, acc => by
    rw [List.foldl_cons, show stepN s (true, acc) x = (true, acc ++ [x]) by simp [stepN], fold_true]
    simp
theorem fold_end {s : ByteArray} : ∀ (l acc : List ByteArray), endN s (l.foldl (stepN s) (false, acc)) = acc ++ insN s l
  | [], acc => by simp [endN, insN]
  | x :: l, acc => by
    rw [List.foldl_cons, insN]
    by_cases h : lessS s x = true
    · rw [show stepN s (false, acc) x = (true, acc ++ [s] ++ [x]) by simp [stepN, h], fold_true, if_pos h]
      simp [endN]
    · rw [show stepN s (false, acc) x = (false, acc ++ [x]) by simp [stepN, h], fold_end, if_neg h]
      simp
theorem goN_end (s : ByteArray) (l : List ByteArray) : endN s (goN s l l.length) = insN s l := by
  unfold goN
  rw [List.take_length, fold_end]
  rfl
theorem goN_len (s : ByteArray) (l : List ByteArray) (k : Nat) : (goN s l k).2.length ≤ l.length + k + 1 := by
  have : ∀ (m : List ByteArray) p, (m.foldl (stepN s) p).2.length ≤ p.2.length + 2 * m.length := by
    intro m
    induction m with
    | nil => intro p; simp
    | cons x m ih =>
      intro p
      have h1 := ih (stepN s p x)
      have h2 : (stepN s p x).2.length ≤ p.2.length + 2 := by unfold stepN; split <;> simp
      rw [List.foldl_cons, List.length_cons]; omega
  have h1 : (l.take k).length ≤ l.length := by simp; omega
  have h2 : (l.take k).length ≤ k := by simp; omega
  have := this (l.take k) (false, [])
  unfold goN
  simp only [List.length_nil] at this
  omega
/-! ### what is picked -/
def pickN (a b : List ByteArray) (is : Bool) : List ByteArray := ofN (a.filter fun s => hasN b s == is)
theorem pickN_mem {a b : List ByteArray} {is : Bool} {s : ByteArray} : s ∈ pickN a b is ↔ s ∈ a ∧ hasN b s = is := by
  unfold pickN
  rw [ofN_mem, List.mem_filter, beq_iff_eq]
theorem pickN_rise (a b : List ByteArray) (is : Bool) : Rise (pickN a b is) := ofN_rise _
def unionN (a b : List ByteArray) : List ByteArray := ofN (a ++ b)
theorem unionN_mem {a b : List ByteArray} {s : ByteArray} : s ∈ unionN a b ↔ s ∈ a ∨ s ∈ b := by
  unfold unionN
  rw [ofN_mem, List.mem_append]
def withinN (a b : List ByteArray) : Bool := decide ((pickN a b false).length = 0)
theorem withinN_iff {a b : List ByteArray} : withinN a b = true ↔ ∀ s, s ∈ a → s ∈ b := by
  unfold withinN
  rw [decide_eq_true_iff, List.length_eq_zero_iff, List.eq_nil_iff_forall_not_mem]
  constructor
  · intro h s hs
    cases hb : hasN b s with
    | true => exact hasN_iff.1 hb
    | false => exact absurd (pickN_mem.2 ⟨hs, hb⟩) (h s)
  · intro h s hs
    obtain ⟨h1, h2⟩ := pickN_mem.1 hs
    rw [hasN_iff.2 (h s h1)] at h2; cases h2
theorem filter_take {a : List ByteArray} {p : ByteArray → Bool} {x : ByteArray} {k : Nat} (hx : a[k]? = some x) : (a.take (k + 1)).filter p = (a.take k).filter p ++ if p x then [x] else [] := by
  rw [List.take_add_one, hx, List.filter_append]
  cases h : p x <;> simp [h]
end Go.Proofs.Ytcllflpfmpggoaa
