/- A closure that is asked of loans, one behind the other; what it keeps, what it turns. -/
import Derived.Test.YtaoalplglfdobaaDoorLoansBeside
import Derived.Test.YtaoalplglfdobaaDoorLoansSpoil
import Derived.Test.YtaoalplglfdobaaDoorPathsWith
namespace Go.Proofs.YtaoalplglfdobaaDoor
open Go.RowKit
set_option linter.unusedVariables false

/-- of what was there, nothing has turned but the blocks in Q -/
structure Turn (Q : Nat → Prop) (w w' : World) : Prop where
  os : w'.os = w.os
  tape : w'.tape = w.tape
  output : w'.output = w.output
  size : w.heap.size ≤ w'.heap.size
  block : ∀ k, k < w.heap.size → ¬ Q k → w'.heap[k]? = w.heap[k]?
theorem Turn.refl (Q : Nat → Prop) (w : World) : Turn Q w w := ⟨rfl, rfl, rfl, Nat.le_refl _, fun _ _ _ => rfl⟩
theorem Turn.trans {Q : Nat → Prop} {w w1 w2 : World} (h : Turn Q w w1) (k : Turn Q w1 w2) : Turn Q w w2 :=
  ⟨k.os.trans h.os, k.tape.trans h.tape, k.output.trans h.output, Nat.le_trans h.size k.size, fun j hj hq => (k.block j (Nat.lt_of_lt_of_le hj h.size) hq).trans (h.block j hj hq)⟩
theorem Turn.of_below {Q : Nat → Prop} {w w' : World} (h : Below w.heap.size w w') : Turn Q w w' := ⟨h.os, h.tape, h.output, h.size, fun k hk _ => h.block k hk⟩
theorem Turn.of_grown {Q : Nat → Prop} {w w' : World} {row : Option Nat} (h : w.grownBy w' row) (hr : ∀ k, row = some k → Q k) : Turn Q w w' := ⟨h.os, h.tape, h.output, h.size, fun k hk hq => h.block k hk fun e => hq (hr k e.symm)⟩
theorem Turn.weak {Q Q' : Nat → Prop} {w w' : World} (h : Turn Q w w') (hQ : ∀ k, Q k → Q' k) : Turn Q' w w' := ⟨h.os, h.tape, h.output, h.size, fun k hk hq => h.block k hk fun e => hq (hQ k e)⟩
theorem Turn.below {Q : Nat → Prop} {w w' : World} {B : Nat} (h : Turn Q w w') (hB : B ≤ w.heap.size) (hQ : ∀ k, Q k → B ≤ k) : Below B w w' :=
  ⟨h.os, h.tape, h.output, h.size, fun k hk => h.block k (Nat.lt_of_lt_of_le hk hB) fun q => by have := hQ k q; omega⟩
/-- new blocks may be turned as one likes -/
theorem Turn.fresh {Q : Nat → Prop} {w w1 w2 : World} (h : Turn Q w w1) (k : Below w.heap.size w1 w2) : Turn Q w w2 :=
  ⟨k.os.trans h.os, k.tape.trans h.tape, k.output.trans h.output, Nat.le_trans h.size k.size, fun j hj hq => (k.block j hj).trans (h.block j hj hq)⟩
theorem Turn.cell {Q : Nat → Prop} {w w' : World} (h : Turn Q w w') {b o : Nat} {v : Value} (hc : w.cell? ⟨b, o, none⟩ = some v) (hq : ¬ Q b) : w'.cell? ⟨b, o, none⟩ = some v :=
  (World.cell?_of_block (w := w) (h.block b (World.block_lt_of_cell? w _ hc) hq)).trans hc
theorem Turn.frozen {Q : Nat → Prop} {w w' : World} (h : Turn Q w w') {b o : Nat} {v : Bool} (hlt : b < w.heap.size) (hc : w.frozen? ⟨b, o, none⟩ = v) (hq : ¬ Q b) : w'.frozen? ⟨b, o, none⟩ = v :=
  (World.frozen?_of_block (w := w) (h.block b hlt hq)).trans hc
theorem Turn.own {Q : Nat → Prop} {w w' : World} {base : Nat} {e : TypeId} {size : Nat} {v : Value} {n : Nat} {xs : List Value} (h : Turn Q w w') (ho : w.ownsRow base e size v n xs) (hq : ∀ k, base ≤ k → ¬ Q k) : w'.ownsRow base e size v n xs := by
  refine ⟨ho.1, ?_⟩
  rcases ho.2 with hn | ⟨g, cap, cur, rfl, hb, hgg, rest⟩
  · exact .inl hn
  · refine .inr ⟨g, cap, cur, rfl, hb, ?_, rest⟩
    have hlt : g < w.heap.size := by
      rcases Nat.lt_or_ge g w.heap.size with h' | h'
      · exact h'
      · simp [Array.getElem?_eq_none h'] at hgg
    exact (h.block g hlt (hq g hb)).trans hgg

/-- a function value that is asked of loans: what it leans on lies in blocks of C, what it turns in blocks of Q; acc: what it was asked of already -/
structure Asks (B : Nat) (g : FuncId) (lb : Array Value) (C Q : Nat → Prop) (I : List LN → World → Prop) (p : List LN → LN → Bool) (ok : LN → Prop) : Prop where
  enters : ∀ args w, (callFunc g args).run Tryd.prog w = .ok (.enter g args) w
  sub : ∀ k, Q k → C k
  above : ∀ k, Q k → B ≤ k
  has : ∀ acc W, I acc W → ∀ k, C k → k < W.heap.size
  stay : ∀ acc W W', I acc W → (∀ k, C k → W'.heap[k]? = W.heap[k]?) → Below B W W' → I acc W'
  calls : ∀ acc (x : LN) v W, acc.length ≤ 1000 → B ≤ W.heap.size → I acc W → x.place.In B W v → ok x →
    Calls Tryd.prog g (#[.agg #[.string x.place.name, v, .bool x.alone, .int .i64 x.till]] ++ lb) W fun e W' => e = .returned (.bool (p acc x)) ∧ I (acc ++ [x]) W' ∧ Turn Q W W'

/-- the loans of which it says yes -/
def keptA (p : List LN → LN → Bool) (acc : List LN) : List LN → List LN
  | [] => []
  | x :: l => (if p acc x then [x] else []) ++ keptA p (acc ++ [x]) l
theorem keptA_snoc (p : List LN → LN → Bool) (acc l : List LN) (y : LN) : keptA p acc (l ++ [y]) = keptA p acc l ++ if p (acc ++ l) y then [y] else [] := by
  induction l generalizing acc with
  | nil => simp [keptA]
  | cons x l ih => simp [keptA, ih]
theorem keptA_take {p : List LN → LN → Bool} {l : List LN} {y : LN} {k : Nat} (hy : l[k]? = some y) : keptA p [] (l.take (k + 1)) = keptA p [] (l.take k) ++ if p (l.take k) y then [y] else [] := by
  rw [List.take_add_one, hy]
  exact keptA_snoc p [] _ y
theorem keptA_len (p : List LN → LN → Bool) (acc l : List LN) : (keptA p acc l).length ≤ l.length := by
  induction l generalizing acc with
  | nil => simp [keptA]
  | cons x l ih =>
    have := ih (acc ++ [x])
    simp only [keptA, List.length_append, List.length_cons]
    split <;> simp <;> omega
theorem keptA_mem {p : List LN → LN → Bool} {acc l : List LN} {x : LN} (h : x ∈ keptA p acc l) : x ∈ l := by
  induction l generalizing acc with
  | nil => cases h
  | cons y l ih =>
    simp only [keptA, List.mem_append] at h
    rcases h with h | h
    · split at h
      · rw [List.mem_singleton] at h; subst h; simp
      · cases h
    · exact List.mem_cons_of_mem _ (ih h)
theorem keptA_plain (p : LN → Bool) (acc l : List LN) : keptA (fun _ x => p x) acc l = l.filter p := by
  induction l generalizing acc with
  | nil => rfl
  | cons y l ih =>
    simp only [keptA, ih, List.filter_cons]
    by_cases h : p y = true <;> simp [h]
/-- the document's union: the first one's, then those that it asks of -/
theorem unionB_kept (a b : List LN) : unionB a b = a ++ keptA (fun acc x => !hasB (a ++ acc) x) [] b := by
  have key : ∀ (l acc s : List LN), (∀ x, hasB s x = hasB (a ++ acc) x) → l.foldl addB s = s ++ keptA (fun acc x => !hasB (a ++ acc) x) acc l := by
    intro l
    induction l with
    | nil => intro acc s h; simp [keptA]
    | cons y l ih =>
      intro acc s h
      rw [List.foldl_cons, keptA]
      have h2 : ∀ x, hasB (addB s y) x = hasB (a ++ (acc ++ [y])) x := by
        intro x
        rw [Bool.eq_iff_iff, hasB_iff, hasB_iff, addB_mem]
        have := h x
        rw [Bool.eq_iff_iff, hasB_iff, hasB_iff] at this
        rw [this]
        simp [or_assoc]
      rw [ih (acc ++ [y]) _ h2, ← List.append_assoc]
      congr 1
      unfold addB
      rw [h y]
      cases hasB (a ++ acc) y <;> simp
  exact key b [] a (by simp)
end Go.Proofs.YtaoalplglfdobaaDoor
