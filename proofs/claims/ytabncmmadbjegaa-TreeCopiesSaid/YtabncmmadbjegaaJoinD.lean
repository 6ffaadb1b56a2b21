/- Contracts of package lex, part 3b: whether a text is one of the words: looked for in the list of words, with a blank around each. -/
import Derived.Test.YtabncmmadbjegaaJoinC
import Derived.Lib.IndexMore
import Derived.Lib.Hide
import Derived.BigQuiet
import Derived.Below
import Derived.Laws.World
namespace Go.Proofs.Ytabncmmadbjegaa
open Go.RowKit
set_option linter.unusedVariables false

def wordText : List UInt8 := [108, 101, 116, 32, 105, 102, 32, 101, 108, 115, 101, 32, 119, 104, 105, 108, 101, 32, 109, 97, 116, 99, 104, 32, 115, 99, 111, 112, 101, 32, 115, 112, 97, 119, 110, 32, 108, 111, 99, 107, 32, 97, 115, 32, 99, 104, 97, 110, 32, 100, 114, 111, 112, 32, 102, 110, 32, 115, 116, 114, 117, 99, 116, 32, 101, 110, 117, 109, 32, 116, 114, 117, 101, 32, 102, 97, 108, 115, 101, 32, 97, 110, 100, 32, 111, 114, 32, 110, 111, 116, 32, 105, 110, 116, 32, 98, 111, 111, 108, 32, 117, 110, 105, 116, 32, 109, 117, 116, 32, 98, 111, 120, 32, 117, 110, 98, 111, 120, 32, 99, 101, 108, 108, 32, 103, 101, 116, 32, 115, 101, 116, 32, 114, 99, 32, 97, 114, 99, 32, 99, 108, 111, 110, 101, 32, 109, 117, 116, 101, 120, 32, 111, 112, 101, 110, 32, 97, 116, 111, 109, 105, 99, 32, 108, 111, 97, 100, 32, 115, 116, 111, 114, 101, 32, 102, 101, 116, 99, 104, 32, 115, 101, 110, 100, 32, 114, 101, 99, 118, 32, 66, 111, 120, 32, 67, 101, 108, 108, 32, 82, 99, 32, 65, 114, 99, 32, 77, 117, 116, 101, 120, 32, 65, 116, 111, 109, 105, 99, 32, 83, 101, 110, 100, 101, 114, 32, 82, 101, 99, 101, 105, 118, 101, 114]

theorem words_len : wordsL.length = 47 := by decide +kernel
theorem words_short (k : Nat) : (wordsL.getD k []).length ≤ 8 := by
  have h : wordsL.all (fun l => decide (l.length ≤ 8)) = true := by decide +kernel
  by_cases hk : k < wordsL.length
  · simpa using List.all_eq_true.1 h (wordsL.getD k []) (by simp [List.getD, hk])
  · simp [List.getD, List.getElem?_eq_none (by omega : wordsL.length ≤ k)]

/-! ### between two blanks -/
theorem contains_cons (b : UInt8) (r sub : List UInt8) : Lib.contains (b :: r) sub = (sub.isPrefixOf (b :: r) || Lib.contains r sub) := by
  have hge := Lib.index_ge r sub
  unfold Lib.contains
  rw [Lib.index]
  by_cases h : sub.isPrefixOf (b :: r) = true
  · rw [if_pos h, h]; rfl
  · have h' : sub.isPrefixOf (b :: r) = false := Bool.eq_false_iff.2 h
    rw [if_neg h, h', Bool.false_or]
    by_cases h2 : Lib.index r sub = -1
    · rw [h2]; rfl
    · rw [if_neg (by simpa using h2)]
      rw [Bool.eq_iff_iff, decide_eq_true_eq, decide_eq_true_eq]; omega
/-- a text without a blank, and a blank, stand at the beginning just if they are what stands ahead of the first blank there -/
theorem prefix_blank : ∀ (l r : List UInt8), l.contains 32 = false → (l ++ [32]).isPrefixOf r = (r.contains 32 && (r.takeWhile (fun c => c != 32) == l))
  | [], [], _ => rfl
  | [], c :: r, _ => by
    by_cases h : c = 32
    · subst h; simp
    · have h2 : (32 == c) = false := by rw [beq_eq_false_iff_ne]; exact fun e => h e.symm
      simp [List.isPrefixOf, h, h2]
  | a :: l, [], _ => by simp
  | a :: l, c :: r, hl => by
    rw [List.contains_cons, Bool.or_eq_false_iff] at hl
    have ih := prefix_blank l r hl.2
    have ha : ¬ a = 32 := fun e => by subst e; simp at hl
    rw [List.cons_append, List.isPrefixOf, ih]
    by_cases h : c = 32
    · subst h
      simp [ha]
    · have h2 : (32 == c) = false := by rw [beq_eq_false_iff_ne]; exact fun e => h e.symm
      rw [List.contains_cons, h2, Bool.false_or, List.takeWhile_cons, if_pos (by simpa using h)]
      by_cases h3 : a = c
      · subst h3; simp
      · have h4 : ¬ c = a := fun e => h3 e.symm
        have h5 : (a == c) = false := by rw [beq_eq_false_iff_ne]; exact h3
        have h6 : (c == a) = false := by rw [beq_eq_false_iff_ne]; exact h4
        rw [List.cons_beq_cons, h5, h6]; simp
/-- what stands between two blanks of a text -/
def betweenL : List UInt8 → List (List UInt8)
  | [] => []
  | c :: r => if (c == 32 && r.contains 32) = true then r.takeWhile (fun c => c != 32) :: betweenL r else betweenL r
theorem contains_between (l : List UInt8) (hl : l.contains 32 = false) : ∀ s : List UInt8, Lib.contains s (32 :: (l ++ [32])) = (betweenL s).contains l
  | [] => rfl
  | c :: r => by
    rw [contains_cons, contains_between l hl r, betweenL, List.isPrefixOf, prefix_blank l r hl]
    by_cases h : c = 32
    · subst h
      by_cases h2 : r.contains 32 = true
      · rw [if_pos (by rw [h2]; rfl), h2, List.contains_cons]
        have : (List.takeWhile (fun c => c != 32) r == l) = (l == List.takeWhile (fun c => c != 32) r) := by
          rw [Bool.eq_iff_iff, beq_iff_eq, beq_iff_eq]; exact ⟨fun e => e.symm, fun e => e.symm⟩
        rw [this]; simp
      · rw [Bool.not_eq_true] at h2
        rw [if_neg (by rw [h2]; simp), h2]; simp
    · have h2 : (32 == c) = false := by rw [beq_eq_false_iff_ne]; exact fun e => h e.symm
      have h3 : (c == 32) = false := by rw [beq_eq_false_iff_ne]; exact h
      rw [if_neg (by rw [h3]; simp), h2]; simp
theorem between_words : betweenL (32 :: (wordText ++ [32])) = wordsL := by decide +kernel
theorem words_blank (l : List UInt8) (h : l.contains 32 = true) : wordsL.contains l = false := by
  have ha : wordsL.all (fun l => !l.contains 32) = true := by decide +kernel
  rw [Bool.eq_false_iff]
  intro hc
  have := List.all_eq_true.1 ha l (by simpa using hc)
  rw [h] at this; simp at this
theorem words_few (l : List UInt8) (h : 16 < l.length) : wordsL.contains l = false := by
  have ha : wordsL.all (fun l => decide (l.length ≤ 16)) = true := by decide +kernel
  rw [Bool.eq_false_iff]
  intro hc
  have := List.all_eq_true.1 ha l (by simpa using hc)
  rw [decide_eq_true_eq] at this; omega
theorem index_blank (l : List UInt8) : Lib.contains l [32] = l.contains 32 := by
  induction l with
  | nil => rfl
  | cons c r ih =>
    rw [contains_cons, ih, List.contains_cons]
    simp [List.isPrefixOf]

/-! ### the walk -/
set_option maxRecDepth 100000 in
theorem text_short : (32 :: (wordText ++ [32])).length < 4294967281 := by decide +kernel
theorem word_in (s : ByteArray) (hs : s.data.toList.contains 32 = false) : Lib.contains (32 :: (wordText ++ [32])) ((⟨#[32]⟩ ++ s ++ ⟨#[32]⟩ : ByteArray)).data.toList = wordsL.contains s.data.toList := by
  have e : ((⟨#[32]⟩ ++ s ++ ⟨#[32]⟩ : ByteArray)).data.toList = 32 :: (s.data.toList ++ [32]) := by simp [ByteArray.data_append]
  rw [e, contains_between _ hs, between_words]
end Go.Proofs.Ytabncmmadbjegaa
/- Contracts of package lex, fifth part: of which kind of token the whole of a text is. -/
namespace Go.Proofs.Ytabncmmadbjegaa
open Go.RowKit
set_option linter.unusedVariables false

theorem kind_word {l : List UInt8} (h0 : l ≠ []) (h : wordsL.contains l = true) : kindL l = 1 := by unfold kindL; rw [if_neg h0, if_pos h]
theorem kind_small {l : List UInt8} (h0 : l ≠ []) (h : wordsL.contains l = false) (h1 : headB smallB l = true) (h2 : likeL l = true) : kindL l = 2 := by
  unfold kindL; rw [if_neg h0, if_neg (by rw [h]; simp), if_pos (by simp [h1, h2])]
theorem kind_great {l : List UInt8} (h0 : l ≠ []) (h : wordsL.contains l = false) (h1 : headB smallB l = false) (h2 : headB greatB l = true) (h3 : likeL l = true) : kindL l = 3 := by
  unfold kindL; rw [if_neg h0, if_neg (by rw [h]; simp), if_neg (by simp [h1]), if_pos (by simp [h2, h3])]
theorem kind_digit {l : List UInt8} (h0 : l ≠ []) (h : wordsL.contains l = false) (h1 : headB smallB l = false) (h2 : headB greatB l = false) (h3 : headB dgt l = true) (h4 : decide (pe l = 0) = true) : kindL l = 4 := by
  unfold kindL; rw [if_neg h0, if_neg (by rw [h]; simp), if_neg (by simp [h1]), if_neg (by simp [h2]), if_pos (by rw [h3, h4]; rfl)]
theorem kind_else {l : List UInt8} (h0 : l ≠ []) (h : wordsL.contains l = false) (h1 : (headB smallB l && likeL l) = false) (h2 : (headB greatB l && likeL l) = false) (h3 : (headB dgt l && decide (pe l = 0)) = false) : kindL l = if signL l = true then 5 else 0 := by
  unfold kindL; rw [if_neg h0, if_neg (by rw [h]; simp), if_neg (by simp [h1]), if_neg (by simp [h2]), if_neg (by rw [h3]; simp)]
theorem small_not {c : UInt8} (h : smallB c = true) : greatB c = false ∧ dgt c = false := by
  rw [smallB_iff] at h; exact ⟨greatB_no (by omega), dgt_no (by omega)⟩
theorem great_not {c : UInt8} (h : greatB c = true) : dgt c = false := by
  rw [greatB_iff] at h; exact dgt_no (by omega)
theorem ret_u8 {a b : Int} (h : a = b) : Ending.returned (.int .u8 a) = .returned (.int .u8 b) := by rw [h]

end Go.Proofs.Ytabncmmadbjegaa
/- Contracts of package lex, sixth part: Word, Name, Type. -/
namespace Go.Proofs.Ytabncmmadbjegaa
open Go.RowKit
set_option linter.unusedVariables false

theorem kind_is (n k : Nat) : ((n : Int) == (k : Int)) = decide (n = k) := by
  rw [Bool.eq_iff_iff, beq_iff_eq, decide_eq_true_eq]; omega

end Go.Proofs.Ytabncmmadbjegaa
/- What fits, first part: texts, places, lists of names (made by gen_fits1.py). -/
namespace Go.Proofs.Ytabncmmadbjegaa
open Go.RowKit
set_option linter.unusedVariables false

theorem nul_size (s : ByteArray) : (s.toList = []) = (s.size = 0) := by
  rw [ByteArray.toList_eq]
  apply propext
  constructor
  · intro h
    obtain ⟨⟨l⟩⟩ := s
    have : l = [] := h
    subst this; rfl
  · intro h
    obtain ⟨⟨l⟩⟩ := s
    have : l = [] := by simpa [ByteArray.size] using h
    subst this; rfl
theorem old_cells' {W w1 : World} (hb : Below W.heap.size W w1) : ∀ b o, b < W.heap.size → w1.cell? ⟨b, o, none⟩ = W.cell? ⟨b, o, none⟩ := old_cells hb
theorem any_no {α : Type} {p : α → Bool} {l : List α} (h : ∀ (j : Nat) x, l[j]? = some x → p x = false) : l.any p = false := by
  rw [Bool.eq_false_iff]
  intro hc
  obtain ⟨x, hx, hp⟩ := List.any_eq_true.1 hc
  obtain ⟨j, hj⟩ := List.mem_iff_getElem?.1 hx
  rw [h j x hj] at hp; simp at hp
theorem any_yes {α : Type} {p : α → Bool} {l : List α} {k : Nat} {x : α} (h : l[k]? = some x) (hp : p x = true) : l.any p = true := List.any_eq_true.2 ⟨x, List.mem_of_getElem? h, hp⟩
theorem ret_i64 {a b : Int} (h : a = b) : Ending.returned (.int .i64 a) = .returned (.int .i64 b) := by rw [h]

theorem not_any (l : List ByteArray) (p : ByteArray → Bool) : (!(l.any fun s => !p s)) = l.all p := by
  induction l with
  | nil => rfl
  | cons a l ih => simp [List.any_cons, List.all_cons, ← ih, Bool.not_or]
end Go.Proofs.Ytabncmmadbjegaa
/- What fits, second part: lists of names, the zero place, the shapes of types and expressions. -/
namespace Go.Proofs.Ytabncmmadbjegaa
open Go.RowKit
set_option linter.unusedVariables false

theorem zeroP_in (B : Nat) (w : World) : zeroP.In B w (.slice none 0 0) := ⟨by simp [zeroP], 0, 0, ⟨by unfold maxLen; simp [zeroP], none, 0, rfl, .inl rfl⟩, trivial⟩
theorem zeroT_in (B : Nat) (w : World) : zeroT.In B w (.slice none 0 0) := ⟨⟨by unfold U8; decide, by decide⟩, 0, 0, ⟨by unfold maxLen; simp, none, 0, rfl, .inl rfl⟩, trivial⟩
theorem zeroE_in (B : Nat) (w : World) : zeroE.In B w ⟨.slice none 0 0, .slice none 0 0⟩ := ⟨⟨by unfold U8; decide, by unfold I64; decide, by unfold I64; decide, by decide, by decide⟩, zeroP_in B w, 0, 0, ⟨by unfold maxLen; simp, none, 0, rfl, .inl rfl⟩, trivial⟩
/-! ### the shapes -/
theorem results_cell1 {fn : Func} {p : Tmp} {ty : TypeId} (h : fn.results = #[.cell p ty]) (tmps : Array Value) (P : Program) (w : World) :
    (results fn tmps).run P w = ((asAddr (tmps.getD p undef)).run P w).andThen fun a w₁ => (loadVar ty a).run P w₁ := by
  simp [results, h, Sem.run_bind, Result.andThen]
def TSh.cells (h : TSh) : Array Value := #[.bool h.known, .int .u8 h.name, .int .i64 h.args]
def ESh.cells (h : ESh) : Array Value := #[.bool h.known, .int .i64 h.greatest, .int .u8 h.name, .int .u8 h.second, .bool h.place, .bool h.fields, .int .i64 h.fewest, .int .i64 h.most]
theorem ne_beq {k j : Int} (h : k ≠ j) : (k == j) = false := beq_eq_false_iff_ne.2 h
theorem box1 (w : World) (o : Obj) : Below w.heap.size w (w.alloc o) := (Below.refl _ w).alloc (Nat.le_refl _) _
end Go.Proofs.Ytabncmmadbjegaa
/- A region that draws its order, reads old memory alone, and calls what makes memory: one walk in the order of the text, over all worlds that lie over the one it began in. -/
namespace Go.Proofs.Ytabncmmadbjegaa
open Go.RowKit
set_option linter.unusedVariables false

/-- a world over W0: all that was there lies as it lay -/
structure Over (W0 : World) where
  w : World
  h : Below W0.heap.size W0 w
def Over.base (W0 : World) : Over W0 := ⟨W0, Below.refl _ _⟩
def Over.next {W0 : World} (n : Over W0) {w' : World} (b : Below n.w.heap.size n.w w') : Over W0 := ⟨w', n.h.trans (b.mono n.h.size)⟩
instance overSome (W0 : World) : Nonempty (Over W0) := ⟨Over.base W0⟩
theorem Over.cells {W0 : World} : ∀ (n : Over W0) (b o : Nat), b < W0.heap.size → n.w.cell? ⟨b, o, none⟩ = W0.cell? ⟨b, o, none⟩ := fun n b o h => n.h.cell (p := ⟨b, o, none⟩) h
theorem wp_region_over {P : Program} {id : Nat} {Q : Exit → Act → World → Prop} {a : Act} {w : World} {l : List Oper} (hm : P.follows .mixedOrders = true) (hB : Region.lexB .any l.toArray = true)
    (h : wpQuiet P l.toArray (fun w' => ∃ n : Over w, w' = n.w) (fun a' => ∀ w', (∃ n : Over w, w' = n.w) → Q .normal a' w') l a) : (Code.region id l.toArray true).wp P Q a w :=
  wp_region_quiet (C := fun w' => ∃ n : Over w, w' = n.w) hm hB ⟨⟨w.drew, (Below.refl _ w).drew⟩, rfl⟩ (by simpa using h)
theorem over_calls {P : Program} {W0 : World} {n : Over W0} {f : FuncId} {args : Array Value} {v : Value}
    (h : Calls P f args n.w fun e w' => e = .returned v ∧ Below n.w.heap.size n.w w') : Calls P f args n.w fun e w'' => e = .returned v ∧ ∃ m : Over W0, w'' = m.w :=
  h.mono fun e w ⟨he, b⟩ => ⟨he, n.next b, rfl⟩
end Go.Proofs.Ytabncmmadbjegaa
/- What fits, third part: types. -/
namespace Go.Proofs.Ytabncmmadbjegaa
open Go.RowKit
set_option linter.unusedVariables false

end Go.Proofs.Ytabncmmadbjegaa
