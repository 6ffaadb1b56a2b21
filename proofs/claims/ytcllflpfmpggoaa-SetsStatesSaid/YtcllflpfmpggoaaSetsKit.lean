/- What the laws' walks share. -/
import Derived.Test.YtcllflpfmpggoaaSetsAwake
import Derived.Test.YtcllflpfmpggoaaSetsLaw
import Derived.Test.YtcllflpfmpggoaaSetsRef2
namespace Go.Proofs.Ytcllflpfmpggoaa
open Go.RowKit
set_option linter.unusedVariables false

theorem hid_up {w W W' : World} (h : Hid (Below w.heap.size w W)) (b : Below W.heap.size W W') : Hid (Below w.heap.size w W') := Lib.hid (h.out.trans (b.mono h.out.size))
theorem SIn.up {W W' : World} {l : List ByteArray} {v : Value} (h : Hid (SIn W.heap.size W l v)) (b : Below W.heap.size W W') : Hid (SIn W'.heap.size W' l v) := Lib.hid ((h.out.below b).mono b.size)
theorem SIn.to {w W : World} {l : List ByteArray} {v : Value} (h : Hid (SIn w.heap.size w l v)) (b : Hid (Below w.heap.size w W)) : SIn W.heap.size W l v := (h.out.below b.out).mono b.out.size
theorem union_len (a b : List ByteArray) : (unionN a b).length ≤ a.length + b.length := by
  unfold unionN
  have := ofN_len (a ++ b)
  rwa [List.length_append] at this
theorem pick_self (a : List ByteArray) : pickN a a true = ofN a := by
  refine (pickN_rise _ _ _).eq (ofN_rise _) fun s => ?_
  rw [pickN_mem, ofN_mem, hasN_iff, and_self]
theorem same_of {X Y : List ByteArray} (h : ∀ s, s ∈ X ↔ s ∈ Y) : sameB X Y = true := by
  unfold sameB
  rw [withinN_iff.2 fun s hs => (h s).1 hs, withinN_iff.2 fun s hs => (h s).2 hs]
  rfl
theorem pick_true {a b : List ByteArray} {s : ByteArray} : s ∈ pickN a b true ↔ s ∈ a ∧ s ∈ b := by rw [pickN_mem, hasN_iff]
theorem pick_false {a b : List ByteArray} {s : ByteArray} : s ∈ pickN a b false ↔ s ∈ a ∧ s ∉ b := by rw [pickN_mem, hasN_no]
theorem has_union (a b : List ByteArray) (s : ByteArray) : hasN (unionN a b) s = (hasN a s || hasN b s) := by
  rw [Bool.eq_iff_iff, Bool.or_eq_true, hasN_iff, hasN_iff, hasN_iff, unionN_mem]
theorem has_common (a b : List ByteArray) (s : ByteArray) : hasN (pickN a b true) s = (hasN a s && hasN b s) := by
  rw [Bool.eq_iff_iff, Bool.and_eq_true, hasN_iff, hasN_iff, hasN_iff, pick_true]
theorem has_minus (a b : List ByteArray) (s : ByteArray) : hasN (pickN a b false) s = (hasN a s && !hasN b s) := by
  rw [Bool.eq_iff_iff, Bool.and_eq_true, hasN_iff, hasN_iff, Bool.not_eq_true', hasN_no, pick_false]
theorem union_rise (a b : List ByteArray) : Rise (unionN a b) := ofN_rise _
section
variable {W : World} {X Y : List ByteArray} {v1 v2 : Value}
theorem ref_same_row (h1 : SIn W.heap.size W X v1) (h2 : SIn W.heap.size W X v2) : Calls Try.prog 12 #[v1, v2] W fun e w' => e = .returned (.bool true) ∧ Below W.heap.size W w' := by
  have h := refSame_calls W.heap.size X X v1 v2 W (Nat.le_refl _) h1 h2
  rwa [sameN_refl] at h
theorem same_row (hm : ∀ s, s ∈ X ↔ s ∈ Y) (l1 : X.length ≤ 1000) (l2 : Y.length ≤ 1000) (h1 : SIn W.heap.size W X v1) (h2 : SIn W.heap.size W Y v2) : Calls Try.prog 22 #[v1, v2] W fun e w' => e = .returned (.bool true) ∧ Below W.heap.size W w' := by
  have h := same_calls W.heap.size X Y v1 v2 l1 l2 W (Nat.le_refl _) h1 h2
  rwa [same_of hm] at h
theorem ref_pick_row (is : Bool) (hl : X.length ≤ 1000) (h1 : SIn W.heap.size W X v1) (h2 : SIn W.heap.size W Y v2) :
    Calls Try.prog 20 #[v1, v2, .bool is] W fun e w' => ∃ v', e = .returned v' ∧ SIn w'.heap.size w' (pickN X Y is) v' ∧ Below W.heap.size W w' := by
  refine (refPick_calls W.heap.size X Y v1 v2 is hl W (Nat.le_refl _) h1 h2).mono ?_
  rintro e w' ⟨ao, cap, h, hi, hb⟩
  exact ⟨_, h, hi, hb⟩
theorem has_row {s : ByteArray} {r : Bool} (hr : hasN X s = r) (h1 : SIn W.heap.size W X v1) : Calls Try.prog 14 #[v1, .string s] W fun e w' => e = .returned (.bool r) ∧ Below W.heap.size W w' := by
  subst hr
  refine (has_calls W.heap.size X s v1 W (Nat.le_refl _) h1).mono ?_
  rintro e w' ⟨h, rfl⟩
  exact ⟨h, Below.refl _ _⟩
end
end Go.Proofs.Ytcllflpfmpggoaa
