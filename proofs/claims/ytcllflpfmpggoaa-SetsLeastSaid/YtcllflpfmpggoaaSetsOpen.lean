/- What came in as a state lies in memory as a truth and a row of names. -/
import Derived.Test.YtcllflpfmpggoaaPathsOpen
namespace Go.Proofs.Ytcllflpfmpggoaa
open Go.RowKit
set_option linter.unusedVariables false

section
variable {H : Type} {enc : TypeId × Value → H} {w : World} {spare : Nat → Bool} {held : Bool}
theorem truthOf {fuel : Nat} {cs : List Value} {x : DataW H × List MemPlace} (h : DataW.trod enc Try.prog w 0 spare held fuel 4 cs = some x) : ∃ d : Bool, cs = [.bool d] := by
  obtain ⟨d, rfl, _⟩ := DataW.trod_bool Try.underlying4 h
  exact ⟨d, rfl⟩
theorem stateOf {fuel : Nat} {cs : List Value} {x : DataW H × List MemPlace} (h : DataW.trod enc Try.prog w 0 spare held fuel 32 cs = some x) (hw : Within Try.prog 32 x.1) :
    ∃ (d : Bool) (l : List ByteArray) (v : Value), cs = [.bool d, v] ∧ SIn w.heap.size w l v := by
  obtain ⟨xs, n, rfl, rfl, hlen, hxl, hf⟩ := DataW.trod_struct Try.underlying32 h
  rw [show Try.prog.cellsOf 32 = 2 from by kernel_rfl] at hlen
  obtain _ | ⟨k0, cs⟩ := cs
  · simp at hlen
  obtain _ | ⟨k1, cs⟩ := cs
  · simp at hlen
  obtain rfl : cs = [] := by
    cases cs with
    | nil => rfl
    | cons c cs => simp at hlen
  clear hlen
  obtain ⟨y0, y1, rfl⟩ : ∃ y0 y1, xs = [y0, y1] := by
    rcases xs with _ | ⟨y0, _ | ⟨y1, _ | ⟨y2, xs⟩⟩⟩
    · simp at hxl
    · simp at hxl
    · exact ⟨y0, y1, rfl⟩
    · simp at hxl
  have w1 : Within Try.prog 22 y1.1 := fun q hq => hw q (by
    simp only [DataW.weights, Try.underlying32]
    exact List.mem_append.2 (.inr (List.mem_append.2 (.inl hq))))
  have fa := hf 0 _ rfl
  change DataW.trod enc Try.prog w 0 spare held n 4 ((List.drop 0 [k0, k1]).take (Try.prog.cellsOf 4)) = some y0 at fa
  rw [show Try.prog.cellsOf 4 = 1 from by kernel_rfl] at fa
  replace fa : DataW.trod enc Try.prog w 0 spare held n 4 [k0] = some _ := fa
  have fb := hf 1 _ rfl
  change DataW.trod enc Try.prog w 0 spare held n 22 ((List.drop 1 [k0, k1]).take (Try.prog.cellsOf 22)) = some y1 at fb
  rw [show Try.prog.cellsOf 22 = 1 from by kernel_rfl] at fb
  replace fb : DataW.trod enc Try.prog w 0 spare held n 22 [k1] = some _ := fb
  obtain ⟨d, e0⟩ := truthOf fa
  obtain ⟨l, v, e1, hl⟩ := stringsOf fb w1
  cases e0
  cases e1
  exact ⟨d, l, _, rfl, hl⟩
end
end Go.Proofs.Ytcllflpfmpggoaa
