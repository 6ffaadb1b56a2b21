/- TreeBlock: the two programs in memory. -/
import Derived.Test.YtabncmmadbjegaaGreatJoinH
import Derived.Test.YtabncmmadbjegaaGreatJoinL
namespace Go.Proofs.YtabncmmadbjegaaGreat
open Go.RowKit Go.Shelf
set_option linter.unusedVariables false

def bodyCells (v : Value) : List Value := [.int .u8 3, .string ⟨#[109, 97, 105, 110]⟩, .slice none 0 0, .int .u8 1, .string ByteArray.empty, .slice none 0 0, v, .int .u8 1, .int .i64 0, .string ByteArray.empty, .string ByteArray.empty, .string ByteArray.empty, .slice none 0 0, .slice none 0 0, .int .i64 0, .int .i64 0]
def SLIn (B : Nat) (w : World) (l : List PS) (v : Value) : Prop := ∃ b o, SlV B v l.length b o ∧ PS.Row B w b o l
theorem SLIn.below {B : Nat} {w w' : World} {l : List PS} {v : Value} (h : SLIn B w l v) (k : Below B w w') : SLIn B w' l v := by
  obtain ⟨b, o, h1, h2⟩ := h
  exact ⟨b, o, h1, PS.Row.below' k h1 h2⟩
theorem SLIn.later {B C : Nat} {w : World} {l : List PS} {v : Value} (h : SLIn B w l v) (k : B ≤ C) : SLIn C w l v := by
  obtain ⟨b, o, h1, h2⟩ := h
  exact ⟨b, o, h1.up k, PS.Row.reads k (fun _ _ h => h) h2⟩
theorem set6 {W : World} {g : Nat} {T : TypeId} {x : Value} (v : Value) (h : W.heap[g]? = some (.cells (bodyCells x).toArray T (0, 0))) : CellsAt (W.setCell ⟨g, 6, none⟩ v) g 0 (bodyCells v) := by
  intro i u hi
  have hc := block_cells h
  by_cases e : i = 6
  · subst e
    obtain rfl : v = u := by simpa [bodyCells] using hi
    exact World.cell?_setCell_same' _ _ _ (by have := hc 6 _ rfl; simp at this; rw [this]; rfl)
  · rw [World.cell?_setCell_other _ _ _ _ (by first | (simp; done) | (simp; omega))]
    refine hc i u ?_
    rcases i with _|_|_|_|_|_|_|_|_|_|_|_|_|_|_|_|i <;> first | (exact absurd rfl e) | (simp [bodyCells] at hi; done) | (simpa [bodyCells] using hi)
theorem body_in {B g : Nat} {W : World} {l : List PS} {v : Value} (hg : g < B) (hc : CellsAt W g 0 (bodyCells v)) (hl : SLIn B W l v) : ProgIn B W [bodyI l] (.slice (some ⟨g, 0, none⟩) 1 1) := by
  refine ⟨g, 0, ⟨by unfold maxLen; simp, _, 1, rfl, .inr ⟨rfl, hg⟩⟩, ⟨⟨.slice none 0 0, .slice none 0 0, v, ⟨.slice none 0 0, .slice none 0 0⟩⟩, hc, ?_⟩, trivial⟩
  refine ⟨⟨(by unfold U8; decide : U8 3), (by unfold I64; decide : I64 0), by simp [bodyI, ByteArray.size]; unfold maxLen; omega⟩, ⟨0, 0, nil_sl B, trivial⟩, ?_, hl, ?_⟩
  · exact ⟨⟨by unfold U8; decide, by decide⟩, 0, 0, nil_sl B, trivial⟩
  · exact ⟨⟨by unfold U8; decide, by unfold I64; decide, by unfold I64; decide, by decide, by decide⟩, ⟨by decide, 0, 0, nil_sl B, trivial⟩, 0, 0, nil_sl B, trivial⟩
def blockCells (v : Value) : List Value := [.int .u8 13, .string ByteArray.empty, .string ByteArray.empty, .slice none 0 0, .int .u8 0, .string ByteArray.empty, .slice none 0 0, .int .i64 0, .string ByteArray.empty, .slice none 0 0, .slice none 0 0, v, .slice none 0 0, .slice none 0 0, .int .i64 0]
theorem block_in {B s : Nat} {W : World} {l : List PS} {v : Value} (hs : s < B) (hc : CellsAt W s 0 (blockCells v)) (hl : SLIn B W l v) : SLIn B W [blockS l] (.slice (some ⟨s, 0, none⟩) 1 1) := by
  refine ⟨s, 0, ⟨by unfold maxLen; simp, _, 1, rfl, .inr ⟨rfl, hs⟩⟩, ⟨⟨.slice none 0 0, .slice none 0 0, .slice none 0 0, .slice none 0 0, v, .slice none 0 0, .slice none 0 0⟩, hc, ?_⟩, trivial⟩
  refine ⟨⟨(by unfold U8; decide : U8 13), (by unfold I64; decide : I64 0), (by unfold I64; decide : I64 0), by decide, by decide⟩, ⟨0, 0, nil_sl B, trivial⟩, ?_, ?_, ⟨0, 0, nil_sl B, trivial⟩, hl, ⟨0, 0, nil_sl B, trivial⟩, 0, 0, nil_sl B, trivial⟩
  · exact ⟨⟨by unfold U8; decide, by decide⟩, 0, 0, nil_sl B, trivial⟩
  · exact ⟨by decide, 0, 0, nil_sl B, trivial⟩
theorem nbody_size {l : List PS} (h : ¬ progR [bodyI l] 20000 < 0) : depthR (rtP [bodyI l]) ≤ 20001 ∧ sizeR (rtP [bodyI l]) ≤ 20001 := prog_bound h
end Go.Proofs.YtabncmmadbjegaaGreat
