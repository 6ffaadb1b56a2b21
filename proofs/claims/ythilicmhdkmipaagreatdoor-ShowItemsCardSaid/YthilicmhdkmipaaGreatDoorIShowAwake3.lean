/- awake: its contracts put in. -/
import Derived.Test.YthilicmhdkmipaaGreatDoorIShowAwake2
namespace Go.Proofs.YthilicmhdkmipaaGreatDoor
open Go.RowKit
set_option linter.unusedVariables false

theorem PT.later {W W' : World} {x : PT} {v : Value} (h : PT.In W.heap.size W x v) (k : Below W.heap.size W W') : PT.In W'.heap.size W' x v := PT.In.wider k.size (PT.In.below k h)
set_option maxRecDepth 100000 in
set_option maxHeartbeats 4000000 in
theorem awake4_calls (w : World) (hm : MaxOk w) (hW : Words w.heap.size w) :
    Calls Tryz.prog 28 #[] w fun e w' => e = .returned (.bool true) ∧ Below w.heap.size w w' := by
  refine awake_walk w (Lib.hid fun w2 wd s0 s2 hs0 hs2 b1 b2 G1 G2 => ?_)
  have z1 : s0 + 5 < wd.heap.size := by
    have := G1 5 _ rfl
    exact (Array.getElem?_eq_some_iff.1 this).1
  have z2 : s2 + 4 < wd.heap.size := by
    have := G2 4 _ rfl
    exact (Array.getElem?_eq_some_iff.1 this).1
  have hmW : ∀ W, Below wd.heap.size wd W → MaxOk W := fun W h => (hm.below b1).below h
  have hWW : ∀ W, Below wd.heap.size wd W → Words W.heap.size W := fun W h => (hW.below (b1.trans (h.mono b1.size))).wider (by have := b1.size; have := h.size; omega)
  have hmx : IntKind.u8.max = 255 := by decide
  have hmn : IntKind.u8.min = 0 := by decide
  have e8 : ∀ k : Int, 0 ≤ k → k < 256 → U8 k := fun k h1 h2 => by
    unfold U8
    simp only [Lit.wf, Bool.and_eq_true, decide_eq_true_eq]
    omega
  have hneg : PE.In wd.heap.size wd exC ⟨.slice none 0 0, .slice (some ⟨s0 + 4, 0, none⟩) 1 1⟩ :=
    one_row (e8 7 (by omega) (by omega)) (by omega) (one_row (S := s0 + 3) (e8 7 (by omega) (by omega)) (by omega) (one_in _ _) (cells_made (cs := oneE.cells ⟨.slice none 0 0, .slice none 0 0⟩) (G1 3 _ rfl)))
      (cells_made (cs := (exOf 7 [oneE]).cells ⟨.slice none 0 0, .slice (some ⟨s0 + 3, 0, none⟩) 1 1⟩) (G1 4 _ rfl))
  have hnot : PE.In wd.heap.size wd (exOf 8 [useOf bA]) ⟨.slice none 0 0, .slice (some ⟨s2, 0, none⟩) 1 1⟩ :=
    one_row (e8 8 (by omega) (by omega)) (by omega) (use_in bA (by decide) _ _) (cells_made (cs := (useOf bA).cells ⟨.slice none 0 0, .slice none 0 0⟩) (G2 0 _ rfl))
  have hty : PT.In wd.heap.size wd tyA (.slice (some ⟨s2 + 3, 0, none⟩) 1 1) :=
    type_row (e8 5 (by omega) (by omega)) (by omega) (type_row (S := s2 + 2) (x := .mk 1 ⟨#[]⟩ []) (vx := .slice none 0 0) (e8 14 (by omega) (by omega)) (by omega) ⟨⟨e8 1 (by omega) (by omega), by decide⟩, 0, 0, nil_sl _, trivial⟩ (cells_made (cs := (PT.mk 1 ⟨#[]⟩ []).cells (.slice none 0 0)) (G2 2 _ rfl)))
      (cells_made (cs := (boxOf 14 (.mk 1 ⟨#[]⟩ [])).cells (.slice (some ⟨s2 + 2, 0, none⟩) 1 1)) (G2 3 _ rfl))
  have hsm : CellsAt wd (s0 + 1) 0 (smallCells 0) := cells_made (cs := smallCells 0) (G1 1 _ rfl)
  refine ⟨Lib.hid fun W h => ?_, Lib.hid use_calls, Lib.hid fun W => ?_, Lib.hid fun h W hi => ?_, Lib.hid fun W => ?_, Lib.hid fun h W hi => ?_, Lib.hid fun W h => ?_, Lib.hid fun h W hb hi => ?_, Lib.hid fun h W hb hi => ?_, Lib.hid fun W h => ?_, Lib.hid fun h W hb hi => ?_, Lib.hid fun W h => ?_, Lib.hid fun W h => ?_, Lib.hid fun W h => ?_⟩
  · have hp : ProgIn W.heap.size W [smallI 0] (.slice (some ⟨s0 + 1, 0, none⟩) 1 1) := small_in (by unfold I64; decide) (by have := h.size; omega) (hsm.below (by omega) h)
    have := showG_calls W.heap.size [smallI 0] (some ⟨s0 + 1, 0, none⟩) 1 1 W (Nat.le_refl _) (hWW W h) (hmW W h) hp (fun _ B R x hx => by
      obtain rfl : x = smallI 0 := by simpa using hx
      exact small_item B R) (fun _ => by rw [small_ok.2]; simp) (fun _ => by rw [small_ok.2]; simp)
    rw [if_pos small_ok.1, small_ok.2] at this
    exact this
  · exact two_calls 10 (e8 10 (by omega) (by omega)) (useOf bBb) oneE ⟨.slice none 0 0, .slice none 0 0⟩ ⟨.slice none 0 0, .slice none 0 0⟩ W (use_in _ (by decide) _ _) (one_in _ _)
  · exact two_calls 10 (e8 10 (by omega) (by omega)) (useOf bA) (exOf 10 [useOf bBb, oneE]) ⟨.slice none 0 0, .slice none 0 0⟩ ⟨.slice none 0 0, .slice (some ⟨h, 0, none⟩) 2 2⟩ W (use_in _ (by decide) _ _) hi
  · exact two_calls 10 (e8 10 (by omega) (by omega)) (useOf bA) (useOf bBb) ⟨.slice none 0 0, .slice none 0 0⟩ ⟨.slice none 0 0, .slice none 0 0⟩ W (use_in _ (by decide) _ _) (use_in _ (by decide) _ _)
  · exact two_calls 10 (e8 10 (by omega) (by omega)) (exOf 10 [useOf bA, useOf bBb]) oneE ⟨.slice none 0 0, .slice (some ⟨h, 0, none⟩) 2 2⟩ ⟨.slice none 0 0, .slice none 0 0⟩ W hi (one_in _ _)
  · exact two_calls 15 (e8 15 (by omega) (by omega)) (exOf 8 [useOf bA]) (useOf bBb) ⟨.slice none 0 0, .slice (some ⟨s2, 0, none⟩) 1 1⟩ ⟨.slice none 0 0, .slice none 0 0⟩ W (PE.later hnot h) (use_in _ (by decide) _ _)
  · have := showE_at exA _ exA_ok (by decide) ⟨.slice none 0 0, .slice (some ⟨h, 0, none⟩) 2 2⟩ W (hWW W hb) (hmW W hb) hi
    exact this
  · have := showE_at exB _ exB_ok (by decide) ⟨.slice none 0 0, .slice (some ⟨h, 0, none⟩) 2 2⟩ W (hWW W hb) (hmW W hb) hi
    exact this
  · have := showE_at exC _ exC_ok (by decide) ⟨.slice none 0 0, .slice (some ⟨s0 + 4, 0, none⟩) 1 1⟩ W (hWW W h) (hmW W h) (PE.later hneg h)
    exact this
  · have := showE_at exD _ exD_ok (by decide) ⟨.slice none 0 0, .slice (some ⟨h, 0, none⟩) 2 2⟩ W (hWW W hb) (hmW W hb) hi
    exact this
  · have hi : PE.In W.heap.size W exN ⟨.slice none 0 0, .slice none 0 0⟩ := ⟨⟨e8 0 (by omega) (by omega), by unfold I64; decide, by unfold I64; decide, by decide, by decide⟩, ⟨by decide, 0, 0, nil_sl _, trivial⟩, 0, 0, nil_sl _, trivial⟩
    have hE : rE 40 exN = false := by decide +kernel
    have := showE_calls W.heap.size 0 0 ⟨#[]⟩ ⟨#[]⟩ ⟨⟨#[]⟩, []⟩ [] 0 none 0 0 none 0 0 W (Nat.le_refl _) (hWW W h) (hmW W h) hi exN rfl (fun h => by rw [hE] at h; cases h)
    rw [exN_ok] at this
    exact this
  · have := showT_calls W.heap.size tyA (some ⟨s2 + 3, 0, none⟩) 1 1 W (Nat.le_refl _) (hWW W h) (hmW W h) (PT.later hty h) (fun _ => by rw [tyA_ok.2]; simp)
    rw [if_pos tyA_ok.1, tyA_ok.2] at this
    exact this
  · have hcs : CellsAt (W.alloc (.cells #[.string ⟨#[97]⟩, .string ⟨#[42]⟩] 9)) W.heap.size 0 [.string ⟨#[97]⟩, .string ⟨#[42]⟩] := cells_made (heap_alloc_new W _)
    have hk : Below wd.heap.size wd (W.alloc (.cells #[.string ⟨#[97]⟩, .string ⟨#[42]⟩] 9)) := h.trans ((new_only W _).mono h.size)
    have := showP_calls (W.alloc (.cells #[.string ⟨#[97]⟩, .string ⟨#[42]⟩] 9)).heap.size plA (some ⟨W.heap.size, 0, none⟩) 2 2 (W.alloc (.cells #[.string ⟨#[97]⟩, .string ⟨#[42]⟩] 9)) (Nat.le_refl _) (hmW _ hk)
      ⟨by decide, W.heap.size, 0, ⟨by unfold maxLen; simp [plA], _, 2, rfl, .inr ⟨rfl, by simp⟩⟩, ⟨by decide, fun i v hi => by cases i with
        | zero => exact hcs 0 v (by simpa using hi)
        | succ i => simp at hi⟩, ⟨by decide, fun i v hi => by cases i with
        | zero => exact hcs 1 v (by simpa using hi)
        | succ i => simp at hi⟩, trivial⟩ (fun _ => by rw [plA_ok.2]; simp)
    rw [if_pos plA_ok.1, plA_ok.2] at this
    exact this
end Go.Proofs.YthilicmhdkmipaaGreatDoor

