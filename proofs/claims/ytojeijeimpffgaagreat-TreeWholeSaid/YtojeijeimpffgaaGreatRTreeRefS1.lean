/- The document's own way of saying what statements are whole: their form, what they have as labels. -/
import Derived.Test.YtojeijeimpffgaaGreatRTreeRefW2
import Derived.Test.YtojeijeimpffgaaGreatRJoinG
import Derived.Deep.Cut
namespace Go.Proofs.YtojeijeimpffgaaGreat
open Go.RowKit
set_option linter.unusedVariables false

def sformTab : List (List UInt8) := [[], [110, 108], [116, 78, 101], [112, 101], [101], [110], [101, 66, 69], [101, 66], [110, 121, 65], [66], [78, 120, 66], [112, 110, 66], [84, 110, 115], [66]]
def sformL (op : Int) : List UInt8 := sformTab.getD op.toNat []
set_option maxRecDepth 100000 in
set_option maxHeartbeats 1000000 in
theorem refSForm_calls (op : Int) (h : 0 ≤ op ∧ op ≤ 255) (w : World) :
    Calls Tryz.prog 106 #[.int .u8 op] w fun e w' => e = .returned (.string (bs (sformL op))) ∧ Below w.heap.size w w' := by
  obtain ⟨k, rfl⟩ : ∃ k : Nat, op = (k : Int) := ⟨op.toNat, by omega⟩
  have hk : k ≤ 255 := by omega
  have hf : sformL (k : Int) = sformTab.getD k [] := by unfold sformL; rw [Int.toNat_natCast]
  rw [hf]
  clear h hf
  by_cases hlt : k < 14
  · have hmap : ∀ (h : k < (sformTab.map fun l => Value.string (bs l)).length), (sformTab.map fun l => Value.string (bs l))[k] = .string (bs (sformTab.getD k [])) := fun h => by
      rw [List.getElem_map]
      congr 2
      simp only [List.length_map] at h
      rw [List.getD_eq_getElem?_getD, List.getElem?_eq_getElem h]; rfl
    have Hm := Lib.hid hmap
    clear hmap
    go_enter Tryz.func106, Tryz.ntmps106
    go_wp2_with fail
    go_ret
    exact ⟨congrArg Ending.returned (Hm.out (by rw [List.length_map]; exact hlt)), box1 _ _⟩
  · have he : sformTab.getD k [] = [] := by rw [List.getD_eq_getElem?_getD, List.getElem?_eq_none (by simp [sformTab]; omega)]; rfl
    rw [he]
    have e1 : (14 : Int) ≤ (k : Int) := by omega
    clear he
    go_enter Tryz.func106, Tryz.ntmps106
    go_wp2_with fail
    go_ret
    exact ⟨rfl, box1 _ _⟩
/-! ### a zero type -/
def zT (t : PT) : Bool := decide (t.kind = 0) && (noB t.name && decide (t.args.length = 0))
set_option maxHeartbeats 1000000 in
theorem refZeroT_calls (t : PT) (ao : Option Addr) (n c : Nat) (w : World) (hn : n = t.args.length) :
    Calls Tryz.prog 54 #[.agg #[.int .u8 t.kind, .string t.name, .slice ao n c]] w fun e w' => e = .returned (.bool (zT t)) ∧ Below w.heap.size w w' := by
  obtain ⟨kd, nm, l⟩ := t
  have hr : zT (.mk kd nm l) = (decide (kd = 0) && (nm.toList.isEmpty && decide (n = 0))) := by rw [hn, ← noB_toList]; rfl
  rw [hr]
  show Calls Tryz.prog 54 #[.agg #[.int .u8 kd, .string nm, .slice ao n c]] w _
  clear hr hn
  by_cases h0 : kd = 0
  · have e0 : (kd == 0) = true := is_yes' h0
    by_cases hp : nm.toList = []
    · have ep : nm.toList.isEmpty = true := by rw [hp]; rfl
      have ep2 : (nm.toList == []) = true := by rw [hp]; rfl
      have d0 : decide (kd = 0) = true := decide_eq_true h0
      rw [d0, ep]
      clear hp h0 d0 ep
      by_cases hz : n = 0
      · subst hz
        go_enter Tryz.func54, Tryz.ntmps54
        go_wp2_with fail
        go_ret
        exact ⟨rfl, box1 _ _⟩
      · have ez : ((n : Int) == 0) = false := is_no' (by omega)
        rw [decide_eq_false hz]
        clear hz
        go_enter Tryz.func54, Tryz.ntmps54
        go_wp2_with fail
        go_ret
        exact ⟨rfl, box1 _ _⟩
    · have ep2 : (nm.toList == []) = false := beq_eq_false_iff_ne.2 hp
      have ep : nm.toList.isEmpty = false := by cases h : nm.toList with | nil => exact absurd h hp | cons a r => rfl
      rw [ep, Bool.false_and, Bool.and_false]
      clear hp ep h0
      go_enter Tryz.func54, Tryz.ntmps54
      go_wp2_with fail
      go_ret
      exact ⟨rfl, box1 _ _⟩
  · have e0 : (kd == 0) = false := is_no' h0
    rw [decide_eq_false h0, Bool.false_and]
    clear h0
    go_enter Tryz.func54, Tryz.ntmps54
    go_wp2_with fail
    go_ret
    exact ⟨rfl, box1 _ _⟩
end Go.Proofs.YtojeijeimpffgaaGreat

