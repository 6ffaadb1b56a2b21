/- NumOwn: a numeral with a byte that is no digit among its own. -/
import Derived.Test.YtkfgfjgdhdohhaaDoorOwnFar
namespace Go.Proofs.YtkfgfjgdhdohhaaDoor
open Go.RowKit
set_option linter.unusedVariables false

theorem ins_list (u : ByteArray) (m : Nat) (c : UInt8) (hm : m ≤ u.size) : (u.extract 0 m ++ ⟨#[c]⟩ ++ u.extract m u.size).data.toList = u.data.toList.take m ++ [c] ++ u.data.toList.drop m := by
  have hl : u.data.toList.length = u.size := by simp
  rw [ByteArray.data_append, ByteArray.data_append, Array.toList_append, Array.toList_append, ByteArray.data_extract, ByteArray.data_extract, Array.toList_extract, Array.toList_extract]
  rw [List.extract_eq_take_drop, List.extract_eq_take_drop, List.drop_zero, Nat.sub_zero, List.take_of_length_le (l := List.drop m _) (by rw [List.length_drop]; omega)]
theorem says_ins (u : ByteArray) (m : Nat) (c : UInt8) (hm : m ≤ u.size) (hu : u.size ≤ 71) (hd : dgt c = false) (h45 : ¬ (c = 45 ∧ m = 0)) (w : World) :
    Calls Tryd.prog 11 #[.string (u.extract 0 m ++ ⟨#[c]⟩ ++ u.extract m u.size), .int .i64 0, .int .i64 2] w fun x w' => x = .returned (.bool true) ∧ Below w.heap.size w w' := by
  have hl : u.data.toList.length = u.size := by simp
  have e := ins_list u m c hm
  refine says_bad _ (u.data.toList.take m) (u.data.toList.drop m) c ?_ e hd (fun k => h45 ⟨k.1, ?_⟩) w
  · have h2 := congrArg List.length e
    rw [Array.length_toList, List.length_append, List.length_append, List.length_take, List.length_drop, hl] at h2
    have h3 : (u.extract 0 m ++ ⟨#[c]⟩ ++ u.extract m u.size).size = min m u.size + [c].length + (u.size - m) := h2
    rw [h3]
    unfold maxLen
    show min m u.size + 1 + (u.size - m) ≤ _
    omega
  · have h2 := congrArg List.length k.2
    rw [List.length_take, hl] at h2
    have h3 : ([] : List UInt8).length = 0 := rfl
    omega

end Go.Proofs.YtkfgfjgdhdohhaaDoor
