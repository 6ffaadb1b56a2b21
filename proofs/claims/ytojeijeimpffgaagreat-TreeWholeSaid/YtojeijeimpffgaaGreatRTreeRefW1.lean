/- The document's own way of saying what is whole, first part: letters of a form, places, fields, types. -/
import Derived.Test.YtojeijeimpffgaaGreatRJoinG
import Derived.Test.YtojeijeimpffgaaGreatRTreeWholeT
import Derived.Test.YtojeijeimpffgaaGreatRRefLex
namespace Go.Proofs.YtojeijeimpffgaaGreat
open Go.RowKit
set_option linter.unusedVariables false

def hasB (F : ByteArray) (c : Int) : Bool := F.data.toList.any fun x => decide ((x.toNat : Int) = c)
theorem is_yes' {a b : Int} (h : a = b) : (a == b) = true := beq_iff_eq.2 h
theorem is_no' {a b : Int} (h : a ≠ b) : (a == b) = false := beq_eq_false_iff_ne.2 h
set_option maxHeartbeats 1000000 in
theorem refHas_calls (s : ByteArray) (hs : s.size ≤ maxLen) (c : Int) (w : World) :
    Calls Tryz.prog 90 #[.string s, .int .u8 c] w fun e w' => e = .returned (.bool (hasB s c)) ∧ w = w' := by
  unfold maxLen at hs
  generalize hX : hasB s c = X
  have HX := Lib.hid hX
  clear hX
  go_enter Tryz.func90, Tryz.ntmps90
  go_wp2
  go_loop [5] (fun i => ∃ k : Nat, k ≤ s.size ∧ i = .int .i64 k ∧ Hid ((s.data.toList.drop k).any (fun x => decide ((x.toNat : Int) = c)) = X)) (fun i => s.size - (intOf i).toNat)
  case atStart => exact ⟨0, by omega, rfl, Lib.hid (by rw [List.drop_zero]; exact HX.out)⟩
  case round =>
    obtain ⟨k, hk, rfl, ha⟩ := hrel
    by_cases hlt : k < s.size
    · have hd := Lib.hid (drop_byte hlt)
      by_cases hc : (s[k].toNat : Int) = c
      · have e1 := is_yes' hc
        have Hc := Lib.hid hc
        clear hc
        go_wp2
        go_ret
        exact ⟨ret_bool (by rw [← ha.out, hd.out, List.any_cons, decide_eq_true Hc.out]; rfl), rfl⟩
      · have e1 := is_no' hc
        have Hc := Lib.hid hc
        clear hc
        go_wp2
        go_round
        case rel => exact ⟨k + 1, by omega, by go_num, Lib.hid (by rw [← ha.out, hd.out, List.any_cons, decide_eq_false Hc.out, Bool.false_or])⟩
        case measure => simp [intOf]; omega
    · obtain rfl : k = s.size := by omega
      go_wp2
      go_ret
      exact ⟨ret_bool (by rw [← ha.out, List.drop_of_length_le (by exact Nat.le_refl _)]; rfl), rfl⟩
/-! ### the form of an operator -/
set_option maxRecDepth 100000 in
set_option maxHeartbeats 1000000 in
theorem refForm_calls (op : Int) (h : 0 ≤ op ∧ op ≤ 255) (w : World) :
    Calls Tryz.prog 88 #[.int .u8 op] w fun e w' => e = .returned (.string (bs (formL op))) ∧ Below w.heap.size w w' := by
  obtain ⟨k, rfl⟩ : ∃ k : Nat, op = (k : Int) := ⟨op.toNat, by omega⟩
  have hk : k ≤ 255 := by omega
  have hf : formL (k : Int) = formTab.getD k [] := by unfold formL; rw [Int.toNat_natCast]
  rw [hf]
  clear h hf
  by_cases hlt : k < 37
  · have hmap : ∀ (h : k < (formTab.map fun l => Value.string (bs l)).length), (formTab.map fun l => Value.string (bs l))[k] = .string (bs (formTab.getD k [])) := fun h => by
      rw [List.getElem_map]
      congr 2
      simp only [List.length_map] at h
      rw [List.getD_eq_getElem?_getD, List.getElem?_eq_getElem h]; rfl
    have Hm := Lib.hid hmap
    clear hmap
    go_enter Tryz.func88, Tryz.ntmps88
    go_wp2_with fail
    go_ret
    exact ⟨congrArg Ending.returned (Hm.out (by rw [List.length_map]; exact hlt)), box1 _ _⟩
  · have he : formTab.getD k [] = [] := by rw [List.getD_eq_getElem?_getD, List.getElem?_eq_none (by simp [formTab]; omega)]; rfl
    rw [he]
    have e1 : (37 : Int) ≤ (k : Int) := by omega
    clear he
    go_enter Tryz.func88, Tryz.ntmps88
    go_wp2_with fail
    go_ret
    exact ⟨rfl, box1 _ _⟩
/-! ### how many -/
set_option maxHeartbeats 400000 in
theorem many_i0 (n : Nat) (w : World) : Calls Tryz.prog 89 #[.string (bs [105, 48]), .int .i64 n] w fun e w' => e = .returned (.bool (manyL [105, 48] n)) ∧ w = w' := by
  show Calls Tryz.prog 89 #[.string ⟨#[105, 48]⟩, .int .i64 n] w _
  have hb : ((⟨#[105, 48]⟩ : ByteArray)[1]'(by decide)).toNat = 48 := rfl
  go_enter Tryz.func89, Tryz.ntmps89
  go_wp2_with fail
  go_ret
  exact ⟨ret_bool (by rw [Bool.eq_iff_iff]; simp [manyL] <;> omega), rfl⟩
set_option maxHeartbeats 400000 in
theorem many_b0 (n : Nat) (w : World) : Calls Tryz.prog 89 #[.string (bs [98, 48]), .int .i64 n] w fun e w' => e = .returned (.bool (manyL [98, 48] n)) ∧ w = w' := by
  show Calls Tryz.prog 89 #[.string ⟨#[98, 48]⟩, .int .i64 n] w _
  have hb : ((⟨#[98, 48]⟩ : ByteArray)[1]'(by decide)).toNat = 48 := rfl
  go_enter Tryz.func89, Tryz.ntmps89
  go_wp2_with fail
  go_ret
  exact ⟨ret_bool (by rw [Bool.eq_iff_iff]; simp [manyL] <;> omega), rfl⟩
set_option maxHeartbeats 400000 in
theorem many_z0 (n : Nat) (w : World) : Calls Tryz.prog 89 #[.string (bs [48]), .int .i64 n] w fun e w' => e = .returned (.bool (manyL [48] n)) ∧ w = w' := by
  show Calls Tryz.prog 89 #[.string ⟨#[48]⟩, .int .i64 n] w _
  have hb : ((⟨#[48]⟩ : ByteArray)[0]'(by decide)).toNat = 48 := rfl
  go_enter Tryz.func89, Tryz.ntmps89
  go_wp2_with fail
  go_ret
  exact ⟨ret_bool (by rw [Bool.eq_iff_iff]; simp [manyL] <;> omega), rfl⟩
set_option maxHeartbeats 400000 in
theorem many_p0 (n : Nat) (w : World) : Calls Tryz.prog 89 #[.string (bs [112, 48]), .int .i64 n] w fun e w' => e = .returned (.bool (manyL [112, 48] n)) ∧ w = w' := by
  show Calls Tryz.prog 89 #[.string ⟨#[112, 48]⟩, .int .i64 n] w _
  have hb : ((⟨#[112, 48]⟩ : ByteArray)[1]'(by decide)).toNat = 48 := rfl
  go_enter Tryz.func89, Tryz.ntmps89
  go_wp2_with fail
  go_ret
  exact ⟨ret_bool (by rw [Bool.eq_iff_iff]; simp [manyL] <;> omega), rfl⟩
set_option maxHeartbeats 400000 in
theorem many_w1 (n : Nat) (w : World) : Calls Tryz.prog 89 #[.string (bs [49]), .int .i64 n] w fun e w' => e = .returned (.bool (manyL [49] n)) ∧ w = w' := by
  show Calls Tryz.prog 89 #[.string ⟨#[49]⟩, .int .i64 n] w _
  have hb : ((⟨#[49]⟩ : ByteArray)[0]'(by decide)).toNat = 49 := rfl
  go_enter Tryz.func89, Tryz.ntmps89
  go_wp2_with fail
  go_ret
  exact ⟨ret_bool (by rw [Bool.eq_iff_iff]; simp [manyL] <;> omega), rfl⟩
set_option maxHeartbeats 400000 in
theorem many_w2 (n : Nat) (w : World) : Calls Tryz.prog 89 #[.string (bs [50]), .int .i64 n] w fun e w' => e = .returned (.bool (manyL [50] n)) ∧ w = w' := by
  show Calls Tryz.prog 89 #[.string ⟨#[50]⟩, .int .i64 n] w _
  have hb : ((⟨#[50]⟩ : ByteArray)[0]'(by decide)).toNat = 50 := rfl
  go_enter Tryz.func89, Tryz.ntmps89
  go_wp2_with fail
  go_ret
  exact ⟨ret_bool (by rw [Bool.eq_iff_iff]; simp [manyL] <;> omega), rfl⟩
set_option maxHeartbeats 400000 in
theorem many_n6 (n : Nat) (w : World) : Calls Tryz.prog 89 #[.string (bs [110, 54]), .int .i64 n] w fun e w' => e = .returned (.bool (manyL [110, 54] n)) ∧ w = w' := by
  show Calls Tryz.prog 89 #[.string ⟨#[110, 54]⟩, .int .i64 n] w _
  have hb : ((⟨#[110, 54]⟩ : ByteArray)[1]'(by decide)).toNat = 54 := rfl
  go_enter Tryz.func89, Tryz.ntmps89
  go_wp2_with fail
  go_ret
  exact ⟨ret_bool (by rw [Bool.eq_iff_iff]; simp [manyL] <;> omega), rfl⟩
set_option maxHeartbeats 400000 in
theorem many_tf6 (n : Nat) (w : World) : Calls Tryz.prog 89 #[.string (bs [116, 102, 54]), .int .i64 n] w fun e w' => e = .returned (.bool (manyL [116, 102, 54] n)) ∧ w = w' := by
  show Calls Tryz.prog 89 #[.string ⟨#[116, 102, 54]⟩, .int .i64 n] w _
  have hb : ((⟨#[116, 102, 54]⟩ : ByteArray)[2]'(by decide)).toNat = 54 := rfl
  go_enter Tryz.func89, Tryz.ntmps89
  go_wp2_with fail
  go_ret
  exact ⟨ret_bool (by rw [Bool.eq_iff_iff]; simp [manyL] <;> omega), rfl⟩
set_option maxHeartbeats 400000 in
theorem many_tv9 (n : Nat) (w : World) : Calls Tryz.prog 89 #[.string (bs [116, 118, 57]), .int .i64 n] w fun e w' => e = .returned (.bool (manyL [116, 118, 57] n)) ∧ w = w' := by
  show Calls Tryz.prog 89 #[.string ⟨#[116, 118, 57]⟩, .int .i64 n] w _
  have hb : ((⟨#[116, 118, 57]⟩ : ByteArray)[2]'(by decide)).toNat = 57 := rfl
  go_enter Tryz.func89, Tryz.ntmps89
  go_wp2_with fail
  go_ret
  exact ⟨ret_bool (by rw [Bool.eq_iff_iff]; simp [manyL] <;> omega), rfl⟩
set_option maxHeartbeats 400000 in
theorem many_p1 (n : Nat) (w : World) : Calls Tryz.prog 89 #[.string (bs [112, 49]), .int .i64 n] w fun e w' => e = .returned (.bool (manyL [112, 49] n)) ∧ w = w' := by
  show Calls Tryz.prog 89 #[.string ⟨#[112, 49]⟩, .int .i64 n] w _
  have hb : ((⟨#[112, 49]⟩ : ByteArray)[1]'(by decide)).toNat = 49 := rfl
  go_enter Tryz.func89, Tryz.ntmps89
  go_wp2_with fail
  go_ret
  exact ⟨ret_bool (by rw [Bool.eq_iff_iff]; simp [manyL] <;> omega), rfl⟩
end Go.Proofs.YtojeijeimpffgaaGreat

