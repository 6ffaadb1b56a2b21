/- What all laws of this layer ask of the chapter's rows (made by gen_codeawake.py). -/
import Derived.Test.YtlbdoomknjiilaaDoorCodeText3
import Derived.Test.YtlbdoomknjiilaaDoorCodeJumps
import Derived.Test.YtlbdoomknjiilaaDoorCodeInstr
namespace Go.Proofs.YtlbdoomknjiilaaDoor
open Go.RowKit
set_option linter.unusedVariables false

def zeroJ : JJ := ⟨0, 0, 0, 0, [], [], 0, ⟨#[]⟩, 0⟩
def mainF : FF := ⟨⟨#[109, 97, 105, 110]⟩, 0, 3, [zeroJ, zeroJ, zeroJ, zeroJ]⟩
def unitA : UU := ⟨[mainF], 0, []⟩
def jA (op a i : Int) : JJ := ⟨op, a, 0, 0, [], [], i, ⟨#[]⟩, 0⟩
def nilV : VJ := ⟨.slice none 0 0, .slice none 0 0, .slice none 0 0⟩
theorem SIn.nilC (B : Nat) (w : World) : SIn B w [] (.slice none 0 0) := ⟨0, 0, ⟨Nat.zero_le _, none, 0, rfl, Nat.le_refl _, .inl rfl⟩, fun j s h => by cases h⟩
theorem SlP.nilC (B : Nat) : SlP B (.slice none 0 0) 0 0 0 := ⟨Nat.zero_le _, none, 0, rfl, Nat.le_refl _, .inl rfl⟩
theorem empty_le : (⟨#[]⟩ : ByteArray).size ≤ strMax := by decide
theorem jA_in (B : Nat) (w : World) (op a i : Int) (h : 0 ≤ op ∧ op ≤ 255) : (jA op a i).In B w nilV := ⟨h, empty_le, GIn.nil _ _ _ _, SIn.nilC _ _, 0, 0, SlP.nilC _⟩
theorem zeroJ_in (B : Nat) (w : World) : zeroJ.In B w nilV := ⟨⟨by decide, by decide⟩, empty_le, GIn.nil _ _ _ _, SIn.nilC _ _, 0, 0, SlP.nilC _⟩
def zCells : List Value := [.int .u8 0, .int .i64 0, .int .i64 0, .int .i64 0, .slice none 0 0, .slice none 0 0, .int .i64 0, .string ⟨#[]⟩, .slice none 0 0]
def zArr : Array Value := (zCells ++ zCells ++ zCells ++ zCells).toArray
theorem zArr_at (k : Nat) (hk : k < 4) (i : Nat) (v : Value) (h : zCells[i]? = some v) : zArr[k * 9 + i]? = some v := by
  have hi : i < 9 := some_lt h
  rw [← h]
  match k, hk, i, hi with
  | 0, _, 0, _ => rfl
  | 0, _, 1, _ => rfl
  | 0, _, 2, _ => rfl
  | 0, _, 3, _ => rfl
  | 0, _, 4, _ => rfl
  | 0, _, 5, _ => rfl
  | 0, _, 6, _ => rfl
  | 0, _, 7, _ => rfl
  | 0, _, 8, _ => rfl
  | 1, _, 0, _ => rfl
  | 1, _, 1, _ => rfl
  | 1, _, 2, _ => rfl
  | 1, _, 3, _ => rfl
  | 1, _, 4, _ => rfl
  | 1, _, 5, _ => rfl
  | 1, _, 6, _ => rfl
  | 1, _, 7, _ => rfl
  | 1, _, 8, _ => rfl
  | 2, _, 0, _ => rfl
  | 2, _, 1, _ => rfl
  | 2, _, 2, _ => rfl
  | 2, _, 3, _ => rfl
  | 2, _, 4, _ => rfl
  | 2, _, 5, _ => rfl
  | 2, _, 6, _ => rfl
  | 2, _, 7, _ => rfl
  | 2, _, 8, _ => rfl
  | 3, _, 0, _ => rfl
  | 3, _, 1, _ => rfl
  | 3, _, 2, _ => rfl
  | 3, _, 3, _ => rfl
  | 3, _, 4, _ => rfl
  | 3, _, 5, _ => rfl
  | 3, _, 6, _ => rfl
  | 3, _, 7, _ => rfl
  | 3, _, 8, _ => rfl
theorem make4 (w : World) : (Instr.makeSlice 43 (.int .i64 4) (.int .i64 4)).run Tryd.prog w = .ok (.slice (some ⟨w.heap.size, 0, none⟩) 4 4) (w.alloc (.cells zArr 34)) := by kernel_rfl
/-- the unit of which awake asks lies at g, g + 1 -/
theorem unitA_in (w : World) (g : Nat) (h0 : ∀ i v, zArr[i]? = some v → w.cell? ⟨g, i, none⟩ = some v) (h1 : At w (g + 1) 0 [.string ⟨#[109, 97, 105, 110]⟩, .int .i64 0, .int .i64 3, .slice (some ⟨g, 0, none⟩) 4 4]) :
    unitA.In (g + 2) w ⟨.slice (some ⟨g + 1, 0, none⟩) 1 1, .slice none 0 0⟩ := by
  refine ⟨⟨g + 1, 0, ⟨by show 1 ≤ maxLen; decide, _, 1, rfl, Nat.le_refl _, .inr ⟨rfl, by omega⟩⟩, fun j x hj => ?_⟩, GIn.nil _ _ _ _⟩
  match j, hj with
  | 0, hj =>
    cases hj
    refine ⟨.slice (some ⟨g, 0, none⟩) 4 4, h1, by decide, ⟨g, 0, ⟨by show 4 ≤ maxLen; decide, _, 4, rfl, Nat.le_refl _, .inr ⟨rfl, by omega⟩⟩, fun k y hk => ?_⟩⟩
    have hk4 : k < 4 := some_lt hk
    obtain rfl : y = zeroJ := by
      match k, hk with
      | 0, hk => cases hk; rfl
      | 1, hk => cases hk; rfl
      | 2, hk => cases hk; rfl
      | 3, hk => cases hk; rfl
    refine ⟨nilV, fun i v hi => ?_, zeroJ_in _ _⟩
    show w.cell? ⟨g, 0 + k * 9 + i, none⟩ = some v
    rw [Nat.zero_add]
    exact h0 _ _ (zArr_at k hk4 i v hi)

theorem awake_a (w : World) (g : Nat) (hg : g + 2 ≤ w.heap.size) (hT : RTab w.heap.size w) (hu : unitA.In (g + 2) w ⟨.slice (some ⟨g + 1, 0, none⟩) 1 1, .slice none 0 0⟩) :
    Calls Tryd.prog 15 #[.agg #[.slice (some ⟨g + 1, 0, none⟩) 1 1, .int .i64 0, .slice none 0 0], .int .i64 0, .agg #[.int .u8 1, .int .i64 3, .int .i64 0, .int .i64 0, .slice none 0 0, .slice none 0 0, .int .i64 0, .string ⟨#[]⟩, .slice none 0 0]] w fun e w' => e = .returned (.int .i64 170) ∧ Below w.heap.size w w' := by
  have h := instr_calls (g + 2) unitA _ 0 (jA 1 3 0) nilV w hg hu (jA_in _ _ _ _ _ (by decide)) hT
  rw [show errB (instrB unitA 0 (jA 1 3 0)) = 170 from by decide +kernel] at h
  exact h

theorem awake_b (w : World) (g : Nat) (hg : g + 2 ≤ w.heap.size) (hT : RTab w.heap.size w) (hu : unitA.In (g + 2) w ⟨.slice (some ⟨g + 1, 0, none⟩) 1 1, .slice none 0 0⟩) :
    Calls Tryd.prog 15 #[.agg #[.slice (some ⟨g + 1, 0, none⟩) 1 1, .int .i64 0, .slice none 0 0], .int .i64 0, .agg #[.int .u8 1, .int .i64 2, .int .i64 0, .int .i64 0, .slice none 0 0, .slice none 0 0, .int .i64 0, .string ⟨#[]⟩, .slice none 0 0]] w fun e w' => e = .returned (.int .i64 0) ∧ Below w.heap.size w w' := by
  have h := instr_calls (g + 2) unitA _ 0 (jA 1 2 0) nilV w hg hu (jA_in _ _ _ _ _ (by decide)) hT
  rw [show errB (instrB unitA 0 (jA 1 2 0)) = 0 from by decide +kernel] at h
  exact h

theorem awake_c (w : World) (g : Nat) (hg : g + 2 ≤ w.heap.size) (hT : RTab w.heap.size w) (hu : unitA.In (g + 2) w ⟨.slice (some ⟨g + 1, 0, none⟩) 1 1, .slice none 0 0⟩) :
    Calls Tryd.prog 15 #[.agg #[.slice (some ⟨g + 1, 0, none⟩) 1 1, .int .i64 0, .slice none 0 0], .int .i64 0, .agg #[.int .u8 3, .int .i64 2, .int .i64 0, .int .i64 0, .slice none 0 0, .slice none 0 0, .int .i64 2, .string ⟨#[]⟩, .slice none 0 0]] w fun e w' => e = .returned (.int .i64 170) ∧ Below w.heap.size w w' := by
  have h := instr_calls (g + 2) unitA _ 0 (jA 3 2 2) nilV w hg hu (jA_in _ _ _ _ _ (by decide)) hT
  rw [show errB (instrB unitA 0 (jA 3 2 2)) = 170 from by decide +kernel] at h
  exact h

theorem awake_d (w : World) (g : Nat) (hg : g + 2 ≤ w.heap.size) (hT : RTab w.heap.size w) (hu : unitA.In (g + 2) w ⟨.slice (some ⟨g + 1, 0, none⟩) 1 1, .slice none 0 0⟩) :
    Calls Tryd.prog 15 #[.agg #[.slice (some ⟨g + 1, 0, none⟩) 1 1, .int .i64 0, .slice none 0 0], .int .i64 0, .agg #[.int .u8 14, .int .i64 5, .int .i64 0, .int .i64 0, .slice none 0 0, .slice none 0 0, .int .i64 0, .string ⟨#[]⟩, .slice none 0 0]] w fun e w' => e = .returned (.int .i64 170) ∧ Below w.heap.size w w' := by
  have h := instr_calls (g + 2) unitA _ 0 (jA 14 5 0) nilV w hg hu (jA_in _ _ _ _ _ (by decide)) hT
  rw [show errB (instrB unitA 0 (jA 14 5 0)) = 170 from by decide +kernel] at h
  exact h

theorem textSwitch (w : World) (hT : RTab w.heap.size w) (b : Nat) (h0 : w.cell? ⟨b, 0, none⟩ = some (.int .i64 4)) (h1 : w.cell? ⟨b, 1, none⟩ = some (.int .i64 7)) :
    Calls Tryd.prog 24 #[.agg #[.int .u8 16, .int .i64 0, .int .i64 0, .int .i64 0, .slice (some ⟨b, 0, none⟩) 2 2, .slice none 0 0, .int .i64 0, .string ⟨#[69]⟩, .slice none 0 0]] w fun e w' => e = .returned (.string ⟨#[115, 119, 105, 116, 99, 104, 32, 52, 44, 55, 32, 69]⟩) ∧ Below w.heap.size w w' := by
  have hz : ZIn w.heap.size w (([4, 7] : List Nat).map fun (i : Nat) => (i : Int)) (.slice (some ⟨b, 0, none⟩) 2 2) := ⟨b, 0, ⟨by show 2 ≤ maxLen; decide, _, 2, rfl, Nat.le_refl _, .inr ⟨rfl, World.block_lt_of_cell? w _ h0⟩⟩, fun j x hj => by
    match j, hj with
    | 0, hj => cases hj; exact h0
    | 1, hj => cases hj; exact h1⟩
  have hp : SIn w.heap.size w [] (.slice none 0 0) := SIn.nilC _ _
  have h := text0_walk (some ⟨b, 0, none⟩) none none 2 0 0 2 0 0 16 0 0 0 0 (rowR 16).a (rowR 16).b (rowR 16).i (rowR 16).p (rowR 16).s (rowR 16).n ⟨#[69]⟩ ⟨(rowR 16).op.toArray⟩ ⟨(Lib.decDigits 0).toArray⟩ ⟨(Lib.decDigits 0).toArray⟩ ⟨(Lib.decDigits 0).toArray⟩ ⟨(pathT []).toArray⟩ ⟨(slotsT [4, 7]).toArray⟩ w
    (by decide +kernel) (by decide +kernel) (by decide +kernel) (by decide +kernel) (by decide +kernel) (by decide +kernel) (by decide +kernel)
    (Lib.hid fun W h => rowOf_calls 16 (by decide) W (hT.up h.out)) (Lib.hid fun W h => known_calls (rowR 16) W)
    (Lib.hid fun W h => Tryd.strconv_Itoa_small 0 (by decide) W) (Lib.hid fun W h => Tryd.strconv_Itoa_small 0 (by decide) W) (Lib.hid fun W h => Tryd.strconv_FormatInt_10_small 0 (by decide) W)
    (Lib.hid fun W h => pathText_calls w.heap.size [] _ W h.out.size (hp.below h.out) (by decide +kernel))
    (Lib.hid fun W h => slotsText_calls w.heap.size [4, 7] _ W h.out.size (hz.below h.out) (by decide) (by decide) (by decide +kernel))
  refine h.mono fun e w' ⟨h1, h2⟩ => ⟨h1.trans ?_, h2⟩
  exact congrArg (fun b => Ending.returned (Value.string b)) (by kernel_rfl)

theorem textUse (w : World) (hT : RTab w.heap.size w) (b : Nat) (h0 : w.cell? ⟨b, 0, none⟩ = some (.string ⟨#[97]⟩)) (h1 : w.cell? ⟨b, 1, none⟩ = some (.string ⟨#[42]⟩)) :
    Calls Tryd.prog 24 #[.agg #[.int .u8 4, .int .i64 2, .int .i64 0, .int .i64 0, .slice none 0 0, .slice (some ⟨b, 0, none⟩) 2 2, .int .i64 0, .string ⟨#[]⟩, .slice none 0 0]] w fun e w' => e = .returned (.string ⟨#[117, 115, 101, 32, 50, 32, 46, 97, 46, 42]⟩) ∧ Below w.heap.size w w' := by
  have hz : ZIn w.heap.size w (([] : List Nat).map fun (i : Nat) => (i : Int)) (.slice none 0 0) := GIn.nil _ _ _ _
  have hp : SIn w.heap.size w [⟨#[97]⟩, ⟨#[42]⟩] (.slice (some ⟨b, 0, none⟩) 2 2) := ⟨b, 0, ⟨by show 2 ≤ maxLen; decide, _, 2, rfl, Nat.le_refl _, .inr ⟨rfl, World.block_lt_of_cell? w _ h0⟩⟩, fun j x hj => by
    match j, hj with
    | 0, hj => cases hj; exact ⟨by decide, h0⟩
    | 1, hj => cases hj; exact ⟨by decide, h1⟩⟩
  have h := text0_walk none (some ⟨b, 0, none⟩) none 0 2 0 0 2 0 4 2 0 0 0 (rowR 4).a (rowR 4).b (rowR 4).i (rowR 4).p (rowR 4).s (rowR 4).n ⟨#[]⟩ ⟨(rowR 4).op.toArray⟩ ⟨(Lib.decDigits 2).toArray⟩ ⟨(Lib.decDigits 0).toArray⟩ ⟨(Lib.decDigits 0).toArray⟩ ⟨(pathT [⟨#[97]⟩, ⟨#[42]⟩]).toArray⟩ ⟨(slotsT []).toArray⟩ w
    (by decide +kernel) (by decide +kernel) (by decide +kernel) (by decide +kernel) (by decide +kernel) (by decide +kernel) (by decide +kernel)
    (Lib.hid fun W h => rowOf_calls 4 (by decide) W (hT.up h.out)) (Lib.hid fun W h => known_calls (rowR 4) W)
    (Lib.hid fun W h => Tryd.strconv_Itoa_small 2 (by decide) W) (Lib.hid fun W h => Tryd.strconv_Itoa_small 0 (by decide) W) (Lib.hid fun W h => Tryd.strconv_FormatInt_10_small 0 (by decide) W)
    (Lib.hid fun W h => pathText_calls w.heap.size [⟨#[97]⟩, ⟨#[42]⟩] _ W h.out.size (hp.below h.out) (by decide +kernel))
    (Lib.hid fun W h => slotsText_calls w.heap.size [] _ W h.out.size (hz.below h.out) (by decide) (by decide) (by decide +kernel))
  refine h.mono fun e w' ⟨h1, h2⟩ => ⟨h1.trans ?_, h2⟩
  exact congrArg (fun b => Ending.returned (Value.string b)) (by kernel_rfl)

theorem textConst (w : World) (hT : RTab w.heap.size w) :
    Calls Tryd.prog 24 #[.agg #[.int .u8 3, .int .i64 1, .int .i64 0, .int .i64 0, .slice none 0 0, .slice none 0 0, .int .i64 5, .string ⟨#[]⟩, .slice none 0 0]] w fun e w' => e = .returned (.string ⟨#[99, 111, 110, 115, 116, 32, 49, 32, 53]⟩) ∧ Below w.heap.size w w' := by
  have hz : ZIn w.heap.size w (([] : List Nat).map fun (i : Nat) => (i : Int)) (.slice none 0 0) := GIn.nil _ _ _ _
  have hp : SIn w.heap.size w [] (.slice none 0 0) := SIn.nilC _ _
  have h := text0_walk none none none 0 0 0 0 0 0 3 1 0 0 5 (rowR 3).a (rowR 3).b (rowR 3).i (rowR 3).p (rowR 3).s (rowR 3).n ⟨#[]⟩ ⟨(rowR 3).op.toArray⟩ ⟨(Lib.decDigits 1).toArray⟩ ⟨(Lib.decDigits 0).toArray⟩ ⟨(Lib.decDigits 5).toArray⟩ ⟨(pathT []).toArray⟩ ⟨(slotsT []).toArray⟩ w
    (by decide +kernel) (by decide +kernel) (by decide +kernel) (by decide +kernel) (by decide +kernel) (by decide +kernel) (by decide +kernel)
    (Lib.hid fun W h => rowOf_calls 3 (by decide) W (hT.up h.out)) (Lib.hid fun W h => known_calls (rowR 3) W)
    (Lib.hid fun W h => Tryd.strconv_Itoa_small 1 (by decide) W) (Lib.hid fun W h => Tryd.strconv_Itoa_small 0 (by decide) W) (Lib.hid fun W h => Tryd.strconv_FormatInt_10_small 5 (by decide) W)
    (Lib.hid fun W h => pathText_calls w.heap.size [] _ W h.out.size (hp.below h.out) (by decide +kernel))
    (Lib.hid fun W h => slotsText_calls w.heap.size [] _ W h.out.size (hz.below h.out) (by decide) (by decide) (by decide +kernel))
  refine h.mono fun e w' ⟨h1, h2⟩ => ⟨h1.trans ?_, h2⟩
  exact congrArg (fun b => Ending.returned (Value.string b)) (by kernel_rfl)

set_option maxRecDepth 100000 in
set_option maxHeartbeats 8000000 in
theorem awake_calls (w : World) (hT : RTab w.heap.size w) :
    Calls Tryd.prog 13 #[] w fun e w' => e = .returned (.bool true) ∧ Below w.heap.size w w' := by
  have hmk := make4
  have HT := Lib.hid hT
  clear hT
  go_enter Tryd.func13, Tryd.ntmps13
  go_wp2_with fail
  obtain ⟨W1, hW⟩ : ∃ W, W = ((w.alloc (.cells zArr 34)).alloc (.cells #[.string ⟨#[109, 97, 105, 110]⟩, .int .i64 0, .int .i64 3, .slice (some ⟨w.heap.size, 0, none⟩) 4 4] 45)).alloc (.cells #[.slice (some ⟨w.heap.size + 1, 0, none⟩) 1 1, .int .i64 0, .slice none 0 0] 25) := ⟨_, rfl⟩
  have H1 : Hid (Below w.heap.size w W1) := by rw [hW]; exact Lib.hid ((box2 w _ _).alloc (by simp; omega) _)
  have zg : w.heap.size + 2 < W1.heap.size := by rw [hW]; simp
  have hu : Hid (unitA.In (w.heap.size + 2) W1 ⟨.slice (some ⟨w.heap.size + 1, 0, none⟩) 1 1, .slice none 0 0⟩) := Lib.hid (by
    refine unitA_in W1 w.heap.size (fun i v hi => ?_) (fun i v hi => ?_)
    · rw [hW]
      refine cell_over (cell_over (?_ : (w.alloc (.cells zArr 34)).cell? ⟨w.heap.size, i, none⟩ = some v) (box1 _ _)) (box1 _ _)
      rw [World.cell?_alloc_new]
      exact hi
    · rw [hW]
      match i, hi with
      | 0, hi => cases hi; go_simp
      | 1, hi => cases hi; go_simp
      | 2, hi => cases hi; go_simp
      | 3, hi => cases hi; go_simp)
  have u0 : W1.cell? ⟨w.heap.size + 2, 0, none⟩ = some (.slice (some ⟨w.heap.size + 1, 0, none⟩) 1 1) := by rw [hW]; go_simp
  have u1 : W1.cell? ⟨w.heap.size + 2, 1, none⟩ = some (.int .i64 0) := by rw [hW]; go_simp
  have u2 : W1.cell? ⟨w.heap.size + 2, 2, none⟩ = some (.slice none 0 0) := by rw [hW]; go_simp
  rw [← hW]
  clear hW hmk
  have p0 := fun m : Over W1 => cell_over u0 m.h
  have p1 := fun m : Over W1 => cell_over u1 m.h
  have p2 := fun m : Over W1 => cell_over u2 m.h
  have hB0 := Lib.hid (H1.out)
  have KA := Lib.hid fun m : Over W1 => over_calls (n := m) (awake_a m.w w.heap.size (Nat.le_trans (Nat.le_of_lt zg) m.h.size) (HT.out.up (H1.out.trans (m.h.mono H1.out.size))) (hu.out.below (m.h.mono (Nat.le_of_lt zg))))
  have KB := Lib.hid fun m : Over W1 => over_calls (n := m) (awake_b m.w w.heap.size (Nat.le_trans (Nat.le_of_lt zg) m.h.size) (HT.out.up (H1.out.trans (m.h.mono H1.out.size))) (hu.out.below (m.h.mono (Nat.le_of_lt zg))))
  refine wp_region_over (by kernel_rfl) (by kernel_rfl) ?_
  repeat (go_big_quiet_step ((go_at_call 15; first | with_reducible exact KA.out _ | with_reducible exact KB.out _)))
  refine wpQuiet_nil ?_
  rintro _ ⟨m, rfl⟩
  have H2 := hid_upC H1 m.h
  have zg := Nat.lt_of_lt_of_le zg m.h.size
  have hu : Hid (unitA.In (w.heap.size + 2) m.w ⟨.slice (some ⟨w.heap.size + 1, 0, none⟩) 1 1, .slice none 0 0⟩) := Lib.hid (hu.out.below (m.h.mono (by omega)))
  have u0 := cell_over u0 m.h
  have u1 := cell_over u1 m.h
  have u2 := cell_over u2 m.h
  generalize m.w = W2 at *
  clear p0 p1 p2 KA KB
  go_wp2_with fail
  have p0 := fun m : Over W2 => cell_over u0 m.h
  have p1 := fun m : Over W2 => cell_over u1 m.h
  have p2 := fun m : Over W2 => cell_over u2 m.h
  have hB1 := Lib.hid (H2.out)
  have KA := Lib.hid fun m : Over W2 => over_calls (n := m) (awake_c m.w w.heap.size (Nat.le_trans (Nat.le_of_lt zg) m.h.size) (HT.out.up (H2.out.trans (m.h.mono H2.out.size))) (hu.out.below (m.h.mono (Nat.le_of_lt zg))))
  have KB := Lib.hid fun m : Over W2 => over_calls (n := m) (awake_d m.w w.heap.size (Nat.le_trans (Nat.le_of_lt zg) m.h.size) (HT.out.up (H2.out.trans (m.h.mono H2.out.size))) (hu.out.below (m.h.mono (Nat.le_of_lt zg))))
  refine wp_region_over (by kernel_rfl) (by kernel_rfl) ?_
  repeat (go_big_quiet_step ((go_at_call 15; first | with_reducible exact KA.out _ | with_reducible exact KB.out _)))
  refine wpQuiet_nil ?_
  rintro _ ⟨m, rfl⟩
  have H3 := hid_upC H2 m.h
  have zg := Nat.lt_of_lt_of_le zg m.h.size
  have hu : Hid (unitA.In (w.heap.size + 2) m.w ⟨.slice (some ⟨w.heap.size + 1, 0, none⟩) 1 1, .slice none 0 0⟩) := Lib.hid (hu.out.below (m.h.mono (by omega)))
  have u0 := cell_over u0 m.h
  have u1 := cell_over u1 m.h
  have u2 := cell_over u2 m.h
  generalize m.w = W3 at *
  clear p0 p1 p2 KA KB
  clear u0 u1 u2 hu zg hB0 hB1
  go_wp2_with fail
  have c0 : (W3.alloc (.cells #[.int .i64 4, .int .i64 7] 3)).cell? ⟨W3.heap.size, 0, none⟩ = some (.int .i64 4) := by go_simp
  have c1 : (W3.alloc (.cells #[.int .i64 4, .int .i64 7] 3)).cell? ⟨W3.heap.size, 1, none⟩ = some (.int .i64 7) := by go_simp
  have G4 := hid_upC H3 (box1 W3 (.cells #[.int .i64 4, .int .i64 7] 3))
  refine (textSwitch _ (HT.out.up G4.out) W3.heap.size c0 c1).mono ?_
  clear c0 c1
  rintro e W4 ⟨rfl, b4⟩
  have H4 := hid_upC G4 b4
  clear b4 G4 H3
  go_wp2_with fail
  have c0 : (W4.alloc (.cells #[.string ⟨#[97]⟩, .string ⟨#[42]⟩] 9)).cell? ⟨W4.heap.size, 0, none⟩ = some (.string ⟨#[97]⟩) := by go_simp
  have c1 : (W4.alloc (.cells #[.string ⟨#[97]⟩, .string ⟨#[42]⟩] 9)).cell? ⟨W4.heap.size, 1, none⟩ = some (.string ⟨#[42]⟩) := by go_simp
  have G5 := hid_upC H4 (box1 W4 (.cells #[.string ⟨#[97]⟩, .string ⟨#[42]⟩] 9))
  refine (textUse _ (HT.out.up G5.out) W4.heap.size c0 c1).mono ?_
  clear c0 c1
  rintro e W5 ⟨rfl, b5⟩
  have H5 := hid_upC G5 b5
  clear b5 G5 H4
  go_wp2_with fail
  have c0 : (W5.alloc (.cells #[.int .i64 4, .int .i64 7] 3)).cell? ⟨W5.heap.size, 0, none⟩ = some (.int .i64 4) := by go_simp
  have c1 : (W5.alloc (.cells #[.int .i64 4, .int .i64 7] 3)).cell? ⟨W5.heap.size, 1, none⟩ = some (.int .i64 7) := by go_simp
  have G6 := hid_upC H5 (box1 W5 (.cells #[.int .i64 4, .int .i64 7] 3))
  have KJ := jumps16_calls (some ⟨W5.heap.size, 0, none⟩) none none 2 0 0 2 0 0 0 0 0 0 ⟨#[69]⟩ (W5.alloc (.cells #[.int .i64 4, .int .i64 7] 3)) [4, 7] (Lib.hid rfl) (by omega) (fun h => by cases h) (Lib.hid fun ad ha j u hu => by
    cases ha
    match j, hu with
    | 0, hu => cases hu; exact c0
    | 1, hu => cases hu; exact c1)
  refine KJ.mono ?_
  clear c0 c1 KJ
  rintro e W6 ⟨r, rfl, ho, b6⟩
  have H6 := hid_upC G6 b6
  obtain ⟨⟨_, ao, cap, rfl, hc, h4⟩, h2⟩ := own_cells ho (by decide)
  obtain ⟨ha, hg⟩ := h4.resolve_left (by decide)
  generalize rowAt (Value.slice ao 2 cap) = g at *
  subst ha
  have d1 : W6.cell? ⟨g, 1, none⟩ = some (.int .i64 7) := by have := (h2 1 (.int .i64 7) rfl).1; simpa using this
  clear b6 G6 H5 ho h2 h4 hc
  go_wp2_with fail
  refine (textConst _ (HT.out.up H6.out)).mono ?_
  rintro e W7 ⟨rfl, b7⟩
  have H7 := hid_upC H6 b7
  clear b7
  go_wp2_with fail
  go_ret
  exact ⟨rfl, H7.out⟩

end Go.Proofs.YtlbdoomknjiilaaDoor
