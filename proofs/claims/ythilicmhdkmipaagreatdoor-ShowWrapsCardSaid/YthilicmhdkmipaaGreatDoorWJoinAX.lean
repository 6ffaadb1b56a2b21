/- awake: its contracts put in. -/
import Derived.Test.YthilicmhdkmipaaGreatDoorWShowAwake2
import Derived.Test.YthilicmhdkmipaaGreatDoorWShowWrapsWalk
import Derived.Laws.Concat
namespace Go.Proofs.YthilicmhdkmipaaGreatDoor
open Go.RowKit
set_option linter.unusedVariables false

theorem PT.later {W W' : World} {x : PT} {v : Value} (h : PT.In W.heap.size W x v) (k : Below W.heap.size W W') : PT.In W'.heap.size W' x v := PT.In.wider k.size (PT.In.below k h)
set_option maxRecDepth 100000 in
set_option maxHeartbeats 4000000 in
theorem awake4_calls (w : World) (hm : MaxOk w) (hW : Words w.heap.size w) :
    Calls Tryz.prog 28 #[] w fun e w' => e = .returned (.bool true) ∧ Below w.heap.size w w' := by
  refine awake_walk w (Lib.hid fun w2 wd s0 s2 hs0 hs2 b1 b2 G1 G2 => ?_)
  have z1 : s0 + 5 < wd.heap.size := by
    have := G1 5 _ rfl
    exact (Array.getElem?_eq_some_iff.1 this).1
  have z2 : s2 + 4 < wd.heap.size := by
    have := G2 4 _ rfl
    exact (Array.getElem?_eq_some_iff.1 this).1
  have hmW : ∀ W, Below wd.heap.size wd W → MaxOk W := fun W h => (hm.below b1).below h
  have hWW : ∀ W, Below wd.heap.size wd W → Words W.heap.size W := fun W h => (hW.below (b1.trans (h.mono b1.size))).wider (by have := b1.size; have := h.size; omega)
  have hmx : IntKind.u8.max = 255 := by decide
  have hmn : IntKind.u8.min = 0 := by decide
  have e8 : ∀ k : Int, 0 ≤ k → k < 256 → U8 k := fun k h1 h2 => by
    unfold U8
    simp only [Lit.wf, Bool.and_eq_true, decide_eq_true_eq]
    omega
  have hneg : PE.In wd.heap.size wd exC ⟨.slice none 0 0, .slice (some ⟨s0 + 4, 0, none⟩) 1 1⟩ :=
    one_row (e8 7 (by omega) (by omega)) (by omega) (one_row (S := s0 + 3) (e8 7 (by omega) (by omega)) (by omega) (one_in _ _) (cells_made (cs := oneE.cells ⟨.slice none 0 0, .slice none 0 0⟩) (G1 3 _ rfl)))
      (cells_made (cs := (exOf 7 [oneE]).cells ⟨.slice none 0 0, .slice (some ⟨s0 + 3, 0, none⟩) 1 1⟩) (G1 4 _ rfl))
  have hnot : PE.In wd.heap.size wd (exOf 8 [useOf bA]) ⟨.slice none 0 0, .slice (some ⟨s2, 0, none⟩) 1 1⟩ :=
    one_row (e8 8 (by omega) (by omega)) (by omega) (use_in bA (by decide) _ _) (cells_made (cs := (useOf bA).cells ⟨.slice none 0 0, .slice none 0 0⟩) (G2 0 _ rfl))
  have hty : PT.In wd.heap.size wd tyA (.slice (some ⟨s2 + 3, 0, none⟩) 1 1) :=
    type_row (e8 5 (by omega) (by omega)) (by omega) (type_row (S := s2 + 2) (x := .mk 1 ⟨#[]⟩ []) (vx := .slice none 0 0) (e8 14 (by omega) (by omega)) (by omega) ⟨⟨e8 1 (by omega) (by omega), by decide⟩, 0, 0, nil_sl _, trivial⟩ (cells_made (cs := (PT.mk 1 ⟨#[]⟩ []).cells (.slice none 0 0)) (G2 2 _ rfl)))
      (cells_made (cs := (boxOf 14 (.mk 1 ⟨#[]⟩ [])).cells (.slice (some ⟨s2 + 2, 0, none⟩) 1 1)) (G2 3 _ rfl))
  have hsm : CellsAt wd (s0 + 1) 0 (smallCells 0) := cells_made (cs := smallCells 0) (G1 1 _ rfl)
  refine ⟨Lib.hid fun W h => ?_, Lib.hid use_calls, Lib.hid fun W => ?_, Lib.hid fun h W hi => ?_, Lib.hid fun W => ?_, Lib.hid fun h W hi => ?_, Lib.hid fun W h => ?_, Lib.hid fun h W hb hi => ?_, Lib.hid fun h W hb hi => ?_, Lib.hid fun W h => ?_, Lib.hid fun h W hb hi => ?_, Lib.hid fun W h => ?_, Lib.hid fun W h => ?_, Lib.hid fun W h => ?_⟩
  · have hp : ProgIn W.heap.size W [smallI 0] (.slice (some ⟨s0 + 1, 0, none⟩) 1 1) := small_in (by unfold I64; decide) (by have := h.size; omega) (hsm.below (by omega) h)
    have := showG_calls W.heap.size [smallI 0] (some ⟨s0 + 1, 0, none⟩) 1 1 W (Nat.le_refl _) (hWW W h) (hmW W h) hp (fun _ B R x hx => by
      obtain rfl : x = smallI 0 := by simpa using hx
      exact small_item B R) (fun _ => by rw [small_ok.2]; simp) (fun _ => by rw [small_ok.2]; simp)
    rw [if_pos small_ok.1, small_ok.2] at this
    exact this
  · exact two_calls 10 (e8 10 (by omega) (by omega)) (useOf bBb) oneE ⟨.slice none 0 0, .slice none 0 0⟩ ⟨.slice none 0 0, .slice none 0 0⟩ W (use_in _ (by decide) _ _) (one_in _ _)
  · exact two_calls 10 (e8 10 (by omega) (by omega)) (useOf bA) (exOf 10 [useOf bBb, oneE]) ⟨.slice none 0 0, .slice none 0 0⟩ ⟨.slice none 0 0, .slice (some ⟨h, 0, none⟩) 2 2⟩ W (use_in _ (by decide) _ _) hi
  · exact two_calls 10 (e8 10 (by omega) (by omega)) (useOf bA) (useOf bBb) ⟨.slice none 0 0, .slice none 0 0⟩ ⟨.slice none 0 0, .slice none 0 0⟩ W (use_in _ (by decide) _ _) (use_in _ (by decide) _ _)
  · exact two_calls 10 (e8 10 (by omega) (by omega)) (exOf 10 [useOf bA, useOf bBb]) oneE ⟨.slice none 0 0, .slice (some ⟨h, 0, none⟩) 2 2⟩ ⟨.slice none 0 0, .slice none 0 0⟩ W hi (one_in _ _)
  · exact two_calls 15 (e8 15 (by omega) (by omega)) (exOf 8 [useOf bA]) (useOf bBb) ⟨.slice none 0 0, .slice (some ⟨s2, 0, none⟩) 1 1⟩ ⟨.slice none 0 0, .slice none 0 0⟩ W (PE.later hnot h) (use_in _ (by decide) _ _)
  · have := showE_at exA _ exA_ok (by decide) ⟨.slice none 0 0, .slice (some ⟨h, 0, none⟩) 2 2⟩ W (hWW W hb) (hmW W hb) hi
    exact this
  · have := showE_at exB _ exB_ok (by decide) ⟨.slice none 0 0, .slice (some ⟨h, 0, none⟩) 2 2⟩ W (hWW W hb) (hmW W hb) hi
    exact this
  · have := showE_at exC _ exC_ok (by decide) ⟨.slice none 0 0, .slice (some ⟨s0 + 4, 0, none⟩) 1 1⟩ W (hWW W h) (hmW W h) (PE.later hneg h)
    exact this
  · have := showE_at exD _ exD_ok (by decide) ⟨.slice none 0 0, .slice (some ⟨h, 0, none⟩) 2 2⟩ W (hWW W hb) (hmW W hb) hi
    exact this
  · have hi : PE.In W.heap.size W exN ⟨.slice none 0 0, .slice none 0 0⟩ := ⟨⟨e8 0 (by omega) (by omega), by unfold I64; decide, by unfold I64; decide, by decide, by decide⟩, ⟨by decide, 0, 0, nil_sl _, trivial⟩, 0, 0, nil_sl _, trivial⟩
    have hE : rE 40 exN = false := by decide +kernel
    have := showE_calls W.heap.size 0 0 ⟨#[]⟩ ⟨#[]⟩ ⟨⟨#[]⟩, []⟩ [] 0 none 0 0 none 0 0 W (Nat.le_refl _) (hWW W h) (hmW W h) hi exN rfl (fun h => by rw [hE] at h; cases h)
    rw [exN_ok] at this
    exact this
  · have := showT_calls W.heap.size tyA (some ⟨s2 + 3, 0, none⟩) 1 1 W (Nat.le_refl _) (hWW W h) (hmW W h) (PT.later hty h) (fun _ => by rw [tyA_ok.2]; simp)
    rw [if_pos tyA_ok.1, tyA_ok.2] at this
    exact this
  · have hcs : CellsAt (W.alloc (.cells #[.string ⟨#[97]⟩, .string ⟨#[42]⟩] 9)) W.heap.size 0 [.string ⟨#[97]⟩, .string ⟨#[42]⟩] := cells_made (heap_alloc_new W _)
    have hk : Below wd.heap.size wd (W.alloc (.cells #[.string ⟨#[97]⟩, .string ⟨#[42]⟩] 9)) := h.trans ((new_only W _).mono h.size)
    have := showP_calls (W.alloc (.cells #[.string ⟨#[97]⟩, .string ⟨#[42]⟩] 9)).heap.size plA (some ⟨W.heap.size, 0, none⟩) 2 2 (W.alloc (.cells #[.string ⟨#[97]⟩, .string ⟨#[42]⟩] 9)) (Nat.le_refl _) (hmW _ hk)
      ⟨by decide, W.heap.size, 0, ⟨by unfold maxLen; simp [plA], _, 2, rfl, .inr ⟨rfl, by simp⟩⟩, ⟨by decide, fun i v hi => by cases i with
        | zero => exact hcs 0 v (by simpa using hi)
        | succ i => simp at hi⟩, ⟨by decide, fun i v hi => by cases i with
        | zero => exact hcs 1 v (by simpa using hi)
        | succ i => simp at hi⟩, trivial⟩ (fun _ => by rw [plA_ok.2]; simp)
    rw [if_pos plA_ok.1, plA_ok.2] at this
    exact this
end Go.Proofs.YthilicmhdkmipaaGreatDoor
/- ShowWraps: the law, its contracts put in. -/
namespace Go.Proofs.YthilicmhdkmipaaGreatDoor
open Go.RowKit
set_option linter.unusedVariables false

/-- the text of a type, of an expression; the empty one, if it isn't whole -/
def sT (t : PT) : ByteArray := ⟨(if rT 40 t then lineT (tokT t) else []).toArray⟩
def sE (x : PE) : ByteArray := ⟨(if (!lentB x && rE 40 x) then lineT (tokE x) else []).toArray⟩
theorem ba_cat (x y : List UInt8) : (⟨x.toArray⟩ : ByteArray) ++ ⟨y.toArray⟩ = ⟨(x ++ y).toArray⟩ := ByteArray.mk_append_mk x y
theorem ba_len (x : List UInt8) : (⟨x.toArray⟩ : ByteArray).size = x.length := by show x.toArray.size = _; simp
theorem len_ne {x : List UInt8} (h : x ≠ []) : x.length ≠ 0 := fun e => h (List.length_eq_zero_iff.1 e)
theorem sT_wraps (t : PT) : ((sT t).size ≠ 0 ∧ sT (boxOf 5 t) = ⟨#[66, 111, 120, 32, 60, 32]⟩ ++ sT t ++ ⟨#[32, 62]⟩ ∧ sT (boxOf 14 t) = ⟨#[38, 32, 109, 117, 116, 32]⟩ ++ sT t) ∨ sT (boxOf 5 t) = ⟨#[]⟩ := by
  unfold sT
  rw [rT_box 5 (.inl rfl) 39, rT_box 14 (.inr rfl) 39]
  by_cases h : rT 39 t = true
  · left
    have hn := lineT_type 39 t h
    rw [if_pos h, if_pos h, if_pos (rT_more 39 t h), line_box t (ne_of_line hn), line_ref t (ne_of_line hn)]
    refine ⟨by rw [ba_len]; exact len_ne hn, ?_, ?_⟩
    · rw [show (⟨#[66, 111, 120, 32, 60, 32]⟩ : ByteArray) = ⟨([66, 111, 120, 32, 60, 32] : List UInt8).toArray⟩ from rfl, show (⟨#[32, 62]⟩ : ByteArray) = ⟨([32, 62] : List UInt8).toArray⟩ from rfl, ba_cat, ba_cat]
    · rw [show (⟨#[38, 32, 109, 117, 116, 32]⟩ : ByteArray) = ⟨([38, 32, 109, 117, 116, 32] : List UInt8).toArray⟩ from rfl, ba_cat]
  · right
    rw [if_neg h]
theorem sE_wraps (x : PE) : ((sE x).size ≠ 0 ∧ sE (exOf 21 [x]) = ⟨#[98, 111, 120, 32, 40, 32]⟩ ++ sE x ++ ⟨#[32, 41]⟩) ∨ sE (exOf 21 [x]) = ⟨#[]⟩ := by
  unfold sE
  rw [rE_boxed 39 x, show lentB (exOf 21 [x]) = false from rfl]
  by_cases h : (!lentB x && rE 39 x) = true
  · left
    have h0 := h
    rw [Bool.and_eq_true] at h
    have hn := lineT_expr 39 x h.2
    have h1 : (!lentB x && rE 40 x) = true := by rw [Bool.and_eq_true]; exact ⟨h.1, rE_more 39 x h.2⟩
    rw [if_pos h1, if_pos (by rw [h0]; rfl), line_boxed x (ne_of_line hn)]
    refine ⟨by rw [ba_len]; exact len_ne hn, ?_⟩
    rw [show (⟨#[98, 111, 120, 32, 40, 32]⟩ : ByteArray) = ⟨([98, 111, 120, 32, 40, 32] : List UInt8).toArray⟩ from rfl, show (⟨#[32, 41]⟩ : ByteArray) = ⟨([32, 41] : List UInt8).toArray⟩ from rfl, ba_cat, ba_cat]
  · right
    rw [if_neg]
    rw [Bool.eq_false_iff.2 h]; simp
theorem sT_size (t : PT) (h : (wtT (tokT t) : Int) ≤ 100000) : (sT t).size ≤ 100000 := by
  have := wtT_line (tokT t)
  unfold sT
  rw [ba_len]
  split
  · omega
  · simp
theorem sE_size (x : PE) (h : (wtT (tokE x) : Int) ≤ 100000) : (sE x).size ≤ 100000 := by
  have := wtT_line (tokE x)
  unfold sE
  rw [ba_len]
  split
  · omega
  · simp
theorem box_len (k : Int) (hk : k = 5 ∨ k = 14) (t : PT) (h : (wtT (tokT t) : Int) ≤ 100000) (hr : rT 40 (boxOf k t) = true) : (lineT (tokT (boxOf k t))).length ≤ 1000000000 := by
  have h1 := wtT_line (tokT t)
  rw [rT_box k hk 39] at hr
  have hn := ne_of_line (lineT_type 39 t hr)
  rcases hk with rfl | rfl
  · rw [line_box t hn]; simp only [List.length_append, List.length_cons, List.length_nil]; omega
  · rw [line_ref t hn]; simp only [List.length_append, List.length_cons, List.length_nil]; omega
theorem u8_of {k : Int} (h1 : 0 ≤ k) (h2 : k < 256) : U8 k := by
  have hmx : IntKind.u8.max = 255 := by decide
  have hmn : IntKind.u8.min = 0 := by decide
  unfold U8
  simp only [Lit.wf, Bool.and_eq_true, decide_eq_true_eq]
  omega
set_option maxRecDepth 100000 in
set_option maxHeartbeats 4000000 in
theorem showWraps_law (t : PT) (pt : Option Addr) (nt qt : Nat) (op iv : Int) (nm sc : ByteArray) (pl : PP) (es : List PE) (ps : Int) (p0 : Option Addr) (n0 q0 : Nat) (p1 : Option Addr) (n1 q1 : Nat) (w : World) (hm : MaxOk w) (hW : Words w.heap.size w)
    (ht : t.In w.heap.size w (.slice pt nt qt)) (he : PE.In w.heap.size w (.mk op iv nm sc pl es ps) ⟨.slice p0 n0 q0, .slice p1 n1 q1⟩) :
    Calls Tryz.prog 8 #[.agg #[.int .u8 t.kind, .string t.name, .slice pt nt qt], .agg #[.int .u8 op, .int .i64 iv, .string nm, .string sc, .string pl.name, .slice p0 n0 q0, .slice p1 n1 q1, .int .i64 ps]] w fun r w' => r = .returned (.bool true) ∧ Below w.heap.size w w' := by
  have hWW : ∀ W, Below w.heap.size w W → Words W.heap.size W := fun W h => (hW.below h).wider h.size
  have AW : Hid (∀ W, Below w.heap.size w W → Calls Tryz.prog 28 #[] W fun e w' => e = .returned (.bool true) ∧ Below W.heap.size W w') := Lib.hid fun W h => awake4_calls W (hm.below h) (hWW W h)
  have G1 : Hid (∀ w', Below w.heap.size w w' → Calls Tryz.prog 15 #[.agg #[.int .u8 t.kind, .string t.name, .slice pt nt qt]] w' fun e w'' => e = .returned (.bool (decide (typeR t 20000 < 0))) ∧ Below w'.heap.size w' w'') :=
    Lib.hid fun w' h => greatT_calls w.heap.size t _ w' h.size (PT.In.below h ht)
  have G2 : Hid (∀ w', Below w.heap.size w w' → Calls Tryz.prog 16 #[.agg #[.int .u8 op, .int .i64 iv, .string nm, .string sc, .string pl.name, .slice p0 n0 q0, .slice p1 n1 q1, .int .i64 ps]] w' fun e w'' => e = .returned (.bool (decide (exprR (.mk op iv nm sc pl es ps) 20000 < 0))) ∧ Below w'.heap.size w' w'') :=
    Lib.hid fun w' h => greatE_calls w.heap.size _ _ _ _ _ _ _ _ _ _ _ _ _ w' h.size (PE.In.below h he)
  by_cases h1 : typeR t 20000 < 0
  · rw [decide_eq_true h1] at G1
    exact showWraps_great _ _ _ _ _ _ _ _ _ _ _ _ _ _ _ _ _ w true _ (.inl rfl) AW G1 G2
  by_cases h2 : exprR (.mk op iv nm sc pl es ps) 20000 < 0
  · rw [decide_eq_false h1] at G1
    rw [decide_eq_true h2] at G2
    exact showWraps_great _ _ _ _ _ _ _ _ _ _ _ _ _ _ _ _ _ w false true (.inr ⟨rfl, rfl⟩) AW G1 G2
  rw [decide_eq_false h1] at G1
  rw [decide_eq_false h2] at G2
  have wt := typeR_w t 20000 (by omega)
  have we := exprR_w _ _ 20000 he (by omega)
  obtain ⟨x, hx⟩ : ∃ x, x = PE.mk op iv nm sc pl es ps := ⟨_, rfl⟩
  have wt' : (wtT (tokT t) : Int) ≤ 100000 := by omega
  have we' : (wtT (tokE x) : Int) ≤ 100000 := by rw [hx]; omega
  have lt := wtT_line (tokT t)
  have le := wtT_line (tokE x)
  have st := sT_size t wt'
  have se := sE_size x we'
  have kt : ∀ W, Below w.heap.size w W → ∀ k : Int, k = 5 ∨ k = 14 → PT.In (W.alloc (.cells #[.int .u8 t.kind, .string t.name, .slice pt nt qt] 31)).heap.size (W.alloc (.cells #[.int .u8 t.kind, .string t.name, .slice pt nt qt] 31)) (boxOf k t) (.slice (some ⟨W.heap.size, 0, none⟩) 1 1) := fun W h k hk =>
    type_row (u8_of (by omega) (by omega)) (by simp) (PT.later ht (h.trans ((new_only W _).mono h.size))) (cells_made (cs := t.cells (.slice pt nt qt)) (heap_alloc_new W _))
  refine showWraps_walk t.kind t.name pt nt qt op iv nm sc pl.name ps p0 n0 q0 p1 n1 q1 w (sT t) (sE x) (sT (boxOf 5 t)) (sT (boxOf 14 t)) (sE (exOf 21 [x])) AW G1 G2
    (Lib.hid fun W h => ?s1) (Lib.hid fun W h => ?s2) (Lib.hid fun W h => ?s3) (Lib.hid fun W h => ?s4) (Lib.hid fun W h => ?s5) (by omega) (by omega) (sT_wraps t) (sE_wraps x)
  case s1 => exact showT_calls w.heap.size t pt nt qt W h.size (hW.below h) (hm.below h) (PT.In.below h ht) (fun _ => by omega)
  case s2 =>
    have := showE_calls w.heap.size op iv nm sc pl es ps p0 n0 q0 p1 n1 q1 W h.size (hW.below h) (hm.below h) (PE.In.below h he) x hx (fun _ => by omega)
    exact this
  case s3 => exact showT_calls _ (boxOf 5 t) (some ⟨W.heap.size, 0, none⟩) 1 1 _ (Nat.le_refl _) (hWW _ (h.trans ((new_only W _).mono h.size))) (hm.below (h.trans ((new_only W _).mono h.size))) (kt W h 5 (.inl rfl)) (box_len 5 (.inl rfl) t wt')
  case s4 => exact showT_calls _ (boxOf 14 t) (some ⟨W.heap.size, 0, none⟩) 1 1 _ (Nat.le_refl _) (hWW _ (h.trans ((new_only W _).mono h.size))) (hm.below (h.trans ((new_only W _).mono h.size))) (kt W h 14 (.inr rfl)) (box_len 14 (.inr rfl) t wt')
  case s5 =>
    have hk := h.trans ((new_only W (.cells #[.int .u8 op, .int .i64 iv, .string nm, .string sc, .string pl.name, .slice p0 n0 q0, .slice p1 n1 q1, .int .i64 ps] 37)).mono h.size)
    have hin : PE.In (W.alloc (.cells #[.int .u8 op, .int .i64 iv, .string nm, .string sc, .string pl.name, .slice p0 n0 q0, .slice p1 n1 q1, .int .i64 ps] 37)).heap.size (W.alloc (.cells #[.int .u8 op, .int .i64 iv, .string nm, .string sc, .string pl.name, .slice p0 n0 q0, .slice p1 n1 q1, .int .i64 ps] 37)) (exOf 21 [x]) ⟨.slice none 0 0, .slice (some ⟨W.heap.size, 0, none⟩) 1 1⟩ := by
      refine one_row (vx := ⟨.slice p0 n0 q0, .slice p1 n1 q1⟩) (u8_of (by omega) (by omega)) (by simp) ?_ ?_
      · rw [hx]; exact PE.later he hk
      · rw [hx]; exact cells_made (cs := (PE.mk op iv nm sc pl es ps).cells ⟨.slice p0 n0 q0, .slice p1 n1 q1⟩) (heap_alloc_new W _)
    have := showE_calls _ 21 0 eB eB ⟨eB, []⟩ [x] 0 none 0 0 (some ⟨W.heap.size, 0, none⟩) 1 1 _ (Nat.le_refl _) (hWW _ hk) (hm.below hk) hin (exOf 21 [x]) rfl (fun hr => by
      rw [rE_boxed 39 x, Bool.and_eq_true] at hr
      rw [line_boxed x (ne_of_line (lineT_expr 39 x hr.2))]
      simp only [List.length_append, List.length_cons, List.length_nil]; omega)
    exact this
end Go.Proofs.YthilicmhdkmipaaGreatDoor
