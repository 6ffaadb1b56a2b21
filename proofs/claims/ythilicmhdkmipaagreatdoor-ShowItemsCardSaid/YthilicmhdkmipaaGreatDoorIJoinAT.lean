/- show.Type, show.Place, show.Expr. -/
import Derived.Test.YthilicmhdkmipaaGreatDoorIJoinAS
import Derived.Test.YthilicmhdkmipaaGreatDoorIJoinAJ
import Derived.Test.YthilicmhdkmipaaGreatDoorIJoinAI
import Derived.Test.YthilicmhdkmipaaGreatDoorIJoinAU
namespace Go.Proofs.YthilicmhdkmipaaGreatDoor
open Go.RowKit
set_option linter.unusedVariables false

theorem dec_ne (u : Nat) : Lib.decDigits u ≠ [] := by
  rw [Lib.decDigits]
  split <;> simp
theorem itoa_ne (i : Int) : Lib.itoa i ≠ [] := by
  unfold Lib.itoa
  split
  · simp
  · exact dec_ne _
theorem kT_ne {s : ByteArray} (h : s.size ≠ 0) : kT s ≠ [] := fun e => h (by show (kT s).length = 0; rw [e]; rfl)
theorem lineT_type : ∀ (n : Nat) (t : PT), rT n t = true → lineT (tokT t) ≠ []
  | 0, t, h => by rw [rT] at h; cases h
  | n + 1, .mk k nm l, h => by
    have hr : rT (n + 1) (.mk k nm l) = (if k < 1 ∨ 14 < k then false else if k = 1 ∨ k = 2 ∨ k = 3 ∨ k = 10 then noB nm && decide (l.length = 0) else if k = 4 then tyB nm && decide (l.length = 0) else noB nm && (decide (l.length = 1) && l.all (fun u => rT n u))) := by rw [rT]; rfl
    rw [hr] at h
    by_cases h0 : k < 1 ∨ 14 < k
    · rw [if_pos h0] at h; cases h
    rw [if_neg h0] at h
    rw [tokT]
    by_cases h4 : k = 4
    · subst h4
      rw [if_neg (by decide), if_pos rfl, Bool.and_eq_true] at h
      rw [if_pos rfl]
      exact line_ne (t := kT nm) (by simp) (kT_ne (tyB_size h.1))
    rw [if_neg h4]
    by_cases h1 : k = 1 ∨ k = 2 ∨ k = 3 ∨ k = 10
    · rw [if_pos h1]
      refine line_ne (t := typeWord k) (by simp) ?_
      rcases h1 with rfl | rfl | rfl | rfl <;> decide
    rw [if_neg h1]
    by_cases h13 : k = 13
    · rw [if_pos h13]
      exact line_ne (t := wAmp) (by simp) (by decide)
    rw [if_neg h13]
    by_cases h14 : k = 14
    · rw [if_pos h14]
      exact line_ne (t := wAmp) (by simp) (by decide)
    rw [if_neg h14]
    exact line_ne (t := wLess) (by simp) (by decide)
theorem lineT_place {x : PP} (h : plB x = true) : lineT (tokP x) ≠ [] := line_ne (t := kT x.name) (by simp [tokP]) (kT_ne (plB_size h))
theorem exprWord_ne (op : Int) (h : 7 ≤ op ∧ op ≤ 17) : exprWord op ≠ [] := by
  rcases (by omega : op = 7 ∨ op = 8 ∨ op = 9 ∨ op = 10 ∨ op = 11 ∨ op = 12 ∨ op = 13 ∨ op = 14 ∨ op = 15 ∨ op = 16 ∨ op = 17) with rfl | rfl | rfl | rfl | rfl | rfl | rfl | rfl | rfl | rfl | rfl <;> decide
theorem rSh_place {op i : Int} {n s : ByteArray} {p : PP} {l : List PE} {pos : Int} (h : rSh (.mk op i n s p l pos) = true) (h4 : op = 4) : plB p = true := by
  subst h4
  unfold rSh at h
  simp only [Bool.and_eq_true] at h
  have hp := h.2.2.2.1
  exact hp
theorem lineT_expr (n : Nat) (x : PE) (h : rE n x = true) : lineT (tokE x) ≠ [] := by
  cases n with
  | zero => rw [rE] at h; cases h
  | succ n =>
    obtain ⟨op, i, nm, s, p, l, pos⟩ := x
    obtain ⟨hs, _⟩ := rE_step h
    have ho := (rSh_of hs).rng
    rw [tokE]
    by_cases c1 : op = 1
    · rw [if_pos c1]; exact line_ne (t := Lib.itoa i) (by simp) (itoa_ne i)
    rw [if_neg c1]
    by_cases c2 : op = 2
    · rw [if_pos c2]; exact line_ne (t := boolWord i) (by simp) (by unfold boolWord; split <;> simp)
    rw [if_neg c2]
    by_cases c3 : op = 3
    · rw [if_pos c3]; exact line_ne (t := wOpen) (by simp) (by decide)
    rw [if_neg c3]
    by_cases c4 : op = 4
    · rw [if_pos c4]; exact lineT_place (rSh_place hs c4)
    rw [if_neg c4]
    by_cases c5 : op = 5
    · rw [if_pos c5]; exact line_ne (t := wAmp) (by simp) (by decide)
    rw [if_neg c5]
    by_cases c6 : op = 6
    · rw [if_pos c6]; exact line_ne (t := wAmp) (by simp) (by decide)
    rw [if_neg c6]
    by_cases c18 : op = 18
    · rw [if_pos c18]; exact line_ne (t := wOpen) (by simp) (by decide)
    rw [if_neg c18]
    by_cases c19 : op = 19
    · rw [if_pos c19]; exact line_ne (t := wLeft) (by simp) (by decide)
    rw [if_neg c19]
    by_cases c20 : op = 20
    · rw [if_pos c20]; exact line_ne (t := wDot) (by simp) (by decide)
    rw [if_neg c20]
    by_cases c7 : op = 7 ∨ op = 8
    · rw [if_pos c7]; exact line_ne (t := exprWord op) (by simp) (exprWord_ne op (by omega))
    rw [if_neg c7]
    by_cases c9 : 9 ≤ op ∧ op ≤ 17
    · rw [if_pos c9]; exact line_ne (t := exprWord op) (by simp) (exprWord_ne op (by omega))
    rw [if_neg c9]
    exact line_ne (t := wOpen) (by simp) (by decide)
set_option maxRecDepth 100000 in
set_option maxHeartbeats 2000000 in
theorem showT_calls (B : Nat) (t : PT) (ao : Option Addr) (n q : Nat) (w : World) (hB : B ≤ w.heap.size) (hW : Words B w) (hm : MaxOk w) (ht : t.In B w (.slice ao n q)) (hL : rT 40 t = true → (lineT (tokT t)).length ≤ 1000000000) :
    Calls Tryz.prog 25 #[.agg #[.int .u8 t.kind, .string t.name, .slice ao n q]] w fun e w' => e = .returned (.string ⟨(if rT 40 t then lineT (tokT t) else []).toArray⟩) ∧ Below w.heap.size w w' := by
  have bx : Below w.heap.size w (w.alloc (.cells #[.int .u8 t.kind, .string t.name, .slice ao n q] 31)) := new_only _ _
  have C := Lib.hid (shownT_calls B t (rT 40 t) (.slice ao n q) _ (by simp; omega) (hW.below (bx.mono hB)) (PT.In.below (bx.mono hB) ht)
    (fun W hb => topWholeT_calls B t ao n q W (by have := hb.size; simp at this; omega) ((hm.alloc _).below hb) (PT.In.below (((bx.trans (hb.mono (by simp)))).mono hB) ht))
    (fun h B R => typed_calls B R 40 t h) hL (fun h => lineT_type 40 t h))
  have BX := Lib.hid bx
  generalize (⟨(if rT 40 t then lineT (tokT t) else []).toArray⟩ : ByteArray) = res at *
  clear bx ht hW hL hm
  go_enter Tryz.func25, Tryz.ntmps25
  go_wp2_with fail
  refine (C.out).mono ?_
  rintro e w1 ⟨rfl, b1⟩
  have B1 := Lib.hid (BX.out.trans (b1.mono (by simp)))
  clear b1 C
  go_wp2
  go_ret
  exact ⟨rfl, B1.out⟩
set_option maxRecDepth 100000 in
set_option maxHeartbeats 2000000 in
theorem showP_calls (B : Nat) (t : PP) (ao : Option Addr) (n q : Nat) (w : World) (hB : B ≤ w.heap.size) (hm : MaxOk w) (ht : t.In B w (.slice ao n q)) (hL : plB t = true → (lineT (tokP t)).length ≤ 1000000000) :
    Calls Tryz.prog 27 #[.agg #[.string t.name, .slice ao n q]] w fun e w' => e = .returned (.string ⟨(if plB t then lineT (tokP t) else []).toArray⟩) ∧ Below w.heap.size w w' := by
  have bx : Below w.heap.size w (w.alloc (.cells #[.string t.name, .slice ao n q] 34)) := new_only _ _
  have C := Lib.hid (shownP_calls B t (plB t) (.slice ao n q) _ (by simp; omega) (ht.below (bx.mono hB))
    (fun W hb => topWholeP_calls B t ao n q W (by have := hb.size; simp at this; omega) ((hm.alloc _).below hb) (ht.below (((bx.trans (hb.mono (by simp)))).mono hB)))
    hL (fun h => lineT_place h))
  have BX := Lib.hid bx
  generalize (⟨(if plB t then lineT (tokP t) else []).toArray⟩ : ByteArray) = res at *
  clear bx ht hL hm
  go_enter Tryz.func27, Tryz.ntmps27
  go_wp2_with fail
  refine (C.out).mono ?_
  rintro e w1 ⟨rfl, b1⟩
  have B1 := Lib.hid (BX.out.trans (b1.mono (by simp)))
  clear b1 C
  go_wp2
  go_ret
  exact ⟨rfl, B1.out⟩
set_option maxRecDepth 100000 in
set_option maxHeartbeats 2000000 in
theorem showE_calls (B : Nat) (op i : Int) (nm s : ByteArray) (p : PP) (l : List PE) (pos : Int) (p0 : Option Addr) (n0 q0 : Nat) (p1 : Option Addr) (n1 q1 : Nat) (w : World) (hB : B ≤ w.heap.size) (hW : Words B w) (hm : MaxOk w) (ht : PE.In B w (.mk op i nm s p l pos) ⟨.slice p0 n0 q0, .slice p1 n1 q1⟩) (x : PE) (hx : x = .mk op i nm s p l pos) (hL : rE 40 x = true → (lineT (tokE x)).length ≤ 1000000000) :
    Calls Tryz.prog 26 #[.agg #[.int .u8 op, .int .i64 i, .string nm, .string s, .string p.name, .slice p0 n0 q0, .slice p1 n1 q1, .int .i64 pos]] w fun e w' => e = .returned (.string ⟨(if (!lentB x && rE 40 x) then lineT (tokE x) else []).toArray⟩) ∧ Below w.heap.size w w' := by
  subst hx
  have bx : Below w.heap.size w (w.alloc (.cells #[.int .u8 op, .int .i64 i, .string nm, .string s, .string p.name, .slice p0 n0 q0, .slice p1 n1 q1, .int .i64 pos] 37)) := new_only _ _
  have hq : (!lentB (.mk op i nm s p l pos) && rE 40 (.mk op i nm s p l pos)) = true → rE 40 (.mk op i nm s p l pos) = true := fun h => by
    rw [Bool.and_eq_true] at h; exact h.2
  have C0 := Lib.hid (shownE_calls B (.mk op i nm s p l pos) (!lentB (.mk op i nm s p l pos) && rE 40 (.mk op i nm s p l pos)) ⟨.slice p0 n0 q0, .slice p1 n1 q1⟩ _ (by simp; omega) (hW.below (bx.mono hB)) (PE.In.below (bx.mono hB) ht)
    (fun W hb => topWholeE_calls B op i nm s p l pos p0 n0 q0 p1 n1 q1 W (by have := hb.size; simp at this; omega) ((hm.alloc _).below hb) (PE.In.below (((bx.trans (hb.mono (by simp)))).mono hB) ht))
    (fun h B R => expr_calls B R 40 _ (hq h)) (fun h => hL (hq h)) (fun h => lineT_expr 40 _ (hq h)))
  have BX := Lib.hid bx
  obtain ⟨res, hres⟩ : ∃ res : ByteArray, res = ⟨(if (!lentB (.mk op i nm s p l pos) && rE 40 (.mk op i nm s p l pos)) then lineT (tokE (.mk op i nm s p l pos)) else []).toArray⟩ := ⟨_, rfl⟩
  rw [← hres] at C0 ⊢
  have C : Hid (Calls Tryz.prog 67 #[.agg #[.int .u8 op, .int .i64 i, .string nm, .string s, .string p.name, .slice p0 n0 q0, .slice p1 n1 q1, .int .i64 pos], .func (.func 68) #[] #[], .func (.func 69) #[] #[]] (w.alloc (.cells #[.int .u8 op, .int .i64 i, .string nm, .string s, .string p.name, .slice p0 n0 q0, .slice p1 n1 q1, .int .i64 pos] 37)) fun e w' => e = .returned (.string res) ∧ Below (w.alloc (.cells #[.int .u8 op, .int .i64 i, .string nm, .string s, .string p.name, .slice p0 n0 q0, .slice p1 n1 q1, .int .i64 pos] 37)).heap.size (w.alloc (.cells #[.int .u8 op, .int .i64 i, .string nm, .string s, .string p.name, .slice p0 n0 q0, .slice p1 n1 q1, .int .i64 pos] 37)) w') := Lib.hid C0.out
  clear bx ht hW hL hm C0 hq hres
  go_enter Tryz.func26, Tryz.ntmps26
  go_wp2_with fail
  refine (C.out).mono ?_
  rintro e w1 ⟨rfl, b1⟩
  have B1 := Lib.hid (BX.out.trans (b1.mono (by simp)))
  clear b1 C
  go_wp2
  go_ret
  exact ⟨rfl, B1.out⟩
end Go.Proofs.YthilicmhdkmipaaGreatDoor
/- The plain part of ShowWraps and ShowSides: what is whole with something around it, and its text. -/
namespace Go.Proofs.YthilicmhdkmipaaGreatDoor
open Go.RowKit
set_option linter.unusedVariables false

/-! ### a type in a Box, behind a reference -/
def eB : ByteArray := ⟨#[]⟩
def boxOf (k : Int) (t : PT) : PT := .mk k eB [t]
/-! ### an expression in a box; two beside a sign -/
def exOf (op : Int) (l : List PE) : PE := .mk op 0 eB eB ⟨eB, []⟩ l 0
/-- a side's text: in parentheses, if it is too weak -/
def sideB (k : Nat) (op : Int) (s : TkB) : TkB := if strongB op < k then [40, 32] ++ s ++ [32, 41] else s
end Go.Proofs.YthilicmhdkmipaaGreatDoor
/- awake, first part: use, two; what show answers of closed trees. -/
namespace Go.Proofs.YthilicmhdkmipaaGreatDoor
open Go.RowKit
set_option linter.unusedVariables false

set_option maxHeartbeats 1000000 in
theorem use_calls (s : ByteArray) (w : World) :
    Calls Tryz.prog 73 #[.string s] w fun e w' => e = .returned (.agg #[.int .u8 4, .int .i64 0, .string ⟨#[]⟩, .string ⟨#[]⟩, .string s, .slice none 0 0, .slice none 0 0, .int .i64 0]) ∧ Below w.heap.size w w' := by
  go_enter Tryz.func73, Tryz.ntmps73
  go_wp2
  exact bodyPost_ret (v := .agg #[.int .u8 4, .int .i64 0, .string ⟨#[]⟩, .string ⟨#[]⟩, .string s, .slice none 0 0, .slice none 0 0, .int .i64 0]) (by rw [results_cell1 rfl]; go_simp) rfl ⟨rfl, box1 _ _⟩
/-- two expressions in a row that was just made -/
theorem two_in {w W : World} {S : Nat} {op : Int} {x y : PE} {vx vy : VE} (hop : U8 op) (hS : S < W.heap.size) (hk : Below w.heap.size w W) (hx : PE.In w.heap.size w x vx) (hy : PE.In w.heap.size w y vy) (hc : CellsAt W S 0 (x.cells vx ++ y.cells vy)) :
    PE.In W.heap.size W (exOf op [x, y]) ⟨.slice none 0 0, .slice (some ⟨S, 0, none⟩) 2 2⟩ := by
  obtain ⟨p1, n1, c1, p2, n2, c2, rfl⟩ := hx.shape
  obtain ⟨q1, m1, d1, q2, m2, d2, rfl⟩ := hy.shape
  refine ⟨⟨hop, by unfold I64; decide, by unfold I64; decide, by decide, by decide⟩, ⟨by decide, 0, 0, nil_sl _, trivial⟩, S, 0, ⟨by unfold maxLen; simp, _, 2, rfl, .inr ⟨rfl, hS⟩⟩, ?_⟩
  refine ⟨⟨_, fun i v hi => ?_, PE.In.wider hk.size (PE.In.below hk hx)⟩, ⟨_, fun i v hi => ?_, PE.In.wider hk.size (PE.In.below hk hy)⟩, trivial⟩
  · refine hc i v ?_
    rw [List.getElem?_append_left]
    · exact hi
    · exact (List.getElem?_eq_some_iff.1 hi).1
  · have hlen : (x.cells ⟨.slice p1 n1 c1, .slice p2 n2 c2⟩).length = 8 := rfl
    have := hc (8 + i) v (by rw [List.getElem?_append_right (by rw [hlen]; omega), hlen, Nat.add_sub_cancel_left]; exact hi)
    rw [← Nat.add_assoc] at this
    exact this
set_option maxRecDepth 100000 in
set_option maxHeartbeats 2000000 in
theorem two_calls (op : Int) (hop : U8 op) (x y : PE) (vx vy : VE) (w : World) (hx : PE.In w.heap.size w x vx) (hy : PE.In w.heap.size w y vy) :
    Calls Tryz.prog 33 #[.int .u8 op, .agg (x.cells vx).toArray, .agg (y.cells vy).toArray] w fun e w' =>
      (∃ g, e = .returned (.agg #[.int .u8 op, .int .i64 0, .string ⟨#[]⟩, .string ⟨#[]⟩, .string ⟨#[]⟩, .slice none 0 0, .slice (some ⟨g, 0, none⟩) 2 2, .int .i64 0]) ∧ PE.In w'.heap.size w' (exOf op [x, y]) ⟨.slice none 0 0, .slice (some ⟨g, 0, none⟩) 2 2⟩) ∧ Below w.heap.size w w' := by
  have HX := Lib.hid hx
  have HY := Lib.hid hy
  obtain ⟨p1, n1, c1, p2, n2, c2, rfl⟩ := hx.shape
  obtain ⟨q1, m1, d1, q2, m2, d2, rfl⟩ := hy.shape
  show Calls Tryz.prog 33 #[.int .u8 op, .agg #[.int .u8 x.op, .int .i64 x.int, .string x.name, .string x.second, .string x.place.name, .slice p1 n1 c1, .slice p2 n2 c2, .int .i64 x.pos], .agg #[.int .u8 y.op, .int .i64 y.int, .string y.name, .string y.second, .string y.place.name, .slice q1 m1 d1, .slice q2 m2 d2, .int .i64 y.pos]] w _
  clear hx hy
  go_enter Tryz.func33, Tryz.ntmps33
  go_wp2
  refine bodyPost_ret (v := .agg #[.int .u8 op, .int .i64 0, .string ⟨#[]⟩, .string ⟨#[]⟩, .string ⟨#[]⟩, .slice none 0 0, .slice (some ⟨w.heap.size + 1 + 1 + 1, 0, none⟩) 2 2, .int .i64 0]) (by rw [results_cell1 rfl]; go_simp) rfl ?_
  obtain ⟨w3, h3⟩ : ∃ w3, w3 = ((w.alloc (.cells #[.int .u8 x.op, .int .i64 x.int, .string x.name, .string x.second, .string x.place.name, .slice p1 n1 c1, .slice p2 n2 c2, .int .i64 x.pos] 37)).alloc (.cells #[.int .u8 y.op, .int .i64 y.int, .string y.name, .string y.second, .string y.place.name, .slice q1 m1 d1, .slice q2 m2 d2, .int .i64 y.pos] 37)).alloc (.cells #[.int .u8 op, .int .i64 0, .string ⟨#[]⟩, .string ⟨#[]⟩, .string ⟨#[]⟩, .slice none 0 0, .slice (some ⟨w.heap.size + 1 + 1 + 1, 0, none⟩) 2 2, .int .i64 0] 37) := ⟨_, rfl⟩
  rw [← h3]
  have z3 : w3.heap.size = w.heap.size + 1 + 1 + 1 := by rw [h3]; simp
  have b3 : Below w.heap.size w w3 := by rw [h3]; exact ((new_only _ _).alloc (by simp) _).alloc (by simp; omega) _
  have hk : Below w.heap.size w (w3.alloc (.cells #[.int .u8 x.op, .int .i64 x.int, .string x.name, .string x.second, .string x.place.name, .slice p1 n1 c1, .slice p2 n2 c2, .int .i64 x.pos, .int .u8 y.op, .int .i64 y.int, .string y.name, .string y.second, .string y.place.name, .slice q1 m1 d1, .slice q2 m2 d2, .int .i64 y.pos] 37)) := b3.alloc b3.size _
  have hc := heap_alloc_new w3 (.cells #[.int .u8 x.op, .int .i64 x.int, .string x.name, .string x.second, .string x.place.name, .slice p1 n1 c1, .slice p2 n2 c2, .int .i64 x.pos, .int .u8 y.op, .int .i64 y.int, .string y.name, .string y.second, .string y.place.name, .slice q1 m1 d1, .slice q2 m2 d2, .int .i64 y.pos] 37)
  rw [z3] at hc
  exact ⟨⟨_, rfl, two_in hop (by simp; omega) hk HX.out HY.out (cells_made (cs := x.cells ⟨.slice p1 n1 c1, .slice p2 n2 c2⟩ ++ y.cells ⟨.slice q1 m1 d1, .slice q2 m2 d2⟩) hc)⟩, hk⟩
/-! ### closed trees -/
def bA : ByteArray := ⟨#[97]⟩
def bBb : ByteArray := ⟨#[98]⟩
def useOf (s : ByteArray) : PE := .mk 4 0 ⟨#[]⟩ ⟨#[]⟩ ⟨s, []⟩ [] 0
def oneE : PE := .mk 1 1 ⟨#[]⟩ ⟨#[]⟩ ⟨⟨#[]⟩, []⟩ [] 0
theorem use_in (s : ByteArray) (hs : s.size ≤ maxLen) (B : Nat) (W : World) : PE.In B W (useOf s) ⟨.slice none 0 0, .slice none 0 0⟩ :=
  ⟨⟨by unfold U8; decide, by unfold I64; decide, by unfold I64; decide, by decide, by decide⟩, ⟨hs, 0, 0, nil_sl _, trivial⟩, 0, 0, nil_sl _, trivial⟩
theorem one_in (B : Nat) (W : World) : PE.In B W oneE ⟨.slice none 0 0, .slice none 0 0⟩ :=
  ⟨⟨by unfold U8; decide, by unfold I64; decide, by unfold I64; decide, by decide, by decide⟩, ⟨by decide, 0, 0, nil_sl _, trivial⟩, 0, 0, nil_sl _, trivial⟩
/-- one expression in a row that was just made -/
theorem one_row {W : World} {S : Nat} {op : Int} {x : PE} {vx : VE} (hop : U8 op) (hS : S < W.heap.size) (hx : PE.In W.heap.size W x vx) (hc : CellsAt W S 0 (x.cells vx)) :
    PE.In W.heap.size W (exOf op [x]) ⟨.slice none 0 0, .slice (some ⟨S, 0, none⟩) 1 1⟩ :=
  ⟨⟨hop, by unfold I64; decide, by unfold I64; decide, by decide, by decide⟩, ⟨by decide, 0, 0, nil_sl _, trivial⟩, S, 0, ⟨by unfold maxLen; simp, _, 1, rfl, .inr ⟨rfl, hS⟩⟩, ⟨_, hc, hx⟩, trivial⟩
theorem type_row {W : World} {S : Nat} {k : Int} {x : PT} {vx : Value} (hk : U8 k) (hS : S < W.heap.size) (hx : PT.In W.heap.size W x vx) (hc : CellsAt W S 0 (x.cells vx)) :
    PT.In W.heap.size W (boxOf k x) (.slice (some ⟨S, 0, none⟩) 1 1) :=
  ⟨⟨hk, by decide⟩, S, 0, ⟨by unfold maxLen; simp, _, 1, rfl, .inr ⟨rfl, hS⟩⟩, ⟨_, hc, hx⟩, trivial⟩
def exA : PE := exOf 10 [useOf bA, exOf 10 [useOf bBb, oneE]]
def exB : PE := exOf 10 [exOf 10 [useOf bA, useOf bBb], oneE]
def exC : PE := exOf 7 [exOf 7 [oneE]]
def exD : PE := exOf 15 [exOf 8 [useOf bA], useOf bBb]
def exN : PE := .mk 0 0 ⟨#[]⟩ ⟨#[]⟩ ⟨⟨#[]⟩, []⟩ [] 0
def tyA : PT := boxOf 5 (boxOf 14 (.mk 1 ⟨#[]⟩ []))
def plA : PP := ⟨⟨#[120]⟩, [⟨#[97]⟩, ⟨#[42]⟩]⟩
theorem exA_ok : (!lentB exA && rE 40 exA) = true ∧ lineT (tokE exA) = [97, 32, 45, 32, 40, 32, 98, 32, 45, 32, 49, 32, 41] := by decide +kernel
theorem exB_ok : (!lentB exB && rE 40 exB) = true ∧ lineT (tokE exB) = [97, 32, 45, 32, 98, 32, 45, 32, 49] := by decide +kernel
theorem exC_ok : (!lentB exC && rE 40 exC) = true ∧ lineT (tokE exC) = [45, 32, 45, 32, 49] := by decide +kernel
theorem exD_ok : (!lentB exD && rE 40 exD) = true ∧ lineT (tokE exD) = [40, 32, 110, 111, 116, 32, 97, 32, 41, 32, 61, 61, 32, 98] := by decide +kernel
theorem exN_ok : (!lentB exN && rE 40 exN) = false := by decide +kernel
theorem tyA_ok : rT 40 tyA = true ∧ lineT (tokT tyA) = [66, 111, 120, 32, 60, 32, 38, 32, 109, 117, 116, 32, 105, 110, 116, 32, 62] := by decide +kernel
theorem plA_ok : plB plA = true ∧ lineT (tokP plA) = [120, 32, 46, 32, 97, 32, 46, 32, 42] := by decide +kernel
theorem small_ok : wholeR 40 (rtP [smallI 0]) = true ∧ textP [smallI 0] = [102, 110, 32, 109, 97, 105, 110, 32, 40, 32, 41, 32, 45, 62, 32, 105, 110, 116, 32, 123, 32, 48, 32, 125, 10] := by decide +kernel
theorem small_item (B R : Nat) : ItemAt B R (smallI 0) := fun T0 G0 ts v w hB hW hA hx hL =>
  item_fn B R _ _ _ _ _ _ (fun x hx => by simp at hx) (typed_calls B R 40 _ (by decide +kernel)) (stmts_nil B R) (expr_calls B R 40 _ (by decide +kernel)) T0 G0 ts v w hB hW hA hx hL
/-- show.Expr of a tree that is whole, its text known -/
theorem showE_at (x : PE) (S : TkB) (hx : (!lentB x && rE 40 x) = true ∧ lineT (tokE x) = S) (hS : S.length ≤ 1000) (v : VE) (W : World) (hW : Words W.heap.size W) (hm : MaxOk W) (hi : PE.In W.heap.size W x v) :
    Calls Tryz.prog 26 #[.agg (x.cells v).toArray] W fun e w' => e = .returned (.string ⟨S.toArray⟩) ∧ Below W.heap.size W w' := by
  obtain ⟨op, i, nm, s, p, l, pos⟩ := x
  obtain ⟨p1, n1, c1, p2, n2, c2, rfl⟩ := hi.shape
  have := showE_calls W.heap.size op i nm s p l pos p1 n1 c1 p2 n2 c2 W (Nat.le_refl _) hW hm hi _ rfl (fun _ => by rw [hx.2]; omega)
  rw [if_pos hx.1, hx.2] at this
  exact this
end Go.Proofs.YthilicmhdkmipaaGreatDoor
