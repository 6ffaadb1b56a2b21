/- show.Type, show.Place, show.Expr. -/
import Derived.Test.YthilicmhdkmipaaGreatDoorWJoinAG
import Derived.Test.YthilicmhdkmipaaGreatDoorWJoinAM
import Derived.Test.YthilicmhdkmipaaGreatDoorWJoinAO
import Derived.Test.YthilicmhdkmipaaGreatDoorWJoinAR
import Derived.Test.YthilicmhdkmipaaGreatDoorWJoinAV
namespace Go.Proofs.YthilicmhdkmipaaGreatDoor
open Go.RowKit
set_option linter.unusedVariables false

theorem dec_ne (u : Nat) : Lib.decDigits u ≠ [] := by
  rw [Lib.decDigits]
  split <;> simp
theorem itoa_ne (i : Int) : Lib.itoa i ≠ [] := by
  unfold Lib.itoa
  split
  · simp
  · exact dec_ne _
theorem kT_ne {s : ByteArray} (h : s.size ≠ 0) : kT s ≠ [] := fun e => h (by show (kT s).length = 0; rw [e]; rfl)
theorem lineT_type : ∀ (n : Nat) (t : PT), rT n t = true → lineT (tokT t) ≠ []
  | 0, t, h => by rw [rT] at h; cases h
  | n + 1, .mk k nm l, h => by
    have hr : rT (n + 1) (.mk k nm l) = (if k < 1 ∨ 14 < k then false else if k = 1 ∨ k = 2 ∨ k = 3 ∨ k = 10 then noB nm && decide (l.length = 0) else if k = 4 then tyB nm && decide (l.length = 0) else noB nm && (decide (l.length = 1) && l.all (fun u => rT n u))) := by rw [rT]; rfl
    rw [hr] at h
    by_cases h0 : k < 1 ∨ 14 < k
    · rw [if_pos h0] at h; cases h
    rw [if_neg h0] at h
    rw [tokT]
    by_cases h4 : k = 4
    · subst h4
      rw [if_neg (by decide), if_pos rfl, Bool.and_eq_true] at h
      rw [if_pos rfl]
      exact line_ne (t := kT nm) (by simp) (kT_ne (tyB_size h.1))
    rw [if_neg h4]
    by_cases h1 : k = 1 ∨ k = 2 ∨ k = 3 ∨ k = 10
    · rw [if_pos h1]
      refine line_ne (t := typeWord k) (by simp) ?_
      rcases h1 with rfl | rfl | rfl | rfl <;> decide
    rw [if_neg h1]
    by_cases h13 : k = 13
    · rw [if_pos h13]
      exact line_ne (t := wAmp) (by simp) (by decide)
    rw [if_neg h13]
    by_cases h14 : k = 14
    · rw [if_pos h14]
      exact line_ne (t := wAmp) (by simp) (by decide)
    rw [if_neg h14]
    exact line_ne (t := wLess) (by simp) (by decide)
theorem lineT_place {x : PP} (h : plB x = true) : lineT (tokP x) ≠ [] := line_ne (t := kT x.name) (by simp [tokP]) (kT_ne (plB_size h))
theorem exprWord_ne (op : Int) (h : 7 ≤ op ∧ op ≤ 17) : exprWord op ≠ [] := by
  rcases (by omega : op = 7 ∨ op = 8 ∨ op = 9 ∨ op = 10 ∨ op = 11 ∨ op = 12 ∨ op = 13 ∨ op = 14 ∨ op = 15 ∨ op = 16 ∨ op = 17) with rfl | rfl | rfl | rfl | rfl | rfl | rfl | rfl | rfl | rfl | rfl <;> decide
theorem rSh_place {op i : Int} {n s : ByteArray} {p : PP} {l : List PE} {pos : Int} (h : rSh (.mk op i n s p l pos) = true) (h4 : op = 4) : plB p = true := by
  subst h4
  unfold rSh at h
  simp only [Bool.and_eq_true] at h
  have hp := h.2.2.2.1
  exact hp
theorem lineT_expr (n : Nat) (x : PE) (h : rE n x = true) : lineT (tokE x) ≠ [] := by
  cases n with
  | zero => rw [rE] at h; cases h
  | succ n =>
    obtain ⟨op, i, nm, s, p, l, pos⟩ := x
    obtain ⟨hs, _⟩ := rE_step h
    have ho := (rSh_of hs).rng
    rw [tokE]
    by_cases c1 : op = 1
    · rw [if_pos c1]; exact line_ne (t := Lib.itoa i) (by simp) (itoa_ne i)
    rw [if_neg c1]
    by_cases c2 : op = 2
    · rw [if_pos c2]; exact line_ne (t := boolWord i) (by simp) (by unfold boolWord; split <;> simp)
    rw [if_neg c2]
    by_cases c3 : op = 3
    · rw [if_pos c3]; exact line_ne (t := wOpen) (by simp) (by decide)
    rw [if_neg c3]
    by_cases c4 : op = 4
    · rw [if_pos c4]; exact lineT_place (rSh_place hs c4)
    rw [if_neg c4]
    by_cases c5 : op = 5
    · rw [if_pos c5]; exact line_ne (t := wAmp) (by simp) (by decide)
    rw [if_neg c5]
    by_cases c6 : op = 6
    · rw [if_pos c6]; exact line_ne (t := wAmp) (by simp) (by decide)
    rw [if_neg c6]
    by_cases c18 : op = 18
    · rw [if_pos c18]; exact line_ne (t := wOpen) (by simp) (by decide)
    rw [if_neg c18]
    by_cases c19 : op = 19
    · rw [if_pos c19]; exact line_ne (t := wLeft) (by simp) (by decide)
    rw [if_neg c19]
    by_cases c20 : op = 20
    · rw [if_pos c20]; exact line_ne (t := wDot) (by simp) (by decide)
    rw [if_neg c20]
    by_cases c7 : op = 7 ∨ op = 8
    · rw [if_pos c7]; exact line_ne (t := exprWord op) (by simp) (exprWord_ne op (by omega))
    rw [if_neg c7]
    by_cases c9 : 9 ≤ op ∧ op ≤ 17
    · rw [if_pos c9]; exact line_ne (t := exprWord op) (by simp) (exprWord_ne op (by omega))
    rw [if_neg c9]
    exact line_ne (t := wOpen) (by simp) (by decide)
set_option maxRecDepth 100000 in
set_option maxHeartbeats 2000000 in
theorem showT_calls (B : Nat) (t : PT) (ao : Option Addr) (n q : Nat) (w : World) (hB : B ≤ w.heap.size) (hW : Words B w) (hm : MaxOk w) (ht : t.In B w (.slice ao n q)) (hL : rT 40 t = true → (lineT (tokT t)).length ≤ 1000000000) :
    Calls Tryz.prog 25 #[.agg #[.int .u8 t.kind, .string t.name, .slice ao n q]] w fun e w' => e = .returned (.string ⟨(if rT 40 t then lineT (tokT t) else []).toArray⟩) ∧ Below w.heap.size w w' := by
  have bx : Below w.heap.size w (w.alloc (.cells #[.int .u8 t.kind, .string t.name, .slice ao n q] 31)) := new_only _ _
  have C := Lib.hid (shownT_calls B t (rT 40 t) (.slice ao n q) _ (by simp; omega) (hW.below (bx.mono hB)) (PT.In.below (bx.mono hB) ht)
    (fun W hb => topWholeT_calls B t ao n q W (by have := hb.size; simp at this; omega) ((hm.alloc _).below hb) (PT.In.below (((bx.trans (hb.mono (by simp)))).mono hB) ht))
    (fun h B R => typed_calls B R 40 t h) hL (fun h => lineT_type 40 t h))
  have BX := Lib.hid bx
  generalize (⟨(if rT 40 t then lineT (tokT t) else []).toArray⟩ : ByteArray) = res at *
  clear bx ht hW hL hm
  go_enter Tryz.func25, Tryz.ntmps25
  go_wp2_with fail
  refine (C.out).mono ?_
  rintro e w1 ⟨rfl, b1⟩
  have B1 := Lib.hid (BX.out.trans (b1.mono (by simp)))
  clear b1 C
  go_wp2
  go_ret
  exact ⟨rfl, B1.out⟩
set_option maxRecDepth 100000 in
set_option maxHeartbeats 2000000 in
theorem showP_calls (B : Nat) (t : PP) (ao : Option Addr) (n q : Nat) (w : World) (hB : B ≤ w.heap.size) (hm : MaxOk w) (ht : t.In B w (.slice ao n q)) (hL : plB t = true → (lineT (tokP t)).length ≤ 1000000000) :
    Calls Tryz.prog 27 #[.agg #[.string t.name, .slice ao n q]] w fun e w' => e = .returned (.string ⟨(if plB t then lineT (tokP t) else []).toArray⟩) ∧ Below w.heap.size w w' := by
  have bx : Below w.heap.size w (w.alloc (.cells #[.string t.name, .slice ao n q] 34)) := new_only _ _
  have C := Lib.hid (shownP_calls B t (plB t) (.slice ao n q) _ (by simp; omega) (ht.below (bx.mono hB))
    (fun W hb => topWholeP_calls B t ao n q W (by have := hb.size; simp at this; omega) ((hm.alloc _).below hb) (ht.below (((bx.trans (hb.mono (by simp)))).mono hB)))
    hL (fun h => lineT_place h))
  have BX := Lib.hid bx
  generalize (⟨(if plB t then lineT (tokP t) else []).toArray⟩ : ByteArray) = res at *
  clear bx ht hL hm
  go_enter Tryz.func27, Tryz.ntmps27
  go_wp2_with fail
  refine (C.out).mono ?_
  rintro e w1 ⟨rfl, b1⟩
  have B1 := Lib.hid (BX.out.trans (b1.mono (by simp)))
  clear b1 C
  go_wp2
  go_ret
  exact ⟨rfl, B1.out⟩
set_option maxRecDepth 100000 in
set_option maxHeartbeats 2000000 in
theorem showE_calls (B : Nat) (op i : Int) (nm s : ByteArray) (p : PP) (l : List PE) (pos : Int) (p0 : Option Addr) (n0 q0 : Nat) (p1 : Option Addr) (n1 q1 : Nat) (w : World) (hB : B ≤ w.heap.size) (hW : Words B w) (hm : MaxOk w) (ht : PE.In B w (.mk op i nm s p l pos) ⟨.slice p0 n0 q0, .slice p1 n1 q1⟩) (x : PE) (hx : x = .mk op i nm s p l pos) (hL : rE 40 x = true → (lineT (tokE x)).length ≤ 1000000000) :
    Calls Tryz.prog 26 #[.agg #[.int .u8 op, .int .i64 i, .string nm, .string s, .string p.name, .slice p0 n0 q0, .slice p1 n1 q1, .int .i64 pos]] w fun e w' => e = .returned (.string ⟨(if (!lentB x && rE 40 x) then lineT (tokE x) else []).toArray⟩) ∧ Below w.heap.size w w' := by
  subst hx
  have bx : Below w.heap.size w (w.alloc (.cells #[.int .u8 op, .int .i64 i, .string nm, .string s, .string p.name, .slice p0 n0 q0, .slice p1 n1 q1, .int .i64 pos] 37)) := new_only _ _
  have hq : (!lentB (.mk op i nm s p l pos) && rE 40 (.mk op i nm s p l pos)) = true → rE 40 (.mk op i nm s p l pos) = true := fun h => by
    rw [Bool.and_eq_true] at h; exact h.2
  have C0 := Lib.hid (shownE_calls B (.mk op i nm s p l pos) (!lentB (.mk op i nm s p l pos) && rE 40 (.mk op i nm s p l pos)) ⟨.slice p0 n0 q0, .slice p1 n1 q1⟩ _ (by simp; omega) (hW.below (bx.mono hB)) (PE.In.below (bx.mono hB) ht)
    (fun W hb => topWholeE_calls B op i nm s p l pos p0 n0 q0 p1 n1 q1 W (by have := hb.size; simp at this; omega) ((hm.alloc _).below hb) (PE.In.below (((bx.trans (hb.mono (by simp)))).mono hB) ht))
    (fun h B R => expr_calls B R 40 _ (hq h)) (fun h => hL (hq h)) (fun h => lineT_expr 40 _ (hq h)))
  have BX := Lib.hid bx
  obtain ⟨res, hres⟩ : ∃ res : ByteArray, res = ⟨(if (!lentB (.mk op i nm s p l pos) && rE 40 (.mk op i nm s p l pos)) then lineT (tokE (.mk op i nm s p l pos)) else []).toArray⟩ := ⟨_, rfl⟩
  rw [← hres] at C0 ⊢
  have C : Hid (Calls Tryz.prog 67 #[.agg #[.int .u8 op, .int .i64 i, .string nm, .string s, .string p.name, .slice p0 n0 q0, .slice p1 n1 q1, .int .i64 pos], .func (.func 68) #[] #[], .func (.func 69) #[] #[]] (w.alloc (.cells #[.int .u8 op, .int .i64 i, .string nm, .string s, .string p.name, .slice p0 n0 q0, .slice p1 n1 q1, .int .i64 pos] 37)) fun e w' => e = .returned (.string res) ∧ Below (w.alloc (.cells #[.int .u8 op, .int .i64 i, .string nm, .string s, .string p.name, .slice p0 n0 q0, .slice p1 n1 q1, .int .i64 pos] 37)).heap.size (w.alloc (.cells #[.int .u8 op, .int .i64 i, .string nm, .string s, .string p.name, .slice p0 n0 q0, .slice p1 n1 q1, .int .i64 pos] 37)) w') := Lib.hid C0.out
  clear bx ht hW hL hm C0 hq hres
  go_enter Tryz.func26, Tryz.ntmps26
  go_wp2_with fail
  refine (C.out).mono ?_
  rintro e w1 ⟨rfl, b1⟩
  have B1 := Lib.hid (BX.out.trans (b1.mono (by simp)))
  clear b1 C
  go_wp2
  go_ret
  exact ⟨rfl, B1.out⟩
end Go.Proofs.YthilicmhdkmipaaGreatDoor
/- The plain part of ShowWraps and ShowSides: what is whole with something around it, and its text. -/
namespace Go.Proofs.YthilicmhdkmipaaGreatDoor
open Go.RowKit
set_option linter.unusedVariables false

theorem rT_more : ∀ (n : Nat) (t : PT), rT n t = true → rT (n + 1) t = true
  | 0, t, h => by rw [rT] at h; cases h
  | n + 1, .mk k nm l, h => by
    have hr : ∀ m, rT (m + 1) (.mk k nm l) = (if k < 1 ∨ 14 < k then false else if k = 1 ∨ k = 2 ∨ k = 3 ∨ k = 10 then noB nm && decide (l.length = 0) else if k = 4 then tyB nm && decide (l.length = 0) else noB nm && (decide (l.length = 1) && l.all (fun u => rT m u))) := fun m => by rw [rT]; rfl
    rw [hr n] at h
    rw [hr (n + 1)]
    by_cases h0 : k < 1 ∨ 14 < k
    · rw [if_pos h0] at h; cases h
    rw [if_neg h0] at h ⊢
    by_cases h1 : k = 1 ∨ k = 2 ∨ k = 3 ∨ k = 10
    · rw [if_pos h1] at h ⊢; exact h
    rw [if_neg h1] at h ⊢
    by_cases h4 : k = 4
    · rw [if_pos h4] at h ⊢; exact h
    rw [if_neg h4] at h ⊢
    rw [Bool.and_eq_true, Bool.and_eq_true, List.all_eq_true] at h ⊢
    exact ⟨h.1, h.2.1, fun u hu => rT_more n u (h.2.2 u hu)⟩
theorem rE_more : ∀ (n : Nat) (x : PE), rE n x = true → rE (n + 1) x = true
  | 0, x, h => by rw [rE] at h; cases h
  | n + 1, x, h => by
    have hr : ∀ m, rE (m + 1) x = (rSh x && x.args.all (fun a => (!lentB a || decide (x.op = 18)) && rE m a)) := fun m => by rw [rE]
    rw [hr n, Bool.and_eq_true, List.all_eq_true] at h
    rw [hr (n + 1), Bool.and_eq_true, List.all_eq_true]
    refine ⟨h.1, fun a ha => ?_⟩
    have h2 := h.2 a ha
    rw [Bool.and_eq_true] at h2 ⊢
    exact ⟨h2.1, rE_more n a h2.2⟩
theorem puts_ne {g : TkB} {ts : List TkB} (h : ts ≠ []) : puts g ts = g ++ lineT ts := by
  cases ts with
  | nil => exact absurd rfl h
  | cons a l => simp [lineT, puts]
theorem ne_of_line {ts : List TkB} (h : lineT ts ≠ []) : ts ≠ [] := fun e => h (by rw [e]; rfl)
theorem gapA_blank (ts : List TkB) : gapA [32] ts = [32] := by cases ts <;> rfl
/-- tokens with one ahead, one behind -/
theorem line_around (a : TkB) (ts : List TkB) (z : TkB) (h : ts ≠ []) : lineT (a :: (ts ++ [z])) = a ++ [32] ++ lineT ts ++ [32] ++ z := by
  show puts [] (a :: (ts ++ [z])) = _
  rw [puts, puts_append, puts_ne h, gapA_blank, puts, puts]
  simp
theorem line_ahead (a : TkB) (ts : List TkB) (h : ts ≠ []) : lineT (a :: ts) = a ++ [32] ++ lineT ts := by
  show puts [] (a :: ts) = _
  rw [puts, puts_ne h]
  simp
/-! ### a type in a Box, behind a reference -/
def eB : ByteArray := ⟨#[]⟩
def boxOf (k : Int) (t : PT) : PT := .mk k eB [t]
theorem rT_box (k : Int) (hk : k = 5 ∨ k = 14) (n : Nat) (t : PT) : rT (n + 1) (boxOf k t) = rT n t := by
  have hr : rT (n + 1) (boxOf k t) = (if k < 1 ∨ 14 < k then false else if k = 1 ∨ k = 2 ∨ k = 3 ∨ k = 10 then noB eB && decide ([t].length = 0) else if k = 4 then tyB eB && decide ([t].length = 0) else noB eB && (decide ([t].length = 1) && [t].all (fun u => rT n u))) := by unfold boxOf; rw [rT]; rfl
  rw [hr, if_neg (by omega), if_neg (by omega), if_neg (by omega)]
  have h0 : noB eB = true := rfl
  rw [h0]
  simp
theorem line_box (t : PT) (h : tokT t ≠ []) : lineT (tokT (boxOf 5 t)) = [66, 111, 120, 32, 60, 32] ++ lineT (tokT t) ++ [32, 62] := by
  have e : tokT (boxOf 5 t) = [66, 111, 120] :: wLess :: (tokT t ++ [wMore]) := by unfold boxOf; rw [tokT]; rfl
  rw [e, line_ahead _ _ (by simp), line_around _ _ _ h]
  simp [wLess, wMore]
theorem line_ref (t : PT) (h : tokT t ≠ []) : lineT (tokT (boxOf 14 t)) = [38, 32, 109, 117, 116, 32] ++ lineT (tokT t) := by
  have e : tokT (boxOf 14 t) = wAmp :: wMut :: tokT t := by unfold boxOf; rw [tokT]; rfl
  rw [e, line_ahead _ _ (by simp), line_ahead _ _ h]
  simp [wAmp, wMut]

/-! ### an expression in a box; two beside a sign -/
def exOf (op : Int) (l : List PE) : PE := .mk op 0 eB eB ⟨eB, []⟩ l 0
theorem rE_boxed (n : Nat) (e : PE) : rE (n + 1) (exOf 21 [e]) = (!lentB e && rE n e) := by
  have hr : rE (n + 1) (exOf 21 [e]) = (rSh (exOf 21 [e]) && [e].all (fun a => (!lentB a || decide ((21 : Int) = 18)) && rE n a)) := by rw [rE]; rfl
  have hs : rSh (exOf 21 [e]) = true := rfl
  rw [hr, hs]
  simp
theorem line_boxed (e : PE) (h : tokE e ≠ []) : lineT (tokE (exOf 21 [e])) = [98, 111, 120, 32, 40, 32] ++ lineT (tokE e) ++ [32, 41] := by
  have et : tokE (exOf 21 [e]) = [98, 111, 120] :: wOpen :: (tokE e ++ [wEnd]) := by unfold exOf; rw [tokE]; rfl
  rw [et, line_ahead _ _ (by simp), line_around _ _ _ h]
  simp [wOpen, wEnd]
/-- a side's text: in parentheses, if it is too weak -/
def sideB (k : Nat) (op : Int) (s : TkB) : TkB := if strongB op < k then [40, 32] ++ s ++ [32, 41] else s
end Go.Proofs.YthilicmhdkmipaaGreatDoor
/- shown of a program; show.Program. -/
namespace Go.Proofs.YthilicmhdkmipaaGreatDoor
open Go.RowKit
set_option linter.unusedVariables false

mutual
theorem PS.In.wider {B B' : Nat} {w : World} (hb : B ≤ B') : ∀ {t : PS} {v : VS}, t.In B w v → t.In B' w v
  | .mk _ _ _ ns ty _ p es bo el ar _, v, ⟨h1, h2, h3, h4, ⟨b1, o1, s1, r1⟩, ⟨b2, o2, s2, r2⟩, ⟨b3, o3, s3, r3⟩, b4, o4, s4, r4⟩ =>
    ⟨h1, h2.wider hb, PT.In.wider hb h3, h4.wider hb, ⟨b1, o1, s1.wider hb, PE.Row.wider hb r1⟩, ⟨b2, o2, s2.wider hb, PS.Row.wider hb r2⟩, ⟨b3, o3, s3.wider hb, PS.Row.wider hb r3⟩, b4, o4, s4.wider hb, PA.Row.wider hb r4⟩
theorem PA.In.wider {B B' : Nat} {w : World} (hb : B ≤ B') : ∀ {t : PA} {v : Value}, t.In B w v → t.In B' w v
  | .mk _ _ bo, v, ⟨h1, b2, o2, s2, r2⟩ => ⟨h1, b2, o2, s2.wider hb, PS.Row.wider hb r2⟩
theorem PS.Row.wider {B B' : Nat} {w : World} (hb : B ≤ B') {b : Nat} : ∀ {l : List PS} {o : Nat}, PS.Row B w b o l → PS.Row B' w b o l
  | [], _, _ => trivial
  | t :: l, o, ⟨⟨v, h1, h2⟩, hr⟩ => ⟨⟨v, h1, PS.In.wider hb h2⟩, PS.Row.wider hb hr⟩
theorem PA.Row.wider {B B' : Nat} {w : World} (hb : B ≤ B') {b : Nat} : ∀ {l : List PA} {o : Nat}, PA.Row B w b o l → PA.Row B' w b o l
  | [], _, _ => trivial
  | t :: l, o, ⟨⟨v, h1, h2⟩, hr⟩ => ⟨⟨v, h1, PA.In.wider hb h2⟩, PA.Row.wider hb hr⟩
end
theorem PF.Row.wider {B B' : Nat} {w : World} (hb : B ≤ B') {b : Nat} : ∀ {l : List PF} {o : Nat}, PF.Row B w b o l → PF.Row B' w b o l
  | [], _, _ => trivial
  | t :: l, o, ⟨⟨v, h1, h2⟩, hr⟩ => ⟨⟨v, h1, h2.1, PT.In.wider hb h2.2⟩, PF.Row.wider hb hr⟩
theorem PI.In.wider {B B' : Nat} {w : World} (hb : B ≤ B') {t : PI} {v : VI} : t.In B w v → t.In B' w v
  | ⟨h1, ⟨b1, o1, s1, r1⟩, h3, ⟨b2, o2, s2, r2⟩, h5⟩ => ⟨h1, ⟨b1, o1, s1.wider hb, PF.Row.wider hb r1⟩, PT.In.wider hb h3, ⟨b2, o2, s2.wider hb, PS.Row.wider hb r2⟩, PE.In.wider hb h5⟩
theorem PI.Row.wider {B B' : Nat} {w : World} (hb : B ≤ B') {b : Nat} : ∀ {l : List PI} {o : Nat}, PI.Row B w b o l → PI.Row B' w b o l
  | [], _, _ => trivial
  | t :: l, o, ⟨⟨v, h1, h2⟩, hr⟩ => ⟨⟨v, h1, PI.In.wider hb h2⟩, PI.Row.wider hb hr⟩
theorem ProgIn.wider {B B' : Nat} {w : World} {l : List PI} {v : Value} (hb : B ≤ B') : ProgIn B w l v → ProgIn B' w l v
  | ⟨b, o, s, r⟩ => ⟨b, o, s.wider hb, PI.Row.wider hb r⟩
theorem ProgIn.below {B : Nat} {w w' : World} {l : List PI} {v : Value} (k : Below B w w') : ProgIn B w l v → ProgIn B w' l v
  | ⟨b, o, s, r⟩ => ⟨b, o, s, PI.Row.below' k s r⟩
/-- the text of a program that isn't empty -/
theorem all_text (B R : Nat) (T : TkB) (w : World) (h : IsW B R T ⟨#[]⟩ w) (h0 : T ≠ []) :
    Calls Tryz.prog 87 #[.pointer (some ⟨R, 0, none⟩)] w fun e w' => e = .returned (.string ⟨T.toArray⟩) ∧ Below B w w' := by
  have := all_row B R T [] [] w (IsW.start h) (by simpa [puts] using h0)
  simpa [puts] using this
set_option maxRecDepth 100000 in
set_option maxHeartbeats 4000000 in
theorem shownG_calls (B : Nat) (l : List PI) (q : Bool) (v : Value) (w : World) (hB : B ≤ w.heap.size) (hW : Words B w) (ht : ProgIn B w l v)
    (hq : ∀ W, Below w.heap.size w W → Calls Tryz.prog 29 #[.agg #[v]] W fun e w' => e = .returned (.bool q) ∧ Below W.heap.size W w')
    (hT : q = true → ∀ B R, ∀ x ∈ l, ItemAt B R x) (hL : q = true → (textP l).length ≤ 1000000000) (h0 : q = true → textP l ≠ []) :
    Calls Tryz.prog 44 #[.agg #[v], .func (.func 29) #[] #[], .func (.func 45) #[] #[]] w fun e w' => e = .returned (.string ⟨(if q then textP l else []).toArray⟩) ∧ Below w.heap.size w w' := by
  obtain ⟨ao, n, cap, rfl⟩ : ∃ ao n cap, v = .slice ao n cap := by
    obtain ⟨b, o, s, _⟩ := ht
    obtain ⟨ao, cap, h⟩ := s.shape
    exact ⟨ao, _, cap, h⟩
  obtain ⟨w1, hw1⟩ : ∃ w1, w1 = w.alloc (.cells #[.slice ao n cap] 24) := ⟨_, rfl⟩
  have bx : Below w.heap.size w w1 := by rw [hw1]; exact new_only _ _
  have hz : w.heap.size < w1.heap.size := by rw [hw1]; simp
  have x0 : w1.cell? ⟨w.heap.size, 0, none⟩ = some (.slice ao n cap) := by rw [hw1]; go_simp
  have C1 := Lib.hid (hq w1 bx)
  have HW := Lib.hid hW
  have HT := Lib.hid ht
  have HTy := Lib.hid hT
  have HL := Lib.hid hL
  have H0 := Lib.hid h0
  clear hq hW ht hT hL h0
  go_enter Tryz.func44, Tryz.ntmps44
  go_upto_region 1 with (fail)
  rw [← hw1]
  clear hw1
  cases q with
  | false =>
    go_wp2_with fail
    (with_reducible refine (C1.out).mono ?_)
    rintro e w2 ⟨rfl, bq⟩
    have B2 := Lib.hid (bx.trans (bq.mono (by omega)))
    clear bq
    go_wp2
    go_ret
    exact ⟨rfl, B2.out⟩
  | true =>
    go_wp2_with fail
    (with_reducible refine (C1.out).mono ?_)
    rintro e w2 ⟨rfl, bq⟩
    have B2 := Lib.hid (bx.trans (bq.mono (by omega)))
    have b2 := bq
    have z2 := bq.size
    have y0 := (b2.cell (p := ⟨w.heap.size, 0, none⟩) hz).trans x0
    have A0 := Lib.hid (IsW.new w2)
    obtain ⟨w3, hw3⟩ : ∃ w3, w3 = w2.alloc (.cells #[.pointer none, .slice none 0 0, .string ⟨#[]⟩] 140) := ⟨_, rfl⟩
    have b3 : Below w2.heap.size w2 w3 := by rw [hw3]; exact new_only _ _
    rw [← hw3] at A0
    have C2 := Lib.hid (program_calls w2.heap.size w2.heap.size l (HTy.out trivial _ _) (.slice ao n cap) w3 b3.size (((HW.out.below (B2.out.mono hB)).wider (by omega)).below b3) A0.out (ProgIn.below b3 (ProgIn.wider (by omega) (ProgIn.below (B2.out.mono hB) HT.out))) (HL.out trivial))
    have v0 := (b3.cell (p := ⟨w.heap.size, 0, none⟩) (show w.heap.size < w2.heap.size by omega)).trans y0
    have B3 := Lib.hid (B2.out.trans (b3.mono (by omega)))
    have Z3 := b3.size
    clear bq b2 b3 C1 x0 y0
    go_upto_region 4 with (fail)
    rw [← hw3]
    clear hw3
    go_wp2_with fail
    refine (C2.out).mono ?_
    rintro e w4 ⟨rfl, h4, b4⟩
    have B4 := Lib.hid (B3.out.trans (b4.bel.mono (by omega)))
    have C3 := Lib.hid (all_text _ _ _ w4 h4 (H0.out trivial))
    clear h4 b4 C2
    go_wp2_with (go_at_call 87; refine (C3.out).mono ?_; rintro e w5 ⟨rfl, b5⟩; have B5 := Lib.hid (B4.out.trans (b5.mono (by omega))); clear b5)
    go_ret
    exact ⟨rfl, B5.out⟩
set_option maxRecDepth 100000 in
set_option maxHeartbeats 2000000 in
theorem showG_calls (B : Nat) (l : List PI) (ao : Option Addr) (n q : Nat) (w : World) (hB : B ≤ w.heap.size) (hW : Words B w) (hm : MaxOk w) (ht : ProgIn B w l (.slice ao n q))
    (hT : wholeR 40 (rtP l) = true → ∀ B R, ∀ x ∈ l, ItemAt B R x) (hL : wholeR 40 (rtP l) = true → (textP l).length ≤ 1000000000) (h0 : wholeR 40 (rtP l) = true → textP l ≠ []) :
    Calls Tryz.prog 12 #[.agg #[.slice ao n q]] w fun e w' => e = .returned (.string ⟨(if wholeR 40 (rtP l) then textP l else []).toArray⟩) ∧ Below w.heap.size w w' := by
  have bx : Below w.heap.size w (w.alloc (.cells #[.slice ao n q] 24)) := new_only _ _
  have C := Lib.hid (shownG_calls B l (wholeR 40 (rtP l)) (.slice ao n q) _ (by simp; omega) (hW.below (bx.mono hB)) (ProgIn.below (bx.mono hB) ht)
    (fun W hb => topWhole_calls B l ao n q W (by have := hb.size; simp at this; omega) ((hm.alloc _).below hb) (ProgIn.below (((bx.trans (hb.mono (by simp)))).mono hB) ht))
    hT hL h0)
  have BX := Lib.hid bx
  generalize (⟨(if wholeR 40 (rtP l) then textP l else []).toArray⟩ : ByteArray) = res at *
  clear bx ht hW hL hm hT h0
  go_enter Tryz.func12, Tryz.ntmps12
  go_wp2_with fail
  refine (C.out).mono ?_
  rintro e w1 ⟨rfl, b1⟩
  have B1 := Lib.hid (BX.out.trans (b1.mono (by simp)))
  clear b1 C
  go_wp2
  go_ret
  exact ⟨rfl, B1.out⟩
end Go.Proofs.YthilicmhdkmipaaGreatDoor
/- awake, first part: use, two; what show answers of closed trees. -/
namespace Go.Proofs.YthilicmhdkmipaaGreatDoor
open Go.RowKit
set_option linter.unusedVariables false

set_option maxHeartbeats 1000000 in
theorem use_calls (s : ByteArray) (w : World) :
    Calls Tryz.prog 73 #[.string s] w fun e w' => e = .returned (.agg #[.int .u8 4, .int .i64 0, .string ⟨#[]⟩, .string ⟨#[]⟩, .string s, .slice none 0 0, .slice none 0 0, .int .i64 0]) ∧ Below w.heap.size w w' := by
  go_enter Tryz.func73, Tryz.ntmps73
  go_wp2
  exact bodyPost_ret (v := .agg #[.int .u8 4, .int .i64 0, .string ⟨#[]⟩, .string ⟨#[]⟩, .string s, .slice none 0 0, .slice none 0 0, .int .i64 0]) (by rw [results_cell1 rfl]; go_simp) rfl ⟨rfl, box1 _ _⟩
/-- two expressions in a row that was just made -/
theorem two_in {w W : World} {S : Nat} {op : Int} {x y : PE} {vx vy : VE} (hop : U8 op) (hS : S < W.heap.size) (hk : Below w.heap.size w W) (hx : PE.In w.heap.size w x vx) (hy : PE.In w.heap.size w y vy) (hc : CellsAt W S 0 (x.cells vx ++ y.cells vy)) :
    PE.In W.heap.size W (exOf op [x, y]) ⟨.slice none 0 0, .slice (some ⟨S, 0, none⟩) 2 2⟩ := by
  obtain ⟨p1, n1, c1, p2, n2, c2, rfl⟩ := hx.shape
  obtain ⟨q1, m1, d1, q2, m2, d2, rfl⟩ := hy.shape
  refine ⟨⟨hop, by unfold I64; decide, by unfold I64; decide, by decide, by decide⟩, ⟨by decide, 0, 0, nil_sl _, trivial⟩, S, 0, ⟨by unfold maxLen; simp, _, 2, rfl, .inr ⟨rfl, hS⟩⟩, ?_⟩
  refine ⟨⟨_, fun i v hi => ?_, PE.In.wider hk.size (PE.In.below hk hx)⟩, ⟨_, fun i v hi => ?_, PE.In.wider hk.size (PE.In.below hk hy)⟩, trivial⟩
  · refine hc i v ?_
    rw [List.getElem?_append_left]
    · exact hi
    · exact (List.getElem?_eq_some_iff.1 hi).1
  · have hlen : (x.cells ⟨.slice p1 n1 c1, .slice p2 n2 c2⟩).length = 8 := rfl
    have := hc (8 + i) v (by rw [List.getElem?_append_right (by rw [hlen]; omega), hlen, Nat.add_sub_cancel_left]; exact hi)
    rw [← Nat.add_assoc] at this
    exact this
set_option maxRecDepth 100000 in
set_option maxHeartbeats 2000000 in
theorem two_calls (op : Int) (hop : U8 op) (x y : PE) (vx vy : VE) (w : World) (hx : PE.In w.heap.size w x vx) (hy : PE.In w.heap.size w y vy) :
    Calls Tryz.prog 33 #[.int .u8 op, .agg (x.cells vx).toArray, .agg (y.cells vy).toArray] w fun e w' =>
      (∃ g, e = .returned (.agg #[.int .u8 op, .int .i64 0, .string ⟨#[]⟩, .string ⟨#[]⟩, .string ⟨#[]⟩, .slice none 0 0, .slice (some ⟨g, 0, none⟩) 2 2, .int .i64 0]) ∧ PE.In w'.heap.size w' (exOf op [x, y]) ⟨.slice none 0 0, .slice (some ⟨g, 0, none⟩) 2 2⟩) ∧ Below w.heap.size w w' := by
  have HX := Lib.hid hx
  have HY := Lib.hid hy
  obtain ⟨p1, n1, c1, p2, n2, c2, rfl⟩ := hx.shape
  obtain ⟨q1, m1, d1, q2, m2, d2, rfl⟩ := hy.shape
  show Calls Tryz.prog 33 #[.int .u8 op, .agg #[.int .u8 x.op, .int .i64 x.int, .string x.name, .string x.second, .string x.place.name, .slice p1 n1 c1, .slice p2 n2 c2, .int .i64 x.pos], .agg #[.int .u8 y.op, .int .i64 y.int, .string y.name, .string y.second, .string y.place.name, .slice q1 m1 d1, .slice q2 m2 d2, .int .i64 y.pos]] w _
  clear hx hy
  go_enter Tryz.func33, Tryz.ntmps33
  go_wp2
  refine bodyPost_ret (v := .agg #[.int .u8 op, .int .i64 0, .string ⟨#[]⟩, .string ⟨#[]⟩, .string ⟨#[]⟩, .slice none 0 0, .slice (some ⟨w.heap.size + 1 + 1 + 1, 0, none⟩) 2 2, .int .i64 0]) (by rw [results_cell1 rfl]; go_simp) rfl ?_
  obtain ⟨w3, h3⟩ : ∃ w3, w3 = ((w.alloc (.cells #[.int .u8 x.op, .int .i64 x.int, .string x.name, .string x.second, .string x.place.name, .slice p1 n1 c1, .slice p2 n2 c2, .int .i64 x.pos] 37)).alloc (.cells #[.int .u8 y.op, .int .i64 y.int, .string y.name, .string y.second, .string y.place.name, .slice q1 m1 d1, .slice q2 m2 d2, .int .i64 y.pos] 37)).alloc (.cells #[.int .u8 op, .int .i64 0, .string ⟨#[]⟩, .string ⟨#[]⟩, .string ⟨#[]⟩, .slice none 0 0, .slice (some ⟨w.heap.size + 1 + 1 + 1, 0, none⟩) 2 2, .int .i64 0] 37) := ⟨_, rfl⟩
  rw [← h3]
  have z3 : w3.heap.size = w.heap.size + 1 + 1 + 1 := by rw [h3]; simp
  have b3 : Below w.heap.size w w3 := by rw [h3]; exact ((new_only _ _).alloc (by simp) _).alloc (by simp; omega) _
  have hk : Below w.heap.size w (w3.alloc (.cells #[.int .u8 x.op, .int .i64 x.int, .string x.name, .string x.second, .string x.place.name, .slice p1 n1 c1, .slice p2 n2 c2, .int .i64 x.pos, .int .u8 y.op, .int .i64 y.int, .string y.name, .string y.second, .string y.place.name, .slice q1 m1 d1, .slice q2 m2 d2, .int .i64 y.pos] 37)) := b3.alloc b3.size _
  have hc := heap_alloc_new w3 (.cells #[.int .u8 x.op, .int .i64 x.int, .string x.name, .string x.second, .string x.place.name, .slice p1 n1 c1, .slice p2 n2 c2, .int .i64 x.pos, .int .u8 y.op, .int .i64 y.int, .string y.name, .string y.second, .string y.place.name, .slice q1 m1 d1, .slice q2 m2 d2, .int .i64 y.pos] 37)
  rw [z3] at hc
  exact ⟨⟨_, rfl, two_in hop (by simp; omega) hk HX.out HY.out (cells_made (cs := x.cells ⟨.slice p1 n1 c1, .slice p2 n2 c2⟩ ++ y.cells ⟨.slice q1 m1 d1, .slice q2 m2 d2⟩) hc)⟩, hk⟩
/-! ### closed trees -/
def bA : ByteArray := ⟨#[97]⟩
def bBb : ByteArray := ⟨#[98]⟩
def useOf (s : ByteArray) : PE := .mk 4 0 ⟨#[]⟩ ⟨#[]⟩ ⟨s, []⟩ [] 0
def oneE : PE := .mk 1 1 ⟨#[]⟩ ⟨#[]⟩ ⟨⟨#[]⟩, []⟩ [] 0
theorem use_in (s : ByteArray) (hs : s.size ≤ maxLen) (B : Nat) (W : World) : PE.In B W (useOf s) ⟨.slice none 0 0, .slice none 0 0⟩ :=
  ⟨⟨by unfold U8; decide, by unfold I64; decide, by unfold I64; decide, by decide, by decide⟩, ⟨hs, 0, 0, nil_sl _, trivial⟩, 0, 0, nil_sl _, trivial⟩
theorem one_in (B : Nat) (W : World) : PE.In B W oneE ⟨.slice none 0 0, .slice none 0 0⟩ :=
  ⟨⟨by unfold U8; decide, by unfold I64; decide, by unfold I64; decide, by decide, by decide⟩, ⟨by decide, 0, 0, nil_sl _, trivial⟩, 0, 0, nil_sl _, trivial⟩
/-- one expression in a row that was just made -/
theorem one_row {W : World} {S : Nat} {op : Int} {x : PE} {vx : VE} (hop : U8 op) (hS : S < W.heap.size) (hx : PE.In W.heap.size W x vx) (hc : CellsAt W S 0 (x.cells vx)) :
    PE.In W.heap.size W (exOf op [x]) ⟨.slice none 0 0, .slice (some ⟨S, 0, none⟩) 1 1⟩ :=
  ⟨⟨hop, by unfold I64; decide, by unfold I64; decide, by decide, by decide⟩, ⟨by decide, 0, 0, nil_sl _, trivial⟩, S, 0, ⟨by unfold maxLen; simp, _, 1, rfl, .inr ⟨rfl, hS⟩⟩, ⟨_, hc, hx⟩, trivial⟩
theorem type_row {W : World} {S : Nat} {k : Int} {x : PT} {vx : Value} (hk : U8 k) (hS : S < W.heap.size) (hx : PT.In W.heap.size W x vx) (hc : CellsAt W S 0 (x.cells vx)) :
    PT.In W.heap.size W (boxOf k x) (.slice (some ⟨S, 0, none⟩) 1 1) :=
  ⟨⟨hk, by decide⟩, S, 0, ⟨by unfold maxLen; simp, _, 1, rfl, .inr ⟨rfl, hS⟩⟩, ⟨_, hc, hx⟩, trivial⟩
def exA : PE := exOf 10 [useOf bA, exOf 10 [useOf bBb, oneE]]
def exB : PE := exOf 10 [exOf 10 [useOf bA, useOf bBb], oneE]
def exC : PE := exOf 7 [exOf 7 [oneE]]
def exD : PE := exOf 15 [exOf 8 [useOf bA], useOf bBb]
def exN : PE := .mk 0 0 ⟨#[]⟩ ⟨#[]⟩ ⟨⟨#[]⟩, []⟩ [] 0
def tyA : PT := boxOf 5 (boxOf 14 (.mk 1 ⟨#[]⟩ []))
def plA : PP := ⟨⟨#[120]⟩, [⟨#[97]⟩, ⟨#[42]⟩]⟩
theorem exA_ok : (!lentB exA && rE 40 exA) = true ∧ lineT (tokE exA) = [97, 32, 45, 32, 40, 32, 98, 32, 45, 32, 49, 32, 41] := by decide +kernel
theorem exB_ok : (!lentB exB && rE 40 exB) = true ∧ lineT (tokE exB) = [97, 32, 45, 32, 98, 32, 45, 32, 49] := by decide +kernel
theorem exC_ok : (!lentB exC && rE 40 exC) = true ∧ lineT (tokE exC) = [45, 32, 45, 32, 49] := by decide +kernel
theorem exD_ok : (!lentB exD && rE 40 exD) = true ∧ lineT (tokE exD) = [40, 32, 110, 111, 116, 32, 97, 32, 41, 32, 61, 61, 32, 98] := by decide +kernel
theorem exN_ok : (!lentB exN && rE 40 exN) = false := by decide +kernel
theorem tyA_ok : rT 40 tyA = true ∧ lineT (tokT tyA) = [66, 111, 120, 32, 60, 32, 38, 32, 109, 117, 116, 32, 105, 110, 116, 32, 62] := by decide +kernel
theorem plA_ok : plB plA = true ∧ lineT (tokP plA) = [120, 32, 46, 32, 97, 32, 46, 32, 42] := by decide +kernel
theorem small_ok : wholeR 40 (rtP [smallI 0]) = true ∧ textP [smallI 0] = [102, 110, 32, 109, 97, 105, 110, 32, 40, 32, 41, 32, 45, 62, 32, 105, 110, 116, 32, 123, 32, 48, 32, 125, 10] := by decide +kernel
theorem small_item (B R : Nat) : ItemAt B R (smallI 0) := fun T0 G0 ts v w hB hW hA hx hL =>
  item_fn B R _ _ _ _ _ _ (fun x hx => by simp at hx) (typed_calls B R 40 _ (by decide +kernel)) (stmts_nil B R) (expr_calls B R 40 _ (by decide +kernel)) T0 G0 ts v w hB hW hA hx hL
/-- show.Expr of a tree that is whole, its text known -/
theorem showE_at (x : PE) (S : TkB) (hx : (!lentB x && rE 40 x) = true ∧ lineT (tokE x) = S) (hS : S.length ≤ 1000) (v : VE) (W : World) (hW : Words W.heap.size W) (hm : MaxOk W) (hi : PE.In W.heap.size W x v) :
    Calls Tryz.prog 26 #[.agg (x.cells v).toArray] W fun e w' => e = .returned (.string ⟨S.toArray⟩) ∧ Below W.heap.size W w' := by
  obtain ⟨op, i, nm, s, p, l, pos⟩ := x
  obtain ⟨p1, n1, c1, p2, n2, c2, rfl⟩ := hi.shape
  have := showE_calls W.heap.size op i nm s p l pos p1 n1 c1 p2 n2 c2 W (Nat.le_refl _) hW hm hi _ rfl (fun _ => by rw [hx.2]; omega)
  rw [if_pos hx.1, hx.2] at this
  exact this
end Go.Proofs.YthilicmhdkmipaaGreatDoor
