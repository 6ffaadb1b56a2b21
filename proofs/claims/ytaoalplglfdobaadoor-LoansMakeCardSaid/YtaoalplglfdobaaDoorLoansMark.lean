/- loans.markOf; marks as keys. -/
import Derived.Test.YtaoalplglfdobaaDoorLoansApart
import Derived.Test.YtaoalplglfdobaaDoorOver
import Derived.Deep.MidRow
import Derived.DeepKeys4
import Derived.Maps.OwnSet
namespace Go.Proofs.YtaoalplglfdobaaDoor
open Go.RowKit
set_option linter.unusedVariables false

theorem wp_region_overn {P : Program} {id : Nat} {Q : Exit → Act → World → Prop} {a : Act} {w : World} {l : List Oper} (n : Nat)
    (hm : P.follows .mixedOrders = true) (hB : headB l n = true)
    (h : wpQuiet P l.toArray (fun w' => ∃ m : Over w, w' = m.w) (fun a' => ∀ w', (∃ m : Over w, w' = m.w) → wpList P l.toArray Q (l.drop n) a' w') (l.take n) a) : (Code.region id l.toArray true).wp P Q a w :=
  wp_region_headn (C := fun w' => ∃ m : Over w, w' = m.w) n hm hB ⟨⟨w.drew, (Below.refl _ w).drew⟩, rfl⟩ h
theorem three_at {w : World} {g : Nat} {x y z : Value} (h0 : w.cell? ⟨g, 0, none⟩ = some x) (h1 : w.cell? ⟨g, 1, none⟩ = some y) (h2 : w.cell? ⟨g, 2, none⟩ = some z) : ∀ (j : Nat) u, [x, y, z][j]? = some u → w.cell? ⟨g, 0 + j, none⟩ = some u := by
  intro j u hj
  match j, hj with
  | 0, hj => cases hj; exact h0
  | 1, hj => cases hj; exact h1
  | 2, hj => cases hj; exact h2
theorem results_mark {fn : Func} {p : Tmp} (h : fn.results = #[.cell p 66]) (tmps : Array Value) (w : World) (g : Nat) (x y z : Value) (hp : tmps.getD p undef = .pointer (some ⟨g, 0, none⟩)) (h0 : w.cell? ⟨g, 0, none⟩ = some x) (h1 : w.cell? ⟨g, 1, none⟩ = some y) (h2 : w.cell? ⟨g, 2, none⟩ = some z) :
    (results fn tmps).run Tryd.prog w = .ok (.agg #[x, y, z]) w := by
  have hp' : tmps[p]?.getD undef = .pointer (some ⟨g, 0, none⟩) := by simpa using hp
  have hl := run_loadVar_mid (P := Tryd.prog) w g 0 66 [x, y, z] _ (three_at h0 h1 h2) Tryd.underlying66 rfl (by kernel_rfl)
  simp [results, h, hp', asAddr, hl]
/-- a loan's mark -/
def LN.mark (x : LN) : Value := .agg #[.string ⟨(apartS x.place).toArray⟩, .bool x.alone, .int .i64 x.till]
theorem mark_inj {x y : LN} (h : x.mark = y.mark) : x = y := by
  unfold LN.mark at h
  simp only [Value.agg.injEq, Array.mk.injEq, List.cons.injEq, Value.string.injEq, Value.bool.injEq, Value.int.injEq, true_and, and_true] at h
  obtain ⟨h1, h2, h3⟩ := h
  have h4 : apartS x.place = apartS y.place := by
    have := congrArg (fun s : ByteArray => s.data.toList) h1
    simpa using this
  obtain ⟨p, a, t⟩ := x
  obtain ⟨q, b, u⟩ := y
  obtain rfl : p = q := apart_inj h4
  obtain rfl : a = b := h2
  obtain rfl : t = u := h3
  rfl
/-- what may be asked of -/
def LN.Fair (x : LN) : Prop := (apartS x.place).length + 60 ≤ 140737488355328 ∧ (Lit.int .i64 x.till).wf = true

set_option maxRecDepth 100000 in
set_option maxHeartbeats 1000000 in
theorem markOf_calls (B : Nat) (x : LN) (v : Value) (w : World) (hB : B ≤ w.heap.size) (hx : x.place.In B w v) (hT : Tb B w) (hF : x.Fair) :
    Calls Tryd.prog 44 #[.agg #[.string x.place.name, v, .bool x.alone, .int .i64 x.till]] w fun e w' => e = .returned x.mark ∧ Below w.heap.size w w' := by
  have HC := Lib.hid fun (W : World) (hb : Below w.heap.size w W) => apart_calls B x.place v W (Nat.le_trans hB hb.size) (hx.below (hb.mono hB)) (hT.below (hb.mono hB)) hF.1
  unfold LN.mark
  obtain ⟨ao, cap, rfl⟩ := hx.shape
  generalize (⟨(apartS x.place).toArray⟩ : ByteArray) = R at *
  obtain ⟨⟨sx, px⟩, xa, xt⟩ := x
  rw [show (LN.mk ⟨sx, px⟩ xa xt).place.name = sx from rfl, show (LN.mk ⟨sx, px⟩ xa xt).place.path = px from rfl] at *
  rw [show (LN.mk ⟨sx, px⟩ xa xt).alone = xa from rfl, show (LN.mk ⟨sx, px⟩ xa xt).till = xt from rfl]
  generalize px.length = n at *
  clear hx hF hT
  go_enter Tryd.func44, Tryd.ntmps44
  go_wp2_with fail
  obtain ⟨W0, hW⟩ : ∃ W, W = (w.alloc (.cells #[.string sx, .slice ao n cap, .bool xa, .int .i64 xt] 36)).alloc (.cells #[.string ⟨#[]⟩, .bool false, .int .i64 0] 66) := ⟨_, rfl⟩
  have bel0 : Below w.heap.size w W0 := by rw [hW]; exact box2 _ _ _
  have z0 : w.heap.size + 1 < W0.heap.size := by rw [hW]; simp
  have F0 : W0.cell? ⟨w.heap.size, 0, none⟩ = some (.string sx) := by rw [hW]; go_simp
  have F1 : W0.cell? ⟨w.heap.size, 1, none⟩ = some (.slice ao n cap) := by rw [hW]; go_simp
  have F2 : W0.cell? ⟨w.heap.size, 2, none⟩ = some (.bool xa) := by rw [hW]; go_simp
  have F3 : W0.cell? ⟨w.heap.size, 3, none⟩ = some (.int .i64 xt) := by rw [hW]; go_simp
  have G0 : W0.cell? ⟨w.heap.size + 1, 0, none⟩ = some (.string ⟨#[]⟩) := by rw [hW]; go_simp
  have G1 : W0.cell? ⟨w.heap.size + 1, 1, none⟩ = some (.bool false) := by rw [hW]; go_simp
  have G2 : W0.cell? ⟨w.heap.size + 1, 2, none⟩ = some (.int .i64 0) := by rw [hW]; go_simp
  have K0 : W0.frozen? ⟨w.heap.size + 1, 0, none⟩ = false := by rw [hW]; go_simp
  have K1 : W0.frozen? ⟨w.heap.size + 1, 1, none⟩ = false := by rw [hW]; go_simp
  have K2 : W0.frozen? ⟨w.heap.size + 1, 2, none⟩ = false := by rw [hW]; go_simp
  rw [← hW]
  clear hW
  have f0 : ∀ m : Over W0, m.w.cell? ⟨w.heap.size, 0, none⟩ = some (.string sx) := fun m => (m.cells _ _ (by omega)).trans F0
  have f1 : ∀ m : Over W0, m.w.cell? ⟨w.heap.size, 1, none⟩ = some (.slice ao n cap) := fun m => (m.cells _ _ (by omega)).trans F1
  have f2 : ∀ m : Over W0, m.w.cell? ⟨w.heap.size, 2, none⟩ = some (.bool xa) := fun m => (m.cells _ _ (by omega)).trans F2
  have f3 : ∀ m : Over W0, m.w.cell? ⟨w.heap.size, 3, none⟩ = some (.int .i64 xt) := fun m => (m.cells _ _ (by omega)).trans F3
  have A1 := Lib.hid fun m : Over W0 => over_calls (HC.out m.w (bel0.trans (m.h.mono bel0.size)))
  clear F0 F1 F2 F3 HC
  refine wp_region_overn 8 (by kernel_rfl) (by kernel_rfl) ?_
  simp only [List.take_succ_cons, List.take_zero, List.drop_succ_cons, List.drop_zero]
  repeat (go_big_quiet_step ((go_at_call 49; exact A1.out _)))
  refine wpQuiet_nil ?_
  rintro _ ⟨m, rfl⟩
  have g0 := (m.cells _ 0 z0).trans G0
  have g1 := (m.cells _ 1 z0).trans G1
  have g2 := (m.cells _ 2 z0).trans G2
  have k0 := (m.h.frozen (p := ⟨w.heap.size + 1, 0, none⟩) z0).trans K0
  have k1 := (m.h.frozen (p := ⟨w.heap.size + 1, 1, none⟩) z0).trans K1
  have k2 := (m.h.frozen (p := ⟨w.heap.size + 1, 2, none⟩) z0).trans K2
  have HB := Lib.hid (bel0.trans (m.h.mono bel0.size))
  generalize m.w = W1 at *
  clear f0 f1 f2 f3 A1 G0 G1 G2 K0 K1 K2 bel0
  go_wp2_with fail
  refine bodyPost_ret (v := .agg #[.string R, .bool xa, .int .i64 xt]) (results_mark rfl _ _ (w.heap.size + 1) _ _ _ rfl (by go_simp) (by go_simp) (by go_simp)) rfl ⟨rfl, ?_⟩
  exact ((HB.out.setCell (by simp) _).setCell (by simp) _).setCell (by simp) _

/-! ### marks as keys -/
theorem laidOutP : laidOutB Tryd.prog = true := by kernel_rfl
theorem rowMark : (66 : TypeId) < Tryd.prog.types.size := of_decide_eq_true (by kernel_rfl)
theorem wideMark : (match Tryd.prog.underlying 66 with | some (.array _ _) | some (.struct _) => true | _ => false) = true := by kernel_rfl
theorem lawMark : Maps.Keyed Tryd.prog 66 := Maps.Keyed.of_law (deep_law_laid laidOutP (m := 3) (by omega) rowMark (by kernel_rfl) wideMark)
theorem keyTypeMark : Tryd.prog.keyType 66 = true := by kernel_rfl
theorem cellsMark : Tryd.prog.cellsOf 66 = 3 := by kernel_rfl
theorem isStructMark : ∃ fs, Tryd.prog.underlying 66 = some (.struct fs) := ⟨_, Tryd.underlying66⟩
theorem formedMark {xs : Array Value} (h : xs.size = 3) : (Value.agg xs).formed Tryd.prog 66 = true := by
  obtain ⟨fs, hu⟩ := isStructMark
  simp [Value.formed, hu, cellsMark, h]
theorem keyLitsMark (s : ByteArray) (a : Bool) (t : Int) (hs : s.size ≤ maxLen) (ht : (Lit.int .i64 t).wf = true) :
    Tryd.prog.keyLits (Tryd.prog.types.size + 1) 66 [.string s, .bool a, .int .i64 t] = some [.string s.data.toList, .bool a, .int .i64 t] := by
  obtain ⟨d, hd⟩ : ∃ d, Tryd.prog.types.size = d + 1 := ⟨Tryd.prog.types.size - 1, (Nat.succ_pred_eq_of_pos (Nat.lt_of_le_of_lt (Nat.zero_le _) rowMark)).symm⟩
  have c9 : Tryd.prog.cellsOf 9 = 1 := by kernel_rfl
  have c4 : Tryd.prog.cellsOf 4 = 1 := by kernel_rfl
  have c3 : Tryd.prog.cellsOf 3 = 1 := by kernel_rfl
  rw [hd]
  simp [Program.keyLits, Tryd.underlying66, Tryd.underlying9, Tryd.underlying4, Tryd.underlying3, cellsMark, c9, c4, c3, hs, ht]
theorem keyMark (s : ByteArray) (a : Bool) (t : Int) (hs : s.size ≤ maxLen) (ht : (Lit.int .i64 t).wf = true) : ∃ l, keyOf Tryd.prog 66 (.agg #[.string s, .bool a, .int .i64 t]) = some l := by
  obtain ⟨fs, hu⟩ := isStructMark
  have hf := formedMark (xs := #[.string s, .bool a, .int .i64 t]) rfl
  have hk := keyLitsMark s a t hs ht
  refine ⟨.string (keyBytes [.string s.data.toList, .bool a, .int .i64 t]), ?_⟩
  unfold keyOf
  rw [hu]
  simp only [keyTypeMark, hf, Bool.and_self, if_true, Value.cells]
  rw [hk]
  rfl
theorem LN.Fair.key {x : LN} (h : x.Fair) : ∃ l, keyOf Tryd.prog 66 x.mark = some l :=
  keyMark _ _ _ (by
    have h1 := h.1
    show (apartS x.place).toArray.size ≤ maxLen
    rw [List.size_toArray]
    unfold maxLen
    omega) h.2
theorem zeroUnit (w : World) : (zeroValue 64).run Tryd.prog w = .ok (.agg #[]) w := by kernel_rfl
theorem grown_of' {w w' : World} (h : Below w.heap.size w w') : w.grownBy w' none := ⟨h.os, h.tape, h.output, h.size, fun k hk _ => h.block k hk⟩
/-- the map in block M has just the marks of l -/
def MarkMap (w : World) (M n : Nat) (l : List LN) : Prop := ∃ D : DataW Unit, w.ownsMap Tryd.prog 66 unitElem M n D ∧ ∀ x : LN, x.Fair → ∀ kl, keyOf Tryd.prog 66 x.mark = some kl → Maps.has D kl = hasB l x
theorem MarkMap.new (w : World) : MarkMap (w.alloc (.map #[] 0)) w.heap.size 0 [] := ⟨_, World.ownsMap_made _ _ _ _, fun _ _ _ _ => rfl⟩
theorem MarkMap.kept {w w' : World} {M n : Nat} {l : List LN} {row : Option Nat} (h : MarkMap w M n l) (hg : w.grownBy w' row) (hr : some M ≠ row) : MarkMap w' M n l := by
  obtain ⟨D, h1, h2⟩ := h
  exact ⟨D, World.ownsMap.kept h1 hg hr, h2⟩
theorem MarkMap.same {w w' : World} {M n : Nat} {l : List LN} (h : MarkMap w M n l) (hb : w'.heap[M]? = w.heap[M]?) : MarkMap w' M n l := by
  obtain ⟨D, ⟨es, clock, h1, h3⟩, h2⟩ := h
  exact ⟨D, ⟨es, clock, hb.trans h1, h3⟩, h2⟩
theorem MarkMap.lt {w : World} {M n : Nat} {l : List LN} (h : MarkMap w M n l) : M < w.heap.size := by
  obtain ⟨D, ⟨es, clock, h1, h3⟩, h2⟩ := h
  rcases Nat.lt_or_ge M w.heap.size with h' | h'
  · exact h'
  · simp [Array.getElem?_eq_none h'] at h1
theorem hasB_snoc (l : List LN) (x y : LN) : hasB (l ++ [x]) y = (hasB l y || isB x y) := by unfold hasB; rw [List.any_append]; simp
theorem marks_put {w : World} {M n : Nat} {l : List LN} {D : DataW Unit} {x : LN} {kl : Lit} (hx : x.Fair) (hD : Maps.IsMap D) (hk : keyOf Tryd.prog 66 x.mark = some kl)
    (h2 : ∀ x : LN, x.Fair → ∀ kl, keyOf Tryd.prog 66 x.mark = some kl → Maps.has D kl = hasB l x) (d : DataW Unit)
    (h : w.ownsMap Tryd.prog 66 unitElem M n (D.put kl d)) : MarkMap w M n (l ++ [x]) := by
  refine ⟨_, h, fun y hy kl' hk' => ?_⟩
  rw [hasB_snoc]
  by_cases hyx : y = x
  · subst hyx
    obtain rfl : kl = kl' := by rw [hk] at hk'; exact Option.some.inj hk'
    rw [Maps.has_put_same hD (lawMark.key hk), isB_iff.2 rfl, Bool.or_true]
  · have hne : kl' ≠ kl := fun e => hyx (mark_inj (lawMark.inj (e ▸ hk') hk))
    have h3 : isB x y = false := by
      cases h4 : isB x y
      · rfl
      · exact absurd (isB_iff.1 h4).symm hyx
    rw [Maps.has_put_other hne, h2 y hy kl' hk', h3, Bool.or_false]
end Go.Proofs.YtaoalplglfdobaaDoor
