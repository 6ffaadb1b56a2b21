/- What the writer writes of a statement that is whole. -/
import Derived.Test.YthilicmhdkmipaaGreatDoorIShowTakeW
import Derived.Test.YthilicmhdkmipaaGreatDoorIJoinAS
import Derived.Test.YthilicmhdkmipaaGreatDoorIJoinAH
import Derived.Test.YthilicmhdkmipaaGreatDoorIJoinAJ
import Derived.Laws.AppendOwn
import Derived.Laws.AppendOwnNone
namespace Go.Proofs.YthilicmhdkmipaaGreatDoor
open Go.RowKit
set_option linter.unusedVariables false

set_option maxRecDepth 100000 in
set_option maxHeartbeats 4000000 in
theorem st_default (B R : Nat) (op : Int) (nm sc : ByteArray) (ns : List ByteArray) (ty : PT) (it : Int) (pl : PP) (es : List PE) (bo el : List PS) (ar : List PA) (pos : Int) (tk : List TkB) (hop : op ≠ 1 ∧ op ≠ 2 ∧ op ≠ 3 ∧ op ≠ 4 ∧ op ≠ 5 ∧ op ≠ 12) (T0 G0 : TkB) (ts : List TkB) (v : VS) (w : World) (hB : B ≤ w.heap.size) (hW : Words B w) (hA : AtW B R T0 G0 ts w) (hx : PS.In B w (.mk op nm sc ns ty it pl es bo el ar pos) v) (hwb : ∀ (W : World), B ≤ W.heap.size → Words B W → AtW B R T0 G0 ts W → PS.In B W (.mk op nm sc ns ty it pl es bo el ar pos) v → Calls Tryz.prog 215 #[.pointer (some ⟨R, 0, none⟩), .agg (PS.cells (.mk op nm sc ns ty it pl es bo el ar pos) v).toArray] W fun e w' => e = .returned (.tuple #[]) ∧ AtW B R T0 G0 (ts ++ tk) w' ∧ WBut B R W w') (hL : Lim T0 G0 (ts ++ (tk))) :
    Calls Tryz.prog 198 #[.pointer (some ⟨R, 0, none⟩), .agg (PS.cells (.mk op nm sc ns ty it pl es bo el ar pos) v).toArray] w fun e w' => e = .returned (.tuple #[]) ∧ AtW B R T0 G0 (ts ++ (tk)) w' ∧ WBut B R w w' := by
  have HX := Lib.hid hx
  obtain ⟨a1, n1, c1, a2, n2, c2, a3, n3, c3, a4, n4, c4, a5, n5, c5, a6, n6, c6, a7, n7, c7, rfl⟩ := hx.shape
  have hRR : R < w.heap.size := hA.lt
  obtain ⟨w1, hw1⟩ : ∃ w1, w1 = (w.alloc (.cells #[.pointer (some ⟨R, 0, none⟩)] 81)).alloc (.cells #[.int .u8 op, .string nm, .string sc, .slice a1 n1 c1, .int .u8 ty.kind, .string ty.name, .slice a2 n2 c2, .int .i64 it, .string pl.name, .slice a3 n3 c3, .slice a4 n4 c4, .slice a5 n5 c5, .slice a6 n6 c6, .slice a7 n7 c7, .int .i64 pos] 130) := ⟨_, rfl⟩
  have bx : Below w.heap.size w w1 := by rw [hw1]; exact (new_only _ _).alloc (by simp) _
  have E1 : Hid (CBox R (w.heap.size + 1) [.int .u8 op, .string nm, .string sc, .slice a1 n1 c1, .int .u8 ty.kind, .string ty.name, .slice a2 n2 c2, .int .i64 it, .string pl.name, .slice a3 n3 c3, .slice a4 n4 c4, .slice a5 n5 c5, .slice a6 n6 c6, .slice a7 n7 c7, .int .i64 pos] w1) := Lib.hid (by rw [hw1]; exact CBox.new2 _ _ _ (by decide) hRR)
  have Q1 : Hid (CBox R w.heap.size [.pointer (some ⟨R, 0, none⟩)] w1) := Lib.hid (by rw [hw1]; exact CBox.old _ _ nePW hRR)
  have et : ts ++ (tk) = ts ++ tk := rfl
  rw [et] at hL ⊢
  clear et
  have B1 : Hid (WBut B R w w1) := Lib.hid (WBut.of bx hB (R := R))
  have HW := Lib.hid hW
  have A1 := Lib.hid (hA.stays bx)
  have HL := Lib.hid hL
  show Calls Tryz.prog 198 #[.pointer (some ⟨R, 0, none⟩), .agg #[.int .u8 op, .string nm, .string sc, .slice a1 n1 c1, .int .u8 ty.kind, .string ty.name, .slice a2 n2 c2, .int .i64 it, .string pl.name, .slice a3 n3 c3, .slice a4 n4 c4, .slice a5 n5 c5, .slice a6 n6 c6, .slice a7 n7 c7, .int .i64 pos]] w _
  have nn1 : (op == 1) = false := beq_eq_false_iff_ne.2 (by omega)
  have nn2 : (op == 2) = false := beq_eq_false_iff_ne.2 (by omega)
  have nn3 : (op == 3) = false := beq_eq_false_iff_ne.2 (by omega)
  have nn4 : (op == 4) = false := beq_eq_false_iff_ne.2 (by omega)
  have nn5 : (op == 5) = false := beq_eq_false_iff_ne.2 (by omega)
  have nn12 : (op == 12) = false := beq_eq_false_iff_ne.2 (by omega)
  clear hop
  clear hW hA hL bx
  go_enter Tryz.func198, Tryz.ntmps198
  go_upto_region 1 with (fail)
  (try simp only [size_alloc])
  rw [← hw1]
  clear hw1
  have x1_0 : w1.cell? ⟨w.heap.size + 1, 0, none⟩ = some (.int .u8 op) := E1.out.has 0 _ rfl
  have x1_1 : w1.cell? ⟨w.heap.size + 1, 1, none⟩ = some (.string nm) := E1.out.has 1 _ rfl
  have x1_2 : w1.cell? ⟨w.heap.size + 1, 2, none⟩ = some (.string sc) := E1.out.has 2 _ rfl
  have x1_3 : w1.cell? ⟨w.heap.size + 1, 3, none⟩ = some (.slice a1 n1 c1) := E1.out.has 3 _ rfl
  have x1_4 : w1.cell? ⟨w.heap.size + 1, 4, none⟩ = some (.int .u8 ty.kind) := E1.out.has 4 _ rfl
  have x1_5 : w1.cell? ⟨w.heap.size + 1, 5, none⟩ = some (.string ty.name) := E1.out.has 5 _ rfl
  have x1_6 : w1.cell? ⟨w.heap.size + 1, 6, none⟩ = some (.slice a2 n2 c2) := E1.out.has 6 _ rfl
  have x1_7 : w1.cell? ⟨w.heap.size + 1, 7, none⟩ = some (.int .i64 it) := E1.out.has 7 _ rfl
  have x1_8 : w1.cell? ⟨w.heap.size + 1, 8, none⟩ = some (.string pl.name) := E1.out.has 8 _ rfl
  have x1_9 : w1.cell? ⟨w.heap.size + 1, 9, none⟩ = some (.slice a3 n3 c3) := E1.out.has 9 _ rfl
  have x1_10 : w1.cell? ⟨w.heap.size + 1, 10, none⟩ = some (.slice a4 n4 c4) := E1.out.has 10 _ rfl
  have x1_11 : w1.cell? ⟨w.heap.size + 1, 11, none⟩ = some (.slice a5 n5 c5) := E1.out.has 11 _ rfl
  have x1_12 : w1.cell? ⟨w.heap.size + 1, 12, none⟩ = some (.slice a6 n6 c6) := E1.out.has 12 _ rfl
  have x1_13 : w1.cell? ⟨w.heap.size + 1, 13, none⟩ = some (.slice a7 n7 c7) := E1.out.has 13 _ rfl
  have x1_14 : w1.cell? ⟨w.heap.size + 1, 14, none⟩ = some (.int .i64 pos) := E1.out.has 14 _ rfl
  have y1 : w1.cell? ⟨w.heap.size, 0, none⟩ = some (.pointer (some ⟨R, 0, none⟩)) := Q1.out.has 0 _ rfl
  have zq1 : w.heap.size < w1.heap.size := Q1.out.lt
  have z1 : w.heap.size + 1 < w1.heap.size := E1.out.lt
  have hB1 : B ≤ w1.heap.size := Nat.le_trans hB B1.out.size
  have P := Lib.hid (hwb w1 hB1 (HW.out.below B1.out.bel) A1.out (PS.In.below B1.out.bel HX.out))
  have P : Hid (Calls Tryz.prog 215 #[.pointer (some ⟨R, 0, none⟩), .agg #[.int .u8 op, .string nm, .string sc, .slice a1 n1 c1, .int .u8 ty.kind, .string ty.name, .slice a2 n2 c2, .int .i64 it, .string pl.name, .slice a3 n3 c3, .slice a4 n4 c4, .slice a5 n5 c5, .slice a6 n6 c6, .slice a7 n7 c7, .int .i64 pos]] w1 fun e w' => e = .returned (.tuple #[]) ∧ AtW B R T0 G0 (ts ++ tk) w' ∧ WBut B R w1 w') := Lib.hid P.out
  go_wp2_with fail
  (with_reducible refine (P.out).mono ?_)
  rintro e w2 ⟨rfl, h, b⟩
  have A2 := Lib.hid h
  have B2 := Lib.hid (B1.out.trans b)
  have E2 := Lib.hid (E1.out.but b)
  have Q2 := Lib.hid (Q1.out.but b)
  clear h b P x1_0 x1_1 x1_2 x1_3 x1_4 x1_5 x1_6 x1_7 x1_8 x1_9 x1_10 x1_11 x1_12 x1_13 x1_14 z1 A1 E1 y1 zq1 Q1
  go_wp2
  go_end0
  exact ⟨rfl, A2.out, B2.out⟩
theorem all_exprs {n st : Nat} {es : List PE} {tl : List RT} {hd : List RT} (h : ∀ x ∈ hd ++ (rtEs es st ++ tl), wholeR n x = true) : ∀ e ∈ es, wholeE n e st = true := fun e he => by
  rw [← wholeR_E]
  refine h _ ?_
  rw [rtEs_map]
  simp only [List.mem_append, List.mem_map]
  exact .inr (.inl ⟨e, he, rfl⟩)
theorem rtAs_mem {va na : ByteArray} {b : List PS} {s : PS} : ∀ {ar : List PA}, PA.mk va na b ∈ ar → s ∈ b → rtS s ∈ rtAs ar
  | [], h, _ => by cases h
  | x :: l, h, hs => by
    rw [rtAs, List.mem_append]
    rcases List.mem_cons.1 h with rfl | h
    · left
      rw [rtA, rtSs_map]
      exact List.mem_map.2 ⟨s, hs, rfl⟩
    · exact .inr (rtAs_mem h hs)
theorem rtSs_mem {s : PS} {l : List PS} (h : s ∈ l) : rtS s ∈ rtSs l := by rw [rtSs_map]; exact List.mem_map.2 ⟨s, h, rfl⟩
theorem PE.Row.some {B : Nat} {w : World} {b o : Nat} {l : List PE} (h : PE.Row B w b o l) {e : PE} (he : e ∈ l) : ∃ v, e.In B w v := by
  obtain ⟨k, hk⟩ := List.mem_iff_getElem?.1 he
  obtain ⟨v, _, hi⟩ := PE.Row.get h hk
  exact ⟨v, hi⟩
theorem len_one {α : Type} {l : List α} (h : l.length = 1) : ∃ a, l = [a] := List.length_eq_one_iff.1 h
set_option maxHeartbeats 1000000 in
theorem stmt_calls (B R : Nat) : ∀ (n : Nat) (x : PS), wholeR n (rtS x) = true → StmtAt B R x
  | 0, x, h => by rw [wholeR] at h; cases h
  | n + 1, .mk op nm sc ns ty it pl es bo el ar pos, h => by
    rw [rtS, wholeR, Bool.and_eq_true, List.all_eq_true] at h
    obtain ⟨hf, hk⟩ := h
    intro T0 G0 ts v w hB hW hA hx hL
    have hst : inExprs op < 2 := by unfold inExprs; split <;> omega
    have he : ∀ e ∈ es, ExprAt B R e := fun e hm => by
      obtain ⟨_, _, _, _, ⟨b4, o4, _, r4⟩, _⟩ := hx
      obtain ⟨ve, hi⟩ := PE.Row.some r4 hm
      have h1 := all_exprs hk e hm
      rw [wholeE_eq n e ve _ hi hst, Bool.and_eq_true] at h1
      exact expr_calls B R n e h1.2
    have hbo : StmtsAt B R bo := stmts_calls B R bo fun s hs => stmt_calls B R n s (hk _ (by simp only [List.mem_append]; exact .inr (.inr (.inl (rtSs_mem hs)))))
    have hel : StmtsAt B R el := stmts_calls B R el fun s hs => stmt_calls B R n s (hk _ (by simp only [List.mem_append]; exact .inr (.inr (.inr (.inl (rtSs_mem hs))))))
    have har : ∀ va na b, PA.mk va na b ∈ ar → StmtsAt B R b := fun va na b hm => stmts_calls B R b fun s hs => stmt_calls B R n s (hk _ (by simp only [List.mem_append]; exact .inr (.inr (.inr (.inr (rtAs_mem hm hs))))))
    have hty : op = 12 → TypedAt B R ty := fun h12 => by
      have h1 := hk (rtT ty 0) (by rw [if_pos h12]; simp)
      rw [wholeR_T, wholeT_eq] at h1
      exact typed_calls B R n ty h1
    have dflt : ∀ tk : List TkB, tokS (.mk op nm sc ns ty it pl es bo el ar pos) = tk → (op ≠ 1 ∧ op ≠ 2 ∧ op ≠ 3 ∧ op ≠ 4 ∧ op ≠ 5 ∧ op ≠ 12) → (∀ (W : World), B ≤ W.heap.size → Words B W → AtW B R T0 G0 ts W → PS.In B W (.mk op nm sc ns ty it pl es bo el ar pos) v → Lim T0 G0 (ts ++ tk) → Calls Tryz.prog 215 #[.pointer (some ⟨R, 0, none⟩), .agg (PS.cells (.mk op nm sc ns ty it pl es bo el ar pos) v).toArray] W fun e w' => e = .returned (.tuple #[]) ∧ AtW B R T0 G0 (ts ++ tk) w' ∧ WBut B R W w') →
        Calls Tryz.prog 198 #[.pointer (some ⟨R, 0, none⟩), .agg ((PS.mk op nm sc ns ty it pl es bo el ar pos).cells v).toArray] w fun e w' => e = .returned (.tuple #[]) ∧ AtW B R T0 G0 (ts ++ tokS (.mk op nm sc ns ty it pl es bo el ar pos)) w' ∧ WBut B R w w' := fun tk e1 hop hwb => by
      rw [e1] at hL ⊢
      exact st_default B R op nm sc ns ty it pl es bo el ar pos tk hop T0 G0 ts v w hB hW hA hx (fun W g1 g2 g3 g4 => hwb W g1 g2 g3 g4 hL) hL
    clear hk
    by_cases c1 : op = 1
    · subst c1
      obtain ⟨e, rfl⟩ := len_one (l := es) (by simp [sSh, fitSS, fitLists] at hf; exact hf.2.2.1.1)
      exact st_let B R nm sc ns ty it pl e bo el ar pos (he e (by simp)) T0 G0 ts v w hB hW hA hx hL
    by_cases c2 : op = 2
    · subst c2
      obtain ⟨e, rfl⟩ := len_one (l := es) (by simp [sSh, fitSS, fitLists] at hf; exact hf.2.2.1.1)
      exact st_take B R nm sc ns ty it pl e bo el ar pos (he e (by simp)) T0 G0 ts v w hB hW hA hx hL
    by_cases c3 : op = 3
    · subst c3
      obtain ⟨e, rfl⟩ := len_one (l := es) (by simp [sSh, fitSS, fitLists] at hf; exact hf.2.2.1.1)
      exact st_assign B R nm sc ns ty it pl e bo el ar pos (he e (by simp)) T0 G0 ts v w hB hW hA hx hL
    by_cases c4 : op = 4
    · subst c4
      obtain ⟨e, rfl⟩ := len_one (l := es) (by simp [sSh, fitSS, fitLists] at hf; exact hf.2.2.1.1)
      exact st_do B R nm sc ns ty it pl e bo el ar pos (he e (by simp)) T0 G0 ts v w hB hW hA hx hL
    by_cases c5 : op = 5
    · subst c5
      exact st_drop B R nm sc ns ty it pl es bo el ar pos T0 G0 ts v w hB hW hA hx hL
    by_cases c12 : op = 12
    · subst c12
      exact st_chan B R nm sc ns ty it pl es bo el ar pos (hty rfl) T0 G0 ts v w hB hW hA hx hL
    by_cases c6 : op = 6
    · subst c6
      obtain ⟨e, rfl⟩ := len_one (l := es) (by simp [sSh, fitSS, fitLists] at hf; exact hf.2.2.1.1)
      exact dflt _ rfl (by decide) fun W g1 g2 g3 g4 g5 => wb_if B R nm sc ns ty it pl e bo el ar pos (he e (by simp)) hbo hel T0 G0 ts v W g1 g2 g3 g4 g5
    by_cases c7 : op = 7
    · subst c7
      obtain ⟨e, rfl⟩ := len_one (l := es) (by simp [sSh, fitSS, fitLists] at hf; exact hf.2.2.1.1)
      exact dflt _ rfl (by decide) fun W g1 g2 g3 g4 g5 => wb_while B R nm sc ns ty it pl e bo el ar pos (he e (by simp)) hbo T0 G0 ts v W g1 g2 g3 g4 g5
    by_cases c8 : op = 8
    · subst c8
      exact dflt _ rfl (by decide) fun W g1 g2 g3 g4 g5 => wb_match B R nm sc ns ty it pl es bo el ar pos har T0 G0 ts v W g1 g2 g3 g4 g5
    by_cases c9 : op = 9
    · subst c9
      exact dflt _ rfl (by decide) fun W g1 g2 g3 g4 g5 => wb_scope B R nm sc ns ty it pl es bo el ar pos hbo T0 G0 ts v W g1 g2 g3 g4 g5
    by_cases c10 : op = 10
    · subst c10
      have hl : es.length = ns.length := by simp [sSh, fitSS, fitLists] at hf; exact hf.2.2.1.1
      exact dflt _ rfl (by decide) fun W g1 g2 g3 g4 g5 => wb_spawn B R nm sc ns ty it pl es bo el ar pos hbo hl.symm he T0 G0 ts v W g1 g2 g3 g4 g5
    by_cases c11 : op = 11
    · subst c11
      exact dflt _ rfl (by decide) fun W g1 g2 g3 g4 g5 => wb_lock B R nm sc ns ty it pl es bo el ar pos hbo T0 G0 ts v W g1 g2 g3 g4 g5
    by_cases c13 : op = 13
    · subst c13
      exact dflt _ rfl (by decide) fun W g1 g2 g3 g4 g5 => wb_block B R nm sc ns ty it pl es bo el ar pos hbo T0 G0 ts v W g1 g2 g3 g4 g5
    exfalso
    unfold sSh at hf
    rw [if_neg c1, if_neg c2, if_neg c3, if_neg c4, if_neg c5, if_neg c6, if_neg c7, if_neg c8, if_neg (by omega), if_neg c10, if_neg c11, if_neg c12] at hf
    simp [fitSS] at hf
end Go.Proofs.YthilicmhdkmipaaGreatDoor
/- shown of a program; show.Program. -/
namespace Go.Proofs.YthilicmhdkmipaaGreatDoor
open Go.RowKit
set_option linter.unusedVariables false

mutual
theorem PS.In.wider {B B' : Nat} {w : World} (hb : B ≤ B') : ∀ {t : PS} {v : VS}, t.In B w v → t.In B' w v
  | .mk _ _ _ ns ty _ p es bo el ar _, v, ⟨h1, h2, h3, h4, ⟨b1, o1, s1, r1⟩, ⟨b2, o2, s2, r2⟩, ⟨b3, o3, s3, r3⟩, b4, o4, s4, r4⟩ =>
    ⟨h1, h2.wider hb, PT.In.wider hb h3, h4.wider hb, ⟨b1, o1, s1.wider hb, PE.Row.wider hb r1⟩, ⟨b2, o2, s2.wider hb, PS.Row.wider hb r2⟩, ⟨b3, o3, s3.wider hb, PS.Row.wider hb r3⟩, b4, o4, s4.wider hb, PA.Row.wider hb r4⟩
theorem PA.In.wider {B B' : Nat} {w : World} (hb : B ≤ B') : ∀ {t : PA} {v : Value}, t.In B w v → t.In B' w v
  | .mk _ _ bo, v, ⟨h1, b2, o2, s2, r2⟩ => ⟨h1, b2, o2, s2.wider hb, PS.Row.wider hb r2⟩
theorem PS.Row.wider {B B' : Nat} {w : World} (hb : B ≤ B') {b : Nat} : ∀ {l : List PS} {o : Nat}, PS.Row B w b o l → PS.Row B' w b o l
  | [], _, _ => trivial
  | t :: l, o, ⟨⟨v, h1, h2⟩, hr⟩ => ⟨⟨v, h1, PS.In.wider hb h2⟩, PS.Row.wider hb hr⟩
theorem PA.Row.wider {B B' : Nat} {w : World} (hb : B ≤ B') {b : Nat} : ∀ {l : List PA} {o : Nat}, PA.Row B w b o l → PA.Row B' w b o l
  | [], _, _ => trivial
  | t :: l, o, ⟨⟨v, h1, h2⟩, hr⟩ => ⟨⟨v, h1, PA.In.wider hb h2⟩, PA.Row.wider hb hr⟩
end
theorem PF.Row.wider {B B' : Nat} {w : World} (hb : B ≤ B') {b : Nat} : ∀ {l : List PF} {o : Nat}, PF.Row B w b o l → PF.Row B' w b o l
  | [], _, _ => trivial
  | t :: l, o, ⟨⟨v, h1, h2⟩, hr⟩ => ⟨⟨v, h1, h2.1, PT.In.wider hb h2.2⟩, PF.Row.wider hb hr⟩
theorem PI.In.wider {B B' : Nat} {w : World} (hb : B ≤ B') {t : PI} {v : VI} : t.In B w v → t.In B' w v
  | ⟨h1, ⟨b1, o1, s1, r1⟩, h3, ⟨b2, o2, s2, r2⟩, h5⟩ => ⟨h1, ⟨b1, o1, s1.wider hb, PF.Row.wider hb r1⟩, PT.In.wider hb h3, ⟨b2, o2, s2.wider hb, PS.Row.wider hb r2⟩, PE.In.wider hb h5⟩
theorem PI.Row.wider {B B' : Nat} {w : World} (hb : B ≤ B') {b : Nat} : ∀ {l : List PI} {o : Nat}, PI.Row B w b o l → PI.Row B' w b o l
  | [], _, _ => trivial
  | t :: l, o, ⟨⟨v, h1, h2⟩, hr⟩ => ⟨⟨v, h1, PI.In.wider hb h2⟩, PI.Row.wider hb hr⟩
theorem ProgIn.wider {B B' : Nat} {w : World} {l : List PI} {v : Value} (hb : B ≤ B') : ProgIn B w l v → ProgIn B' w l v
  | ⟨b, o, s, r⟩ => ⟨b, o, s.wider hb, PI.Row.wider hb r⟩
theorem ProgIn.below {B : Nat} {w w' : World} {l : List PI} {v : Value} (k : Below B w w') : ProgIn B w l v → ProgIn B w' l v
  | ⟨b, o, s, r⟩ => ⟨b, o, s, PI.Row.below' k s r⟩
/-- the text of a program that isn't empty -/
theorem all_text (B R : Nat) (T : TkB) (w : World) (h : IsW B R T ⟨#[]⟩ w) (h0 : T ≠ []) :
    Calls Tryz.prog 87 #[.pointer (some ⟨R, 0, none⟩)] w fun e w' => e = .returned (.string ⟨T.toArray⟩) ∧ Below B w w' := by
  have := all_row B R T [] [] w (IsW.start h) (by simpa [puts] using h0)
  simpa [puts] using this
set_option maxRecDepth 100000 in
set_option maxHeartbeats 4000000 in
theorem shownG_calls (B : Nat) (l : List PI) (q : Bool) (v : Value) (w : World) (hB : B ≤ w.heap.size) (hW : Words B w) (ht : ProgIn B w l v)
    (hq : ∀ W, Below w.heap.size w W → Calls Tryz.prog 29 #[.agg #[v]] W fun e w' => e = .returned (.bool q) ∧ Below W.heap.size W w')
    (hT : q = true → ∀ B R, ∀ x ∈ l, ItemAt B R x) (hL : q = true → (textP l).length ≤ 1000000000) (h0 : q = true → textP l ≠ []) :
    Calls Tryz.prog 44 #[.agg #[v], .func (.func 29) #[] #[], .func (.func 45) #[] #[]] w fun e w' => e = .returned (.string ⟨(if q then textP l else []).toArray⟩) ∧ Below w.heap.size w w' := by
  obtain ⟨ao, n, cap, rfl⟩ : ∃ ao n cap, v = .slice ao n cap := by
    obtain ⟨b, o, s, _⟩ := ht
    obtain ⟨ao, cap, h⟩ := s.shape
    exact ⟨ao, _, cap, h⟩
  obtain ⟨w1, hw1⟩ : ∃ w1, w1 = w.alloc (.cells #[.slice ao n cap] 24) := ⟨_, rfl⟩
  have bx : Below w.heap.size w w1 := by rw [hw1]; exact new_only _ _
  have hz : w.heap.size < w1.heap.size := by rw [hw1]; simp
  have x0 : w1.cell? ⟨w.heap.size, 0, none⟩ = some (.slice ao n cap) := by rw [hw1]; go_simp
  have C1 := Lib.hid (hq w1 bx)
  have HW := Lib.hid hW
  have HT := Lib.hid ht
  have HTy := Lib.hid hT
  have HL := Lib.hid hL
  have H0 := Lib.hid h0
  clear hq hW ht hT hL h0
  go_enter Tryz.func44, Tryz.ntmps44
  go_upto_region 1 with (fail)
  rw [← hw1]
  clear hw1
  cases q with
  | false =>
    go_wp2_with fail
    (with_reducible refine (C1.out).mono ?_)
    rintro e w2 ⟨rfl, bq⟩
    have B2 := Lib.hid (bx.trans (bq.mono (by omega)))
    clear bq
    go_wp2
    go_ret
    exact ⟨rfl, B2.out⟩
  | true =>
    go_wp2_with fail
    (with_reducible refine (C1.out).mono ?_)
    rintro e w2 ⟨rfl, bq⟩
    have B2 := Lib.hid (bx.trans (bq.mono (by omega)))
    have b2 := bq
    have z2 := bq.size
    have y0 := (b2.cell (p := ⟨w.heap.size, 0, none⟩) hz).trans x0
    have A0 := Lib.hid (IsW.new w2)
    obtain ⟨w3, hw3⟩ : ∃ w3, w3 = w2.alloc (.cells #[.pointer none, .slice none 0 0, .string ⟨#[]⟩] 140) := ⟨_, rfl⟩
    have b3 : Below w2.heap.size w2 w3 := by rw [hw3]; exact new_only _ _
    rw [← hw3] at A0
    have C2 := Lib.hid (program_calls w2.heap.size w2.heap.size l (HTy.out trivial _ _) (.slice ao n cap) w3 b3.size (((HW.out.below (B2.out.mono hB)).wider (by omega)).below b3) A0.out (ProgIn.below b3 (ProgIn.wider (by omega) (ProgIn.below (B2.out.mono hB) HT.out))) (HL.out trivial))
    have v0 := (b3.cell (p := ⟨w.heap.size, 0, none⟩) (show w.heap.size < w2.heap.size by omega)).trans y0
    have B3 := Lib.hid (B2.out.trans (b3.mono (by omega)))
    have Z3 := b3.size
    clear bq b2 b3 C1 x0 y0
    go_upto_region 4 with (fail)
    rw [← hw3]
    clear hw3
    go_wp2_with fail
    refine (C2.out).mono ?_
    rintro e w4 ⟨rfl, h4, b4⟩
    have B4 := Lib.hid (B3.out.trans (b4.bel.mono (by omega)))
    have C3 := Lib.hid (all_text _ _ _ w4 h4 (H0.out trivial))
    clear h4 b4 C2
    go_wp2_with (go_at_call 87; refine (C3.out).mono ?_; rintro e w5 ⟨rfl, b5⟩; have B5 := Lib.hid (B4.out.trans (b5.mono (by omega))); clear b5)
    go_ret
    exact ⟨rfl, B5.out⟩
set_option maxRecDepth 100000 in
set_option maxHeartbeats 2000000 in
theorem showG_calls (B : Nat) (l : List PI) (ao : Option Addr) (n q : Nat) (w : World) (hB : B ≤ w.heap.size) (hW : Words B w) (hm : MaxOk w) (ht : ProgIn B w l (.slice ao n q))
    (hT : wholeR 40 (rtP l) = true → ∀ B R, ∀ x ∈ l, ItemAt B R x) (hL : wholeR 40 (rtP l) = true → (textP l).length ≤ 1000000000) (h0 : wholeR 40 (rtP l) = true → textP l ≠ []) :
    Calls Tryz.prog 12 #[.agg #[.slice ao n q]] w fun e w' => e = .returned (.string ⟨(if wholeR 40 (rtP l) then textP l else []).toArray⟩) ∧ Below w.heap.size w w' := by
  have bx : Below w.heap.size w (w.alloc (.cells #[.slice ao n q] 24)) := new_only _ _
  have C := Lib.hid (shownG_calls B l (wholeR 40 (rtP l)) (.slice ao n q) _ (by simp; omega) (hW.below (bx.mono hB)) (ProgIn.below (bx.mono hB) ht)
    (fun W hb => topWhole_calls B l ao n q W (by have := hb.size; simp at this; omega) ((hm.alloc _).below hb) (ProgIn.below (((bx.trans (hb.mono (by simp)))).mono hB) ht))
    hT hL h0)
  have BX := Lib.hid bx
  generalize (⟨(if wholeR 40 (rtP l) then textP l else []).toArray⟩ : ByteArray) = res at *
  clear bx ht hW hL hm hT h0
  go_enter Tryz.func12, Tryz.ntmps12
  go_wp2_with fail
  refine (C.out).mono ?_
  rintro e w1 ⟨rfl, b1⟩
  have B1 := Lib.hid (BX.out.trans (b1.mono (by simp)))
  clear b1 C
  go_wp2
  go_ret
  exact ⟨rfl, B1.out⟩
end Go.Proofs.YthilicmhdkmipaaGreatDoor
/- Rows of items as cells; two rows one behind the other (XTreeJoinedMath, without the copier's texts). -/
namespace Go.Proofs.YthilicmhdkmipaaGreatDoor
open Go.RowKit Go.Shelf
set_option linter.unusedVariables false

theorem slv_lenJ {B : Nat} {a : Option Addr} {n c m b o : Nat} (h : SlV B (.slice a n c) m b o) : n = m ∧ n ≤ maxLen ∧ (n = 0 ∨ (a = some ⟨b, o, none⟩ ∧ b < B)) := by
  obtain ⟨h1, a', c', e, h2⟩ := h
  obtain ⟨e1, e2, e3⟩ := Value.slice.inj e
  subst e1; subst e2; subst e3
  exact ⟨rfl, h1, h2⟩
theorem infoItemJ : (Tryz.prog.info? 68).map (fun i => (i.zero, i.size, i.bytes)) = some (some (.agg #[.int .u8 0, .string ⟨#[]⟩, .slice none 0 0, .int .u8 0, .string ⟨#[]⟩, .slice none 0 0, .slice none 0 0, .int .u8 0, .int .i64 0, .string ⟨#[]⟩, .string ⟨#[]⟩, .string ⟨#[]⟩, .slice none 0 0, .slice none 0 0, .int .i64 0, .int .i64 0]), 16, 248) := by kernel_rfl
theorem cells_app {w : World} {b o : Nat} {xs ys : List Value} : CellsAt w b o (xs ++ ys) ↔ CellsAt w b o xs ∧ CellsAt w b (o + xs.length) ys := by
  constructor
  · intro h
    refine ⟨fun i v hi => h i v ?_, fun i v hi => ?_⟩
    · rw [List.getElem?_append_left (by have := (List.getElem?_eq_some_iff.1 hi).1; omega)]; exact hi
    · have := h (xs.length + i) v (by rw [List.getElem?_append_right (by omega)]; simpa using hi)
      rwa [← Nat.add_assoc] at this
  · rintro ⟨h1, h2⟩ i v hi
    by_cases hc : i < xs.length
    · exact h1 i v (by rwa [List.getElem?_append_left hc] at hi)
    · have := h2 (i - xs.length) v (by rwa [List.getElem?_append_right (by omega)] at hi)
      rwa [show o + xs.length + (i - xs.length) = o + i from by omega] at this
theorem cells_len (x : PI) (v : VI) : (x.cells v).length = 16 := by
  obtain ⟨k, nm, fs, t, bo, e, ps⟩ := x
  obtain ⟨op, iv, n1, sc, pl, es, at1⟩ := e
  simp [PI.cells, PT.cells, PE.cells]
theorem cells_one {B : Nat} {w : World} {x : PI} {v : VI} (h : x.In B w v) : ∀ u ∈ x.cells v, u.oneCell' = true := by
  obtain ⟨a1, n1, c1, a2, n2, c2, a3, n3, c3, a4, n4, c4, a5, n5, c5, rfl⟩ := PI.In.shape h
  obtain ⟨k, nm, fs, t, bo, e, ps⟩ := x
  obtain ⟨op, iv, n1, sc, pl, es, at1⟩ := e
  intro u hu
  simp [PI.cells, PT.cells, PE.cells] at hu
  rcases hu with rfl|rfl|rfl|rfl|rfl|rfl|rfl|rfl|rfl|rfl|rfl|rfl|rfl|rfl|rfl|rfl <;> rfl
/-- a row of items as its cells: what holds the same cells is the same row -/
theorem itemRow_cells {B : Nat} {w : World} {b : Nat} : ∀ {l : List PI} {o : Nat}, PI.Row B w b o l →
    ∃ cs : List Value, cs.length = l.length * 16 ∧ CellsAt w b o cs ∧ (∀ u ∈ cs, u.oneCell' = true) ∧ ∀ (C : Nat) (W : World) (b' o' : Nat), B ≤ C → Below B w W → CellsAt W b' o' cs → PI.Row C W b' o' l
  | [], o, _ => ⟨[], rfl, fun i v hi => by simp at hi, fun u hu => by simp at hu, fun _ _ _ _ _ _ _ => trivial⟩
  | x :: l, o, ⟨⟨v, h1, h2⟩, hr⟩ => by
    obtain ⟨cs, e1, e2, e3, e4⟩ := itemRow_cells hr
    have hl := cells_len x v
    refine ⟨x.cells v ++ cs, by simp [hl, e1]; omega, cells_app.2 ⟨h1, by rwa [hl]⟩, fun u hu => ?_, fun C W b' o' hC hb hc => ?_⟩
    · rcases List.mem_append.1 hu with hu | hu
      · exact cells_one h2 u hu
      · exact e3 u hu
    · obtain ⟨c1, c2⟩ := cells_app.1 hc
      rw [hl] at c2
      exact ⟨⟨v, c1, PI.In.wider hC (PI.In.below hb h2)⟩, e4 C W b' _ hC hb c2⟩
theorem itemRow_app {B : Nat} {w : World} {b : Nat} : ∀ {l m : List PI} {o : Nat}, PI.Row B w b o l → PI.Row B w b (o + l.length * 16) m → PI.Row B w b o (l ++ m)
  | [], m, o, _, h => by simpa using h
  | x :: l, m, o, ⟨hx, hr⟩, h => ⟨hx, itemRow_app hr (by rw [show o + (x :: l).length * 16 = o + 16 + l.length * 16 from by simp; omega] at h; exact h)⟩
theorem wpList_append_any {P : Program} {w : World} {ops : Array Oper} {rest : List Oper} {o : Oper} {a : Act} {Q : Exit → Act → World → Prop} (hgd : o.guard = none) (s x : Operand) (t : TypeId)
    (ho : o.op = .call { callee := .builtin .append, args := #[s, x], argTypes := #[t, t] })
    (base : Nat) (e : TypeId) (i : TypeInfo) (z : Value) (size bytes : Nat) (ht : P.underlying t = some (.slice e)) (hi : P.info? e = some i) (hz : i.zero = some z)
    (hsize : i.size = size) (hby : i.bytes = bytes) (hzs : z.cells.size = size) (hsz : 0 < size)
    (v : Value) (n : Nat) (xs : List Value) (hs : a.eval s = v) (hown : w.ownsRow base e size v n xs)
    (ao : Option Addr) (m c : Nat) (news : List Value) (hx : a.eval x = .slice ao m c) (hnil : ao = none → m = 0 ∧ c = 0) (hl : news.length = m * size) (hnews : ∀ ad, ao = some ad → ∀ j u, news[j]? = some u → w.cell? (ad.add j) = some u) (h1 : ∀ u ∈ news, u.oneCell' = true)
    (h63 : n + m ≤ maxLen) (hbytes : (n + m) * bytes ≤ 140737488355328) (hbase : base ≤ w.heap.size)
    (h : ∀ v' w', w'.ownsRow base e size v' (n + m) (xs ++ news) → w.grownBy w' v.ownBlock → wpList P ops Q rest (a.put o.dst v') w') : wpList P ops Q (o :: rest) a w := by
  cases ao with
  | none =>
    obtain ⟨rfl, rfl⟩ := hnil rfl
    obtain rfl : news = [] := by simpa using hl
    exact wpList_append_own_none hgd s x t ho base e i size ht hi v n xs hs hown hx (h v w (by simpa using hown) ⟨rfl, rfl, rfl, Nat.le_refl _, fun _ _ _ => rfl⟩)
  | some ad => exact wpList_append_own w hgd s x t ho base e i z size bytes ht hi hz hsize hby hzs hsz v n xs hs hown ad m c news hx hl (hnews ad rfl) h1 h63 hbytes hbase fun v' w' h2 h3 _ => h v' w' h2 h3
/-- a row's cells, wherever the slice lies -/
theorem prog_cells {B : Nat} {w : World} {l : List PI} {ao : Option Addr} {n c : Nat} (h : ProgIn B w l (.slice ao n c)) : n = l.length ∧ ∃ cs : List Value, cs.length = n * 16 ∧ (∀ u ∈ cs, u.oneCell' = true) ∧
    (∀ (W : World), Below B w W → ∀ ad, ao = some ad → ∀ j u, cs[j]? = some u → W.cell? (ad.add j) = some u) ∧ ∀ (C : Nat) (W : World) (b' o' : Nat), B ≤ C → Below B w W → CellsAt W b' o' cs → PI.Row C W b' o' l := by
  obtain ⟨b, o, h1, h2⟩ := h
  obtain ⟨hn, _, hz⟩ := slv_lenJ h1
  obtain ⟨cs, e1, e2, e3, e4⟩ := itemRow_cells h2
  refine ⟨hn, cs, by rw [e1, hn], e3, fun W hb ad ha j u hu => ?_, e4⟩
  rcases hz with hz | ⟨ha', hlt⟩
  · have := (List.getElem?_eq_some_iff.1 hu).1
    rw [e1, ← hn, hz] at this; omega
  · obtain rfl : ad = ⟨b, o, none⟩ := by rw [ha] at ha'; simpa using ha'
    rw [show (⟨b, o, none⟩ : Addr).add j = ⟨b, o + j, none⟩ from by unfold Addr.add; split <;> first | rfl | (rename_i h; rw [h]; rfl)]
    exact (hb.cell (p := ⟨b, o + j, none⟩) hlt).trans (e2 j u hu)
theorem owns_slice {w : World} {base : Nat} {e : TypeId} {size : Nat} {v : Value} {n : Nat} {xs : List Value} (h : w.ownsRow base e size v n xs) : ∃ ao c, v = .slice ao n c := by
  obtain ⟨_, ⟨rfl, rfl⟩ | ⟨g, cap, cur, rfl, _⟩⟩ := h
  · exact ⟨none, 0, rfl⟩
  · exact ⟨_, _, rfl⟩
theorem owns_prog {B base : Nat} {w W : World} {e : TypeId} {v : Value} {p q : List PI} {cs ds : List Value} (h : W.ownsRow base e 16 v (p.length + q.length) (cs ++ ds)) (hm : p.length + q.length ≤ maxLen) (hB : B ≤ W.heap.size) (hb : Below B w W) (hcl : cs.length = p.length * 16)
    (hc : ∀ (C : Nat) (W : World) (b' o' : Nat), B ≤ C → Below B w W → CellsAt W b' o' cs → PI.Row C W b' o' p) (hd : ∀ (C : Nat) (W : World) (b' o' : Nat), B ≤ C → Below B w W → CellsAt W b' o' ds → PI.Row C W b' o' q) :
    ProgIn W.heap.size W (p ++ q) v := by
  obtain ⟨hl, h⟩ := h
  rcases h with ⟨rfl, hz⟩ | ⟨g, cap, cur, rfl, h1, h2, h3, h4, h5, h6⟩
  · obtain ⟨rfl, rfl⟩ : p = [] ∧ q = [] := by constructor <;> (apply List.eq_nil_of_length_eq_zero; omega)
    exact ⟨0, 0, nil_sl _, trivial⟩
  · have hat : CellsAt W g 0 (cs ++ ds) := by
      intro i u hi
      rw [cell_of_row _ _ _ cur e (0, 0) h2]
      rw [← h6, List.getElem?_take] at hi
      split at hi
      · simpa using hi
      · cases hi
    obtain ⟨c1, c2⟩ := cells_app.1 hat
    have hg : g < W.heap.size := by
      have := (Array.getElem?_eq_some_iff.1 h2).1; exact this
    refine ⟨g, 0, ⟨by simpa using hm, _, cap, by rw [List.length_append], .inr ⟨rfl, hg⟩⟩, itemRow_app (hc _ W g 0 hB hb c1) ?_⟩
    rw [hcl] at c2
    exact hd _ W g _ hB hb c2
theorem owns_set {w : World} {base : Nat} {e : TypeId} {size : Nat} {v : Value} {n : Nat} {xs : List Value} (h : w.ownsRow base e size v n xs) {s : Nat} (hs : s < base) (u : Value) : (w.setCell ⟨s, 0, none⟩ u).ownsRow base e size v n xs := by
  obtain ⟨hl, h⟩ := h
  refine ⟨hl, ?_⟩
  rcases h with h | ⟨g, cap, cur, h1, h2, h3, h4⟩
  · exact .inl h
  · exact .inr ⟨g, cap, cur, h1, h2, (Below.heap_setCell _ _ _ _ (by simp; omega)).trans h3, h4⟩
end Go.Proofs.YthilicmhdkmipaaGreatDoor
