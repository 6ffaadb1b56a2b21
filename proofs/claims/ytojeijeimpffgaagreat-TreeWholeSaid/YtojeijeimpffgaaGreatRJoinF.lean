/- The parts that a type has: (typed).has hands them out, one after the other. -/
import Derived.Test.YtojeijeimpffgaaGreatRTreeHands
import Derived.Test.YtojeijeimpffgaaGreatRJoinD
import Derived.Shelf.Abstract
import Derived.OwnWalkIn
import Derived.TacticsInMore
import Derived.LoopNIn
import Derived.LoopIn
import Derived.Shelf.RegionOpen
namespace Go.Proofs.YtojeijeimpffgaaGreat
open Go.RowKit Go.Shelf
set_option linter.unusedVariables false
attribute [local go_sem] Oper.semAt_some

/-- the row of pointers to things of a width, as parts of one make -/
def ptrs (T : TypeId) (b o wd st : Nat) (n : Nat) : List Value := (List.range n).map fun k => .iface T (.agg #[.pointer (some ⟨b, o + k * wd, none⟩), .int .u8 st])
theorem ptrs_get {T : TypeId} {b o wd st n k : Nat} (h : k < n) : (ptrs T b o wd st n)[k]? = some (.iface T (.agg #[.pointer (some ⟨b, o + k * wd, none⟩), .int .u8 st])) := by
  simp [ptrs, h]
theorem ptrs_len (T : TypeId) (b o wd st n : Nat) : (ptrs T b o wd st n).length = n := by simp [ptrs]
set_option maxHeartbeats 2000000 in
theorem typedHas_hands (B lo : Nat) (t : PT) (st b o : Nat) (v : Value) (w : World) (hB : B ≤ lo) (hlo : lo ≤ w.heap.size) (hb : b < lo) (hc : CellsAt w b o (t.cells v)) (ht : t.In B w v) (b1 o1 : Nat) (s1 : SlV B v t.args.length b1 o1) :
    Hands Tryz.prog lo 157 (.agg #[.pointer (some ⟨b, o, none⟩), .int .u8 st]) (ptrs 111 b1 o1 3 0 t.args.length) w := by
  intro m l J Jx hJ hJx hR h0
  obtain ⟨k0, nm, xs⟩ := t
  obtain ⟨m1, ao, cap, rfl, h1⟩ := s1
  unfold maxLen at m1
  simp only [PT.args] at *
  obtain ⟨n, hn⟩ : ∃ n, n = xs.length := ⟨_, rfl⟩
  rw [← hn] at m1 h1 hR ⊢
  have c2 : w.cell? ⟨b, o + 2, none⟩ = some (.slice ao n cap) := by rw [hn]; exact hc 2 _ rfl
  rw [ptrs_len]
  have hbw : b < w.heap.size := by omega
  have HJ := Lib.hid hJ
  have HJx := Lib.hid hJx
  have HR := Lib.hid hR
  have H1 := Lib.hid h1
  clear hJ hJx hR h1 hc ht
  refine callsIn_of_wp Tryz.func157 rfl trivial ?_ rfl
  simp only [Tryz.ntmps157, List.size_toArray, List.length_cons, List.length_nil, Nat.reduceAdd, Nat.reduceSub, Array.replicate_succ, Array.replicate_zero, List.push_toArray, List.append_toArray, List.nil_append, List.cons_append]
  gi_wp2
  gi_loopw [11] (fun i wr => ∃ k : Nat, k ≤ n ∧ i = .int .i64 k ∧ w.heap.size < wr.heap.size ∧ wr.cell? ⟨b, o + 2, none⟩ = some (.slice ao n cap) ∧ wr.cell? ⟨w.heap.size, 0, none⟩ = some (.pointer (some ⟨b, o, none⟩)) ∧ Hid (J k wr))
    (fun i _ => n - (intOf i).toNat)
  case atStart => exact ⟨0, by omega, rfl, by simp, by go_simp, by go_simp, Lib.hid (HJ.out _ _ _ h0 ((Below.refl _ w).alloc (Nat.le_refl _) _))⟩
  case round =>
    obtain ⟨k, hk, rfl, hsz, hc2, hcb, HK⟩ := hrel
    by_cases hlt : k < n
    · obtain ⟨rfl, hb1⟩ := H1.out.resolve_left (by omega)
      have g : b < wr.heap.size := by omega
      obtain ⟨fn, tmps, assign, body, hy0, hRd⟩ := HR.out k _ wr (ptrs_get hlt) (by omega) HK.out
      have hy : (Instr.yield l #[.iface 111 (.agg #[.pointer (some ⟨b1, o1 + k * 3, none⟩), .int .u8 0])]).run Tryz.prog wr = .ok (.round l fn tmps assign body) wr := hy0
      clear hy0
      gi_wp2
      refine ⟨fun h => (by simp [Fence.wide] at h), (RoundIn.anyDepth hRd).mono ?_⟩
      rintro e W' (⟨rfl, hj, hkp⟩ | ⟨rfl, hjx, _⟩)
      · have d2 := (hkp.cell (p := ⟨b, o + 2, none⟩) g (.inl hb)).trans hc2
        have db := (hkp.cell (p := ⟨w.heap.size, 0, none⟩) hsz (.inr (Nat.le_refl _))).trans hcb
        have hsz2 : w.heap.size < W'.heap.size := by have := hkp.size; omega
        have HK2 := Lib.hid hj
        clear hRd hy hc2 hcb hkp hj
        gi_wp2
        go_roundw
        case rel => exact ⟨k + 1, by omega, by go_num, hsz2, d2, db, HK2⟩
        case measure => simp [intOf]; omega
      · gi_wp2
        refine bodyPost_ret (results_none rfl _ _ _) rfl ?_
        exact ⟨⟨_, rfl⟩, .inr ⟨k, hlt, hjx⟩⟩
    · obtain rfl : k = n := by omega
      gi_wp2
      go_end0
      exact ⟨⟨_, rfl⟩, .inl HK.out⟩
end Go.Proofs.YtojeijeimpffgaaGreat
/- The parts that an expression has: yieldExprs, (expression).has hand them out. -/
namespace Go.Proofs.YtojeijeimpffgaaGreat
open Go.RowKit Go.Shelf
set_option linter.unusedVariables false
attribute [local go_sem] Oper.semAt_some

set_option maxHeartbeats 2000000 in
theorem yieldExprs_calls (B lo hi : Nat) (xs : List PE) (st b1 o1 : Nat) (v1 : Value) (w : World) (hB : B ≤ lo) (hlo : lo ≤ hi) (hhi : hi ≤ w.heap.size) (s1 : SlV B v1 xs.length b1 o1) (m l : Nat) (J Jx : Nat → World → Prop)
    (hJ : Ext J) (hR : Rounds Tryz.prog m l lo hi (ptrs 114 b1 o1 8 st xs.length) J Jx) (h0 : J 0 w) :
    CallsIn Fence.wide m Tryz.prog 165 #[v1, .int .u8 st, .func (.yield l) #[] #[]] w fun e W' =>
      (e = .returned (.bool true) ∧ J xs.length W' ∧ Keeps lo hi w W') ∨ (e = .returned (.bool false) ∧ (∃ k, k < xs.length ∧ Jx k W') ∧ Keeps lo hi w W') := by
  obtain ⟨m1, ao, cap, rfl, h1⟩ := s1
  unfold maxLen at m1
  obtain ⟨n, hn⟩ : ∃ n, n = xs.length := ⟨_, rfl⟩
  rw [← hn] at m1 h1 hR ⊢
  have HJ := Lib.hid hJ
  have HR := Lib.hid hR
  have H1 := Lib.hid h1
  clear hJ hR h1 hn
  refine callsIn_of_wp Tryz.func165 rfl trivial ?_ rfl
  simp only [Tryz.ntmps165, List.size_toArray, List.length_cons, List.length_nil, Nat.reduceAdd, Nat.reduceSub, Array.replicate_succ, Array.replicate_zero, List.push_toArray, List.append_toArray, List.nil_append, List.cons_append]
  gi_wp2
  gi_loopw [10] (fun i wr => ∃ k : Nat, k ≤ n ∧ i = .int .i64 k ∧ Hid (J k wr) ∧ Hid (Keeps lo hi w wr))
    (fun i _ => n - (intOf i).toNat)
  case atStart => exact ⟨0, by omega, rfl, Lib.hid h0, Lib.hid (Keeps.refl _ _ _)⟩
  case round =>
    obtain ⟨k, hk, rfl, HK, HW⟩ := hrel
    by_cases hlt : k < n
    · obtain ⟨rfl, hb1⟩ := H1.out.resolve_left (by omega)
      have hsz := HW.out.size
      obtain ⟨fn, tmps, assign, body, hy0, hRd⟩ := HR.out k _ wr (ptrs_get hlt) (by omega) HK.out
      have hy : (Instr.yield l #[.iface 114 (.agg #[.pointer (some ⟨b1, o1 + k * 8, none⟩), .int .u8 st])]).run Tryz.prog wr = .ok (.round l fn tmps assign body) wr := hy0
      clear hy0
      gi_wp2
      refine ⟨fun h => (by simp [Fence.wide] at h), (RoundIn.anyDepth hRd).mono ?_⟩
      rintro e W' (⟨rfl, hj, hkp⟩ | ⟨rfl, hjx, hkp⟩)
      · have HK2 := Lib.hid hj
        have HW2 := Lib.hid (HW.out.trans hkp)
        clear hRd hy hkp hj
        gi_wp2
        go_roundw
        case rel => exact ⟨k + 1, by omega, by go_num, HK2, HW2⟩
        case measure => simp [intOf]; omega
      · gi_wp2
        go_ret
        exact .inr ⟨rfl, ⟨k, hlt, hjx⟩, HW.out.trans hkp⟩
    · obtain rfl : k = n := by omega
      gi_wp2
      go_ret
      exact .inl ⟨rfl, HK.out, HW.out⟩
set_option maxHeartbeats 1000000 in
theorem inArgs_calls (e : PE) (st b o : Nat) (v : VE) (w : World) (hst : st ≤ 3) (hb : b < w.heap.size) (hc : CellsAt w b o (e.cells v)) :
    Calls Tryz.prog 166 #[.agg #[.pointer (some ⟨b, o, none⟩), .int .u8 st]] w fun r w' => r = .returned (.int .u8 (inArgs e st : Nat)) ∧ Below w.heap.size w w' := by
  have c0 : w.cell? ⟨b, o, none⟩ = some (.int .u8 e.op) := hc 0 _ rfl
  unfold inArgs
  by_cases h3 : st = 3
  · subst h3
    show Calls Tryz.prog 166 #[.agg #[.pointer (some ⟨b, o, none⟩), .int .u8 3]] w _
    rw [if_pos rfl]
    go_enter Tryz.func166, Tryz.ntmps166
    go_wp2
    go_ret
    exact ⟨rfl, (Below.refl _ w).alloc (Nat.le_refl _) _⟩
  · rw [if_neg h3]
    have n3 : ((st : Int) == 3) = false := beq_eq_false_iff_ne.2 (by omega)
    by_cases h18 : e.op = 18
    · rw [if_pos h18]
      rw [h18] at c0
      go_enter Tryz.func166, Tryz.ntmps166
      go_wp2
      go_ret
      exact ⟨rfl, (Below.refl _ w).alloc (Nat.le_refl _) _⟩
    · rw [if_neg h18]
      have n18 : (e.op == 18) = false := beq_eq_false_iff_ne.2 h18
      go_enter Tryz.func166, Tryz.ntmps166
      go_wp2
      go_ret
      exact ⟨rfl, (Below.refl _ w).alloc (Nat.le_refl _) _⟩
theorem mixed : Tryz.prog.follows .mixedOrders = true := by kernel_rfl
set_option maxHeartbeats 4000000 in
theorem exprHas_hands (B lo : Nat) (e : PE) (st b o : Nat) (v : VE) (w : World) (hB : B ≤ lo) (hlo : lo ≤ w.heap.size) (hb : b < lo) (hst : st ≤ 3) (hc : CellsAt w b o (e.cells v)) (he : e.In B w v) (b1 o1 : Nat) (s1 : SlV B v.args e.args.length b1 o1) :
    Hands Tryz.prog lo 161 (.agg #[.pointer (some ⟨b, o, none⟩), .int .u8 st]) (ptrs 114 b1 o1 8 (inArgs e st) e.args.length) w := by
  intro m l J Jx hJ hJx hR h0
  rw [ptrs_len]
  have hbw : b < w.heap.size := by omega
  have C : Hid (∀ w', Below w.heap.size w w' → Calls Tryz.prog 166 #[.agg #[.pointer (some ⟨b, o, none⟩), .int .u8 st]] w' fun r w'' => r = .returned (.int .u8 (inArgs e st : Nat)) ∧ Below w'.heap.size w' w'') :=
    Lib.hid fun w' hw => inArgs_calls e st b o v w' hst (by have := hw.size; omega) (hc.below hbw hw)
  have D : Hid (∀ w', Below w.heap.size w w' → CallsIn Fence.wide (m - 1) Tryz.prog 165 #[v.args, .int .u8 (inArgs e st : Nat), .func (.yield l) #[] #[]] w' fun r W' => ∃ q : Bool, r = .returned (.bool q) ∧ (J e.args.length W' ∨ ∃ k, k < e.args.length ∧ Jx k W')) :=
    Lib.hid fun w' hw => (yieldExprs_calls B lo w.heap.size e.args (inArgs e st) b1 o1 v.args w' hB hlo hw.size s1 (m - 1) l J Jx hJ (hR.any _) (hJ _ _ _ h0 hw)).mono
      fun r W' h => h.elim (fun ⟨a, b, _⟩ => ⟨true, a, .inl b⟩) (fun ⟨a, b, _⟩ => ⟨false, a, .inr b⟩)
  obtain ⟨ao, cap, hv⟩ := s1.shape
  have c6 : w.cell? ⟨b, o + 6, none⟩ = some v.args := hc 6 _ rfl
  rw [hv] at c6
  rw [hv] at D
  generalize inArgs e st = q at *
  clear hR hJ hJx hc he s1 hv
  have hmix := mixed
  refine callsIn_of_wp Tryz.func161 rfl trivial ?_ rfl
  simp only [Tryz.ntmps161, List.size_toArray, List.length_cons, List.length_nil, Nat.reduceAdd, Nat.reduceSub, Array.replicate_succ, Array.replicate_zero, List.push_toArray, List.append_toArray, List.nil_append, List.cons_append]
  gi_wp2
  gi_region_with_o (first
    | ((try refine ⟨trivial, ?_⟩); (try refine ⟨fun h => (by simp [Fence.wide] at h), ?_⟩)
       gi_at_call 166
       have x0 : Below w.heap.size w _ := (((Below.refl _ w).alloc (Nat.le_refl _) (.cells #[.pointer (some ⟨b, o, none⟩), .int .u8 st] 114))).drew
       refine (callsIn_wide.2 (C.out _ x0)).mono ?_
       rintro r w1 ⟨rfl, b1⟩
       have x1 := up_tr x0 b1
       have hc1 := old_cells b1
       clear b1 x0)
    | ((try refine ⟨trivial, ?_⟩); (try refine ⟨fun h => (by simp [Fence.wide] at h), ?_⟩)
       gi_at_call 165
       refine (D.out _ x1).mono ?_
       rintro r w2 ⟨q', rfl, hj⟩))
  all_goals gi_wp2
  all_goals go_end0
  all_goals exact ⟨⟨_, rfl⟩, hj⟩
end Go.Proofs.YtojeijeimpffgaaGreat
