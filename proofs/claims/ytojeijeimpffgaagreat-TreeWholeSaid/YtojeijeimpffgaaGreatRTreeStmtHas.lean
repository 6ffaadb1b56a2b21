/- The parts that a statement has: yieldStmts, (statement).inExprs, (statement).has hand them out. -/
import Derived.Test.YtojeijeimpffgaaGreatRJoinG
import Derived.Test.YtojeijeimpffgaaGreatRJoinF
import Derived.Shelf.RegionOpen
namespace Go.Proofs.YtojeijeimpffgaaGreat
open Go.RowKit Go.Shelf
set_option linter.unusedVariables false
attribute [local go_sem] Oper.semAt_some

/-- the row of pointers to things of a width, as parts that are nothing but a pointer -/
def ptr1 (T : TypeId) (b o wd : Nat) (n : Nat) : List Value := (List.range n).map fun k => .iface T (.agg #[.pointer (some ⟨b, o + k * wd, none⟩)])
theorem ptr1_get {T : TypeId} {b o wd n k : Nat} (h : k < n) : (ptr1 T b o wd n)[k]? = some (.iface T (.agg #[.pointer (some ⟨b, o + k * wd, none⟩)])) := by
  simp [ptr1, h]
theorem ptr1_len (T : TypeId) (b o wd n : Nat) : (ptr1 T b o wd n).length = n := by simp [ptr1]
/-- a stretch of the rounds -/
theorem Rounds.sub {P : Program} {m l lo hi : Nat} {A B C : List Value} {J Jx : Nat → World → Prop} (h : Rounds P m l lo hi (A ++ (B ++ C)) J Jx) :
    Rounds P m l lo hi B (fun k => J (A.length + k)) (fun k => Jx (A.length + k)) := by
  intro k v W hv hW hj
  have hk := (List.getElem?_eq_some_iff.1 hv).1
  refine h (A.length + k) v W ?_ hW hj
  rw [List.getElem?_append_right (by omega), List.getElem?_append_left (by omega)]
  rw [show A.length + k - A.length = k from by omega]; exact hv

set_option maxHeartbeats 2000000 in
theorem yieldStmts_calls (B lo hi : Nat) (n b1 o1 : Nat) (v1 : Value) (w : World) (hB : B ≤ lo) (hlo : lo ≤ hi) (hhi : hi ≤ w.heap.size) (s1 : SlV B v1 n b1 o1) (m l : Nat) (J Jx : Nat → World → Prop)
    (hR : Rounds Tryz.prog m l lo hi (ptr1 202 b1 o1 15 n) J Jx) (h0 : J 0 w) :
    CallsIn Fence.wide m Tryz.prog 180 #[v1, .func (.yield l) #[] #[]] w fun e W' =>
      (e = .returned (.bool true) ∧ J n W' ∧ Keeps lo hi w W') ∨ (e = .returned (.bool false) ∧ (∃ k, k < n ∧ Jx k W') ∧ Keeps lo hi w W') := by
  obtain ⟨m1, ao, cap, rfl, h1⟩ := s1
  unfold maxLen at m1
  have HR := Lib.hid hR
  have H1 := Lib.hid h1
  clear hR h1
  refine callsIn_of_wp Tryz.func180 rfl trivial ?_ rfl
  simp only [Tryz.ntmps180, List.size_toArray, List.length_cons, List.length_nil, Nat.reduceAdd, Nat.reduceSub, Array.replicate_succ, Array.replicate_zero, List.push_toArray, List.append_toArray, List.nil_append, List.cons_append]
  gi_wp2
  gi_loopw [8] (fun i wr => ∃ k : Nat, k ≤ n ∧ i = .int .i64 k ∧ Hid (J k wr) ∧ Hid (Keeps lo hi w wr))
    (fun i _ => n - (intOf i).toNat)
  case atStart => exact ⟨0, by omega, rfl, Lib.hid h0, Lib.hid (Keeps.refl _ _ _)⟩
  case round =>
    obtain ⟨k, hk, rfl, HK, HW⟩ := hrel
    by_cases hlt : k < n
    · obtain ⟨rfl, hb1⟩ := H1.out.resolve_left (by omega)
      have hsz := HW.out.size
      obtain ⟨fn, tmps, assign, body, hy0, hRd⟩ := HR.out k _ wr (ptr1_get hlt) (by omega) HK.out
      have hy : (Instr.yield l #[.iface 202 (.agg #[.pointer (some ⟨b1, o1 + k * 15, none⟩)])]).run Tryz.prog wr = .ok (.round l fn tmps assign body) wr := hy0
      clear hy0
      gi_wp2
      refine ⟨fun h => (by simp [Fence.wide] at h), (RoundIn.anyDepth hRd).mono ?_⟩
      rintro e W' (⟨rfl, hj, hkp⟩ | ⟨rfl, hjx, hkp⟩)
      · have HK2 := Lib.hid hj
        have HW2 := Lib.hid (HW.out.trans hkp)
        clear hRd hy hkp hj
        gi_wp2
        go_roundw
        case rel => exact ⟨k + 1, by omega, by go_num, HK2, HW2⟩
        case measure => simp [intOf]; omega
      · gi_wp2
        go_ret
        exact .inr ⟨rfl, ⟨k, hlt, hjx⟩, HW.out.trans hkp⟩
    · obtain rfl : k = n := by omega
      gi_wp2
      go_ret
      exact .inl ⟨rfl, HK.out, HW.out⟩
set_option maxHeartbeats 1000000 in
theorem inExprs_calls (op : Int) (b o : Nat) (w : World) (hb : b < w.heap.size) (c0 : w.cell? ⟨b, o, none⟩ = some (.int .u8 op)) :
    Calls Tryz.prog 187 #[.agg #[.pointer (some ⟨b, o, none⟩)]] w fun r w' => r = .returned (.int .u8 (inExprs op : Nat)) ∧ Below w.heap.size w w' := by
  unfold inExprs
  by_cases h1 : op = 1
  · subst h1
    rw [if_pos (.inl rfl)]
    go_enter Tryz.func187, Tryz.ntmps187
    go_wp2
    go_ret
    exact ⟨rfl, (Below.refl _ w).alloc (Nat.le_refl _) _⟩
  · have n1 : (op == 1) = false := beq_eq_false_iff_ne.2 h1
    by_cases h10 : op = 10
    · subst h10
      rw [if_pos (.inr rfl)]
      go_enter Tryz.func187, Tryz.ntmps187
      go_wp2
      go_ret
      exact ⟨rfl, (Below.refl _ w).alloc (Nat.le_refl _) _⟩
    · rw [if_neg (by omega)]
      have n10 : (op == 10) = false := beq_eq_false_iff_ne.2 h10
      clear h1 h10
      go_enter Tryz.func187, Tryz.ntmps187
      go_wp2
      go_ret
      exact ⟨rfl, (Below.refl _ w).alloc (Nat.le_refl _) _⟩
end Go.Proofs.YtojeijeimpffgaaGreat

