/- The parts that a type has: (typed).has hands them out, one after the other. -/
import Derived.Test.YtekmkepaokdbmaaTreeHands
import Derived.Test.YtekmkepaokdbmaaTreeFits1
import Derived.Shelf.Abstract
import Derived.OwnWalkIn
import Derived.TacticsInMore
import Derived.LoopNIn
import Derived.LoopIn
namespace Go.Proofs.Ytekmkepaokdbmaa
open Go.RowKit Go.Shelf
set_option linter.unusedVariables false
attribute [local go_sem] Oper.semAt_some

/-- the row of pointers to things of a width, as parts of one make -/
def ptrs (T : TypeId) (b o wd st : Nat) (n : Nat) : List Value := (List.range n).map fun k => .iface T (.agg #[.pointer (some ⟨b, o + k * wd, none⟩), .int .u8 st])
theorem ptrs_get {T : TypeId} {b o wd st n k : Nat} (h : k < n) : (ptrs T b o wd st n)[k]? = some (.iface T (.agg #[.pointer (some ⟨b, o + k * wd, none⟩), .int .u8 st])) := by
  simp [ptrs, h]
theorem ptrs_len (T : TypeId) (b o wd st n : Nat) : (ptrs T b o wd st n).length = n := by simp [ptrs]
theorem alloc_block_new (w : World) (o : Obj) : (w.alloc o).heap[w.heap.size]? = some o := World.alloc_heap_new w o

set_option maxHeartbeats 2000000 in
theorem typedHas_hands (B lo : Nat) (t : PT) (st b o : Nat) (v : Value) (w : World) (hB : B ≤ lo) (hlo : lo ≤ w.heap.size) (hb : b < lo) (hc : CellsAt w b o (t.cells v)) (ht : t.In B w v) (b1 o1 : Nat) (s1 : SlV B v t.args.length b1 o1) :
    Hands Try.prog lo 82 (.agg #[.pointer (some ⟨b, o, none⟩), .int .u8 st]) (ptrs 99 b1 o1 3 0 t.args.length) w := by
  intro m l J Jx hJ hJx hR h0
  obtain ⟨k0, nm, xs⟩ := t
  obtain ⟨m1, ao, cap, rfl, h1⟩ := s1
  unfold maxLen at m1
  simp only [PT.args] at *
  obtain ⟨n, hn⟩ : ∃ n, n = xs.length := ⟨_, rfl⟩
  rw [← hn] at m1 h1 hR ⊢
  have c2 : w.cell? ⟨b, o + 2, none⟩ = some (.slice ao n cap) := by rw [hn]; exact hc 2 _ rfl
  rw [ptrs_len]
  have hbw : b < w.heap.size := by omega
  have HJ := Lib.hid hJ
  have HJx := Lib.hid hJx
  have HR := Lib.hid hR
  have H1 := Lib.hid h1
  clear hJ hJx hR h1 hc ht
  refine callsIn_of_wp Try.func82 rfl trivial ?_ rfl
  simp only [Try.ntmps82, List.size_toArray, List.length_cons, List.length_nil, Nat.reduceAdd, Nat.reduceSub, Array.replicate_succ, Array.replicate_zero, List.push_toArray, List.append_toArray, List.nil_append, List.cons_append]
  gi_wp2
  gi_loopw [11] (fun i wr => ∃ k : Nat, k ≤ n ∧ i = .int .i64 k ∧ w.heap.size < wr.heap.size ∧ wr.cell? ⟨b, o + 2, none⟩ = some (.slice ao n cap) ∧ wr.cell? ⟨w.heap.size, 0, none⟩ = some (.pointer (some ⟨b, o, none⟩)) ∧ Hid (J k wr))
    (fun i _ => n - (intOf i).toNat)
  case atStart => exact ⟨0, by omega, rfl, by simp, by go_simp, by go_simp, Lib.hid (HJ.out _ _ _ h0 ((Below.refl _ w).alloc (Nat.le_refl _) _))⟩
  case round =>
    obtain ⟨k, hk, rfl, hsz, hc2, hcb, HK⟩ := hrel
    by_cases hlt : k < n
    · obtain ⟨rfl, hb1⟩ := H1.out.resolve_left (by omega)
      have g : b < wr.heap.size := by omega
      obtain ⟨fn, tmps, assign, body, hy0, hRd⟩ := HR.out k _ wr (ptrs_get hlt) (by omega) HK.out
      have hy : (Instr.yield l #[.iface 99 (.agg #[.pointer (some ⟨b1, o1 + k * 3, none⟩), .int .u8 0])]).run Try.prog wr = .ok (.round l fn tmps assign body) wr := hy0
      clear hy0
      gi_wp2
      refine ⟨fun h => (by simp [Fence.wide] at h), (RoundIn.anyDepth hRd).mono ?_⟩
      rintro e W' (⟨rfl, hj, hkp⟩ | ⟨rfl, hjx⟩)
      · have d2 := (hkp.cell (p := ⟨b, o + 2, none⟩) g (.inl hb)).trans hc2
        have db := (hkp.cell (p := ⟨w.heap.size, 0, none⟩) hsz (.inr (Nat.le_refl _))).trans hcb
        have hsz2 : w.heap.size < W'.heap.size := by have := hkp.size; omega
        have HK2 := Lib.hid hj
        clear hRd hy hc2 hcb hkp hj
        gi_wp2
        go_roundw
        case rel => exact ⟨k + 1, by omega, by go_num, hsz2, d2, db, HK2⟩
        case measure => simp [intOf]; omega
      · gi_wp2
        refine bodyPost_ret (results_none rfl _ _ _) rfl ?_
        exact ⟨⟨_, rfl⟩, .inr ⟨k, hlt, hjx⟩⟩
    · obtain rfl : k = n := by omega
      gi_wp2
      go_end0
      exact ⟨⟨_, rfl⟩, .inl HK.out⟩
end Go.Proofs.Ytekmkepaokdbmaa
