/- The parts that a program has: (program).has hands them out; what the walk of (item).has leans on. -/
import Derived.Test.YtojeijeimpffgaaGreatRTreeStmtHas2
import Derived.Shelf.RegionOpen
import Derived.Sort.CutIn
namespace Go.Proofs.YtojeijeimpffgaaGreat
open Go.RowKit Go.Shelf
set_option linter.unusedVariables false
attribute [local go_sem] Oper.semAt_some

set_option maxHeartbeats 2000000 in
theorem progHas_hands (B lo : Nat) (n b1 o1 : Nat) (ao : Option Addr) (cap b : Nat) (w : World) (hB : B ≤ lo) (hlo : lo ≤ w.heap.size) (hb : b < lo) (hc : w.cell? ⟨b, 0, none⟩ = some (.slice ao n cap)) (s1 : SlV B (.slice ao n cap) n b1 o1) :
    Hands Tryz.prog lo 154 (.agg #[.pointer (some ⟨b, 0, none⟩)]) (ptr1 181 b1 o1 16 n) w := by
  intro m l J Jx hJ hJx hR h0
  obtain ⟨m1, _, _, e1, h1⟩ := s1
  injection e1 with e11 e12 e13
  subst e11; subst e13
  unfold maxLen at m1
  rw [ptr1_len]
  have hbw : b < w.heap.size := by omega
  have HJ := Lib.hid hJ
  have HJx := Lib.hid hJx
  have HR := Lib.hid hR
  have H1 := Lib.hid h1
  clear hJ hJx hR h1 e12
  refine callsIn_of_wp Tryz.func154 rfl trivial ?_ rfl
  simp only [Tryz.ntmps154, List.size_toArray, List.length_cons, List.length_nil, Nat.reduceAdd, Nat.reduceSub, Array.replicate_succ, Array.replicate_zero, List.push_toArray, List.append_toArray, List.nil_append, List.cons_append]
  gi_wp2
  gi_loopw [11] (fun i wr => ∃ k : Nat, k ≤ n ∧ i = .int .i64 k ∧ w.heap.size < wr.heap.size ∧ wr.cell? ⟨b, 0, none⟩ = some (.slice ao n cap) ∧ wr.cell? ⟨w.heap.size, 0, none⟩ = some (.pointer (some ⟨b, 0, none⟩)) ∧ Hid (J k wr))
    (fun i _ => n - (intOf i).toNat)
  case atStart => exact ⟨0, by omega, rfl, by simp, by go_simp, by go_simp, Lib.hid (HJ.out _ _ _ h0 ((Below.refl _ w).alloc (Nat.le_refl _) _))⟩
  case round =>
    obtain ⟨k, hk, rfl, hsz, hc2, hcb, HK⟩ := hrel
    by_cases hlt : k < n
    · obtain ⟨rfl, hb1⟩ := H1.out.resolve_left (by omega)
      have g : b < wr.heap.size := by omega
      obtain ⟨fn, tmps, assign, body, hy0, hRd⟩ := HR.out k _ wr (ptr1_get hlt) (by omega) HK.out
      have hy : (Instr.yield l #[.iface 181 (.agg #[.pointer (some ⟨b1, o1 + k * 16, none⟩)])]).run Tryz.prog wr = .ok (.round l fn tmps assign body) wr := hy0
      clear hy0
      gi_wp2
      refine ⟨fun h => (by simp [Fence.wide] at h), (RoundIn.anyDepth hRd).mono ?_⟩
      rintro e W' (⟨rfl, hj, hkp⟩ | ⟨rfl, hjx, _⟩)
      · have d2 := (hkp.cell (p := ⟨b, 0, none⟩) g (.inl hb)).trans hc2
        have db := (hkp.cell (p := ⟨w.heap.size, 0, none⟩) hsz (.inr (Nat.le_refl _))).trans hcb
        have hsz2 : w.heap.size < W'.heap.size := by have := hkp.size; omega
        have HK2 := Lib.hid hj
        clear hRd hy hc2 hcb hkp hj
        gi_wp2
        go_roundw
        case rel => exact ⟨k + 1, by omega, by go_num, hsz2, d2, db, HK2⟩
        case measure => simp [intOf]; omega
      · gi_wp2
        refine bodyPost_ret (results_none rfl _ _ _) rfl ?_
        exact ⟨⟨_, rfl⟩, .inr ⟨k, hlt, hjx⟩⟩
    · obtain rfl : k = n := by omega
      gi_wp2
      go_end0
      exact ⟨⟨_, rfl⟩, .inl HK.out⟩

/-- pointers to the types of a row of fields -/
def kvF (b o st n : Nat) : List Value := (List.range n).map fun k => .iface 111 (.agg #[.pointer (some ⟨b, o + k * 4 + 1, none⟩), .int .u8 st])
theorem kvF_get {b o st n k : Nat} (h : k < n) : (kvF b o st n)[k]? = some (.iface 111 (.agg #[.pointer (some ⟨b, o + k * 4 + 1, none⟩), .int .u8 st])) := by simp [kvF, h]
theorem kvF_len (b o st n : Nat) : (kvF b o st n).length = n := by simp [kvF]
/-- one round, wherever so many have come -/
theorem roundAt {m l lo hi N a : Nat} {kv : List Value} {x : Value} {J Jx : Nat → World → Prop} {W0 W : World} (hhi : hi ≤ W0.heap.size) (hv : kv[a]? = some x) (hN : kv.length = N)
    (hR : Rounds Tryz.prog m l lo hi kv J Jx) (h : StInv J lo hi W0 a W) :
    ∃ fn tmps assign body, (Instr.yield l #[x]).run Tryz.prog W = .ok (.round l fn tmps assign body) W ∧ RoundIn Fence.wide m Tryz.prog l fn tmps assign body W fun e W' => ∃ t : Bool, e = .returned (.bool t) ∧ Hid (if t = true then StInv J lo hi W0 (a + 1) W' else ((∃ k, k < N ∧ Jx k W') ∧ Keeps lo hi W0 W')) := by
  obtain ⟨fn, tmps, assign, body, hy, hRd⟩ := hR a x W hv (by have := h.size; omega) h.1
  refine ⟨fn, tmps, assign, body, hy, hRd.mono ?_⟩
  have ha : a < N := by rw [← hN]; exact (List.getElem?_eq_some_iff.1 hv).1
  rintro e W' (⟨rfl, hj, hk⟩ | ⟨rfl, hx, hk⟩)
  · exact ⟨true, rfl, Lib.hid (by rw [if_pos rfl]; exact ⟨hj, h.2.trans hk⟩)⟩
  · exact ⟨false, rfl, Lib.hid (by rw [if_neg (by simp)]; exact ⟨⟨a, ha, hx⟩, h.2.trans hk⟩)⟩
theorem take_listIn {F : Fence} {n : Nat} {P : Program} {md : Region.Mode} {l : List Oper} {Q : Exit → Act → World → Prop} {i : Nat} {oi : Oper} {v : Value} {fuel : Nat} {listed : Array Bool} {a : Act} {w : World} (hro : F.round = none) (hi : l[i]? = some oi)
    (hs : Region.noSelect l.toArray = true) (hf : Region.free md l.toArray listed i = true) (hr : (Region.ready md l.toArray listed).contains i = true)
    (hQ : ∀ c a w, Q (.panic c) (a.put oi.dst v) w → Q (.panic c) a w) (hy : YieldsFenced P l.toArray oi v a)
    (h : wpAnyIn F n P md l.toArray Q fuel (listed.setIfInBounds i true) (a.put oi.dst v) w) : wpAnyIn F n P md l.toArray Q (fuel + 1) listed a w :=
  wpAnyIn_take hro (by simpa using hi) hs hf hr hQ hy h
end Go.Proofs.YtojeijeimpffgaaGreat

