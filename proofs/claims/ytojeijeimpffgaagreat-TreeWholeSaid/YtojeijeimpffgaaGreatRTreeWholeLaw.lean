/- TreeWhole: the walk. -/
import Derived.Test.YtojeijeimpffgaaGreatRTreeWholeEq1
import Derived.Test.YtojeijeimpffgaaGreatRTreeWholeEq2
import Derived.Test.YtojeijeimpffgaaGreatRJoinL
import Derived.Test.YtojeijeimpffgaaGreatRTreePartP
import Derived.Test.YtojeijeimpffgaaGreatRTreeCopyI
import Derived.Test.YtojeijeimpffgaaGreatRTreeRefPT
import Derived.Test.YtojeijeimpffgaaGreatRTreeGreat
import Derived.Test.YtojeijeimpffgaaGreatRJoinD
import Derived.Deep.Cut
namespace Go.Proofs.YtojeijeimpffgaaGreat
open Go.RowKit
set_option linter.unusedVariables false

theorem progIn_shape {B : Nat} {W : World} {l : List PI} {v : Value} (h : ProgIn B W l v) : ∃ ao n c, v = .slice ao n c := by
  obtain ⟨b, o, ⟨_, ao, c, e, _⟩, _⟩ := h
  exact ⟨ao, _, c, e⟩
theorem ProgIn.later {W W' : World} {l : List PI} {v : Value} (h : ProgIn W.heap.size W l v) (b : Below W.heap.size W W') : ProgIn W'.heap.size W' l v := by
  obtain ⟨b1, o, h1, h2⟩ := h
  exact ⟨b1, o, h1.up b.size, PI.Row.reads b.size (fun a v hc => (b.cell (World.block_lt_of_cell? W a hc)).trans hc) h2⟩
set_option maxRecDepth 100000 in
set_option maxHeartbeats 4000000 in
theorem treeWhole1_walk (p : List PI) (p1 : Option Addr) (n q1 : Nat) (w : World) (hp : ProgIn w.heap.size w p (.slice p1 n q1))
    (GR : Hid (∀ W v, Below w.heap.size w W → ProgIn W.heap.size W p v → Calls Tryz.prog 5 #[.agg #[v]] W fun e w' => e = .returned (.bool true) ∧ Below W.heap.size W w')) :
    Calls Tryz.prog 3 #[.agg #[.slice p1 n q1]] w fun e w' => e = .returned (.bool true) ∧ Below w.heap.size w w' := by
  have bx := Lib.hid (box1 w (.cells #[.slice p1 n q1] 24))
  have C := Lib.hid (GR.out _ _ bx.out (ProgIn.later hp bx.out))
  clear hp GR
  go_enter Tryz.func3, Tryz.ntmps3
  go_wp2_with fail
  refine (C.out).mono ?_; rintro e w1 ⟨rfl, b1⟩
  have B1 := Lib.hid (up_tr bx.out b1)
  clear b1
  go_wp2
  go_ret
  exact ⟨rfl, B1.out⟩
set_option maxRecDepth 100000 in
set_option maxHeartbeats 8000000 in
theorem treeWhole0_walk (p : List PI) (p1 : Option Addr) (n q1 : Nat) (w : World) (hp : ProgIn w.heap.size w p (.slice p1 n q1)) (d s : Nat) (wp : Bool)
    (GR : Hid (∀ W v, Below w.heap.size w W → ProgIn W.heap.size W p v → Calls Tryz.prog 5 #[.agg #[v]] W fun e w' => e = .returned (.bool false) ∧ Below W.heap.size W w'))
    (CO : Hid (∀ W v, Below w.heap.size w W → ProgIn W.heap.size W p v → Calls Tryz.prog 6 #[.agg #[v], .bool true] W fun e w' => ∃ ua uc, e = .returned (.agg #[.slice ua n uc]) ∧ Hid (ProgIn w'.heap.size w' p (.slice ua n uc)) ∧ Below W.heap.size W w'))
    (WH : Hid (∀ W v, Below w.heap.size w W → ProgIn W.heap.size W p v → Calls Tryz.prog 7 #[.agg #[v]] W fun e w' => e = .returned (.bool wp) ∧ Below W.heap.size W w'))
    (RW : Hid (∀ W v, Below w.heap.size w W → ProgIn W.heap.size W p v → Calls Tryz.prog 8 #[.agg #[v]] W fun e w' => e = .returned (.bool wp) ∧ Below W.heap.size W w'))
    (DH : Hid (∀ W v, Below w.heap.size w W → ProgIn W.heap.size W p v → Calls Tryz.prog 9 #[.agg #[v]] W fun e w' => e = .returned (.int .i64 (d : Int)) ∧ Below W.heap.size W w'))
    (RD : Hid (∀ W v, Below w.heap.size w W → ProgIn W.heap.size W p v → Calls Tryz.prog 10 #[.agg #[v]] W fun e w' => e = .returned (.int .i64 (d : Int)) ∧ Below W.heap.size W w'))
    (SH : Hid (∀ W v, Below w.heap.size w W → ProgIn W.heap.size W p v → Calls Tryz.prog 11 #[.agg #[v]] W fun e w' => e = .returned (.int .i64 (s : Int)) ∧ Below W.heap.size W w'))
    (RS : Hid (∀ W v, Below w.heap.size w W → ProgIn W.heap.size W p v → Calls Tryz.prog 12 #[.agg #[v]] W fun e w' => e = .returned (.int .i64 (s : Int)) ∧ Below W.heap.size W w'))
    (SA : Hid (∀ W v1 v2, ProgIn W.heap.size W p v1 → ProgIn W.heap.size W p v2 → Calls Tryz.prog 13 #[.agg #[v1], .agg #[v2], .bool true] W fun e w' => e = .returned (.bool true) ∧ Below W.heap.size W w')) :
    Calls Tryz.prog 3 #[.agg #[.slice p1 n q1]] w fun e w' => e = .returned (.bool true) ∧ Below w.heap.size w w' := by
  have PP := Lib.hid (fun (W : World) (h : Below w.heap.size w W) => ProgIn.later hp h)
  have bx := Lib.hid (box1 w (.cells #[.slice p1 n q1] 24))
  clear hp
  go_enter Tryz.func3, Tryz.ntmps3
  go_wp2_with fail
  refine (GR.out _ _ bx.out (PP.out _ bx.out)).mono ?_; rintro e w1 ⟨rfl, b1⟩
  have B1 := Lib.hid (up_tr bx.out b1)
  have z1 : w.heap.size < w1.heap.size := by have := b1.size; simp at this; omega
  have c1 : w1.cell? ⟨w.heap.size, 0, none⟩ = some (.slice p1 n q1) := (b1.cell (p := ⟨w.heap.size, 0, none⟩) (by simp)).trans (by go_simp)
  clear b1 bx GR
  go_wp2_with fail
  refine (CO.out _ _ B1.out (PP.out _ B1.out)).mono ?_; rintro e w2 ⟨ua, uc, rfl, hu, b2⟩
  have B2 := Lib.hid (up_tr B1.out b2)
  have z2 : w.heap.size < w2.heap.size := Nat.lt_of_lt_of_le z1 b2.size
  have c2 := (b2.cell (p := ⟨w.heap.size, 0, none⟩) z1).trans c1
  clear b2 c1 CO B1 z1
  go_upto_region 4 with (fail)
  obtain ⟨w3, hw3⟩ : ∃ w3, w3 = w2.alloc (.cells #[.slice ua n uc] 24) := ⟨_, rfl⟩
  rw [← hw3]
  obtain ⟨G, hG⟩ : ∃ G, G = w2.heap.size := ⟨_, rfl⟩
  have b3 : Below w2.heap.size w2 w3 := by rw [hw3]; exact (Below.refl _ w2).alloc (Nat.le_refl _) _
  have x3 : w3.cell? ⟨G, 0, none⟩ = some (.slice ua n uc) := by rw [hw3, hG]; go_simp
  have zG : G < w3.heap.size := by rw [hw3, hG]; simp
  have c3 := (b3.cell (p := ⟨w.heap.size, 0, none⟩) z2).trans c2
  have z3 : w.heap.size < w3.heap.size := Nat.lt_of_lt_of_le z2 b3.size
  have B3 := Lib.hid (up_tr B2.out b3)
  have U3 := Lib.hid (ProgIn.later hu.out b3)
  rw [← hG]
  clear hG hw3 b3 c2 z2 B2 hu
  have KW : Hid (∀ n' : Over w3, Below w.heap.size w n'.w) := Lib.hid fun n' => B3.out.trans (n'.h.mono B3.out.size)
  have UU : Hid (∀ n' : Over w3, ProgIn n'.w.heap.size n'.w p (.slice ua n uc)) := Lib.hid fun n' => ProgIn.later U3.out n'.h
  have PU : Hid (∀ n' : Over w3, ProgIn n'.w.heap.size n'.w p (.slice p1 n q1)) := Lib.hid fun n' => PP.out _ (KW.out n')
  have A1 : Hid (∀ n' : Over w3, Calls Tryz.prog 7 #[.agg #[.slice ua n uc]] n'.w fun e w'' => e = .returned (.bool wp) ∧ ∃ m : Over w3, w'' = m.w) := Lib.hid fun n' => over_calls (WH.out _ _ (KW.out n') (UU.out n'))
  have A2 : Hid (∀ n' : Over w3, Calls Tryz.prog 8 #[.agg #[.slice p1 n q1]] n'.w fun e w'' => e = .returned (.bool wp) ∧ ∃ m : Over w3, w'' = m.w) := Lib.hid fun n' => over_calls (RW.out _ _ (KW.out n') (PU.out n'))
  have A3 : Hid (∀ n' : Over w3, Calls Tryz.prog 9 #[.agg #[.slice ua n uc]] n'.w fun e w'' => e = .returned (.int .i64 (d : Int)) ∧ ∃ m : Over w3, w'' = m.w) := Lib.hid fun n' => over_calls (DH.out _ _ (KW.out n') (UU.out n'))
  have A4 : Hid (∀ n' : Over w3, Calls Tryz.prog 10 #[.agg #[.slice p1 n q1]] n'.w fun e w'' => e = .returned (.int .i64 (d : Int)) ∧ ∃ m : Over w3, w'' = m.w) := Lib.hid fun n' => over_calls (RD.out _ _ (KW.out n') (PU.out n'))
  have A5 : Hid (∀ n' : Over w3, Calls Tryz.prog 11 #[.agg #[.slice ua n uc]] n'.w fun e w'' => e = .returned (.int .i64 (s : Int)) ∧ ∃ m : Over w3, w'' = m.w) := Lib.hid fun n' => over_calls (SH.out _ _ (KW.out n') (UU.out n'))
  have A6 : Hid (∀ n' : Over w3, Calls Tryz.prog 12 #[.agg #[.slice p1 n q1]] n'.w fun e w'' => e = .returned (.int .i64 (s : Int)) ∧ ∃ m : Over w3, w'' = m.w) := Lib.hid fun n' => over_calls (RS.out _ _ (KW.out n') (PU.out n'))
  have A7 : Hid (∀ n' : Over w3, Calls Tryz.prog 13 #[.agg #[.slice ua n uc], .agg #[.slice p1 n q1], .bool true] n'.w fun e w'' => e = .returned (.bool true) ∧ ∃ m : Over w3, w'' = m.w) := Lib.hid fun n' => over_calls (SA.out _ _ _ (UU.out n') (PU.out n'))
  have hF := Over.cells (W0 := w3)
  have ew : (wp == wp) = true := beq_self_eq_true wp
  have ed : ((d : Int) == (d : Int)) = true := beq_self_eq_true (d : Int)
  have ez : ((s : Int) == (s : Int)) = true := beq_self_eq_true (s : Int)
  clear WH RW DH RD SH RS SA UU PU U3 PP B3
  refine wp_region_over (by kernel_rfl) (by kernel_rfl) ?_
  repeat (go_big_quiet_step ((first | (go_at_call 7; with_reducible exact A1.out _) | (go_at_call 8; with_reducible exact A2.out _) | (go_at_call 9; with_reducible exact A3.out _) | (go_at_call 10; with_reducible exact A4.out _) | (go_at_call 11; with_reducible exact A5.out _) | (go_at_call 12; with_reducible exact A6.out _) | (go_at_call 13; with_reducible exact A7.out _))))
  refine wpQuiet_nil ?_
  rintro _ ⟨m, rfl⟩
  have HFm := Lib.hid (KW.out m)
  go_wp2
  go_ret
  exact ⟨rfl, HFm.out⟩
set_option maxHeartbeats 2000000 in
theorem treeWhole_walk (p : List PI) (p1 : Option Addr) (n q1 : Nat) (w : World) (hm : MaxOk w) (hp : ProgIn w.heap.size w p (.slice p1 n q1)) :
    Calls Tryz.prog 3 #[.agg #[.slice p1 n q1]] w fun e w' => e = .returned (.bool true) ∧ Below w.heap.size w w' := by
  have hn : n = p.length := by
    obtain ⟨b, o, h1, _⟩ := hp
    exact (slv_len h1).1
  by_cases hg : progR p 20000 < 0
  · exact treeWhole1_walk p p1 n q1 w hp (Lib.hid fun W v b h => by
      have := great_calls W.heap.size p v W (Nat.le_refl _) h
      rwa [decide_eq_true hg] at this)
  · obtain ⟨hb, hs⟩ := prog_bound hg
    obtain ⟨hl, hS⟩ := progR_sm hg
    have hd := dP_eq p
    have hz := nP_eq p
    refine treeWhole0_walk p p1 n q1 w hp (depthR (rtP p)) (sizeR (rtP p)) (wholeR 40 (rtP p)) (Lib.hid fun W v b h => by
      have := great_calls W.heap.size p v W (Nat.le_refl _) h
      rwa [decide_eq_false hg] at this) (Lib.hid fun W v b h => ?_) (Lib.hid fun W v b h => ?_) (Lib.hid fun W v b h => ?_) (Lib.hid fun W v b h => ?_) (Lib.hid fun W v b h => ?_) (Lib.hid fun W v b h => ?_) (Lib.hid fun W v b h => ?_) (Lib.hid fun W v1 v2 h1 h2 => ?_)
    · have h1 := copyI_calls true p hl (fun x hx => (hS x hx).few) W.heap.size v W (Nat.le_refl _) h
      rw [← hn] at h1
      refine h1.mono ?_
      rintro e w' ⟨ua, uc, he, h2, h3⟩
      obtain ⟨b, o, k1, k2⟩ := h2.out
      rw [erIs_true] at k1 k2
      exact ⟨ua, uc, he, Lib.hid ⟨b, o, k1, PI.Row.reads (Nat.le_refl _) (Reads.only _ _) k2⟩, h3⟩
    · obtain ⟨ao, k, c, rfl⟩ := progIn_shape h
      exact topWhole_calls W.heap.size _ ao k c W (Nat.le_refl _) (hm.below b) h
    · have := refWhole_calls W.heap.size p v W (Nat.le_refl _) h
      rwa [← wholeP_eq p v h] at this
    · obtain ⟨ao, k, c, rfl⟩ := progIn_shape h
      exact topDepth_calls W.heap.size _ ao k c W (Nat.le_refl _) (hm.below b) h (by omega)
    · have := refDepth_calls W.heap.size p v W (Nat.le_refl _) h (by omega)
      rwa [← hd] at this
    · obtain ⟨ao, k, c, rfl⟩ := progIn_shape h
      exact topSize_calls W.heap.size _ ao k c W (Nat.le_refl _) (hm.below b) h (by omega)
    · have := refSize_calls W.heap.size p v W (Nat.le_refl _) h (by omega)
      rwa [← hz] at this
    · have := refProg_callsT W.heap.size _ _ v1 v2 W (Nat.le_refl _) h1 h2
      rwa [sameProg_refl] at this
end Go.Proofs.YtojeijeimpffgaaGreat

