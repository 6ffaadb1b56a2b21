/- The parts that a type has: (typed).has hands them out, one after the other. -/
import Derived.Test.YthilicmhdkmipaaGreatDoorWTreeHands
import Derived.Test.YthilicmhdkmipaaGreatDoorWJoinAP
import Derived.Shelf.Abstract
import Derived.OwnWalkIn
import Derived.TacticsInMore
import Derived.LoopNIn
import Derived.LoopIn
import Derived.Test.YthilicmhdkmipaaGreatDoorWTreeFits2
import Derived.Test.YthilicmhdkmipaaGreatDoorWJoinAH
import Derived.Shelf.RegionOpen
namespace Go.Proofs.YthilicmhdkmipaaGreatDoor
open Go.RowKit Go.Shelf
set_option linter.unusedVariables false
attribute [local go_sem] Oper.semAt_some

/-- the row of pointers to things of a width, as parts of one make -/
def ptrs (T : TypeId) (b o wd st : Nat) (n : Nat) : List Value := (List.range n).map fun k => .iface T (.agg #[.pointer (some ⟨b, o + k * wd, none⟩), .int .u8 st])
theorem ptrs_get {T : TypeId} {b o wd st n k : Nat} (h : k < n) : (ptrs T b o wd st n)[k]? = some (.iface T (.agg #[.pointer (some ⟨b, o + k * wd, none⟩), .int .u8 st])) := by
  simp [ptrs, h]
theorem ptrs_len (T : TypeId) (b o wd st n : Nat) : (ptrs T b o wd st n).length = n := by simp [ptrs]
set_option maxHeartbeats 2000000 in
theorem typedHas_hands (B lo : Nat) (t : PT) (st b o : Nat) (v : Value) (w : World) (hB : B ≤ lo) (hlo : lo ≤ w.heap.size) (hb : b < lo) (hc : CellsAt w b o (t.cells v)) (ht : t.In B w v) (b1 o1 : Nat) (s1 : SlV B v t.args.length b1 o1) :
    Hands Tryz.prog lo 245 (.agg #[.pointer (some ⟨b, o, none⟩), .int .u8 st]) (ptrs 155 b1 o1 3 0 t.args.length) w := by
  intro m l J Jx hJ hJx hR h0
  obtain ⟨k0, nm, xs⟩ := t
  obtain ⟨m1, ao, cap, rfl, h1⟩ := s1
  unfold maxLen at m1
  simp only [PT.args] at *
  obtain ⟨n, hn⟩ : ∃ n, n = xs.length := ⟨_, rfl⟩
  rw [← hn] at m1 h1 hR ⊢
  have c2 : w.cell? ⟨b, o + 2, none⟩ = some (.slice ao n cap) := by rw [hn]; exact hc 2 _ rfl
  rw [ptrs_len]
  have hbw : b < w.heap.size := by omega
  have HJ := Lib.hid hJ
  have HJx := Lib.hid hJx
  have HR := Lib.hid hR
  have H1 := Lib.hid h1
  clear hJ hJx hR h1 hc ht
  refine callsIn_of_wp Tryz.func245 rfl trivial ?_ rfl
  simp only [Tryz.ntmps245, List.size_toArray, List.length_cons, List.length_nil, Nat.reduceAdd, Nat.reduceSub, Array.replicate_succ, Array.replicate_zero, List.push_toArray, List.append_toArray, List.nil_append, List.cons_append]
  gi_wp2
  gi_loopw [11] (fun i wr => ∃ k : Nat, k ≤ n ∧ i = .int .i64 k ∧ w.heap.size < wr.heap.size ∧ wr.cell? ⟨b, o + 2, none⟩ = some (.slice ao n cap) ∧ wr.cell? ⟨w.heap.size, 0, none⟩ = some (.pointer (some ⟨b, o, none⟩)) ∧ Hid (J k wr))
    (fun i _ => n - (intOf i).toNat)
  case atStart => exact ⟨0, by omega, rfl, by simp, by go_simp, by go_simp, Lib.hid (HJ.out _ _ _ h0 ((Below.refl _ w).alloc (Nat.le_refl _) _))⟩
  case round =>
    obtain ⟨k, hk, rfl, hsz, hc2, hcb, HK⟩ := hrel
    by_cases hlt : k < n
    · obtain ⟨rfl, hb1⟩ := H1.out.resolve_left (by omega)
      have g : b < wr.heap.size := by omega
      obtain ⟨fn, tmps, assign, body, hy0, hRd⟩ := HR.out k _ wr (ptrs_get hlt) (by omega) HK.out
      have hy : (Instr.yield l #[.iface 155 (.agg #[.pointer (some ⟨b1, o1 + k * 3, none⟩), .int .u8 0])]).run Tryz.prog wr = .ok (.round l fn tmps assign body) wr := hy0
      clear hy0
      gi_wp2
      refine ⟨fun h => (by simp [Fence.wide] at h), (RoundIn.anyDepth hRd).mono ?_⟩
      rintro e W' (⟨rfl, hj, hkp⟩ | ⟨rfl, hjx, _⟩)
      · have d2 := (hkp.cell (p := ⟨b, o + 2, none⟩) g (.inl hb)).trans hc2
        have db := (hkp.cell (p := ⟨w.heap.size, 0, none⟩) hsz (.inr (Nat.le_refl _))).trans hcb
        have hsz2 : w.heap.size < W'.heap.size := by have := hkp.size; omega
        have HK2 := Lib.hid hj
        clear hRd hy hc2 hcb hkp hj
        gi_wp2
        go_roundw
        case rel => exact ⟨k + 1, by omega, by go_num, hsz2, d2, db, HK2⟩
        case measure => simp [intOf]; omega
      · gi_wp2
        refine bodyPost_ret (results_none rfl _ _ _) rfl ?_
        exact ⟨⟨_, rfl⟩, .inr ⟨k, hlt, hjx⟩⟩
    · obtain rfl : k = n := by omega
      gi_wp2
      go_end0
      exact ⟨⟨_, rfl⟩, .inl HK.out⟩
end Go.Proofs.YthilicmhdkmipaaGreatDoor
/- What fits, third part: types. -/
namespace Go.Proofs.YthilicmhdkmipaaGreatDoor
open Go.RowKit
set_option linter.unusedVariables false

set_option maxHeartbeats 4000000 in
theorem typedFits_calls (B : Nat) (t : PT) (st b o : Nat) (v : Value) (w : World) (hst : st ≤ 3) (hB : B ≤ w.heap.size) (hm : MaxOk w) (hb : b < w.heap.size) (hc : CellsAt w b o (t.cells v)) (ht : t.In B w v) :
    Calls Tryz.prog 244 #[.agg #[.pointer (some ⟨b, o, none⟩), .int .u8 st]] w fun e w' => e = .returned (.bool (fitT t st)) ∧ Below w.heap.size w w' := by
  have c0 : w.cell? ⟨b, o, none⟩ = some (.int .u8 t.kind) := hc 0 _ rfl
  have c1 : w.cell? ⟨b, o + 1, none⟩ = some (.string t.name) := hc 1 _ rfl
  have c2 : w.cell? ⟨b, o + 2, none⟩ = some v := hc 2 _ rfl
  have C : Hid (∀ w', Below w.heap.size w w' → Calls Tryz.prog 111 #[.agg #[.int .u8 t.kind, .string t.name, v], .agg #[.int .u8 0, .string ByteArray.empty, .slice none 0 0]] w' fun e w'' => e = .returned (.bool (sameT t zeroT)) ∧ Below w'.heap.size w' w'') :=
    Lib.hid fun w' hw => sameT_calls B t zeroT v _ w' (by have := hw.size; omega) (PT.In.below (hw.mono hB) ht) (zeroT_in B w')
  obtain ⟨hu, hs⟩ : U8 t.kind ∧ t.name.size ≤ maxLen := by
    obtain ⟨k, n, xs⟩ := t
    exact ht.1
  have D : Hid (∀ w', Calls Tryz.prog 246 #[.int .u8 t.kind] w' fun e w'' => e = .returned (.agg (tSh t.kind).cells) ∧ Below w'.heap.size w' w'') := Lib.hid fun w' => typeShape_calls t.kind (u8_lt hu) w'
  have hn3 : (tSh t.kind).name ≤ 3 := by
    unfold tSh
    split
    · simp
    · split
      · simp
      · split <;> simp
  have T : Hid (∀ w', MaxOk w' → Calls Tryz.prog 161 #[.int .u8 (tSh t.kind).name, .string t.name] w' fun e w'' => e = .returned (.bool (txB (tSh t.kind).name t.name)) ∧ Below w'.heap.size w' w'') := Lib.hid fun w' h => textFits_calls _ hn3 t.name hs w' h
  have hsh : ∃ ao cap, v = .slice ao t.args.length cap := by
    obtain ⟨k, n, xs⟩ := t
    obtain ⟨_, b', o', s, _⟩ := ht
    exact s.shape
  obtain ⟨ao, cap, rfl⟩ := hsh
  unfold fitT
  have HM := Lib.hid hm
  by_cases h3 : st = 3 ∨ (st = 2 ∧ t.kind = 0)
  · rw [if_pos h3]
    clear D T hc ht hu hs hn3
    generalize sameT t zeroT = q at *
    rcases h3 with rfl | ⟨rfl, hk⟩
    · show Calls Tryz.prog 244 #[.agg #[.pointer (some ⟨b, o, none⟩), .int .u8 3]] w _
      go_enter Tryz.func244, Tryz.ntmps244
      go_wp2_with fail
      refine (C.out _ (box1 _ _)).mono ?_; rintro e w1 ⟨rfl, b1⟩
      go_wp2
      go_ret
      exact ⟨rfl, up_tr (box1 _ _) b1⟩
    · rw [hk] at c0 C
      show Calls Tryz.prog 244 #[.agg #[.pointer (some ⟨b, o, none⟩), .int .u8 2]] w _
      go_enter Tryz.func244, Tryz.ntmps244
      go_wp2_with fail
      refine (C.out _ (box1 _ _)).mono ?_; rintro e w1 ⟨rfl, b1⟩
      go_wp2
      go_ret
      exact ⟨rfl, up_tr (box1 _ _) b1⟩
  · rw [if_neg h3]
    have n3 : ((st : Int) == 3) = false := beq_eq_false_iff_ne.2 (by omega)
    have hd : ((st : Int) == 2) = false ∨ (st = 2 ∧ (t.kind == 0) = false) := by
      by_cases h2 : st = 2
      · exact .inr ⟨h2, beq_eq_false_iff_ne.2 (by omega)⟩
      · exact .inl (beq_eq_false_iff_ne.2 (by omega))
    clear C hc ht hu hs hn3 h3
    generalize hq : txB (tSh t.kind).name t.name = q at *
    clear hq
    generalize tSh t.kind = sh at *
    obtain ⟨kn, nm, ar⟩ := sh
    simp only [TSh.cells] at *
    have W : Hid (∀ w1, Below w.heap.size w w1 → MaxOk w1) := Lib.hid fun w1 h => HM.out.below h
    clear hm HM
    generalize t.args.length = n at *
    rcases hd with n2 | ⟨rfl, n2⟩
    · go_enter Tryz.func244, Tryz.ntmps244
      go_wp2_with fail
      refine (D.out _).mono ?_; rintro e w1 ⟨rfl, b1⟩
      have hc1 := old_cells b1
      have bel1 := up_tr (box1 _ _) b1
      have hs1 : w.heap.size < w1.heap.size := by have := b1.size; simp at this; omega
      have k0 : w1.cell? ⟨w.heap.size, 0, none⟩ = some (.pointer (some ⟨b, o, none⟩)) := (hc1 _ _ (by simp)).trans (by go_simp)
      have k1 : w1.cell? ⟨b, o + 1, none⟩ = some (.string t.name) := (bel1.cell (p := ⟨b, o + 1, none⟩) hb).trans c1
      have k2 : w1.cell? ⟨b, o + 2, none⟩ = some (.slice ao n cap) := (bel1.cell (p := ⟨b, o + 2, none⟩) hb).trans c2
      clear b1
      go_wp2_with fail
      obtain ⟨W0, hW0⟩ : ∃ W0, W0 = w1.alloc (.cells #[.bool kn, .int .u8 nm, .int .i64 ar] 283) := ⟨_, rfl⟩
      rw [← hW0]
      have zz : b < w1.heap.size := by omega
      have z0 : w1.heap.size < W0.heap.size := by rw [hW0]; simp
      have z1 : w.heap.size < W0.heap.size := by omega
      have z2 : b < W0.heap.size := by omega
      have f0 : W0.cell? ⟨w1.heap.size, 0, none⟩ = some (.bool kn) := by rw [hW0]; go_simp
      have f1 : W0.cell? ⟨w1.heap.size, 1, none⟩ = some (.int .u8 nm) := by rw [hW0]; go_simp
      have f2 : W0.cell? ⟨w1.heap.size, 2, none⟩ = some (.int .i64 ar) := by rw [hW0]; go_simp
      have f3 : W0.cell? ⟨w.heap.size, 0, none⟩ = some (.pointer (some ⟨b, o, none⟩)) := by rw [hW0]; go_simp
      have f4 : W0.cell? ⟨b, o + 1, none⟩ = some (.string t.name) := by rw [hW0]; go_simp
      have f5 : W0.cell? ⟨b, o + 2, none⟩ = some (.slice ao n cap) := by rw [hW0]; go_simp
      have B0 : Below w.heap.size w W0 := by rw [hW0]; exact bel1.alloc (by omega) _
      have hF := Over.cells (W0 := W0)
      have K1 := Lib.hid (fun (n : Over W0) => (show MaxOk n.w from W.out _ (B0.trans (n.h.mono (by omega)))))
      have K4 := Lib.hid (fun (n : Over W0) => (show Below w.heap.size w n.w from B0.trans (n.h.mono (by omega))))
      clear hW0 k0 k1 k2 hc1 c0 c1 c2 bel1 B0
      have arm : Hid (∀ n' : Over W0, Calls Tryz.prog 161 #[.int .u8 nm, .string t.name] n'.w fun e w'' => e = .returned (.bool q) ∧ ∃ m : Over W0, w'' = m.w) := Lib.hid fun n' => over_calls (T.out _ (K1.out n'))
      cases kn
      · refine wp_region_over (by kernel_rfl) (by kernel_rfl) ?_
        repeat (go_big_quiet_step (fail))
        refine wpQuiet_nil ?_
        rintro _ ⟨m, rfl⟩
        have HF := Lib.hid (K4.out m)
        go_wp2
        go_ret
        exact ⟨ret_bool (by simp), HF.out⟩
      · by_cases hl : n = ar
        · have e1 : ((n : Int) == (ar : Int)) = true := by rw [beq_iff_eq]; omega
          cases q
          · refine wp_region_over (by kernel_rfl) (by kernel_rfl) ?_
            repeat (go_big_quiet_step ((go_at_call 161; exact arm.out _)))
            refine wpQuiet_nil ?_
            rintro _ ⟨m, rfl⟩
            have HF := Lib.hid (K4.out m)
            go_wp2
            go_ret
            exact ⟨ret_bool (by simp), HF.out⟩
          · refine wp_region_over (by kernel_rfl) (by kernel_rfl) ?_
            repeat (go_big_quiet_step ((go_at_call 161; exact arm.out _)))
            refine wpQuiet_nil ?_
            rintro _ ⟨m, rfl⟩
            have HF := Lib.hid (K4.out m)
            go_wp2
            go_ret
            exact ⟨ret_bool (by simp [hl]), HF.out⟩
        · have e1 : ((n : Int) == (ar : Int)) = false := by rw [beq_eq_false_iff_ne]; omega
          cases q
          · refine wp_region_over (by kernel_rfl) (by kernel_rfl) ?_
            repeat (go_big_quiet_step ((go_at_call 161; exact arm.out _)))
            refine wpQuiet_nil ?_
            rintro _ ⟨m, rfl⟩
            have HF := Lib.hid (K4.out m)
            go_wp2
            go_ret
            exact ⟨ret_bool (by simp), HF.out⟩
          · refine wp_region_over (by kernel_rfl) (by kernel_rfl) ?_
            repeat (go_big_quiet_step ((go_at_call 161; exact arm.out _)))
            refine wpQuiet_nil ?_
            rintro _ ⟨m, rfl⟩
            have HF := Lib.hid (K4.out m)
            go_wp2
            go_ret
            exact ⟨ret_bool (by simp [hl]), HF.out⟩
    · show Calls Tryz.prog 244 #[.agg #[.pointer (some ⟨b, o, none⟩), .int .u8 2]] w _
      clear n3
      go_enter Tryz.func244, Tryz.ntmps244
      go_wp2_with fail
      refine (D.out _).mono ?_; rintro e w1 ⟨rfl, b1⟩
      have hc1 := old_cells b1
      have bel1 := up_tr (box1 _ _) b1
      have hs1 : w.heap.size < w1.heap.size := by have := b1.size; simp at this; omega
      have k0 : w1.cell? ⟨w.heap.size, 0, none⟩ = some (.pointer (some ⟨b, o, none⟩)) := (hc1 _ _ (by simp)).trans (by go_simp)
      have k1 : w1.cell? ⟨b, o + 1, none⟩ = some (.string t.name) := (bel1.cell (p := ⟨b, o + 1, none⟩) hb).trans c1
      have k2 : w1.cell? ⟨b, o + 2, none⟩ = some (.slice ao n cap) := (bel1.cell (p := ⟨b, o + 2, none⟩) hb).trans c2
      clear b1
      go_wp2_with fail
      obtain ⟨W0, hW0⟩ : ∃ W0, W0 = w1.alloc (.cells #[.bool kn, .int .u8 nm, .int .i64 ar] 283) := ⟨_, rfl⟩
      rw [← hW0]
      have zz : b < w1.heap.size := by omega
      have z0 : w1.heap.size < W0.heap.size := by rw [hW0]; simp
      have z1 : w.heap.size < W0.heap.size := by omega
      have z2 : b < W0.heap.size := by omega
      have f0 : W0.cell? ⟨w1.heap.size, 0, none⟩ = some (.bool kn) := by rw [hW0]; go_simp
      have f1 : W0.cell? ⟨w1.heap.size, 1, none⟩ = some (.int .u8 nm) := by rw [hW0]; go_simp
      have f2 : W0.cell? ⟨w1.heap.size, 2, none⟩ = some (.int .i64 ar) := by rw [hW0]; go_simp
      have f3 : W0.cell? ⟨w.heap.size, 0, none⟩ = some (.pointer (some ⟨b, o, none⟩)) := by rw [hW0]; go_simp
      have f4 : W0.cell? ⟨b, o + 1, none⟩ = some (.string t.name) := by rw [hW0]; go_simp
      have f5 : W0.cell? ⟨b, o + 2, none⟩ = some (.slice ao n cap) := by rw [hW0]; go_simp
      have B0 : Below w.heap.size w W0 := by rw [hW0]; exact bel1.alloc (by omega) _
      have hF := Over.cells (W0 := W0)
      have K1 := Lib.hid (fun (n : Over W0) => (show MaxOk n.w from W.out _ (B0.trans (n.h.mono (by omega)))))
      have K4 := Lib.hid (fun (n : Over W0) => (show Below w.heap.size w n.w from B0.trans (n.h.mono (by omega))))
      clear hW0 k0 k1 k2 hc1 c0 c1 c2 bel1 B0
      have arm : Hid (∀ n' : Over W0, Calls Tryz.prog 161 #[.int .u8 nm, .string t.name] n'.w fun e w'' => e = .returned (.bool q) ∧ ∃ m : Over W0, w'' = m.w) := Lib.hid fun n' => over_calls (T.out _ (K1.out n'))
      cases kn
      · refine wp_region_over (by kernel_rfl) (by kernel_rfl) ?_
        repeat (go_big_quiet_step (fail))
        refine wpQuiet_nil ?_
        rintro _ ⟨m, rfl⟩
        have HF := Lib.hid (K4.out m)
        go_wp2
        go_ret
        exact ⟨ret_bool (by simp), HF.out⟩
      · by_cases hl : n = ar
        · have e1 : ((n : Int) == (ar : Int)) = true := by rw [beq_iff_eq]; omega
          cases q
          · refine wp_region_over (by kernel_rfl) (by kernel_rfl) ?_
            repeat (go_big_quiet_step ((go_at_call 161; exact arm.out _)))
            refine wpQuiet_nil ?_
            rintro _ ⟨m, rfl⟩
            have HF := Lib.hid (K4.out m)
            go_wp2
            go_ret
            exact ⟨ret_bool (by simp), HF.out⟩
          · refine wp_region_over (by kernel_rfl) (by kernel_rfl) ?_
            repeat (go_big_quiet_step ((go_at_call 161; exact arm.out _)))
            refine wpQuiet_nil ?_
            rintro _ ⟨m, rfl⟩
            have HF := Lib.hid (K4.out m)
            go_wp2
            go_ret
            exact ⟨ret_bool (by simp [hl]), HF.out⟩
        · have e1 : ((n : Int) == (ar : Int)) = false := by rw [beq_eq_false_iff_ne]; omega
          cases q
          · refine wp_region_over (by kernel_rfl) (by kernel_rfl) ?_
            repeat (go_big_quiet_step ((go_at_call 161; exact arm.out _)))
            refine wpQuiet_nil ?_
            rintro _ ⟨m, rfl⟩
            have HF := Lib.hid (K4.out m)
            go_wp2
            go_ret
            exact ⟨ret_bool (by simp), HF.out⟩
          · refine wp_region_over (by kernel_rfl) (by kernel_rfl) ?_
            repeat (go_big_quiet_step ((go_at_call 161; exact arm.out _)))
            refine wpQuiet_nil ?_
            rintro _ ⟨m, rfl⟩
            have HF := Lib.hid (K4.out m)
            go_wp2
            go_ret
            exact ⟨ret_bool (by simp [hl]), HF.out⟩
end Go.Proofs.YthilicmhdkmipaaGreatDoor
/- The parts that an expression has: yieldExprs, (expression).has hand them out. -/
namespace Go.Proofs.YthilicmhdkmipaaGreatDoor
open Go.RowKit Go.Shelf
set_option linter.unusedVariables false
attribute [local go_sem] Oper.semAt_some

set_option maxHeartbeats 2000000 in
theorem yieldExprs_calls (B lo hi : Nat) (xs : List PE) (st b1 o1 : Nat) (v1 : Value) (w : World) (hB : B ≤ lo) (hlo : lo ≤ hi) (hhi : hi ≤ w.heap.size) (s1 : SlV B v1 xs.length b1 o1) (m l : Nat) (J Jx : Nat → World → Prop)
    (hJ : Ext J) (hR : Rounds Tryz.prog m l lo hi (ptrs 160 b1 o1 8 st xs.length) J Jx) (h0 : J 0 w) :
    CallsIn Fence.wide m Tryz.prog 251 #[v1, .int .u8 st, .func (.yield l) #[] #[]] w fun e W' =>
      (e = .returned (.bool true) ∧ J xs.length W' ∧ Keeps lo hi w W') ∨ (e = .returned (.bool false) ∧ (∃ k, k < xs.length ∧ Jx k W') ∧ Keeps lo hi w W') := by
  obtain ⟨m1, ao, cap, rfl, h1⟩ := s1
  unfold maxLen at m1
  obtain ⟨n, hn⟩ : ∃ n, n = xs.length := ⟨_, rfl⟩
  rw [← hn] at m1 h1 hR ⊢
  have HJ := Lib.hid hJ
  have HR := Lib.hid hR
  have H1 := Lib.hid h1
  clear hJ hR h1 hn
  refine callsIn_of_wp Tryz.func251 rfl trivial ?_ rfl
  simp only [Tryz.ntmps251, List.size_toArray, List.length_cons, List.length_nil, Nat.reduceAdd, Nat.reduceSub, Array.replicate_succ, Array.replicate_zero, List.push_toArray, List.append_toArray, List.nil_append, List.cons_append]
  gi_wp2
  gi_loopw [10] (fun i wr => ∃ k : Nat, k ≤ n ∧ i = .int .i64 k ∧ Hid (J k wr) ∧ Hid (Keeps lo hi w wr))
    (fun i _ => n - (intOf i).toNat)
  case atStart => exact ⟨0, by omega, rfl, Lib.hid h0, Lib.hid (Keeps.refl _ _ _)⟩
  case round =>
    obtain ⟨k, hk, rfl, HK, HW⟩ := hrel
    by_cases hlt : k < n
    · obtain ⟨rfl, hb1⟩ := H1.out.resolve_left (by omega)
      have hsz := HW.out.size
      obtain ⟨fn, tmps, assign, body, hy0, hRd⟩ := HR.out k _ wr (ptrs_get hlt) (by omega) HK.out
      have hy : (Instr.yield l #[.iface 160 (.agg #[.pointer (some ⟨b1, o1 + k * 8, none⟩), .int .u8 st])]).run Tryz.prog wr = .ok (.round l fn tmps assign body) wr := hy0
      clear hy0
      gi_wp2
      refine ⟨fun h => (by simp [Fence.wide] at h), (RoundIn.anyDepth hRd).mono ?_⟩
      rintro e W' (⟨rfl, hj, hkp⟩ | ⟨rfl, hjx, hkp⟩)
      · have HK2 := Lib.hid hj
        have HW2 := Lib.hid (HW.out.trans hkp)
        clear hRd hy hkp hj
        gi_wp2
        go_roundw
        case rel => exact ⟨k + 1, by omega, by go_num, HK2, HW2⟩
        case measure => simp [intOf]; omega
      · gi_wp2
        go_ret
        exact .inr ⟨rfl, ⟨k, hlt, hjx⟩, HW.out.trans hkp⟩
    · obtain rfl : k = n := by omega
      gi_wp2
      go_ret
      exact .inl ⟨rfl, HK.out, HW.out⟩
set_option maxHeartbeats 1000000 in
theorem inArgs_calls (e : PE) (st b o : Nat) (v : VE) (w : World) (hst : st ≤ 3) (hb : b < w.heap.size) (hc : CellsAt w b o (e.cells v)) :
    Calls Tryz.prog 252 #[.agg #[.pointer (some ⟨b, o, none⟩), .int .u8 st]] w fun r w' => r = .returned (.int .u8 (inArgs e st : Nat)) ∧ Below w.heap.size w w' := by
  have c0 : w.cell? ⟨b, o, none⟩ = some (.int .u8 e.op) := hc 0 _ rfl
  unfold inArgs
  by_cases h3 : st = 3
  · subst h3
    show Calls Tryz.prog 252 #[.agg #[.pointer (some ⟨b, o, none⟩), .int .u8 3]] w _
    rw [if_pos rfl]
    go_enter Tryz.func252, Tryz.ntmps252
    go_wp2
    go_ret
    exact ⟨rfl, (Below.refl _ w).alloc (Nat.le_refl _) _⟩
  · rw [if_neg h3]
    have n3 : ((st : Int) == 3) = false := beq_eq_false_iff_ne.2 (by omega)
    by_cases h18 : e.op = 18
    · rw [if_pos h18]
      rw [h18] at c0
      go_enter Tryz.func252, Tryz.ntmps252
      go_wp2
      go_ret
      exact ⟨rfl, (Below.refl _ w).alloc (Nat.le_refl _) _⟩
    · rw [if_neg h18]
      have n18 : (e.op == 18) = false := beq_eq_false_iff_ne.2 h18
      go_enter Tryz.func252, Tryz.ntmps252
      go_wp2
      go_ret
      exact ⟨rfl, (Below.refl _ w).alloc (Nat.le_refl _) _⟩
theorem mixed : Tryz.prog.follows .mixedOrders = true := by kernel_rfl
set_option maxHeartbeats 4000000 in
theorem exprHas_hands (B lo : Nat) (e : PE) (st b o : Nat) (v : VE) (w : World) (hB : B ≤ lo) (hlo : lo ≤ w.heap.size) (hb : b < lo) (hst : st ≤ 3) (hc : CellsAt w b o (e.cells v)) (he : e.In B w v) (b1 o1 : Nat) (s1 : SlV B v.args e.args.length b1 o1) :
    Hands Tryz.prog lo 248 (.agg #[.pointer (some ⟨b, o, none⟩), .int .u8 st]) (ptrs 160 b1 o1 8 (inArgs e st) e.args.length) w := by
  intro m l J Jx hJ hJx hR h0
  rw [ptrs_len]
  have hbw : b < w.heap.size := by omega
  have C : Hid (∀ w', Below w.heap.size w w' → Calls Tryz.prog 252 #[.agg #[.pointer (some ⟨b, o, none⟩), .int .u8 st]] w' fun r w'' => r = .returned (.int .u8 (inArgs e st : Nat)) ∧ Below w'.heap.size w' w'') :=
    Lib.hid fun w' hw => inArgs_calls e st b o v w' hst (by have := hw.size; omega) (hc.below hbw hw)
  have D : Hid (∀ w', Below w.heap.size w w' → CallsIn Fence.wide (m - 1) Tryz.prog 251 #[v.args, .int .u8 (inArgs e st : Nat), .func (.yield l) #[] #[]] w' fun r W' => ∃ q : Bool, r = .returned (.bool q) ∧ (J e.args.length W' ∨ ∃ k, k < e.args.length ∧ Jx k W')) :=
    Lib.hid fun w' hw => (yieldExprs_calls B lo w.heap.size e.args (inArgs e st) b1 o1 v.args w' hB hlo hw.size s1 (m - 1) l J Jx hJ (hR.any _) (hJ _ _ _ h0 hw)).mono
      fun r W' h => h.elim (fun ⟨a, b, _⟩ => ⟨true, a, .inl b⟩) (fun ⟨a, b, _⟩ => ⟨false, a, .inr b⟩)
  obtain ⟨ao, cap, hv⟩ := s1.shape
  have c6 : w.cell? ⟨b, o + 6, none⟩ = some v.args := hc 6 _ rfl
  rw [hv] at c6
  rw [hv] at D
  generalize inArgs e st = q at *
  clear hR hJ hJx hc he s1 hv
  have hmix := mixed
  refine callsIn_of_wp Tryz.func248 rfl trivial ?_ rfl
  simp only [Tryz.ntmps248, List.size_toArray, List.length_cons, List.length_nil, Nat.reduceAdd, Nat.reduceSub, Array.replicate_succ, Array.replicate_zero, List.push_toArray, List.append_toArray, List.nil_append, List.cons_append]
  gi_wp2
  gi_region_with_o (first
    | ((try refine ⟨trivial, ?_⟩); (try refine ⟨fun h => (by simp [Fence.wide] at h), ?_⟩)
       gi_at_call 252
       have x0 : Below w.heap.size w _ := (((Below.refl _ w).alloc (Nat.le_refl _) (.cells #[.pointer (some ⟨b, o, none⟩), .int .u8 st] 160))).drew
       refine (callsIn_wide.2 (C.out _ x0)).mono ?_
       rintro r w1 ⟨rfl, b1⟩
       have x1 := up_tr x0 b1
       have hc1 := old_cells b1
       clear b1 x0)
    | ((try refine ⟨trivial, ?_⟩); (try refine ⟨fun h => (by simp [Fence.wide] at h), ?_⟩)
       gi_at_call 251
       refine (D.out _ x1).mono ?_
       rintro r w2 ⟨q', rfl, hj⟩))
  all_goals gi_wp2
  all_goals go_end0
  all_goals exact ⟨⟨_, rfl⟩, hj⟩
end Go.Proofs.YthilicmhdkmipaaGreatDoor
