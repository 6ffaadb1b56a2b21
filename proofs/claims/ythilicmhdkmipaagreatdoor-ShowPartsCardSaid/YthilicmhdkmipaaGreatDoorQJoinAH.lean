/- What fits, fifth part: expressions. -/
import Derived.Test.YthilicmhdkmipaaGreatDoorQJoinAE
import Derived.Test.YthilicmhdkmipaaGreatDoorQJoinAG
import Derived.Test.YthilicmhdkmipaaGreatDoorQJoinAD
import Derived.RangeFuncNested
import Derived.Test.YthilicmhdkmipaaGreatDoorQTreeRefW2
namespace Go.Proofs.YthilicmhdkmipaaGreatDoor
open Go.RowKit
set_option linter.unusedVariables false

theorem eSh_names (k : Int) : (eSh k).name ≤ 3 ∧ (eSh k).second ≤ 3 := by
  unfold eSh
  repeat' (first | (constructor <;> simp <;> done) | split)
set_option maxHeartbeats 8000000 in
theorem exprFits_calls (B : Nat) (op iv : Int) (nm sc : ByteArray) (pl : PP) (es : List PE) (ps : Int) (p0 : Option Addr) (n0 q0 : Nat) (p1 : Option Addr) (n1 q1 : Nat) (st b o : Nat) (w : World) (hst : st ≤ 3) (hB : B ≤ w.heap.size) (hm : MaxOk w) (hb : b < w.heap.size)
    (hc : CellsAt w b o (PE.cells (.mk op iv nm sc pl es ps) ⟨.slice p0 n0 q0, .slice p1 n1 q1⟩)) (he : PE.In B w (.mk op iv nm sc pl es ps) ⟨.slice p0 n0 q0, .slice p1 n1 q1⟩) :
    Calls Tryz.prog 247 #[.agg #[.pointer (some ⟨b, o, none⟩), .int .u8 st]] w fun e w' => e = .returned (.bool (fitE (.mk op iv nm sc pl es ps) st)) ∧ Below w.heap.size w w' := by
  have c0 : w.cell? ⟨b, o, none⟩ = some (.int .u8 op) := hc 0 _ rfl
  have c1 : w.cell? ⟨b, o + 1, none⟩ = some (.int .i64 iv) := hc 1 _ rfl
  have c2 : w.cell? ⟨b, o + 2, none⟩ = some (.string nm) := hc 2 _ rfl
  have c3 : w.cell? ⟨b, o + 3, none⟩ = some (.string sc) := hc 3 _ rfl
  have c4 : w.cell? ⟨b, o + 4, none⟩ = some (.string pl.name) := hc 4 _ rfl
  have c5 : w.cell? ⟨b, o + 5, none⟩ = some (.slice p0 n0 q0) := hc 5 _ rfl
  have c6 : w.cell? ⟨b, o + 6, none⟩ = some (.slice p1 n1 q1) := hc 6 _ rfl
  have c7 : w.cell? ⟨b, o + 7, none⟩ = some (.int .i64 ps) := hc 7 _ rfl
  have C : Hid (∀ w', Below w.heap.size w w' → Calls Tryz.prog 114 #[.agg #[.int .u8 op, .int .i64 iv, .string nm, .string sc, .string pl.name, .slice p0 n0 q0, .slice p1 n1 q1, .int .i64 ps], .agg #[.int .u8 0, .int .i64 0, .string ByteArray.empty, .string ByteArray.empty, .string ByteArray.empty, .slice none 0 0, .slice none 0 0, .int .i64 0]] w' fun e w'' => e = .returned (.bool (sameE false (.mk op iv nm sc pl es ps) zeroE)) ∧ Below w'.heap.size w' w'') :=
    Lib.hid fun w' hw => sameE_calls B (.mk op iv nm sc pl es ps) zeroE ⟨.slice p0 n0 q0, .slice p1 n1 q1⟩ ⟨.slice none 0 0, .slice none 0 0⟩ w' (by have := hw.size; omega) (PE.In.below (hw.mono hB) he) (zeroE_in B w')
  have hu : U8 op := he.1.1
  have hk := u8_lt hu
  have hn := eSh_names op
  have D : Hid (∀ w', Calls Tryz.prog 249 #[.int .u8 op] w' fun e w'' => e = .returned (.agg (eSh op).cells) ∧ Below w'.heap.size w' w'') := Lib.hid fun w' => exprShape_calls op hk w'
  have S : Hid (∀ w', Below w.heap.size w w' → Calls Tryz.prog 250 #[.agg (eSh op).cells, .agg #[.int .u8 op, .int .i64 iv, .string nm, .string sc, .string pl.name, .slice p0 n0 q0, .slice p1 n1 q1, .int .i64 ps]] w' fun e w'' => e = .returned (.bool (fitSh (eSh op) (.mk op iv nm sc pl es ps))) ∧ Below w'.heap.size w' w'') :=
    Lib.hid fun w' hw => shapeFits_calls B (eSh op) hn.1 hn.2 op iv nm sc pl es ps p0 n0 q0 p1 n1 q1 w' (by have := hw.size; omega) (hm.below hw) (PE.In.below (hw.mono hB) he)
  unfold fitE
  clear hc he hm hu hk hn
  by_cases h3 : st = 3
  · rw [if_pos h3]
    subst h3
    clear D S
    generalize sameE false (.mk op iv nm sc pl es ps) zeroE = q at *
    show Calls Tryz.prog 247 #[.agg #[.pointer (some ⟨b, o, none⟩), .int .u8 3]] w _
    go_enter Tryz.func247, Tryz.ntmps247
    go_wp2_with fail
    refine (C.out _ (box1 _ _)).mono ?_; rintro e w1 ⟨rfl, b1⟩
    go_wp2
    go_ret
    exact ⟨rfl, up_tr (box1 _ _) b1⟩
  · rw [if_neg h3]
    have n3 : ((st : Int) == 3) = false := beq_eq_false_iff_ne.2 (by omega)
    have hl : lentB (.mk op iv nm sc pl es ps) = (decide (op = 5) || decide (op = 6)) := rfl
    rw [hl, show PE.op (.mk op iv nm sc pl es ps) = op from rfl]
    clear C hl
    generalize fitSh (eSh op) (.mk op iv nm sc pl es ps) = q at *
    generalize (eSh op).cells = cs at *
    obtain ⟨W0, hW0⟩ : ∃ W0, W0 = w.alloc (.cells #[.pointer (some ⟨b, o, none⟩), .int .u8 st] 160) := ⟨_, rfl⟩
    have HW := Lib.hid hW0
    have z1 : w.heap.size < W0.heap.size := by rw [hW0]; simp
    have z2 : b < W0.heap.size := by omega
    have f0 : W0.cell? ⟨w.heap.size, 0, none⟩ = some (.pointer (some ⟨b, o, none⟩)) := by rw [hW0]; go_simp
    have f1 : W0.cell? ⟨w.heap.size, 1, none⟩ = some (.int .u8 st) := by rw [hW0]; go_simp
    have d0 : W0.cell? ⟨b, o, none⟩ = some (.int .u8 op) := by rw [hW0]; go_simp
    have d1 : W0.cell? ⟨b, o + 1, none⟩ = some (.int .i64 iv) := by rw [hW0]; go_simp
    have d2 : W0.cell? ⟨b, o + 2, none⟩ = some (.string nm) := by rw [hW0]; go_simp
    have d3 : W0.cell? ⟨b, o + 3, none⟩ = some (.string sc) := by rw [hW0]; go_simp
    have d4 : W0.cell? ⟨b, o + 4, none⟩ = some (.string pl.name) := by rw [hW0]; go_simp
    have d5 : W0.cell? ⟨b, o + 5, none⟩ = some (.slice p0 n0 q0) := by rw [hW0]; go_simp
    have d6 : W0.cell? ⟨b, o + 6, none⟩ = some (.slice p1 n1 q1) := by rw [hW0]; go_simp
    have d7 : W0.cell? ⟨b, o + 7, none⟩ = some (.int .i64 ps) := by rw [hW0]; go_simp
    have B0 : Below w.heap.size w W0 := by rw [hW0]; exact box1 _ _
    have hF := Over.cells (W0 := W0)
    have K4 := Lib.hid (fun (n : Over W0) => (show Below w.heap.size w n.w from B0.trans (n.h.mono (by omega))))
    have A1 : Hid (∀ n' : Over W0, Calls Tryz.prog 249 #[.int .u8 op] n'.w fun e w'' => e = .returned (.agg cs) ∧ ∃ m : Over W0, w'' = m.w) := Lib.hid fun n' => over_calls (D.out _)
    have A2 : Hid (∀ n' : Over W0, Calls Tryz.prog 250 #[.agg cs, .agg #[.int .u8 op, .int .i64 iv, .string nm, .string sc, .string pl.name, .slice p0 n0 q0, .slice p1 n1 q1, .int .i64 ps]] n'.w fun e w'' => e = .returned (.bool q) ∧ ∃ m : Over W0, w'' = m.w) := Lib.hid fun n' => over_calls (S.out _ (K4.out n'))
    clear D S B0 hW0
    by_cases h5 : op = 5 ∨ op = 6
    · have hb5 : (decide (op = 5) || decide (op = 6)) = true := by rcases h5 with rfl | rfl <;> rfl
      rw [hb5]
      clear hb5
      by_cases h1 : st = 1
      · subst h1
        show Calls Tryz.prog 247 #[.agg #[.pointer (some ⟨b, o, none⟩), .int .u8 1]] w _
        rcases h5 with rfl | rfl
        all_goals
          (go_enter Tryz.func247, Tryz.ntmps247
           go_wp2_with fail
           clear c0 c1 c2 c3 c4 c5 c6 c7
           rw [show w.alloc (.cells #[.pointer (some ⟨b, o, none⟩), .int .u8 1] 160) = W0 from HW.out.symm]
           refine wp_region_over (by kernel_rfl) (by kernel_rfl) ?_
           repeat (go_big_quiet_step ((first | (go_at_call 249; exact A1.out _) | (go_at_call 250; exact A2.out _))))
           refine wpQuiet_nil ?_
           rintro _ ⟨m, rfl⟩
           have HF := Lib.hid (K4.out m)
           go_wp2
           go_ret
           exact ⟨ret_bool (by simp), HF.out⟩)
      · have n1' : ((st : Int) == 1) = false := beq_eq_false_iff_ne.2 (by omega)
        rcases h5 with rfl | rfl
        all_goals
          (go_enter Tryz.func247, Tryz.ntmps247
           go_wp2_with fail
           clear c0 c1 c2 c3 c4 c5 c6 c7
           rw [show w.alloc (.cells #[.pointer (some ⟨b, o, none⟩), .int .u8 st] 160) = W0 from HW.out.symm]
           refine wp_region_over (by kernel_rfl) (by kernel_rfl) ?_
           repeat (go_big_quiet_step ((first | (go_at_call 249; exact A1.out _) | (go_at_call 250; exact A2.out _))))
           refine wpQuiet_nil ?_
           rintro _ ⟨m, rfl⟩
           have HF := Lib.hid (K4.out m)
           go_wp2
           go_ret
           exact ⟨ret_bool (by simp [h1]), HF.out⟩)
    · have hb5 : (decide (op = 5) || decide (op = 6)) = false := by simp; omega
      rw [hb5]
      have e5 : (op == 5) = false := beq_eq_false_iff_ne.2 (by omega)
      have e6 : (op == 6) = false := beq_eq_false_iff_ne.2 (by omega)
      clear h5 hb5
      go_enter Tryz.func247, Tryz.ntmps247
      go_wp2_with fail
      clear c0 c1 c2 c3 c4 c5 c6 c7
      rw [show w.alloc (.cells #[.pointer (some ⟨b, o, none⟩), .int .u8 st] 160) = W0 from HW.out.symm]
      refine wp_region_over (by kernel_rfl) (by kernel_rfl) ?_
      repeat (go_big_quiet_step ((first | (go_at_call 249; exact A1.out _) | (go_at_call 250; exact A2.out _))))
      refine wpQuiet_nil ?_
      rintro _ ⟨m, rfl⟩
      have HF := Lib.hid (K4.out m)
      go_wp2
      go_ret
      exact ⟨ret_bool (by simp), HF.out⟩
end Go.Proofs.YthilicmhdkmipaaGreatDoor
/- What is whole: expressions (made by gen_wholeE.py out of XTreeWholeT). -/
namespace Go.Proofs.YthilicmhdkmipaaGreatDoor
open Go.RowKit Go.Shelf
set_option linter.unusedVariables false
attribute [local go_sem] Oper.semAt_some

theorem expr_fits (v : Value) (w : World) : (method 410 160 v "weftway/tree.fits").run Tryz.prog w = .ok (247, v) w := by kernel_rfl
theorem expr_has (v : Value) (args : Array Value) (w : World) : (callMethod (.iface 160 v) "weftway/tree.has" args).run Tryz.prog w = .ok (.enter 248 (#[v] ++ args)) w := by kernel_rfl
theorem inArgs_le (e : PE) {st : Nat} (h : st ≤ 3) : inArgs e st ≤ 3 := by
  unfold inArgs
  split
  · omega
  · split <;> omega

/-- the contract of whole at an expression -/
def WholeEAt (L : Nat) : Prop := ∀ (B : Nat) (t : PE) (st b o : Nat) (v : VE) (w : World), st ≤ 3 → B ≤ w.heap.size → MaxOk w → b < w.heap.size → CellsAt w b o (t.cells v) → t.In B w v →
  Calls Tryz.prog 74 #[.iface 160 (.agg #[.pointer (some ⟨b, o, none⟩), .int .u8 st]), .int .i64 L] w fun e w' => e = .returned (.bool (wholeE L t st)) ∧ Below w.heap.size w w'

set_option maxRecDepth 100000 in
set_option maxHeartbeats 4000000 in
theorem wholeE_zero : WholeEAt 0 := by
  intro B t st b o v w hst hB hm hb hc ht
  rw [wholeE]
  show Calls Tryz.prog 74 #[.iface 160 (.agg #[.pointer (some ⟨b, o, none⟩), .int .u8 st]), .int .i64 0] w _
  refine (callsIn_wide (n := 5)).1 ?_
  refine callsIn_of_wp_marks Tryz.func74 rfl trivial ?_ rfl
  simp only [Tryz.ntmps74, List.size_toArray, List.length_cons, List.length_nil, Nat.reduceAdd, Nat.reduceSub, Array.replicate_succ, Array.replicate_zero, List.push_toArray, List.append_toArray, List.nil_append, List.cons_append]
  have hfits := expr_fits
  gi_wp2
  all_goals refine ⟨fun _ _ => trivial, ?_⟩
  all_goals gi_wp2
  all_goals exact ⟨.bool false, by rw [results_cell1 rfl]; go_simp, rfl, box2 _ _ _⟩

set_option maxRecDepth 100000 in
set_option maxHeartbeats 400000 in
theorem wholeE_succ (L : Nat) (hL : L ≤ 1000) (ih : WholeEAt L) : WholeEAt (L + 1) := by
  intro B t st b o v w hst hB hm hb hc ht
  have F : Hid (∀ w', Below w.heap.size w w' → Calls Tryz.prog 247 #[.agg #[.pointer (some ⟨b, o, none⟩), .int .u8 st]] w' fun e w'' => e = .returned (.bool (fitE t st)) ∧ Below w'.heap.size w' w'') :=
    by
      obtain ⟨p0, n0, q0, p1, n1, q1, rfl⟩ := ht.shape
      obtain ⟨op, iv, nm, sc, pl, es, ps⟩ := t
      exact Lib.hid fun w' hw => exprFits_calls B op iv nm sc pl es ps p0 n0 q0 p1 n1 q1 st b o w' hst (by have := hw.size; omega) (hm.below hw) (by have := hw.size; omega) (hc.below hb hw) (PE.In.below (hw.mono hB) ht)
  rw [wholeE]
  generalize hq : fitE t st = q at *
  clear hq
  have ec : ((L + 1 : Nat) : Int) = (L : Int) + 1 := by omega
  rw [ec]
  clear ec
  have e0 : (((L : Int) + 1) == 0) = false := beq_eq_false_iff_ne.2 (by omega)
  have e1 : ((L : Int) + 1) - 1 = (L : Int) := by omega
  have bx := Lib.hid (box2 w (.cells #[.int .i64 ((L : Int) + 1)] 3) (.cells #[.bool false] 4))
  refine (callsIn_wide (n := 5)).1 ?_
  refine callsIn_of_wp_marks Tryz.func74 rfl trivial ?_ rfl
  simp only [Tryz.ntmps74, List.size_toArray, List.length_cons, List.length_nil, Nat.reduceAdd, Nat.reduceSub, Array.replicate_succ, Array.replicate_zero, List.push_toArray, List.append_toArray, List.nil_append, List.cons_append]
  have hfits := expr_fits
  obtain ⟨b1', o1', s1, r1⟩ : ∃ b1' o1', SlV B v.args t.args.length b1' o1' ∧ PE.Row B w b1' o1' t.args := by
    obtain ⟨op, iv, nm, sc, pl, es, ps⟩ := t
    obtain ⟨_, _, b', o', s, r⟩ := ht
    exact ⟨b', o', s, r⟩
  cases q
  · gi_wp2
    refine ⟨trivial, (callsIn_wide.2 (F.out _ bx.out)).mono ?_⟩
    rintro e w1 ⟨rfl, b1⟩
    have hc1 := old_cells b1
    have hfz : w1.frozen? ⟨w.heap.size + 1, 0, none⟩ = false := (b1.frozen (p := ⟨w.heap.size + 1, 0, none⟩) (by simp)).trans (by go_simp)
    have bel1 := Lib.hid (up_tr bx.out b1)
    gi_wp2
    exact ⟨.bool false, by rw [results_cell1 rfl]; go_simp, rfl, bel1.out.setCell (p := ⟨w.heap.size + 1, 0, none⟩) (by simp) _⟩
  · gi_wp2
    refine ⟨trivial, (callsIn_wide.2 (F.out _ bx.out)).mono ?_⟩
    rintro e w1 ⟨rfl, b1⟩
    have hc0 : w1.cell? ⟨w.heap.size, 0, none⟩ = some (.int .i64 ((L : Int) + 1)) := (b1.cell (p := ⟨w.heap.size, 0, none⟩) (by simp; omega)).trans (by go_simp)
    have hcr : w1.cell? ⟨w.heap.size + 1, 0, none⟩ = some (.bool false) := (b1.cell (p := ⟨w.heap.size + 1, 0, none⟩) (by simp)).trans (by go_simp)
    have hfz : w1.frozen? ⟨w.heap.size + 1, 0, none⟩ = false := (b1.frozen (p := ⟨w.heap.size + 1, 0, none⟩) (by simp)).trans (by go_simp)
    have hs1 : w.heap.size + 1 < w1.heap.size := by have := b1.size; simp at this; omega
    have bel1 := up_tr bx.out b1
    clear b1 F bx hfits
    gi_wp2
    refine wpIn_rangeMeth "weftway/tree.has" (.iface 160 (.agg #[.pointer (some ⟨b, o, none⟩), .int .u8 st])) (.agg #[.pointer (some ⟨b, o, none⟩), .int .u8 st]) 248 rfl (fun args w => expr_has _ args w)
      (ptrs 160 b1' o1' 8 (inArgs t st) t.args.length) w.heap.size (by omega) rfl
      (fun W hW => exprHas_hands B w.heap.size t st b o v W hB (by have := hW.size; omega) hb hst (hc.below hb (bel1.trans (hW.mono (by omega)))) (PE.In.below ((bel1.trans (hW.mono (by omega))).mono hB) ht) b1' o1' s1)
      (fun k W => W.cell? ⟨w.heap.size, 0, none⟩ = some (.int .i64 ((L : Int) + 1)) ∧ W.cell? ⟨w.heap.size + 1, 0, none⟩ = some (.bool false) ∧ W.frozen? ⟨w.heap.size + 1, 0, none⟩ = false ∧ Hid (Below w.heap.size w W ∧ ∀ (j : Nat) x, j < k → t.args[j]? = some x → wholeE L x (inArgs t st) = true))
      (fun k W => W.cell? ⟨w.heap.size + 1, 0, none⟩ = some (.bool false) ∧ Hid (Below w.heap.size w W ∧ t.args.all (fun u => wholeE L u (inArgs t st)) = false))
      (fun k A A' h hb => ⟨(hb.cell (p := ⟨w.heap.size, 0, none⟩) (by simp; omega)).trans h.1, (hb.cell (p := ⟨w.heap.size + 1, 0, none⟩) (by simp; omega)).trans h.2.1, (hb.frozen (p := ⟨w.heap.size + 1, 0, none⟩) (by simp; omega)).trans h.2.2.1, h.2.2.2.out.1.trans (hb.mono (by omega)), h.2.2.2.out.2⟩)
      (fun k A A' h hb => ⟨(hb.cell (p := ⟨w.heap.size + 1, 0, none⟩) (by simp; omega)).trans h.1, h.2.out.1.trans (hb.mono (by omega)), h.2.out.2⟩)
      ⟨hc0, hcr, hfz, bel1, fun j x hj => absurd hj (by omega)⟩
      (fun x => { tmps := #[.iface 160 (.agg #[.pointer (some ⟨b, o, none⟩), .int .u8 st]), .int .i64 ((L : Int) + 1), undef, .pointer (some ⟨w.heap.size, 0, none⟩), .pointer (some ⟨w.heap.size + 1, 0, none⟩), x, .int .i64 ((L : Int) + 1), .bool false, .bool false,
        .iface 160 (.agg #[.pointer (some ⟨b, o, none⟩), .int .u8 st]), .bool true, .bool false, .bool false, .iface 160 (.agg #[.pointer (some ⟨b, o, none⟩), .int .u8 st]), .iface 160 (.agg #[.pointer (some ⟨b, o, none⟩), .int .u8 st]),
        .func (.method "weftway/tree.has") #[.iface 160 (.agg #[.pointer (some ⟨b, o, none⟩), .int .u8 st])] #[], x, undef, undef, undef, undef, undef], defers := [] }) ?assign ?body ?done ?stop
    case assign =>
      intro l x W K hK
      gi_wp2
      exact hK
    case body =>
      rintro l k v W hv ⟨h0, hr, hf, hH⟩ hW
      have hk : k < t.args.length := by
        have := (List.getElem?_eq_some_iff.1 hv).1
        rwa [ptrs_len] at this
      rw [ptrs_get hk] at hv
      obtain rfl := Option.some.inj hv
      obtain ⟨x, hx, _⟩ := get_at hk
      obtain ⟨_, ao, cap, _, hsl⟩ := s1
      obtain ⟨_, hb1⟩ := hsl.resolve_left (by omega)
      obtain ⟨vx, cx, ix⟩ := PE.Row.get (PE.Row.below (hH.out.1.mono hB) hb1 r1) hx
      have hsz := hH.out.1.size
      have C : Hid (Calls Tryz.prog 74 #[.iface 160 (.agg #[.pointer (some ⟨b1', o1' + k * 8, none⟩), .int .u8 (inArgs t st : Nat)]), .int .i64 L] W fun e w' => e = .returned (.bool (wholeE L x (inArgs t st))) ∧ Below W.heap.size W w') := Lib.hid (ih B x (inArgs t st) b1' (o1' + k * 8) vx W (inArgs_le t hst) (by omega) (hm.below hH.out.1) (by omega) cx ix)
      have Hx := Lib.hid hx
      have HW := Lib.hid hW
      generalize hq : wholeE L x (inArgs t st) = q at *
      have Hq := Lib.hid hq
      clear hx hv cx ix hq hsl hW
      gi_wp2
      refine ⟨trivial, (CallsIn.inRound l (callsIn_wide.2 C.out)).mono ?_⟩
      rintro e W' ⟨rfl, b2⟩
      have g0 := (b2.cell (p := ⟨w.heap.size, 0, none⟩) (by have := HW.out; simp; omega)).trans h0
      have gr := (b2.cell (p := ⟨w.heap.size + 1, 0, none⟩) (by have := HW.out; simp; omega)).trans hr
      have gf := (b2.frozen (p := ⟨w.heap.size + 1, 0, none⟩) (by have := HW.out; simp; omega)).trans hf
      have HB := Lib.hid b2
      clear b2 C h0 hr hf
      cases q
      · gi_wp2
        exact ⟨(Keeps.of_below HB.out).setCell (p := ⟨w.heap.size + 1, 0, none⟩) (by simp) (by simp; omega) _, World.cell?_setCell_same' _ _ _ (by rw [gr]; rfl),
          Lib.hid ⟨(hH.out.1.trans (HB.out.mono (by omega))).setCell (p := ⟨w.heap.size + 1, 0, none⟩) (by simp) _, all_not2 Hx.out Hq.out⟩⟩
      · gi_wp2
        refine ⟨Keeps.of_below HB.out, g0, gr, gf, Lib.hid ⟨hH.out.1.trans (HB.out.mono (by omega)), fun j y hj hy => ?_⟩⟩
        by_cases e : j = k
        · subst e
          rw [Hx.out] at hy
          cases hy
          exact Hq.out
        · exact hH.out.2 j y (by omega) hy
    case done =>
      rintro D W hD ⟨h0, hr, hf, hH⟩ hK
      have hall := Lib.hid (all_yes2 (p := fun u => wholeE L u (inArgs t st)) (l := t.args) fun j x hx => hH.out.2 j x (by rw [ptrs_len]; exact (List.getElem?_eq_some_iff.1 hx).1) hx)
      gi_wp2
      have hK2 : (W.setCell ⟨w.heap.size + 1, 0, none⟩ (.bool true)).heap[D]? = some (.deferred (some [])) := (Below.heap_setCell W ⟨w.heap.size + 1, 0, none⟩ _ D (by simp; omega)).trans hK
      have hcell : ((W.setCell ⟨w.heap.size + 1, 0, none⟩ (.bool true)).putObj D (.deferred none)).cell? ⟨w.heap.size + 1, 0, none⟩ = some (.bool true) :=
        (World.cell?_of_block (World.putObj_heap_other (k := w.heap.size + 1) (by omega))).trans (World.cell?_setCell_same' _ _ _ (by rw [hr]; rfl))
      refine ⟨by simp, .inl ⟨_, _, rfl, run_takeDeferred hK2, ?_⟩⟩
      exact ⟨.bool true, by rw [results_cell1 rfl]; go_simp, ret_bool (by rw [hall.out]; rfl), below_putObj (hH.out.1.setCell (p := ⟨w.heap.size + 1, 0, none⟩) (by simp) _) (by omega) _⟩
    case stop =>
      rintro D k W hD hk ⟨hr, hH⟩ hK
      gi_wp2
      have hcell : (W.putObj D (.deferred none)).cell? ⟨w.heap.size + 1, 0, none⟩ = some (.bool false) :=
        (World.cell?_of_block (World.putObj_heap_other (k := w.heap.size + 1) (by omega))).trans hr
      refine ⟨by simp, .inl ⟨_, _, rfl, run_takeDeferred hK, ?_⟩⟩
      exact ⟨.bool false, by rw [results_cell1 rfl]; go_simp, ret_bool (by rw [hH.out.2]; rfl), below_putObj hH.out.1 (by omega) _⟩
theorem wholeE_calls : ∀ L, L ≤ 1000 → WholeEAt L
  | 0, _ => wholeE_zero
  | L + 1, h => wholeE_succ L (by omega) (wholeE_calls L (by omega))
end Go.Proofs.YthilicmhdkmipaaGreatDoor
/- The document's own way of saying what is whole, third part: what an expression's walk asks of the ones that it calls. -/
namespace Go.Proofs.YthilicmhdkmipaaGreatDoor
open Go.RowKit
set_option linter.unusedVariables false

/-- rSh, at a form -/
def rShF (f : List UInt8) (e : PE) : Bool := manyL f e.args.length && (rInt f e && (rPlace f e && (rName f e && rSecond f e)))
def RefWEAt (n : Nat) : Prop := ∀ (B : Nat) (e : PE) (v : VE) (w : World), B ≤ w.heap.size → e.In B w v →
  Calls Tryz.prog 21 #[.agg (e.cells v).toArray, .int .i64 n] w fun r w' => r = .returned (.bool (rE n e)) ∧ Below w.heap.size w w'
end Go.Proofs.YthilicmhdkmipaaGreatDoor
