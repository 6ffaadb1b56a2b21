/- TreeSame holds for every input: the call returns true, and its arguments read behind it as they did. No condition. -/
import Derived.Test.YthidkpmoacdifaaRows
import Derived.Test.YthidkpmoacdifaaTreeSameLaw
import Derived.Test.YthidkpmoacdifaaTreeRefPF
import Derived.Test.YthidkpmoacdifaaTreeOpen2
import Derived.WalkKit
import Derived.ProofKit
import Derived.OpenShut
import Derived.ChangeOld
import Derived.Below
import Derived.Carry
namespace Go.Proofs.Ythidkpmoacdifaa.treeSame
open Go.ChangeShapes Go.WideShapes Go.ChangeAt Go.RowKit
set_option linter.unusedVariables false

theorem own : ownKnob Try.prog.godebug = none := by kernel_rfl
theorem laidOut : laidOutB Try.prog = true := by kernel_rfl

set_option maxRecDepth 100000 in
set_option maxHeartbeats 1000000 in
theorem lifted (os : Os) (started : os.Started) (H : Type) (enc : TypeId × Value → H) :
    ReturnsInHanded {} Try.checked os 5 .any (Rows.treeSameSpec.pre6 enc Try.prog Try.f5 Rows.treeSameRow.domain false) (Rows.treeSameSpec.post enc Try.prog Try.f5 false true false false) := by
  refine returnsInHanded_of_change (C := Try.checked) own started (by kernel_rfl) Try.func5
    (ChangeSpec.witness6 (enc := enc) (C := Try.checked) false ⟨#[], #[.agg #[.slice none 0 0], .agg #[.slice none 0 0], .agg #[.int .u8 0, .string ⟨#[]⟩, .slice none 0 0], .agg #[.int .u8 0, .string ⟨#[]⟩, .slice none 0 0], .agg #[.int .u8 0, .int .i64 0, .string ⟨#[]⟩, .string ⟨#[]⟩, .string ⟨#[]⟩, .slice none 0 0, .slice none 0 0, .int .i64 0], .agg #[.int .u8 0, .int .i64 0, .string ⟨#[]⟩, .string ⟨#[]⟩, .string ⟨#[]⟩, .slice none 0 0, .slice none 0 0, .int .i64 0]], []⟩ 8 (by kernel_rfl) (by kernel_rfl) (by kernel_rfl) (by kernel_rfl)) ?_
  intro W base args ds gs before hval0 hW _ _
  have hval : ∀ (j : Nat) t v, Try.f5.params[j]? = some t → args[j]? = some v → Value.okWide Try.prog W .any base t v := hval0
  have hW' := hW
  obtain ⟨p, q, hA0, hV, rfl, hfz, hnd⟩ := hW
  have hA : DataW.TrodAll enc Try.prog W 0 (fun _ => true) true Try.f5.params.toList args.toList ds p := hA0
  rw [Try.params5] at hA hval
  obtain ⟨v0, vs0, d0, ds0, p0, q0, hargs, rfl, rfl, h0, r0⟩ := trodAll_cons hA
  obtain ⟨v1, vs1, d1, ds1, p1, q1, rfl, rfl, rfl, h1, r1⟩ := trodAll_cons r0
  obtain ⟨v2, vs2, d2, ds2, p2, q2, rfl, rfl, rfl, h2, r2⟩ := trodAll_cons r1
  obtain ⟨v3, vs3, d3, ds3, p3, q3, rfl, rfl, rfl, h3, r3⟩ := trodAll_cons r2
  obtain ⟨v4, vs4, d4, ds4, p4, q4, rfl, rfl, rfl, h4, r4⟩ := trodAll_cons r3
  obtain ⟨v5, vs5, d5, ds5, p5, q5, rfl, rfl, rfl, h5, r5⟩ := trodAll_cons r4
  obtain ⟨rfl, rfl, rfl⟩ := trodAll_nil r5
  obtain rfl : args = #[v0, v1, v2, v3, v4, v5] := by cases args; simp_all
  obtain ⟨rfl, rfl⟩ := trodVars_none hV
  have k0 := h0
  have z0 : ∀ x ∈ p0, x.block < W.heap.size := fun x hx => hW'.lt x (by simp [hx])
  have k1 := h1
  have z1 : ∀ x ∈ p1, x.block < W.heap.size := fun x hx => hW'.lt x (by simp [hx])
  have k2 := h2
  have z2 : ∀ x ∈ p2, x.block < W.heap.size := fun x hx => hW'.lt x (by simp [hx])
  have k3 := h3
  have z3 : ∀ x ∈ p3, x.block < W.heap.size := fun x hx => hW'.lt x (by simp [hx])
  have k4 := h4
  have z4 : ∀ x ∈ p4, x.block < W.heap.size := fun x hx => hW'.lt x (by simp [hx])
  have k5 := h5
  have z5 : ∀ x ∈ p5, x.block < W.heap.size := fun x hx => hW'.lt x (by simp [hx])
  obtain ⟨⟨cs0⟩, rfl, _⟩ := okWide_struct Try.underlying39 (hval 0 39 v0 rfl rfl)
  obtain ⟨fu0, g0⟩ := h0
  obtain ⟨⟨cs1⟩, rfl, _⟩ := okWide_struct Try.underlying39 (hval 1 39 v1 rfl rfl)
  obtain ⟨fu1, g1⟩ := h1
  obtain ⟨⟨cs2⟩, rfl, _⟩ := okWide_struct Try.underlying24 (hval 2 24 v2 rfl rfl)
  obtain ⟨fu2, g2⟩ := h2
  obtain ⟨⟨cs3⟩, rfl, _⟩ := okWide_struct Try.underlying24 (hval 3 24 v3 rfl rfl)
  obtain ⟨fu3, g3⟩ := h3
  obtain ⟨⟨cs4⟩, rfl, _⟩ := okWide_struct Try.underlying30 (hval 4 30 v4 rfl rfl)
  obtain ⟨fu4, g4⟩ := h4
  obtain ⟨⟨cs5⟩, rfl, _⟩ := okWide_struct Try.underlying30 (hval 5 30 v5 rfl rfl)
  obtain ⟨fu5, g5⟩ := h5
  obtain ⟨T0, ao0, n0, c0, e0, in0⟩ := progOf fu0 _ _ g0
  obtain rfl : cs0 = [.slice ao0 n0 c0] := e0
  obtain ⟨T1, ao1, n1, c1, e1, in1⟩ := progOf fu1 _ _ g1
  obtain rfl : cs1 = [.slice ao1 n1 c1] := e1
  obtain ⟨T2, V2, e2, in2⟩ := typeOf fu2 _ _ g2
  obtain ⟨ao2, n2, c2, rfl⟩ := in2.shape
  obtain rfl : cs2 = T2.cells (.slice ao2 n2 c2) := e2
  obtain ⟨T3, V3, e3, in3⟩ := typeOf fu3 _ _ g3
  obtain ⟨ao3, n3, c3, rfl⟩ := in3.shape
  obtain rfl : cs3 = T3.cells (.slice ao3 n3 c3) := e3
  obtain ⟨T4, V4, e4, in4⟩ := exprOf fu4 _ _ g4
  obtain ⟨ao4, n4, c4, bo4, m4, dd4, rfl⟩ := in4.shape
  obtain rfl : cs4 = T4.cells ⟨.slice ao4 n4 c4, .slice bo4 m4 dd4⟩ := e4
  obtain ⟨op4, iv4, nm4, sc4, pl4, es4, at4⟩ := T4
  obtain ⟨T5, V5, e5, in5⟩ := exprOf fu5 _ _ g5
  obtain ⟨ao5, n5, c5, bo5, m5, dd5, rfl⟩ := in5.shape
  obtain rfl : cs5 = T5.cells ⟨.slice ao5 n5 c5, .slice bo5 m5 dd5⟩ := e5
  obtain ⟨op5, iv5, nm5, sc5, pl5, es5, at5⟩ := T5
  clear hA0 hval0
  refine (treeSame_walk T0 T1 ao0 n0 c0 ao1 n1 c1 T2 T3 ao2 n2 c2 ao3 n3 c3 op4 iv4 nm4 sc4 pl4 es4 at4 ao4 n4 c4 bo4 m4 dd4 op5 iv5 nm5 sc5 pl5 es5 at5 ao5 n5 c5 bo5 m5 dd5 W in0 in1 in2 in3 in4 in5
    (Lib.hid fun w' hB h => refProg_callsF W.heap.size T0 T1 _ _ w' hB (in0.below h) (in1.below h))).mono fun e W' ⟨he, bel⟩ => ?_
  subst he
  exact ⟨_, rfl, _, _, _, [], _, [], hW', trodAll_mk1 (shut_bool Try.underlying4 _), (trodAll_cons_mk (Below.trod laidOut (by kernel_rfl) (of_decide_eq_true (by kernel_rfl)) k0 bel z0) (trodAll_cons_mk (Below.trod laidOut (by kernel_rfl) (of_decide_eq_true (by kernel_rfl)) k1 bel z1) (trodAll_cons_mk (Below.trod laidOut (by kernel_rfl) (of_decide_eq_true (by kernel_rfl)) k2 bel z2) (trodAll_cons_mk (Below.trod laidOut (by kernel_rfl) (of_decide_eq_true (by kernel_rfl)) k3 bel z3) (trodAll_cons_mk (Below.trod laidOut (by kernel_rfl) (of_decide_eq_true (by kernel_rfl)) k4 bel z4) (trodAll_cons_mk (Below.trod laidOut (by kernel_rfl) (of_decide_eq_true (by kernel_rfl)) k5 bel z5) trodAll_mk0)))))), rfl, bel.frame _, fun h => by cases h⟩

theorem over : Rows.treeSameRow.holds Try.pinned (OpenSpec.ofChange Rows.treeSameSpec) :=
  OpenClaim.holds_of_wide 5 Try.f5 rfl rfl rfl rfl rfl rfl rfl ⟨rfl, rfl, rfl, rfl, rfl⟩ rfl rfl rfl rfl rfl (by kernel_rfl) Try.func5 (by kernel_rfl)
    (of_decide_eq_true (by kernel_rfl)) (by unfold Func.isWrapper; first | (rw [if_pos (by decide +kernel)]; kernel_rfl) | (rw [if_neg (by decide +kernel)]; exact ⟨rfl, rfl⟩))
    (fun os started H enc _ => lifted os started H enc)

theorem proved : Rows.TreeSameSaid :=
  over
#print axioms proved
end Go.Proofs.Ythidkpmoacdifaa.treeSame
