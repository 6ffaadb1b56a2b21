/- TreeBlock holds for every input: the call returns true, and its arguments read behind it as they did. No condition. -/
import Derived.Test.YtabncmmadbjegaaGreatRows
import Derived.Test.YtabncmmadbjegaaGreatTreeBlockLaw
import Derived.Test.YtabncmmadbjegaaGreatJoinO
import Derived.Test.YtabncmmadbjegaaGreatJoinD
import Derived.WalkKit
import Derived.ProofKit
import Derived.OpenShut
import Derived.ChangeOld
import Derived.Below
import Derived.Carry
import Derived.HandedShaped
namespace Go.Proofs.YtabncmmadbjegaaGreat.treeBlock
open Go.ChangeShapes Go.WideShapes Go.ChangeAt Go.RowKit
set_option linter.unusedVariables false

theorem own : ownKnob Tryz.prog.godebug = none := by kernel_rfl
theorem laidOut : laidOutB Tryz.prog = true := by kernel_rfl

section
variable {H : Type} {enc : TypeId × Value → H} {w : World} {spare : Nat → Bool} {held : Bool}
theorem stmtsOf (fuel : Nat) (ao : Option Addr) (n c : Nat) (x : DataW H × List MemPlace) (h : DataW.trod enc Tryz.prog w 0 spare held fuel 44 [.slice ao n c] = some x) : ∃ l : List PS, SLIn w.heap.size w l (.slice ao n c) := by
  obtain ⟨ax, lx, cx, nx, bx, ox, e, hnx, sx, elx⟩ := slice_open Tryz.underlying44 (show Tryz.prog.cellsOf 51 = 15 from by kernel_rfl) (by omega) h
  obtain ⟨rfl, rfl, rfl⟩ : ao = ax ∧ n = lx ∧ c = cx := by simpa using e
  obtain ⟨L, hL, rL⟩ := PS.Row.mk (B := w.heap.size) (w := w) (b := bx) (n := n) (o := ox) (fun i hi => by
    obtain ⟨ci, y, h1, h2⟩ := elx i hi
    obtain ⟨t, v, rfl, hin⟩ := (stmtOf _).1 ci y h2
    exact ⟨t, v, h1, hin⟩)
  subst hL
  exact ⟨L, bx, ox, sx, rL⟩
end
set_option maxRecDepth 100000 in
set_option maxHeartbeats 1000000 in
theorem lifted (os : Os) (started : os.Started) (H : Type) (enc : TypeId × Value → H) :
    ReturnsInHanded {} Tryz.checked os 7 .any (Rows.treeBlockSpec.pre6 enc Tryz.prog Tryz.f7 Rows.treeBlockRow.domain false) (Rows.treeBlockSpec.post enc Tryz.prog Tryz.f7 false true false false) := by
  refine returnsInHanded_of_change_shaped (C := Tryz.checked) own started (by kernel_rfl) Tryz.func7
    (ChangeSpec.witness6 (enc := enc) (C := Tryz.checked) false ⟨#[], #[.slice none 0 0], []⟩ 8 (by kernel_rfl) (by kernel_rfl) (by kernel_rfl) (by kernel_rfl)) ?_
  intro W base args ds gs before hval0 hW _ _ hsh _
  have hval : ∀ (j : Nat) t v, Tryz.f7.params[j]? = some t → args[j]? = some v → Value.okWide Tryz.prog W .any base t v := hval0
  have hW' := hW
  obtain ⟨p, q, hA0, hV, rfl, hfz, hnd⟩ := hW
  have hA : DataW.TrodAll enc Tryz.prog W 0 (fun _ => true) true Tryz.f7.params.toList args.toList ds p := hA0
  rw [Tryz.params7] at hA hval
  obtain ⟨v0, vs0, d0, ds0, p0, q0, hargs, rfl, rfl, h0, r0⟩ := trodAll_cons hA
  obtain ⟨rfl, rfl, rfl⟩ := trodAll_nil r0
  obtain rfl : args = #[v0] := by cases args; simp_all
  obtain ⟨rfl, rfl⟩ := trodVars_none hV
  have k0 := h0
  have z0 : ∀ x ∈ p0, x.block < W.heap.size := fun x hx => hW'.lt x (by simp [hx])
  obtain ⟨ao0, n0, c0, rfl⟩ := okWide_slice Tryz.underlying44 (hval 0 44 v0 rfl rfl)
  obtain ⟨fu0, g0⟩ := h0
  obtain ⟨T0, in0⟩ := stmtsOf fu0 ao0 n0 c0 _ g0
  clear hA0 hval0
  refine (treeBlock_walk T0 ao0 n0 c0 W (max_of hsh) in0).mono fun e W' ⟨he, bel⟩ => ?_
  subst he
  exact ⟨_, rfl, _, _, _, [], _, [], hW', trodAll_mk1 (shut_bool Tryz.underlying4 _), (trodAll_cons_mk (Below.trod laidOut (by kernel_rfl) (of_decide_eq_true (by kernel_rfl)) k0 bel z0) trodAll_mk0), rfl, bel.frame _, fun h => by cases h⟩

theorem over : Rows.treeBlockRow.holds Tryz.pinned (OpenSpec.ofChange Rows.treeBlockSpec) :=
  OpenClaim.holds_of_wide 7 Tryz.f7 rfl rfl rfl rfl rfl rfl rfl ⟨rfl, rfl, rfl, rfl, rfl⟩ rfl rfl rfl rfl rfl (by kernel_rfl) Tryz.func7 (by kernel_rfl)
    (of_decide_eq_true (by kernel_rfl)) (by unfold Func.isWrapper; first | (rw [if_pos (by decide +kernel)]; kernel_rfl) | (rw [if_neg (by decide +kernel)]; exact ⟨rfl, rfl⟩))
    (fun os started H enc _ => lifted os started H enc)

theorem proved : Rows.TreeBlockSaid :=
  over
#print axioms proved
end Go.Proofs.YtabncmmadbjegaaGreat.treeBlock
