/- How deep and how large a tree of parts is: as the document reckons it. -/
import Derived.Test.YtojeijeimpffgaaGreatRTreeRefD5
import Derived.Test.YtojeijeimpffgaaGreatRJoinL
namespace Go.Proofs.YtojeijeimpffgaaGreat
open Go.RowKit
set_option linter.unusedVariables false

mutual
theorem dT_eq : ∀ (t : PT) (st : Nat), depthR (rtT t st) = dT t
  | .mk k n l, st => by rw [rtT, depthR, dT, dTs_eq l]
theorem dTs_eq : ∀ l : List PT, depthRs (rtTs l) = dTs l
  | [] => by rw [rtTs, depthRs, dTs]
  | t :: l => by rw [rtTs, depthRs, dTs, dT_eq t 0, dTs_eq l]
end
mutual
theorem dE_eq : ∀ (e : PE) (st : Nat), depthR (rtE e st) = dE e
  | .mk op i n s p l pos, st => by rw [rtE, depthR, dE, dEs_eq l]
theorem dEs_eq : ∀ (l : List PE) (st : Nat), depthRs (rtEs l st) = dEs l
  | [], st => by rw [rtEs, depthRs, dEs]
  | t :: l, st => by rw [rtEs, depthRs, dEs, dE_eq t st, dEs_eq l st]
end
theorem depth_if (c : Prop) [Decidable c] (t : RT) : depthRs (if c then [t] else []) = (if c then depthR t else 0) := by
  split
  · rw [depthRs, depthRs]; omega
  · rfl
mutual
theorem dS_eq : ∀ s : PS, depthR (rtS s) = dS s
  | .mk op n s ns t i p es bo el ar pos => by
    rw [rtS, depthR, dS, depthRs_append, depthRs_append, depthRs_append, depthRs_append, depth_if, dT_eq, dEs_eq, dSs_eq bo, dSs_eq el, dAs_eq ar]
    omega
theorem dSs_eq : ∀ l : List PS, depthRs (rtSs l) = dSs l
  | [] => by rw [rtSs, depthRs, dSs]
  | t :: l => by rw [rtSs, depthRs, dSs, dS_eq t, dSs_eq l]
theorem dA_eq : ∀ a : PA, depthRs (rtA a) = dA a
  | .mk v n bo => by rw [rtA, dA, dSs_eq bo]
theorem dAs_eq : ∀ l : List PA, depthRs (rtAs l) = dAs l
  | [] => by rw [rtAs, depthRs, dAs]
  | t :: l => by rw [rtAs, depthRs_append, dAs, dA_eq t, dAs_eq l]
end
theorem dFs_eq (st : Nat) : ∀ l : List PF, depthRs (l.map (fun f => rtT f.type st)) = dFs l
  | [] => by rw [List.map_nil, depthRs, dFs]
  | f :: l => by rw [List.map_cons, depthRs, dFs, dT_eq, dFs_eq st l]
theorem dI_eq (x : PI) : depthR (rtI x) = dI x := by
  unfold rtI dI
  rw [depthR, depthRs_append, depthRs, depthRs_append, depthRs, depthRs, dFs_eq, dT_eq, dE_eq, dSs_eq]
  omega
theorem dIs_eq : ∀ l : List PI, depthRs (l.map rtI) = dIs l
  | [] => by rw [List.map_nil, depthRs, dIs]
  | x :: l => by rw [List.map_cons, depthRs, dIs, dI_eq, dIs_eq l]
theorem dP_eq (p : List PI) : depthR (rtP p) = dIs p + 1 := by rw [rtP, depthR, dIs_eq]

mutual
theorem nT_eq : ∀ (t : PT) (st : Nat), sizeR (rtT t st) = 0
  | .mk k n l, st => by rw [rtT, sizeR, nTs_eq l]
theorem nTs_eq : ∀ l : List PT, sizeRs (rtTs l) = 0
  | [] => by rw [rtTs, sizeRs]
  | t :: l => by rw [rtTs, sizeRs, nT_eq t 0, nTs_eq l]
end
theorem inArgs_three (e : PE) : inArgs e 3 = 3 := by unfold inArgs; rw [if_pos rfl]
theorem inArgs_less (e : PE) {st : Nat} (h : st < 3) : inArgs e st < 3 := by
  unfold inArgs
  rw [if_neg (by omega)]
  split <;> omega
mutual
theorem nE_three : ∀ (e : PE), sizeR (rtE e 3) = 0
  | .mk op i n s p l pos => by rw [rtE, sizeR, inArgs_three, if_pos rfl, nEs_three l]
theorem nEs_three : ∀ (l : List PE), sizeRs (rtEs l 3) = 0
  | [] => by rw [rtEs, sizeRs]
  | t :: l => by rw [rtEs, sizeRs, nE_three t, nEs_three l]
end
mutual
theorem nE_eq : ∀ (e : PE) (st : Nat), st < 3 → sizeR (rtE e st) = nE e
  | .mk op i n s p l pos, st, h => by rw [rtE, sizeR, nE, if_neg (by omega), nEs_eq l _ (inArgs_less _ h)]
theorem nEs_eq : ∀ (l : List PE) (st : Nat), st < 3 → sizeRs (rtEs l st) = nEs l
  | [], st, h => by rw [rtEs, sizeRs, nEs]
  | t :: l, st, h => by rw [rtEs, sizeRs, nEs, nE_eq t st h, nEs_eq l st h]
end
theorem size_if (c : Prop) [Decidable c] (t : PT) (st : Nat) : sizeRs (if c then [rtT t st] else []) = 0 := by
  split
  · rw [sizeRs, sizeRs, nT_eq]
  · rfl
theorem inExprs_less (op : Int) : inExprs op < 3 := by unfold inExprs; split <;> omega
mutual
theorem nS_eq : ∀ s : PS, sizeR (rtS s) = nS s
  | .mk op n s ns t i p es bo el ar pos => by
    rw [rtS, sizeR, nS, sizeRs_append, sizeRs_append, sizeRs_append, sizeRs_append, size_if, nEs_eq es _ (inExprs_less op), nSs_eq bo, nSs_eq el, nAs_eq ar]
    omega
theorem nSs_eq : ∀ l : List PS, sizeRs (rtSs l) = nSs l
  | [] => by rw [rtSs, sizeRs, nSs]
  | t :: l => by rw [rtSs, sizeRs, nSs, nS_eq t, nSs_eq l]
theorem nA_eq : ∀ a : PA, sizeRs (rtA a) = nA a
  | .mk v n bo => by rw [rtA, nA, nSs_eq bo]
theorem nAs_eq : ∀ l : List PA, sizeRs (rtAs l) = nAs l
  | [] => by rw [rtAs, sizeRs, nAs]
  | t :: l => by rw [rtAs, sizeRs_append, nAs, nA_eq t, nAs_eq l]
end
theorem nFs_eq (st : Nat) : ∀ l : List PF, sizeRs (l.map (fun f => rtT f.type st)) = 0
  | [] => by rw [List.map_nil, sizeRs]
  | f :: l => by rw [List.map_cons, sizeRs, nT_eq, nFs_eq st l]
theorem rest_is (k : Int) : (iSh k).rest = if k = 3 then 0 else 3 := by
  unfold iSh
  by_cases h1 : k = 1
  · subst h1; rfl
  · by_cases h2 : k = 2
    · subst h2; rfl
    · by_cases h3 : k = 3
      · subst h3; rfl
      · rw [if_neg h1, if_neg h2, if_neg h3, if_neg h3]
theorem nI_eq (x : PI) : sizeR (rtI x) = nI x := by
  unfold rtI nI
  rw [sizeR, sizeRs_append, sizeRs, sizeRs_append, sizeRs, sizeRs, nFs_eq, nT_eq, nSs_eq, rest_is]
  by_cases h : x.kind = 3
  · rw [if_pos h, if_pos h, nE_eq _ _ (by omega)]; omega
  · rw [if_neg h, if_neg h, nE_three]; omega
theorem nIs_eq : ∀ l : List PI, sizeRs (l.map rtI) = nIs l
  | [] => by rw [List.map_nil, sizeRs, nIs]
  | x :: l => by rw [List.map_cons, sizeRs, nIs, nI_eq, nIs_eq l]
theorem nP_eq (p : List PI) : sizeR (rtP p) = nIs p := by rw [rtP, sizeR, nIs_eq]; omega
end Go.Proofs.YtojeijeimpffgaaGreat

