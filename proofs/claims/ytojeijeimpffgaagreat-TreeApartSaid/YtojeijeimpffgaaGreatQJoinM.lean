/- An erased tree is, as a tree of parts, the tree itself. -/
import Derived.Test.YtojeijeimpffgaaGreatQJoinL
import Derived.Test.YtojeijeimpffgaaGreatQTreeCopyI
import Derived.Test.YtojeijeimpffgaaGreatQTreeBench
namespace Go.Proofs.YtojeijeimpffgaaGreat
open Go.RowKit
set_option linter.unusedVariables false

mutual
theorem sameE_er (z : Bool) : ∀ (e m : PE), sameE false (erE z e) m = sameE false e m
  | .mk op i n s p l pos, m => by rw [erE, sameE, sameE, sameEs_er z l m.args]; simp
theorem sameEs_er (z : Bool) : ∀ (l m : List PE), sameEs false (erEs z l) m = sameEs false l m
  | [], m => by rw [erEs]
  | a :: l, [] => by rw [erEs, sameEs, sameEs]
  | a :: l, b :: m => by rw [erEs, sameEs, sameEs, sameE_er z a b, sameEs_er z l m]
end
theorem fitE_er (z : Bool) (e : PE) (st : Nat) : fitE (erE z e) st = fitE e st := by
  have h := sameE_er z e zeroE
  obtain ⟨op, i, n, s, p, l, pos⟩ := e
  unfold fitE
  rw [h, erE]
  simp only [lentB, fitSh, fitPl, PE.op, PE.int, PE.name, PE.second, PE.place, PE.args, erEs_len]
  first | rfl | congr | (split <;> first | rfl | congr)
mutual
theorem rtE_er (z : Bool) : ∀ (e : PE) (st : Nat), rtE (erE z e) st = rtE e st
  | .mk op i n s p l pos, st => by
    have h := fitE_er z (.mk op i n s p l pos) st
    rw [erE] at h
    rw [erE, rtE, rtE, h, rtEs_er z l]
    rfl
theorem rtEs_er (z : Bool) : ∀ (l : List PE) (st : Nat), rtEs (erEs z l) st = rtEs l st
  | [], _ => by rw [erEs]
  | t :: l, st => by rw [erEs, rtEs, rtEs, rtE_er z t, rtEs_er z l]
end
theorem erAs_lenX (z : Bool) : ∀ (l : List PA), (erAs z l).length = l.length
  | [] => rfl
  | t :: l => by simp [erAs, erAs_lenX z l]
theorem erSs_lenX (z : Bool) : ∀ (l : List PS), (erSs z l).length = l.length
  | [] => rfl
  | t :: l => by simp [erSs, erSs_lenX z l]
theorem arms_er (z : Bool) : ∀ (l : List PA), (erAs z l).all armB = l.all armB
  | [] => by rw [erAs]
  | .mk v n bo :: l => by rw [erAs, List.all_cons, List.all_cons, arms_er z l, erA]; simp [armB, PA.variant, PA.name]
mutual
theorem rtS_er (z : Bool) : ∀ (x : PS), rtS (erS z x) = rtS x
  | .mk op n s ns t i p es bo el ar pos => by
    have h : fitSS (sSh op) n s ns t i p (erEs z es) (erSs z bo) (erSs z el) (erAs z ar) = fitSS (sSh op) n s ns t i p es bo el ar := by
      unfold fitSS fitLists fitArms
      rw [erEs_len, erSs_lenX, erSs_lenX, erAs_lenX, arms_er]
    rw [erS, rtS, rtS, h, rtEs_er, rtSs_er z bo, rtSs_er z el, rtAs_er z ar]
theorem rtSs_er (z : Bool) : ∀ (l : List PS), rtSs (erSs z l) = rtSs l
  | [] => by rw [erSs]
  | x :: l => by rw [erSs, rtSs, rtSs, rtS_er z x, rtSs_er z l]
theorem rtAs_er (z : Bool) : ∀ (l : List PA), rtAs (erAs z l) = rtAs l
  | [] => by rw [erAs]
  | x :: l => by rw [erAs, rtAs, rtAs, rtA_er z x, rtAs_er z l]
theorem rtA_er (z : Bool) : ∀ (x : PA), rtA (erA z x) = rtA x
  | .mk v n bo => by rw [erA, rtA, rtA, rtSs_er z bo]
end
theorem rtI_er (z : Bool) (x : PI) : rtI (erI z x) = rtI x := by
  unfold rtI erI fitII
  simp only [rtSs_er, rtE_er, erSs_lenX]
theorem rtP_er (z : Bool) (p : List PI) : rtP (p.map (erI z)) = rtP p := by
  have h : (p.map (erI z)).map rtI = p.map rtI := by
    rw [List.map_map]; exact List.map_congr_left fun x _ => rtI_er z x
  rw [rtP, rtP, h, List.length_map]
end Go.Proofs.YtojeijeimpffgaaGreat
/- Same doesn't mind which one is asked first; what is erased is the same, places apart. -/
namespace Go.Proofs.YtojeijeimpffgaaGreat
open Go.RowKit
set_option linter.unusedVariables false

theorem dec_comm {α : Type} [DecidableEq α] (a b : α) : decide (a = b) = decide (b = a) := decide_eq_decide.2 eq_comm
theorem sameW_comm (a b : ByteArray) : sameW a b = sameW b a := by rw [sameW_eq, sameW_eq, dec_comm]
theorem allW_comm {α : Type} {f : α → α → Bool} : ∀ {a b : List α}, (∀ x ∈ a, ∀ y, f x y = f y x) → allW f a b = allW f b a
  | [], [], _ => rfl
  | [], _ :: _, _ => rfl
  | _ :: _, [], _ => rfl
  | x :: l, y :: m, h => by rw [allW, allW, h x (by simp) y, allW_comm (fun z hz => h z (by simp [hz]))]
theorem samePl_comm (a b : PP) : samePl a b = samePl b a := by
  unfold samePl; rw [sameW_comm, allW_comm fun x _ y => sameW_comm x y]
mutual
theorem sameT_comm : ∀ a b : PT, sameT a b = sameT b a
  | .mk k n l, .mk k2 n2 m => by rw [sameT_mk, sameT_mk, dec_comm k, sameW_comm n, sameTs_comm l m]
theorem sameTs_comm : ∀ a b : List PT, sameTs a b = sameTs b a
  | [], [] => rfl
  | [], _ :: _ => by rw [sameTs, sameTs]
  | _ :: _, [] => by rw [sameTs, sameTs]
  | x :: l, y :: m => by rw [sameTs, sameTs, sameT_comm x y, sameTs_comm l m]
end
mutual
theorem sameE_comm (z : Bool) : ∀ a b : PE, sameE z a b = sameE z b a
  | .mk op i n s p l pos, .mk op2 i2 n2 s2 p2 m pos2 => by
    rw [sameE_mk, sameE_mk, sameEs_comm z l, dec_comm op, dec_comm i, sameW_comm n, sameW_comm s, dec_comm pos, samePl_comm p]
theorem sameEs_comm (z : Bool) : ∀ a b : List PE, sameEs z a b = sameEs z b a
  | [], [] => rfl
  | [], _ :: _ => by rw [sameEs, sameEs]
  | _ :: _, [] => by rw [sameEs, sameEs]
  | x :: l, y :: m => by rw [sameEs, sameEs, sameE_comm z x y, sameEs_comm z l m]
end
mutual
theorem sameS_comm (z : Bool) : ∀ a b : PS, sameS z a b = sameS z b a
  | .mk op n s ns t i p es bo el ar pos, .mk op' n' s' ns' t' i' p' es' bo' el' ar' pos' => by
    rw [sameS, sameS, sameSs_comm z bo, sameSs_comm z el, sameAs_comm z ar, sameEs_comm z es, dec_comm op, sameW_comm n, sameW_comm s, dec_comm i, dec_comm pos, sameT_comm t, samePl_comm p, allW_comm fun x _ y => sameW_comm x y]
theorem sameA_comm (z : Bool) : ∀ a b : PA, sameA z a b = sameA z b a
  | .mk x n bo, .mk x' n' bo' => by rw [sameA, sameA, sameW_comm x, sameW_comm n, sameSs_comm z bo]
theorem sameSs_comm (z : Bool) : ∀ a b : List PS, sameSs z a b = sameSs z b a
  | [], [] => rfl
  | [], _ :: _ => by rw [sameSs, sameSs]
  | _ :: _, [] => by rw [sameSs, sameSs]
  | x :: l, y :: m => by rw [sameSs, sameSs, sameS_comm z x y, sameSs_comm z l m]
theorem sameAs_comm (z : Bool) : ∀ a b : List PA, sameAs z a b = sameAs z b a
  | [], [] => rfl
  | [], _ :: _ => by rw [sameAs, sameAs]
  | _ :: _, [] => by rw [sameAs, sameAs]
  | x :: l, y :: m => by rw [sameAs, sameAs, sameA_comm z x y, sameAs_comm z l m]
end
theorem sameI_comm (z : Bool) (a b : PI) : sameI z a b = sameI z b a := by
  unfold sameI
  rw [dec_comm a.kind, sameW_comm a.name, dec_comm a.pos, sameT_comm a.result, sameSs_comm z a.body, sameE_comm z a.ret, allW_comm (f := sameF) fun x _ y => by unfold sameF; rw [sameW_comm, sameT_comm]]
theorem sameProg_comm (z : Bool) (p q : List PI) : sameProg z p q = sameProg z q p := allW_comm fun x _ y => sameI_comm z x y
mutual
theorem sameS_er (z : Bool) : ∀ (a m : PS), sameS false (erS z a) m = sameS false a m
  | .mk op n s ns t i p es bo el ar pos, .mk op' n' s' ns' t' i' p' es' bo' el' ar' pos' => by
    rw [erS, sameS, sameS, sameEs_er z es, sameSs_er z bo, sameSs_er z el, sameAs_er z ar]; simp
theorem sameA_er (z : Bool) : ∀ (a m : PA), sameA false (erA z a) m = sameA false a m
  | .mk x n bo, .mk x' n' bo' => by rw [erA, sameA, sameA, sameSs_er z bo]
theorem sameSs_er (z : Bool) : ∀ (l m : List PS), sameSs false (erSs z l) m = sameSs false l m
  | [], m => by rw [erSs]
  | a :: l, [] => by rw [erSs, sameSs, sameSs]
  | a :: l, b :: m => by rw [erSs, sameSs, sameSs, sameS_er z a b, sameSs_er z l m]
theorem sameAs_er (z : Bool) : ∀ (l m : List PA), sameAs false (erAs z l) m = sameAs false l m
  | [], m => by rw [erAs]
  | a :: l, [] => by rw [erAs, sameAs, sameAs]
  | a :: l, b :: m => by rw [erAs, sameAs, sameAs, sameA_er z a b, sameAs_er z l m]
end
theorem sameI_er (z : Bool) (a m : PI) : sameI false (erI z a) m = sameI false a m := by
  unfold sameI erI
  simp [sameSs_er, sameE_er]
theorem sameProg_er (z : Bool) : ∀ p q : List PI, sameProg false (p.map (erI z)) q = sameProg false p q
  | [], q => rfl
  | a :: l, [] => rfl
  | a :: l, b :: m => by
    have h := sameProg_er z l m
    unfold sameProg at h ⊢
    rw [List.map_cons, allW, allW, sameI_er, h]
theorem sameProg_er2 (z : Bool) (p : List PI) : sameProg false p (p.map (erI z)) = true := by rw [sameProg_comm, sameProg_er, sameProg_refl]
end Go.Proofs.YtojeijeimpffgaaGreat
/- Erasing again changes nothing; what is erased is as small. -/
namespace Go.Proofs.YtojeijeimpffgaaGreat
open Go.RowKit
set_option linter.unusedVariables false

mutual
theorem erE_twice (z : Bool) : ∀ e : PE, erE z (erE z e) = erE z e
  | .mk op i n s p l pos => by rw [erE, erE, erEs_twice z l]; cases z <;> rfl
theorem erEs_twice (z : Bool) : ∀ l : List PE, erEs z (erEs z l) = erEs z l
  | [] => by rw [erEs, erEs]
  | a :: l => by rw [erEs, erEs, erE_twice z a, erEs_twice z l]
end
mutual
theorem erS_twice (z : Bool) : ∀ x : PS, erS z (erS z x) = erS z x
  | .mk op n s ns t i p es bo el ar pos => by rw [erS, erS, erEs_twice, erSs_twice z bo, erSs_twice z el, erAs_twice z ar]; cases z <;> rfl
theorem erA_twice (z : Bool) : ∀ x : PA, erA z (erA z x) = erA z x
  | .mk v n bo => by rw [erA, erA, erSs_twice z bo]
theorem erSs_twice (z : Bool) : ∀ l : List PS, erSs z (erSs z l) = erSs z l
  | [] => by rw [erSs, erSs]
  | a :: l => by rw [erSs, erSs, erS_twice z a, erSs_twice z l]
theorem erAs_twice (z : Bool) : ∀ l : List PA, erAs z (erAs z l) = erAs z l
  | [] => by rw [erAs, erAs]
  | a :: l => by rw [erAs, erAs, erA_twice z a, erAs_twice z l]
end
theorem erI_twice (z : Bool) (x : PI) : erI z (erI z x) = erI z x := by
  unfold erI; simp only [erSs_twice, erE_twice]; cases z <;> rfl
theorem erP_twice (z : Bool) (p : List PI) : (p.map (erI z)).map (erI z) = p.map (erI z) := by
  rw [List.map_map]; exact List.map_congr_left fun x _ => erI_twice z x
theorem erEs_mem (z : Bool) : ∀ {l : List PE} {x : PE}, x ∈ erEs z l → ∃ y, y ∈ l ∧ x = erE z y
  | [], x, h => by rw [erEs] at h; simp at h
  | a :: l, x, h => by
    rw [erEs] at h
    rcases List.mem_cons.1 h with rfl | h1
    · exact ⟨a, by simp, rfl⟩
    · obtain ⟨y, h2, h3⟩ := erEs_mem z h1
      exact ⟨y, by simp [h2], h3⟩
theorem smE_er (z : Bool) : ∀ {e : PE}, SmE e → SmE (erE z e) := by
  intro e h
  induction h with
  | mk op i n s p l pos hn hs hp h h2 ih =>
    rw [erE]
    refine .mk _ _ _ _ _ _ _ hn hs hp (by rw [erEs_len]; exact h) fun t ht => ?_
    obtain ⟨y, h3, rfl⟩ := erEs_mem z ht
    exact ih y h3
mutual
theorem smS_er (z : Bool) : ∀ x : PS, SmS x → SmS (erS z x)
  | .mk op n s ns t i p es bo el ar pos, h => by
    rw [SmS] at h
    rw [erS, SmS]
    obtain ⟨h1, h2, h3, h4, h5, h6, h7, h8⟩ := h
    refine ⟨h1, h2, h3, h4, ⟨by rw [erEs_len]; exact h5.1, fun e he => ?_⟩, ⟨by rw [erSs_lenX]; exact h6.1, smSs_er z bo h6.2⟩, ⟨by rw [erSs_lenX]; exact h7.1, smSs_er z el h7.2⟩, ⟨by rw [erAs_lenX]; exact h8.1, smAs_er z ar h8.2⟩⟩
    obtain ⟨y, h9, rfl⟩ := erEs_mem z he
    exact smE_er z (h5.2 y h9)
theorem smA_er (z : Bool) : ∀ x : PA, SmA x → SmA (erA z x)
  | .mk v n bo, h => by
    rw [SmA] at h
    rw [erA, SmA]
    exact ⟨h.1, by rw [erSs_lenX]; exact h.2.1, smSs_er z bo h.2.2⟩
theorem smSs_er (z : Bool) : ∀ l : List PS, SmSs l → SmSs (erSs z l)
  | [], h => by rw [erSs, SmSs]; trivial
  | a :: l, h => by
    rw [SmSs] at h
    rw [erSs, SmSs]
    exact ⟨smS_er z a h.1, smSs_er z l h.2⟩
theorem smAs_er (z : Bool) : ∀ l : List PA, SmAs l → SmAs (erAs z l)
  | [], h => by rw [erAs, SmAs]; trivial
  | a :: l, h => by
    rw [SmAs] at h
    rw [erAs, SmAs]
    exact ⟨smA_er z a h.1, smAs_er z l h.2⟩
end
theorem smI_er (z : Bool) {x : PI} (h : SmI x) : SmI (erI z x) := by
  obtain ⟨h1, h2, h3, h4, h5⟩ := h
  exact ⟨h1, h2, h3, ⟨by show (erSs z x.body).length ≤ _; rw [erSs_lenX]; exact h4.1, smSs_er z _ h4.2⟩, smE_er z h5⟩
end Go.Proofs.YtojeijeimpffgaaGreat
