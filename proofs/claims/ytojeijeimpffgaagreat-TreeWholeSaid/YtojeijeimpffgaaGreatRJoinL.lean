/- What is not too great has small names and short lists; what is the same as itself; copies with all places. -/
import Derived.Test.YtojeijeimpffgaaGreatRJoinN
import Derived.Test.YtojeijeimpffgaaGreatRJoinA
import Derived.Test.YtojeijeimpffgaaGreatRJoinG
namespace Go.Proofs.YtojeijeimpffgaaGreat
open Go.RowKit
set_option linter.unusedVariables false

theorem nameR_sm {m : Int} {n : Nat} (h : 0 ≤ nameR m n) (hm : m ≤ 1000000) : 0 ≤ m ∧ n ≤ 1000000 ∧ nameR m n ≤ m - 5 := by
  unfold nameR at h ⊢
  split at h
  · omega
  · rename_i h1
    rw [if_neg h1]; omega
theorem listR_sm {α : Type} {f : α → Int → Int} {P : α → Prop} : ∀ {l : List α} {m : Int}, (∀ x, x ∈ l → ∀ m, m ≤ 1000000 → 0 ≤ f x m → 0 ≤ m ∧ P x ∧ f x m ≤ m - 1) → 0 ≤ listR f l m → m ≤ 1000000 → 0 ≤ m ∧ (∀ x, x ∈ l → P x) ∧ listR f l m + l.length ≤ m
  | [], m, _, h, _ => by simp only [listR] at h ⊢; exact ⟨h, by simp, by simp⟩
  | x :: l, m, H, h, hm => by
    simp only [listR] at h ⊢
    by_cases hn : m < 0
    · rw [if_pos hn] at h; omega
    · rw [if_neg hn] at h ⊢
      have hx := H x (by simp) m hm
      have ht := listR_sm (l := l) (m := f x m) (fun y hy => H y (by simp [hy])) h
      by_cases hf : f x m ≤ 1000000
      · obtain ⟨a1, a2, a3⟩ := ht hf
        obtain ⟨b1, b2, b3⟩ := hx a1
        refine ⟨by omega, fun y hy => ?_, by simp; omega⟩
        rcases List.mem_cons.1 hy with rfl | h1
        · exact b2
        · exact a2 y h1
      · exfalso
        obtain ⟨b1, b2, b3⟩ := hx (by omega)
        omega
theorem namesR_sm {l : List ByteArray} {m : Int} (h : 0 ≤ namesR l m) (hm : m ≤ 1000000) : 0 ≤ m ∧ (l.length ≤ 1000000 ∧ ∀ s, s ∈ l → s.size ≤ 1000000) ∧ namesR l m ≤ m - 5 := by
  unfold namesR at h ⊢
  obtain ⟨a1, a2, a3⟩ := listR_sm (P := fun s : ByteArray => s.size ≤ 1000000) (fun x _ m h1 h2 => by
    obtain ⟨b1, b2, b3⟩ := nameR_sm h2 h1
    exact ⟨b1, b2, by omega⟩) h (by omega)
  exact ⟨by omega, ⟨by omega, a2⟩, by omega⟩
mutual
theorem typeR_sm : ∀ (t : PT) (m : Int), m ≤ 1000000 → 0 ≤ typeR t m → 0 ≤ m ∧ SmT t ∧ typeR t m ≤ m - 1
  | .mk k n ts, m, hm, h => by
    rw [typeR] at h ⊢
    have hn : nameR m n.size ≤ 1000000 := by unfold nameR; split <;> omega
    obtain ⟨a1, a2, a3⟩ := typesR_sm ts _ hn h
    obtain ⟨b1, b2, b3⟩ := nameR_sm a1 hm
    exact ⟨b1, .mk k n ts b2 (by omega) a2, by omega⟩
theorem typesR_sm : ∀ (l : List PT) (m : Int), m ≤ 1000000 → 0 ≤ typesR l m → 0 ≤ m ∧ (∀ t, t ∈ l → SmT t) ∧ typesR l m + l.length ≤ m
  | [], m, _, h => by rw [typesR] at h ⊢; exact ⟨h, by simp, by simp⟩
  | t :: l, m, hm, h => by
    rw [typesR] at h ⊢
    by_cases hn : m < 0
    · rw [if_pos hn] at h; omega
    · rw [if_neg hn] at h ⊢
      have hx := typeR_sm t m hm
      by_cases hf : typeR t m ≤ 1000000
      · obtain ⟨a1, a2, a3⟩ := typesR_sm l _ hf h
        obtain ⟨b1, b2, b3⟩ := hx a1
        refine ⟨by omega, fun y hy => ?_, by simp; omega⟩
        rcases List.mem_cons.1 hy with rfl | h1
        · exact b2
        · exact a2 y h1
      · exfalso
        obtain ⟨b1, b2, b3⟩ := hx (by omega)
        omega
end
theorem placeR_sm {x : PP} {m : Int} (h : 0 ≤ placeR x m) (hm : m ≤ 1000000) : 0 ≤ m ∧ SmP x ∧ placeR x m ≤ m - 1 := by
  unfold placeR at h ⊢
  obtain ⟨a1, a2, a3⟩ := namesR_sm h (by unfold nameR; split <;> omega)
  obtain ⟨b1, b2, b3⟩ := nameR_sm a1 hm
  exact ⟨b1, ⟨b2, a2⟩, by omega⟩
theorem nameR_le {m : Int} {n : Nat} (hm : m ≤ 1000000) : nameR m n ≤ 1000000 := by unfold nameR; split <;> omega
theorem listR_le {α : Type} {f : α → Int → Int} (H : ∀ x m, m ≤ 1000000 → f x m ≤ 1000000) : ∀ {l : List α} {m : Int}, m ≤ 1000000 → listR f l m ≤ 1000000
  | [], m, h => by simpa [listR] using h
  | x :: l, m, h => by
    simp only [listR]; split
    · exact h
    · exact listR_le H (H x m h)
theorem namesR_le {l : List ByteArray} {m : Int} (hm : m ≤ 1000000) : namesR l m ≤ 1000000 := listR_le (fun _ _ h => nameR_le h) (by omega)
theorem placeR_le {x : PP} {m : Int} (hm : m ≤ 1000000) : placeR x m ≤ 1000000 := namesR_le (nameR_le hm)
mutual
theorem typeR_le : ∀ (t : PT) (m : Int), m ≤ 1000000 → typeR t m ≤ 1000000
  | .mk k n ts, m, h => by rw [typeR]; exact typesR_le ts _ (nameR_le h)
theorem typesR_le : ∀ (l : List PT) (m : Int), m ≤ 1000000 → typesR l m ≤ 1000000
  | [], m, h => by rw [typesR]; exact h
  | t :: l, m, h => by
    rw [typesR]; split
    · exact h
    · exact typesR_le l _ (typeR_le t m h)
end
mutual
theorem exprR_le : ∀ (t : PE) (m : Int), m ≤ 1000000 → exprR t m ≤ 1000000
  | .mk _ _ n s p ts _, m, h => by rw [exprR]; exact exprsR_le ts _ (placeR_le (nameR_le (nameR_le h)))
theorem exprsR_le : ∀ (l : List PE) (m : Int), m ≤ 1000000 → exprsR l m ≤ 1000000
  | [], m, h => by rw [exprsR]; exact h
  | t :: l, m, h => by
    rw [exprsR]; split
    · exact h
    · exact exprsR_le l _ (exprR_le t m h)
end
mutual
theorem stmtR_le : ∀ (t : PS) (m : Int), m ≤ 1000000 → stmtR t m ≤ 1000000
  | .mk _ n s ns t _ p es bo el ar _, m, h => by
    rw [stmtR]; exact armsR_le ar _ (stmtsR_le el _ (stmtsR_le bo _ (exprsR_le es _ (placeR_le (typeR_le t _ (namesR_le (nameR_le (nameR_le h))))))))
theorem armR_le : ∀ (t : PA) (m : Int), m ≤ 1000000 → armR t m ≤ 1000000
  | .mk v n bo, m, h => by rw [armR]; exact stmtsR_le bo _ (nameR_le (nameR_le h))
theorem stmtsR_le : ∀ (l : List PS) (m : Int), m ≤ 1000000 → stmtsR l m ≤ 1000000
  | [], m, h => by rw [stmtsR]; exact h
  | t :: l, m, h => by
    rw [stmtsR]; split
    · exact h
    · exact stmtsR_le l _ (stmtR_le t m h)
theorem armsR_le : ∀ (l : List PA) (m : Int), m ≤ 1000000 → armsR l m ≤ 1000000
  | [], m, h => by rw [armsR]; exact h
  | t :: l, m, h => by
    rw [armsR]; split
    · exact h
    · exact armsR_le l _ (armR_le t m h)
end
mutual
theorem exprR_sm : ∀ (t : PE) (m : Int), m ≤ 1000000 → 0 ≤ exprR t m → 0 ≤ m ∧ SmE t ∧ exprR t m ≤ m - 1
  | .mk op i n s p ts pos, m, hm, h => by
    rw [exprR] at h ⊢
    obtain ⟨a1, a2, a3⟩ := exprsR_sm ts _ (placeR_le (nameR_le (nameR_le hm))) h
    obtain ⟨b1, b2, b3⟩ := placeR_sm a1 (nameR_le (nameR_le hm))
    obtain ⟨c1, c2, c3⟩ := nameR_sm b1 (nameR_le hm)
    obtain ⟨d1, d2, d3⟩ := nameR_sm c1 hm
    exact ⟨d1, .mk op i n s p ts pos d2 c2 b2 (by omega) a2, by omega⟩
theorem exprsR_sm : ∀ (l : List PE) (m : Int), m ≤ 1000000 → 0 ≤ exprsR l m → 0 ≤ m ∧ (∀ t, t ∈ l → SmE t) ∧ exprsR l m + l.length ≤ m
  | [], m, _, h => by rw [exprsR] at h ⊢; exact ⟨h, by simp, by simp⟩
  | t :: l, m, hm, h => by
    rw [exprsR] at h ⊢
    by_cases hn : m < 0
    · rw [if_pos hn] at h; omega
    · rw [if_neg hn] at h ⊢
      obtain ⟨a1, a2, a3⟩ := exprsR_sm l _ (exprR_le t m hm) h
      obtain ⟨b1, b2, b3⟩ := exprR_sm t m hm a1
      refine ⟨by omega, fun y hy => ?_, by simp; omega⟩
      rcases List.mem_cons.1 hy with rfl | h1
      · exact b2
      · exact a2 y h1
end
mutual
theorem stmtR_sm : ∀ (t : PS) (m : Int), m ≤ 1000000 → 0 ≤ stmtR t m → 0 ≤ m ∧ SmS t ∧ stmtR t m ≤ m - 1
  | .mk op n s ns t i p es bo el ar pos, m, hm, h => by
    rw [stmtR] at h ⊢
    have l1 := nameR_le (n := n.size) hm
    have l2 := nameR_le (n := s.size) l1
    have l3 := namesR_le (l := ns) l2
    have l4 := typeR_le t _ l3
    have l5 := placeR_le (x := p) l4
    have l6 := exprsR_le es _ l5
    have l7 := stmtsR_le bo _ l6
    have l8 := stmtsR_le el _ l7
    obtain ⟨a1, a2, a3⟩ := armsR_sm ar _ l8 h
    obtain ⟨b1, b2, b3⟩ := stmtsR_sm el _ l7 a1
    obtain ⟨c1, c2, c3⟩ := stmtsR_sm bo _ l6 b1
    obtain ⟨d1, d2, d3⟩ := exprsR_sm es _ l5 c1
    obtain ⟨e1, e2, e3⟩ := placeR_sm d1 l4
    obtain ⟨f1, f2, f3⟩ := typeR_sm t _ l3 e1
    obtain ⟨g1, g2, g3⟩ := namesR_sm f1 l2
    obtain ⟨h1, h2, h3⟩ := nameR_sm g1 l1
    obtain ⟨i1, i2, i3⟩ := nameR_sm h1 hm
    refine ⟨i1, ?_, by omega⟩
    rw [SmS]
    exact ⟨⟨i2, h2⟩, g2, f2, e2, ⟨by omega, d2⟩, ⟨by omega, c2⟩, ⟨by omega, b2⟩, ⟨by omega, a2⟩⟩
theorem armR_sm : ∀ (t : PA) (m : Int), m ≤ 1000000 → 0 ≤ armR t m → 0 ≤ m ∧ SmA t ∧ armR t m ≤ m - 1
  | .mk v n bo, m, hm, h => by
    rw [armR] at h ⊢
    have l1 := nameR_le (n := v.size) hm
    obtain ⟨a1, a2, a3⟩ := stmtsR_sm bo _ (nameR_le l1) h
    obtain ⟨b1, b2, b3⟩ := nameR_sm a1 l1
    obtain ⟨c1, c2, c3⟩ := nameR_sm b1 hm
    refine ⟨c1, ?_, by omega⟩
    rw [SmA]
    exact ⟨⟨c2, b2⟩, by omega, a2⟩
theorem stmtsR_sm : ∀ (l : List PS) (m : Int), m ≤ 1000000 → 0 ≤ stmtsR l m → 0 ≤ m ∧ SmSs l ∧ stmtsR l m + l.length ≤ m
  | [], m, _, h => by rw [stmtsR] at h ⊢; exact ⟨h, by rw [SmSs]; trivial, by simp⟩
  | t :: l, m, hm, h => by
    rw [stmtsR] at h ⊢
    by_cases hn : m < 0
    · rw [if_pos hn] at h; omega
    · rw [if_neg hn] at h ⊢
      obtain ⟨a1, a2, a3⟩ := stmtsR_sm l _ (stmtR_le t m hm) h
      obtain ⟨b1, b2, b3⟩ := stmtR_sm t m hm a1
      exact ⟨by omega, by rw [SmSs]; exact ⟨b2, a2⟩, by simp; omega⟩
theorem armsR_sm : ∀ (l : List PA) (m : Int), m ≤ 1000000 → 0 ≤ armsR l m → 0 ≤ m ∧ SmAs l ∧ armsR l m + l.length ≤ m
  | [], m, _, h => by rw [armsR] at h ⊢; exact ⟨h, by rw [SmAs]; trivial, by simp⟩
  | t :: l, m, hm, h => by
    rw [armsR] at h ⊢
    by_cases hn : m < 0
    · rw [if_pos hn] at h; omega
    · rw [if_neg hn] at h ⊢
      obtain ⟨a1, a2, a3⟩ := armsR_sm l _ (armR_le t m hm) h
      obtain ⟨b1, b2, b3⟩ := armR_sm t m hm a1
      exact ⟨by omega, by rw [SmAs]; exact ⟨b2, a2⟩, by simp; omega⟩
end
theorem fieldR_le (f : PF) (m : Int) (hm : m ≤ 1000000) : fieldR f m ≤ 1000000 := typeR_le _ _ (nameR_le hm)
theorem itemR_sm (x : PI) (m : Int) (hm : m ≤ 1000000) (h : 0 ≤ itemR x m) : 0 ≤ m ∧ SmI x ∧ itemR x m ≤ m - 1 := by
  unfold itemR fieldsR at h ⊢
  have l1 := nameR_le (n := x.name.size) hm
  have l2 : listR fieldR x.fields (nameR m x.name.size) ≤ 1000000 := listR_le (fun f m h => fieldR_le f m h) l1
  have l3 := typeR_le x.result _ l2
  have l4 := stmtsR_le x.body _ l3
  obtain ⟨a1, a2, a3⟩ := exprR_sm x.ret _ l4 h
  obtain ⟨b1, b2, b3⟩ := stmtsR_sm x.body _ l3 a1
  obtain ⟨c1, c2, c3⟩ := typeR_sm x.result _ l2 b1
  obtain ⟨d1, d2, d3⟩ := listR_sm (P := SmF) (fun f _ m h1 h2 => by
    unfold fieldR at h2 ⊢
    obtain ⟨p1, p2, p3⟩ := typeR_sm f.type _ (nameR_le h1) h2
    obtain ⟨q1, q2, q3⟩ := nameR_sm p1 h1
    exact ⟨q1, ⟨q2, p2⟩, by omega⟩) c1 l1
  obtain ⟨e1, e2, e3⟩ := nameR_sm d1 hm
  refine ⟨e1, ⟨e2, ⟨by omega, d2⟩, c2, ⟨by omega, b2⟩, a2⟩, by omega⟩
/-- a program that is not too great is small in each of its parts -/
theorem progR_sm {p : List PI} (h : ¬ progR p 20000 < 0) : p.length ≤ 1000000 ∧ ∀ x, x ∈ p → SmI x := by
  obtain ⟨a1, a2, a3⟩ := listR_sm (f := itemR) (P := SmI) (fun x _ m h1 h2 => itemR_sm x m h1 h2) (show 0 ≤ listR itemR p 20000 by unfold progR at h; omega) (by omega)
  unfold progR at h
  exact ⟨by omega, a2⟩
/-! ### small: not too many -/
theorem SmT.few {t : PT} (h : SmT t) : FewT 1000000 t := by
  induction h with
  | mk k n l hn hl h2 ih => exact .mk k n l hl ih
theorem SmE.few {t : PE} (h : SmE t) : FewE 1000000 t := by
  induction h with
  | mk op i n s p l pos hn hs hp hl h2 ih => exact .mk op i n s p l pos hl hp.2.1 ih
mutual
theorem SmS.few : ∀ {t : PS}, SmS t → FewS t
  | .mk op n s ns t i p es bo el ar pos, h => by
    rw [SmS] at h
    rw [FewS]
    exact ⟨h.2.1.1, h.2.2.1.few, h.2.2.2.1.2.1, ⟨h.2.2.2.2.1.1, fun e he => (h.2.2.2.2.1.2 e he).few⟩, ⟨h.2.2.2.2.2.1.1, SmSs.few h.2.2.2.2.2.1.2⟩, ⟨h.2.2.2.2.2.2.1.1, SmSs.few h.2.2.2.2.2.2.1.2⟩, ⟨h.2.2.2.2.2.2.2.1, SmAs.few h.2.2.2.2.2.2.2.2⟩⟩
theorem SmA.few : ∀ {t : PA}, SmA t → FewA t
  | .mk x n bo, h => by
    rw [SmA] at h
    rw [FewA]
    exact ⟨h.2.1, SmSs.few h.2.2⟩
theorem SmSs.few : ∀ {l : List PS}, SmSs l → FewSs l
  | [], _ => by rw [FewSs]; trivial
  | t :: l, h => by
    rw [SmSs] at h
    rw [FewSs]
    exact ⟨SmS.few h.1, SmSs.few h.2⟩
theorem SmAs.few : ∀ {l : List PA}, SmAs l → FewAs l
  | [], _ => by rw [FewAs]; trivial
  | t :: l, h => by
    rw [SmAs] at h
    rw [FewAs]
    exact ⟨SmA.few h.1, SmAs.few h.2⟩
end
theorem SmI.few {x : PI} (h : SmI x) : FewI x := ⟨⟨h.2.1.1, fun f hf => (h.2.1.2 f hf).2.few⟩, h.2.2.1.few, ⟨h.2.2.2.1.1, h.2.2.2.1.2.few⟩, h.2.2.2.2.few⟩
/-! ### the same as itself -/
theorem sameW_refl (a : ByteArray) : sameW a a = true := by unfold sameW; simp
theorem allW_refl {α : Type} {f : α → α → Bool} : ∀ {l : List α}, (∀ x, x ∈ l → f x x = true) → allW f l l = true
  | [], _ => rfl
  | x :: l, h => by rw [allW, h x (by simp), allW_refl (l := l) (fun y hy => h y (by simp [hy]))]; rfl
mutual
theorem sameT_refl : ∀ t : PT, sameT t t = true
  | .mk k n l => by rw [sameT_mk, sameW_refl, sameTs_refl l]; simp
theorem sameTs_refl : ∀ l : List PT, sameTs l l = true
  | [] => by rw [sameTs]
  | t :: l => by rw [sameTs, sameT_refl t, sameTs_refl l]; rfl
end
theorem samePl_refl (x : PP) : samePl x x = true := by unfold samePl; rw [sameW_refl, allW_refl (fun s _ => sameW_refl s)]; rfl
mutual
theorem sameE_refl (z : Bool) : ∀ t : PE, sameE z t t = true
  | .mk op i n s p l pos => by rw [sameE_mk, sameW_refl, sameW_refl, samePl_refl, sameEs_refl z l]; simp
theorem sameEs_refl (z : Bool) : ∀ l : List PE, sameEs z l l = true
  | [] => by rw [sameEs]
  | t :: l => by rw [sameEs, sameE_refl z t, sameEs_refl z l]; rfl
end
mutual
theorem sameS_refl (z : Bool) : ∀ t : PS, sameS z t t = true
  | .mk op n s ns t i p es bo el ar pos => by rw [sameS_mk, sameW_refl, sameW_refl, allW_refl (fun s _ => sameW_refl s), sameT_refl, samePl_refl, sameEs_refl z es, sameSs_refl z bo, sameSs_refl z el, sameAs_refl z ar]; simp
theorem sameA_refl (z : Bool) : ∀ t : PA, sameA z t t = true
  | .mk x n bo => by rw [sameA_mk, sameW_refl, sameW_refl, sameSs_refl z bo]; rfl
theorem sameSs_refl (z : Bool) : ∀ l : List PS, sameSs z l l = true
  | [] => by rw [sameSs]
  | t :: l => by rw [sameSs, sameS_refl z t, sameSs_refl z l]; rfl
theorem sameAs_refl (z : Bool) : ∀ l : List PA, sameAs z l l = true
  | [] => by rw [sameAs]
  | t :: l => by rw [sameAs, sameA_refl z t, sameAs_refl z l]; rfl
end
theorem sameI_refl (z : Bool) (x : PI) : sameI z x x = true := by
  unfold sameI
  rw [sameW_refl, allW_refl (fun f _ => by unfold sameF; rw [sameW_refl, sameT_refl]; rfl), sameT_refl, sameSs_refl, sameE_refl]; simp
theorem sameProg_refl (z : Bool) (p : List PI) : sameProg z p p = true := allW_refl fun x _ => sameI_refl z x
/-! ### a copy with all places -/
mutual
theorem erE_true : ∀ t : PE, erE true t = t
  | .mk op i n s p l pos => by rw [erE, erEs_true l]; rfl
theorem erEs_true : ∀ l : List PE, erEs true l = l
  | [] => rfl
  | t :: l => by rw [erEs, erE_true t, erEs_true l]
end
mutual
theorem erS_true : ∀ t : PS, erS true t = t
  | .mk op n s ns t i p es bo el ar pos => by rw [erS, erEs_true es, erSs_true bo, erSs_true el, erAs_true ar]; rfl
theorem erA_true : ∀ t : PA, erA true t = t
  | .mk x n bo => by rw [erA, erSs_true bo]
theorem erSs_true : ∀ l : List PS, erSs true l = l
  | [] => by rw [erSs]
  | t :: l => by rw [erSs, erS_true t, erSs_true l]
theorem erAs_true : ∀ l : List PA, erAs true l = l
  | [] => by rw [erAs]
  | t :: l => by rw [erAs, erA_true t, erAs_true l]
end
theorem erI_true (x : PI) : erI true x = x := by unfold erI; rw [erSs_true, erE_true]; rfl
theorem erIs_true (l : List PI) : l.map (erI true) = l := by
  conv => rhs; rw [← List.map_id l]
  exact List.map_congr_left fun x _ => erI_true x
end Go.Proofs.YtojeijeimpffgaaGreat
/- Trees of parts: what is whole is what fits throughout and isn't too deep; how deep and how large what isn't too great can be; erased trees. -/
namespace Go.Proofs.YtojeijeimpffgaaGreat
open Go.RowKit
set_option linter.unusedVariables false

mutual
def okR : RT → Bool
  | .mk f _ ks => f && okRs ks
def okRs : List RT → Bool
  | [] => true
  | t :: ts => okR t && okRs ts
end
mutual
def nodesR : RT → Nat
  | .mk _ w ks => w + 1 + nodesRs ks
def nodesRs : List RT → Nat
  | [] => 0
  | t :: ts => nodesR t + nodesRs ts
end
theorem depthRs_append : ∀ a b : List RT, depthRs (a ++ b) = max (depthRs a) (depthRs b)
  | [], b => by simp [depthRs]
  | t :: a, b => by rw [List.cons_append, depthRs, depthRs_append a b, depthRs, Nat.max_assoc]
theorem sizeRs_append : ∀ a b : List RT, sizeRs (a ++ b) = sizeRs a + sizeRs b
  | [], b => by simp [sizeRs]
  | t :: a, b => by rw [List.cons_append, sizeRs, sizeRs_append a b, sizeRs, Nat.add_assoc]
theorem nodesRs_append : ∀ a b : List RT, nodesRs (a ++ b) = nodesRs a + nodesRs b
  | [], b => by simp [nodesRs]
  | t :: a, b => by rw [List.cons_append, nodesRs, nodesRs_append a b, nodesRs, Nat.add_assoc]
mutual
theorem depth_nodes : ∀ t : RT, depthR t ≤ nodesR t
  | .mk _ w ks => by have := depths_nodes ks; rw [depthR, nodesR]; omega
theorem depths_nodes : ∀ l : List RT, depthRs l ≤ nodesRs l
  | [] => by simp [depthRs]
  | t :: l => by have := depth_nodes t; have := depths_nodes l; rw [depthRs, nodesRs]; omega
end
mutual
theorem size_nodes : ∀ t : RT, sizeR t ≤ nodesR t
  | .mk _ w ks => by have := sizes_nodes ks; rw [sizeR, nodesR]; omega
theorem sizes_nodes : ∀ l : List RT, sizeRs l ≤ nodesRs l
  | [] => by simp [sizeRs]
  | t :: l => by have := size_nodes t; have := sizes_nodes l; rw [sizeRs, nodesRs]; omega
end

/-! ### what isn't too great has few parts -/
mutual
theorem typeR_n : ∀ (t : PT) (st : Nat) (m : Int), m ≤ 1000000 → 0 ≤ typeR t m → typeR t m + nodesR (rtT t st) ≤ m
  | .mk k n ts, st, m, hm, h => by
    rw [typeR] at h ⊢
    have h1 := (typesR_sm ts _ (nameR_le hm) h).1
    have h2 := (nameR_sm h1 hm).2.2
    have h3 := typesR_n ts _ (nameR_le hm) h
    rw [rtT, nodesR]; omega
theorem typesR_n : ∀ (l : List PT) (m : Int), m ≤ 1000000 → 0 ≤ typesR l m → typesR l m + nodesRs (rtTs l) ≤ m
  | [], m, _, h => by rw [typesR, rtTs, nodesRs]; omega
  | t :: l, m, hm, h => by
    rw [typesR] at h ⊢
    split at h
    · omega
    · rename_i hn
      rw [if_neg hn]
      have h1 := (typesR_sm l _ (typeR_le t m hm) h).1
      have h2 := typeR_n t 0 m hm h1
      have h3 := typesR_n l _ (typeR_le t m hm) h
      rw [rtTs, nodesRs]; omega
end
mutual
theorem exprR_n : ∀ (t : PE) (st : Nat) (m : Int), m ≤ 1000000 → 0 ≤ exprR t m → exprR t m + nodesR (rtE t st) ≤ m
  | .mk op i n s p ts pos, st, m, hm, h => by
    rw [exprR] at h ⊢
    have l1 := nameR_le (n := n.size) hm
    have l2 := nameR_le (n := s.size) l1
    have h1 := (exprsR_sm ts _ (placeR_le l2) h).1
    have h2 := placeR_sm h1 l2
    have h3 := nameR_sm h2.1 l1
    have h4 := nameR_sm h3.1 hm
    have h5 := exprsR_n ts (inArgs (.mk op i n s p [] pos) st) _ (placeR_le l2) h
    rw [rtE, nodesR]
    split <;> omega
theorem exprsR_n : ∀ (l : List PE) (st : Nat) (m : Int), m ≤ 1000000 → 0 ≤ exprsR l m → exprsR l m + nodesRs (rtEs l st) ≤ m
  | [], st, m, _, h => by rw [exprsR, rtEs, nodesRs]; omega
  | t :: l, st, m, hm, h => by
    rw [exprsR] at h ⊢
    split at h
    · omega
    · rename_i hn
      rw [if_neg hn]
      have h1 := (exprsR_sm l _ (exprR_le t m hm) h).1
      have h2 := exprR_n t st m hm h1
      have h3 := exprsR_n l st _ (exprR_le t m hm) h
      rw [rtEs, nodesRs]; omega
end
mutual
theorem stmtR_n : ∀ (t : PS) (m : Int), m ≤ 1000000 → 0 ≤ stmtR t m → stmtR t m + nodesR (rtS t) ≤ m
  | .mk op n s ns ty int p es bo el ar pos, m, hm, h => by
    rw [stmtR] at h ⊢
    have l1 := nameR_le (n := n.size) hm
    have l2 := nameR_le (n := s.size) l1
    have l3 := namesR_le (l := ns) l2
    have l4 := typeR_le ty _ l3
    have l5 := placeR_le (x := p) l4
    have l6 := exprsR_le es _ l5
    have l7 := stmtsR_le bo _ l6
    have l8 := stmtsR_le el _ l7
    have k1 := (armsR_sm ar _ l8 h).1
    have k2 := (stmtsR_sm el _ l7 k1).1
    have k3 := (stmtsR_sm bo _ l6 k2).1
    have k4 := (exprsR_sm es _ l5 k3).1
    have k5 := placeR_sm k4 l4
    have k6 := (typeR_sm ty _ l3 k5.1).1
    have k7 := namesR_sm k6 l2
    have k8 := nameR_sm k7.1 l1
    have k9 := nameR_sm k8.1 hm
    have a1 := armsR_n ar _ l8 h
    have a2 := stmtsR_n el _ l7 k1
    have a3 := stmtsR_n bo _ l6 k2
    have a4 := exprsR_n es (inExprs op) _ l5 k3
    have a5 := typeR_n ty 0 _ l3 k5.1
    have b : nodesRs (if op = 12 then [rtT ty 0] else []) ≤ nodesR (rtT ty 0) := by
      split
      · simp [nodesRs]
      · simp [nodesRs]
    rw [rtS, nodesR, nodesRs_append, nodesRs_append, nodesRs_append, nodesRs_append]
    omega
theorem armR_n : ∀ (t : PA) (m : Int), m ≤ 1000000 → 0 ≤ armR t m → armR t m + nodesRs (rtA t) ≤ m
  | .mk v n bo, m, hm, h => by
    rw [armR] at h ⊢
    have l1 := nameR_le (n := v.size) hm
    have l2 := nameR_le (n := n.size) l1
    have k1 := (stmtsR_sm bo _ l2 h).1
    have k2 := nameR_sm k1 l1
    have k3 := nameR_sm k2.1 hm
    have a1 := stmtsR_n bo _ l2 h
    rw [rtA]; omega
theorem stmtsR_n : ∀ (l : List PS) (m : Int), m ≤ 1000000 → 0 ≤ stmtsR l m → stmtsR l m + nodesRs (rtSs l) ≤ m
  | [], m, _, h => by rw [stmtsR, rtSs, nodesRs]; omega
  | t :: l, m, hm, h => by
    rw [stmtsR] at h ⊢
    split at h
    · omega
    · rename_i hn
      rw [if_neg hn]
      have h1 := (stmtsR_sm l _ (stmtR_le t m hm) h).1
      have h2 := stmtR_n t m hm h1
      have h3 := stmtsR_n l _ (stmtR_le t m hm) h
      rw [rtSs, nodesRs]; omega
theorem armsR_n : ∀ (l : List PA) (m : Int), m ≤ 1000000 → 0 ≤ armsR l m → armsR l m + nodesRs (rtAs l) ≤ m
  | [], m, _, h => by rw [armsR, rtAs, nodesRs]; omega
  | t :: l, m, hm, h => by
    rw [armsR] at h ⊢
    split at h
    · omega
    · rename_i hn
      rw [if_neg hn]
      have h1 := (armsR_sm l _ (armR_le t m hm) h).1
      have h2 := armR_n t m hm h1
      have h3 := armsR_n l _ (armR_le t m hm) h
      rw [rtAs, nodesRs_append]; omega
end
end Go.Proofs.YtojeijeimpffgaaGreat
/- Trees of parts, second part: bounds of whole programs; programs joined, wrapped, in a block; erased. -/
namespace Go.Proofs.YtojeijeimpffgaaGreat
open Go.RowKit
set_option linter.unusedVariables false

theorem listR_n {α : Type} {f : α → Int → Int} {g : α → RT} (hle : ∀ x m, m ≤ 1000000 → f x m ≤ 1000000) : ∀ {l : List α} {m : Int}, (∀ x, x ∈ l → ∀ m, m ≤ 1000000 → 0 ≤ f x m → f x m + nodesR (g x) ≤ m) → m ≤ 1000000 → 0 ≤ listR f l m → listR f l m + nodesRs (l.map g) ≤ m
  | [], m, _, _, h => by rw [listR] at h ⊢; simp [nodesRs]
  | x :: l, m, H, hm, h => by
    rw [listR] at h ⊢
    split at h
    · omega
    · rename_i hn
      rw [if_neg hn]
      have h0 : 0 ≤ f x m := by
        by_cases h1 : f x m < 0
        · rw [listR_neg h1] at h; exact h
        · omega
      have h2 := H x (by simp) m hm h0
      have h3 := listR_n hle (g := g) (l := l) (fun y hy => H y (by simp [hy])) (hle x m hm) h
      rw [List.map_cons, nodesRs]; omega
theorem fieldR_n (f : PF) (st : Nat) (m : Int) (hm : m ≤ 1000000) (h : 0 ≤ fieldR f m) : fieldR f m + nodesR (rtT f.type st) ≤ m := by
  unfold fieldR at h ⊢
  have h1 := (typeR_sm _ _ (nameR_le hm) h).1
  have h2 := (nameR_sm h1 hm).2.2
  have h3 := typeR_n f.type st _ (nameR_le hm) h
  omega
theorem itemR_n (x : PI) (m : Int) (hm : m ≤ 1000000) (h : 0 ≤ itemR x m) : itemR x m + nodesR (rtI x) ≤ m := by
  unfold itemR at h ⊢
  have l1 := nameR_le (n := x.name.size) hm
  have l2 : fieldsR x.fields (nameR m x.name.size) ≤ 1000000 := listR_le (fun f m hm => fieldR_le f m hm) l1
  have l3 := typeR_le x.result _ l2
  have l4 := stmtsR_le x.body _ l3
  have k1 := (exprR_sm x.ret _ l4 h).1
  have k2 := (stmtsR_sm x.body _ l3 k1).1
  have k3 := (typeR_sm x.result _ l2 k2).1
  have a1 := exprR_n x.ret (iSh x.kind).rest _ l4 h
  have a2 := stmtsR_n x.body _ l3 k1
  have a3 := typeR_n x.result (iSh x.kind).rest _ l2 k2
  have a4 : fieldsR x.fields (nameR m x.name.size) + nodesRs (x.fields.map (fun f => rtT f.type (iSh x.kind).fields)) ≤ nameR m x.name.size := listR_n (fun f m hm => fieldR_le f m hm) (fun f _ m hm h => fieldR_n f _ m hm h) l1 k3
  have k4 : 0 ≤ nameR m x.name.size := by omega
  have k5 := (nameR_sm k4 hm).2.2
  rw [rtI, nodesR, nodesRs_append, nodesRs, nodesRs_append, nodesRs, nodesRs]
  omega
theorem itemR_le (x : PI) (m : Int) (hm : m ≤ 1000000) : itemR x m ≤ 1000000 := exprR_le _ _ (stmtsR_le _ _ (typeR_le _ _ (listR_le (fun f m hm => fieldR_le f m hm) (nameR_le hm))))
theorem prog_bound {p : List PI} (h : ¬ progR p 20000 < 0) : depthR (rtP p) ≤ 20001 ∧ sizeR (rtP p) ≤ 20001 := by
  have h1 : progR p 20000 + nodesRs (p.map rtI) ≤ 20000 := listR_n itemR_le (fun x _ m hm h => itemR_n x m hm h) (by omega) (by unfold progR at h; omega)
  have h2 : nodesR (rtP p) ≤ 20001 := by rw [rtP, nodesR]; omega
  exact ⟨Nat.le_trans (depth_nodes _) h2, Nat.le_trans (size_nodes _) h2⟩

/-! ### programs joined -/
/-! ### wrapped -/
def retI (e : PE) : PI := ⟨0, ByteArray.empty, [], zeroT, [], e, 0⟩
def resI (t : PT) : PI := ⟨0, ByteArray.empty, [], t, [], zeroE, 0⟩
/-! ### in a block -/
def bodyI (l : List PS) : PI := ⟨3, ⟨#[109, 97, 105, 110]⟩, [], .mk 1 ByteArray.empty [], l, .mk 1 0 ByteArray.empty ByteArray.empty ⟨ByteArray.empty, []⟩ [] 0, 0⟩
def blockS (l : List PS) : PS := .mk 13 ByteArray.empty ByteArray.empty [] zeroT 0 ⟨ByteArray.empty, []⟩ [] l [] [] 0
end Go.Proofs.YtojeijeimpffgaaGreat
