/- What is not too great has small names and short lists; what is the same as itself; copies with all places. -/
import Derived.Test.YtabncmmadbjegaaTreeBench
import Derived.Test.YtabncmmadbjegaaTreeRoomMath
namespace Go.Proofs.Ytabncmmadbjegaa
open Go.RowKit
set_option linter.unusedVariables false

theorem nameR_sm {m : Int} {n : Nat} (h : 0 ≤ nameR m n) (hm : m ≤ 1000000) : 0 ≤ m ∧ n ≤ 1000000 ∧ nameR m n ≤ m - 5 := by
  unfold nameR at h ⊢
  split at h
  · omega
  · rename_i h1
    rw [if_neg h1]; omega
theorem listR_sm {α : Type} {f : α → Int → Int} {P : α → Prop} : ∀ {l : List α} {m : Int}, (∀ x, x ∈ l → ∀ m, m ≤ 1000000 → 0 ≤ f x m → 0 ≤ m ∧ P x ∧ f x m ≤ m - 1) → 0 ≤ listR f l m → m ≤ 1000000 → 0 ≤ m ∧ (∀ x, x ∈ l → P x) ∧ listR f l m + l.length ≤ m
  | [], m, _, h, _ => by simp only [listR] at h ⊢; exact ⟨h, by simp, by simp⟩
  | x :: l, m, H, h, hm => by
    simp only [listR] at h ⊢
    by_cases hn : m < 0
    · rw [if_pos hn] at h; omega
    · rw [if_neg hn] at h ⊢
      have hx := H x (by simp) m hm
      have ht := listR_sm (l := l) (m := f x m) (fun y hy => H y (by simp [hy])) h
      by_cases hf : f x m ≤ 1000000
      · obtain ⟨a1, a2, a3⟩ := ht hf
        obtain ⟨b1, b2, b3⟩ := hx a1
        refine ⟨by omega, fun y hy => ?_, by simp; omega⟩
        rcases List.mem_cons.1 hy with rfl | h1
        · exact b2
        · exact a2 y h1
      · exfalso
        obtain ⟨b1, b2, b3⟩ := hx (by omega)
        omega
theorem namesR_sm {l : List ByteArray} {m : Int} (h : 0 ≤ namesR l m) (hm : m ≤ 1000000) : 0 ≤ m ∧ (l.length ≤ 1000000 ∧ ∀ s, s ∈ l → s.size ≤ 1000000) ∧ namesR l m ≤ m - 5 := by
  unfold namesR at h ⊢
  obtain ⟨a1, a2, a3⟩ := listR_sm (P := fun s : ByteArray => s.size ≤ 1000000) (fun x _ m h1 h2 => by
    obtain ⟨b1, b2, b3⟩ := nameR_sm h2 h1
    exact ⟨b1, b2, by omega⟩) h (by omega)
  exact ⟨by omega, ⟨by omega, a2⟩, by omega⟩
mutual
theorem typeR_sm : ∀ (t : PT) (m : Int), m ≤ 1000000 → 0 ≤ typeR t m → 0 ≤ m ∧ SmT t ∧ typeR t m ≤ m - 1
  | .mk k n ts, m, hm, h => by
    rw [typeR] at h ⊢
    have hn : nameR m n.size ≤ 1000000 := by unfold nameR; split <;> omega
    obtain ⟨a1, a2, a3⟩ := typesR_sm ts _ hn h
    obtain ⟨b1, b2, b3⟩ := nameR_sm a1 hm
    exact ⟨b1, .mk k n ts b2 (by omega) a2, by omega⟩
theorem typesR_sm : ∀ (l : List PT) (m : Int), m ≤ 1000000 → 0 ≤ typesR l m → 0 ≤ m ∧ (∀ t, t ∈ l → SmT t) ∧ typesR l m + l.length ≤ m
  | [], m, _, h => by rw [typesR] at h ⊢; exact ⟨h, by simp, by simp⟩
  | t :: l, m, hm, h => by
    rw [typesR] at h ⊢
    by_cases hn : m < 0
    · rw [if_pos hn] at h; omega
    · rw [if_neg hn] at h ⊢
      have hx := typeR_sm t m hm
      by_cases hf : typeR t m ≤ 1000000
      · obtain ⟨a1, a2, a3⟩ := typesR_sm l _ hf h
        obtain ⟨b1, b2, b3⟩ := hx a1
        refine ⟨by omega, fun y hy => ?_, by simp; omega⟩
        rcases List.mem_cons.1 hy with rfl | h1
        · exact b2
        · exact a2 y h1
      · exfalso
        obtain ⟨b1, b2, b3⟩ := hx (by omega)
        omega
end
theorem placeR_sm {x : PP} {m : Int} (h : 0 ≤ placeR x m) (hm : m ≤ 1000000) : 0 ≤ m ∧ SmP x ∧ placeR x m ≤ m - 1 := by
  unfold placeR at h ⊢
  obtain ⟨a1, a2, a3⟩ := namesR_sm h (by unfold nameR; split <;> omega)
  obtain ⟨b1, b2, b3⟩ := nameR_sm a1 hm
  exact ⟨b1, ⟨b2, a2⟩, by omega⟩
theorem nameR_le {m : Int} {n : Nat} (hm : m ≤ 1000000) : nameR m n ≤ 1000000 := by unfold nameR; split <;> omega
theorem listR_le {α : Type} {f : α → Int → Int} (H : ∀ x m, m ≤ 1000000 → f x m ≤ 1000000) : ∀ {l : List α} {m : Int}, m ≤ 1000000 → listR f l m ≤ 1000000
  | [], m, h => by simpa [listR] using h
  | x :: l, m, h => by
    simp only [listR]; split
    · exact h
    · exact listR_le H (H x m h)
theorem namesR_le {l : List ByteArray} {m : Int} (hm : m ≤ 1000000) : namesR l m ≤ 1000000 := listR_le (fun _ _ h => nameR_le h) (by omega)
theorem placeR_le {x : PP} {m : Int} (hm : m ≤ 1000000) : placeR x m ≤ 1000000 := namesR_le (nameR_le hm)
mutual
theorem typeR_le : ∀ (t : PT) (m : Int), m ≤ 1000000 → typeR t m ≤ 1000000
  | .mk k n ts, m, h => by rw [typeR]; exact typesR_le ts _ (nameR_le h)
theorem typesR_le : ∀ (l : List PT) (m : Int), m ≤ 1000000 → typesR l m ≤ 1000000
  | [], m, h => by rw [typesR]; exact h
  | t :: l, m, h => by
    rw [typesR]; split
    · exact h
    · exact typesR_le l _ (typeR_le t m h)
end
mutual
theorem exprR_le : ∀ (t : PE) (m : Int), m ≤ 1000000 → exprR t m ≤ 1000000
  | .mk _ _ n s p ts _, m, h => by rw [exprR]; exact exprsR_le ts _ (placeR_le (nameR_le (nameR_le h)))
theorem exprsR_le : ∀ (l : List PE) (m : Int), m ≤ 1000000 → exprsR l m ≤ 1000000
  | [], m, h => by rw [exprsR]; exact h
  | t :: l, m, h => by
    rw [exprsR]; split
    · exact h
    · exact exprsR_le l _ (exprR_le t m h)
end
mutual
theorem stmtR_le : ∀ (t : PS) (m : Int), m ≤ 1000000 → stmtR t m ≤ 1000000
  | .mk _ n s ns t _ p es bo el ar _, m, h => by
    rw [stmtR]; exact armsR_le ar _ (stmtsR_le el _ (stmtsR_le bo _ (exprsR_le es _ (placeR_le (typeR_le t _ (namesR_le (nameR_le (nameR_le h))))))))
theorem armR_le : ∀ (t : PA) (m : Int), m ≤ 1000000 → armR t m ≤ 1000000
  | .mk v n bo, m, h => by rw [armR]; exact stmtsR_le bo _ (nameR_le (nameR_le h))
theorem stmtsR_le : ∀ (l : List PS) (m : Int), m ≤ 1000000 → stmtsR l m ≤ 1000000
  | [], m, h => by rw [stmtsR]; exact h
  | t :: l, m, h => by
    rw [stmtsR]; split
    · exact h
    · exact stmtsR_le l _ (stmtR_le t m h)
theorem armsR_le : ∀ (l : List PA) (m : Int), m ≤ 1000000 → armsR l m ≤ 1000000
  | [], m, h => by rw [armsR]; exact h
  | t :: l, m, h => by
    rw [armsR]; split
    · exact h
    · exact armsR_le l _ (armR_le t m h)
end
mutual
theorem exprR_sm : ∀ (t : PE) (m : Int), m ≤ 1000000 → 0 ≤ exprR t m → 0 ≤ m ∧ SmE t ∧ exprR t m ≤ m - 1
  | .mk op i n s p ts pos, m, hm, h => by
    rw [exprR] at h ⊢
    obtain ⟨a1, a2, a3⟩ := exprsR_sm ts _ (placeR_le (nameR_le (nameR_le hm))) h
    obtain ⟨b1, b2, b3⟩ := placeR_sm a1 (nameR_le (nameR_le hm))
    obtain ⟨c1, c2, c3⟩ := nameR_sm b1 (nameR_le hm)
    obtain ⟨d1, d2, d3⟩ := nameR_sm c1 hm
    exact ⟨d1, .mk op i n s p ts pos d2 c2 b2 (by omega) a2, by omega⟩
theorem exprsR_sm : ∀ (l : List PE) (m : Int), m ≤ 1000000 → 0 ≤ exprsR l m → 0 ≤ m ∧ (∀ t, t ∈ l → SmE t) ∧ exprsR l m + l.length ≤ m
  | [], m, _, h => by rw [exprsR] at h ⊢; exact ⟨h, by simp, by simp⟩
  | t :: l, m, hm, h => by
    rw [exprsR] at h ⊢
    by_cases hn : m < 0
    · rw [if_pos hn] at h; omega
    · rw [if_neg hn] at h ⊢
      obtain ⟨a1, a2, a3⟩ := exprsR_sm l _ (exprR_le t m hm) h
      obtain ⟨b1, b2, b3⟩ := exprR_sm t m hm a1
      refine ⟨by omega, fun y hy => ?_, by simp; omega⟩
      rcases List.mem_cons.1 hy with rfl | h1
      · exact b2
      · exact a2 y h1
end
mutual
theorem stmtR_sm : ∀ (t : PS) (m : Int), m ≤ 1000000 → 0 ≤ stmtR t m → 0 ≤ m ∧ SmS t ∧ stmtR t m ≤ m - 1
  | .mk op n s ns t i p es bo el ar pos, m, hm, h => by
    rw [stmtR] at h ⊢
    have l1 := nameR_le (n := n.size) hm
    have l2 := nameR_le (n := s.size) l1
    have l3 := namesR_le (l := ns) l2
    have l4 := typeR_le t _ l3
    have l5 := placeR_le (x := p) l4
    have l6 := exprsR_le es _ l5
    have l7 := stmtsR_le bo _ l6
    have l8 := stmtsR_le el _ l7
    obtain ⟨a1, a2, a3⟩ := armsR_sm ar _ l8 h
    obtain ⟨b1, b2, b3⟩ := stmtsR_sm el _ l7 a1
    obtain ⟨c1, c2, c3⟩ := stmtsR_sm bo _ l6 b1
    obtain ⟨d1, d2, d3⟩ := exprsR_sm es _ l5 c1
    obtain ⟨e1, e2, e3⟩ := placeR_sm d1 l4
    obtain ⟨f1, f2, f3⟩ := typeR_sm t _ l3 e1
    obtain ⟨g1, g2, g3⟩ := namesR_sm f1 l2
    obtain ⟨h1, h2, h3⟩ := nameR_sm g1 l1
    obtain ⟨i1, i2, i3⟩ := nameR_sm h1 hm
    refine ⟨i1, ?_, by omega⟩
    rw [SmS]
    exact ⟨⟨i2, h2⟩, g2, f2, e2, ⟨by omega, d2⟩, ⟨by omega, c2⟩, ⟨by omega, b2⟩, ⟨by omega, a2⟩⟩
theorem armR_sm : ∀ (t : PA) (m : Int), m ≤ 1000000 → 0 ≤ armR t m → 0 ≤ m ∧ SmA t ∧ armR t m ≤ m - 1
  | .mk v n bo, m, hm, h => by
    rw [armR] at h ⊢
    have l1 := nameR_le (n := v.size) hm
    obtain ⟨a1, a2, a3⟩ := stmtsR_sm bo _ (nameR_le l1) h
    obtain ⟨b1, b2, b3⟩ := nameR_sm a1 l1
    obtain ⟨c1, c2, c3⟩ := nameR_sm b1 hm
    refine ⟨c1, ?_, by omega⟩
    rw [SmA]
    exact ⟨⟨c2, b2⟩, by omega, a2⟩
theorem stmtsR_sm : ∀ (l : List PS) (m : Int), m ≤ 1000000 → 0 ≤ stmtsR l m → 0 ≤ m ∧ SmSs l ∧ stmtsR l m + l.length ≤ m
  | [], m, _, h => by rw [stmtsR] at h ⊢; exact ⟨h, by rw [SmSs]; trivial, by simp⟩
  | t :: l, m, hm, h => by
    rw [stmtsR] at h ⊢
    by_cases hn : m < 0
    · rw [if_pos hn] at h; omega
    · rw [if_neg hn] at h ⊢
      obtain ⟨a1, a2, a3⟩ := stmtsR_sm l _ (stmtR_le t m hm) h
      obtain ⟨b1, b2, b3⟩ := stmtR_sm t m hm a1
      exact ⟨by omega, by rw [SmSs]; exact ⟨b2, a2⟩, by simp; omega⟩
theorem armsR_sm : ∀ (l : List PA) (m : Int), m ≤ 1000000 → 0 ≤ armsR l m → 0 ≤ m ∧ SmAs l ∧ armsR l m + l.length ≤ m
  | [], m, _, h => by rw [armsR] at h ⊢; exact ⟨h, by rw [SmAs]; trivial, by simp⟩
  | t :: l, m, hm, h => by
    rw [armsR] at h ⊢
    by_cases hn : m < 0
    · rw [if_pos hn] at h; omega
    · rw [if_neg hn] at h ⊢
      obtain ⟨a1, a2, a3⟩ := armsR_sm l _ (armR_le t m hm) h
      obtain ⟨b1, b2, b3⟩ := armR_sm t m hm a1
      exact ⟨by omega, by rw [SmAs]; exact ⟨b2, a2⟩, by simp; omega⟩
end
theorem fieldR_le (f : PF) (m : Int) (hm : m ≤ 1000000) : fieldR f m ≤ 1000000 := typeR_le _ _ (nameR_le hm)
theorem itemR_sm (x : PI) (m : Int) (hm : m ≤ 1000000) (h : 0 ≤ itemR x m) : 0 ≤ m ∧ SmI x ∧ itemR x m ≤ m - 1 := by
  unfold itemR fieldsR at h ⊢
  have l1 := nameR_le (n := x.name.size) hm
  have l2 : listR fieldR x.fields (nameR m x.name.size) ≤ 1000000 := listR_le (fun f m h => fieldR_le f m h) l1
  have l3 := typeR_le x.result _ l2
  have l4 := stmtsR_le x.body _ l3
  obtain ⟨a1, a2, a3⟩ := exprR_sm x.ret _ l4 h
  obtain ⟨b1, b2, b3⟩ := stmtsR_sm x.body _ l3 a1
  obtain ⟨c1, c2, c3⟩ := typeR_sm x.result _ l2 b1
  obtain ⟨d1, d2, d3⟩ := listR_sm (P := SmF) (fun f _ m h1 h2 => by
    unfold fieldR at h2 ⊢
    obtain ⟨p1, p2, p3⟩ := typeR_sm f.type _ (nameR_le h1) h2
    obtain ⟨q1, q2, q3⟩ := nameR_sm p1 h1
    exact ⟨q1, ⟨q2, p2⟩, by omega⟩) c1 l1
  obtain ⟨e1, e2, e3⟩ := nameR_sm d1 hm
  refine ⟨e1, ⟨e2, ⟨by omega, d2⟩, c2, ⟨by omega, b2⟩, a2⟩, by omega⟩
/-- a program that is not too great is small in each of its parts -/
theorem progR_sm {p : List PI} (h : ¬ progR p 20000 < 0) : p.length ≤ 1000000 ∧ ∀ x, x ∈ p → SmI x := by
  obtain ⟨a1, a2, a3⟩ := listR_sm (f := itemR) (P := SmI) (fun x _ m h1 h2 => itemR_sm x m h1 h2) (show 0 ≤ listR itemR p 20000 by unfold progR at h; omega) (by omega)
  unfold progR at h
  exact ⟨by omega, a2⟩
/-! ### small: not too many -/
theorem SmT.few {t : PT} (h : SmT t) : FewT 1000000 t := by
  induction h with
  | mk k n l hn hl h2 ih => exact .mk k n l hl ih
theorem SmE.few {t : PE} (h : SmE t) : FewE 1000000 t := by
  induction h with
  | mk op i n s p l pos hn hs hp hl h2 ih => exact .mk op i n s p l pos hl hp.2.1 ih
mutual
theorem SmS.few : ∀ {t : PS}, SmS t → FewS t
  | .mk op n s ns t i p es bo el ar pos, h => by
    rw [SmS] at h
    rw [FewS]
    exact ⟨h.2.1.1, h.2.2.1.few, h.2.2.2.1.2.1, ⟨h.2.2.2.2.1.1, fun e he => (h.2.2.2.2.1.2 e he).few⟩, ⟨h.2.2.2.2.2.1.1, SmSs.few h.2.2.2.2.2.1.2⟩, ⟨h.2.2.2.2.2.2.1.1, SmSs.few h.2.2.2.2.2.2.1.2⟩, ⟨h.2.2.2.2.2.2.2.1, SmAs.few h.2.2.2.2.2.2.2.2⟩⟩
theorem SmA.few : ∀ {t : PA}, SmA t → FewA t
  | .mk x n bo, h => by
    rw [SmA] at h
    rw [FewA]
    exact ⟨h.2.1, SmSs.few h.2.2⟩
theorem SmSs.few : ∀ {l : List PS}, SmSs l → FewSs l
  | [], _ => by rw [FewSs]; trivial
  | t :: l, h => by
    rw [SmSs] at h
    rw [FewSs]
    exact ⟨SmS.few h.1, SmSs.few h.2⟩
theorem SmAs.few : ∀ {l : List PA}, SmAs l → FewAs l
  | [], _ => by rw [FewAs]; trivial
  | t :: l, h => by
    rw [SmAs] at h
    rw [FewAs]
    exact ⟨SmA.few h.1, SmAs.few h.2⟩
end
theorem SmI.few {x : PI} (h : SmI x) : FewI x := ⟨⟨h.2.1.1, fun f hf => (h.2.1.2 f hf).2.few⟩, h.2.2.1.few, ⟨h.2.2.2.1.1, h.2.2.2.1.2.few⟩, h.2.2.2.2.few⟩
/-! ### the same as itself -/
theorem sameW_refl (a : ByteArray) : sameW a a = true := by unfold sameW; simp
theorem allW_refl {α : Type} {f : α → α → Bool} : ∀ {l : List α}, (∀ x, x ∈ l → f x x = true) → allW f l l = true
  | [], _ => rfl
  | x :: l, h => by rw [allW, h x (by simp), allW_refl (l := l) (fun y hy => h y (by simp [hy]))]; rfl
mutual
theorem sameT_refl : ∀ t : PT, sameT t t = true
  | .mk k n l => by rw [sameT_mk, sameW_refl, sameTs_refl l]; simp
theorem sameTs_refl : ∀ l : List PT, sameTs l l = true
  | [] => by rw [sameTs]
  | t :: l => by rw [sameTs, sameT_refl t, sameTs_refl l]; rfl
end
theorem samePl_refl (x : PP) : samePl x x = true := by unfold samePl; rw [sameW_refl, allW_refl (fun s _ => sameW_refl s)]; rfl
mutual
theorem sameE_refl (z : Bool) : ∀ t : PE, sameE z t t = true
  | .mk op i n s p l pos => by rw [sameE_mk, sameW_refl, sameW_refl, samePl_refl, sameEs_refl z l]; simp
theorem sameEs_refl (z : Bool) : ∀ l : List PE, sameEs z l l = true
  | [] => by rw [sameEs]
  | t :: l => by rw [sameEs, sameE_refl z t, sameEs_refl z l]; rfl
end
mutual
theorem sameS_refl (z : Bool) : ∀ t : PS, sameS z t t = true
  | .mk op n s ns t i p es bo el ar pos => by rw [sameS_mk, sameW_refl, sameW_refl, allW_refl (fun s _ => sameW_refl s), sameT_refl, samePl_refl, sameEs_refl z es, sameSs_refl z bo, sameSs_refl z el, sameAs_refl z ar]; simp
theorem sameA_refl (z : Bool) : ∀ t : PA, sameA z t t = true
  | .mk x n bo => by rw [sameA_mk, sameW_refl, sameW_refl, sameSs_refl z bo]; rfl
theorem sameSs_refl (z : Bool) : ∀ l : List PS, sameSs z l l = true
  | [] => by rw [sameSs]
  | t :: l => by rw [sameSs, sameS_refl z t, sameSs_refl z l]; rfl
theorem sameAs_refl (z : Bool) : ∀ l : List PA, sameAs z l l = true
  | [] => by rw [sameAs]
  | t :: l => by rw [sameAs, sameA_refl z t, sameAs_refl z l]; rfl
end
theorem sameI_refl (z : Bool) (x : PI) : sameI z x x = true := by
  unfold sameI
  rw [sameW_refl, allW_refl (fun f _ => by unfold sameF; rw [sameW_refl, sameT_refl]; rfl), sameT_refl, sameSs_refl, sameE_refl]; simp
theorem sameProg_refl (z : Bool) (p : List PI) : sameProg z p p = true := allW_refl fun x _ => sameI_refl z x
/-! ### a copy with all places -/
mutual
theorem erE_true : ∀ t : PE, erE true t = t
  | .mk op i n s p l pos => by rw [erE, erEs_true l]; rfl
theorem erEs_true : ∀ l : List PE, erEs true l = l
  | [] => rfl
  | t :: l => by rw [erEs, erE_true t, erEs_true l]
end
mutual
theorem erS_true : ∀ t : PS, erS true t = t
  | .mk op n s ns t i p es bo el ar pos => by rw [erS, erEs_true es, erSs_true bo, erSs_true el, erAs_true ar]; rfl
theorem erA_true : ∀ t : PA, erA true t = t
  | .mk x n bo => by rw [erA, erSs_true bo]
theorem erSs_true : ∀ l : List PS, erSs true l = l
  | [] => by rw [erSs]
  | t :: l => by rw [erSs, erS_true t, erSs_true l]
theorem erAs_true : ∀ l : List PA, erAs true l = l
  | [] => by rw [erAs]
  | t :: l => by rw [erAs, erA_true t, erAs_true l]
end
theorem erI_true (x : PI) : erI true x = x := by unfold erI; rw [erSs_true, erE_true]; rfl
theorem erIs_true (l : List PI) : l.map (erI true) = l := by
  conv => rhs; rw [← List.map_id l]
  exact List.map_congr_left fun x _ => erI_true x
end Go.Proofs.Ytabncmmadbjegaa
