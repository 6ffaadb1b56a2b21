/- show.Program of any program that is whole, the empty one too; ShowItems: the law. -/
import Derived.Test.YthilicmhdkmipaaGreatDoorIShowItemsWalk
namespace Go.Proofs.YthilicmhdkmipaaGreatDoor
open Go.RowKit
set_option linter.unusedVariables false

theorem program_nil (R : Nat) (ao : Option Addr) (cap : Nat) (w : World) (hR : R < w.heap.size) :
    Calls Tryz.prog 45 #[.pointer (some ⟨R, 0, none⟩), .agg #[.slice ao 0 cap]] w fun e w' => e = .returned (.tuple #[]) ∧ Below w.heap.size w w' := by
  have BX := Lib.hid (new_only w (.cells #[.slice ao 0 cap] 24))
  go_enter Tryz.func45, Tryz.ntmps45
  go_wp2_with fail
  go_loopw [9] (fun i wr => i = .int .i64 0 ∧ Hid (Below w.heap.size w wr)) (fun _ _ => 0)
  case atStart => exact ⟨rfl, BX⟩
  case round =>
    obtain ⟨rfl, Hb⟩ := hrel
    go_wp2
    go_end0
    exact ⟨rfl, Hb.out⟩
set_option maxRecDepth 100000 in
set_option maxHeartbeats 4000000 in
theorem shownG0_calls (ao : Option Addr) (cap : Nat) (w : World)
    (hq : ∀ W, Below w.heap.size w W → Calls Tryz.prog 29 #[.agg #[.slice ao 0 cap]] W fun e w' => e = .returned (.bool true) ∧ Below W.heap.size W w') :
    Calls Tryz.prog 44 #[.agg #[.slice ao 0 cap], .func (.func 29) #[] #[], .func (.func 45) #[] #[]] w fun e w' => e = .returned (.string ⟨#[]⟩) ∧ Below w.heap.size w w' := by
  obtain ⟨w1, hw1⟩ : ∃ w1, w1 = w.alloc (.cells #[.slice ao 0 cap] 24) := ⟨_, rfl⟩
  have bx : Below w.heap.size w w1 := by rw [hw1]; exact new_only _ _
  have hz : w.heap.size < w1.heap.size := by rw [hw1]; simp
  have x0 : w1.cell? ⟨w.heap.size, 0, none⟩ = some (.slice ao 0 cap) := by rw [hw1]; go_simp
  have C1 := Lib.hid (hq w1 bx)
  clear hq
  go_enter Tryz.func44, Tryz.ntmps44
  go_upto_region 1 with (fail)
  rw [← hw1]
  clear hw1
  go_wp2_with fail
  (with_reducible refine (C1.out).mono ?_)
  rintro e w2 ⟨rfl, bq⟩
  have B2 := Lib.hid (bx.trans (bq.mono (by omega)))
  have z2 := bq.size
  have y0 := (bq.cell (p := ⟨w.heap.size, 0, none⟩) hz).trans x0
  obtain ⟨w3, hw3⟩ : ∃ w3, w3 = w2.alloc (.cells #[.pointer none, .slice none 0 0, .string ⟨#[]⟩] 140) := ⟨_, rfl⟩
  have hg : w3.heap[w2.heap.size]? = some (.cells #[.pointer none, .slice none 0 0, .string ⟨#[]⟩] 140 (0, 0)) := by rw [hw3]; exact heap_alloc_new w2 _
  have b3 : Below w2.heap.size w2 w3 := by rw [hw3]; exact new_only _ _
  have z3 : w2.heap.size < w3.heap.size := by rw [hw3]; simp
  have C2 := Lib.hid (program_nil w2.heap.size ao cap w3 z3)
  have v0 := (b3.cell (p := ⟨w.heap.size, 0, none⟩) (show w.heap.size < w2.heap.size by omega)).trans y0
  have B3 := Lib.hid (B2.out.trans (b3.mono (by omega)))
  have HG := Lib.hid hg
  clear bq b3 C1 x0 y0 hg
  go_upto_region 4 with (fail)
  rw [← hw3]
  clear hw3
  go_wp2_with fail
  refine (C2.out).mono ?_
  rintro e w4 ⟨rfl, b4⟩
  have B4 := Lib.hid (B3.out.trans (b4.mono (by omega)))
  have C3 := Lib.hid (all_nil w4.heap.size w2.heap.size (.pointer none) ⟨#[]⟩ w4 ((b4.block w2.heap.size z3).trans HG.out))
  have z4 : w2.heap.size < w4.heap.size := by have := b4.size; omega
  clear b4 C2
  go_wp2_with (go_at_call 87; refine (C3.out).mono ?_; rintro e w5 ⟨rfl, b5⟩; have B5 := Lib.hid (B4.out.trans (b5.mono (by omega))); clear b5)
  go_ret
  exact ⟨rfl, B5.out⟩
theorem whole_nil : wholeR 40 (rtP []) = true := by decide +kernel
theorem textP_ne {x : PI} {l : List PI} : textP (x :: l) ≠ [] := by rw [textP]; simp
theorem items_of {l : List PI} (hw : wholeR 40 (rtP l) = true) (B R : Nat) : ∀ x ∈ l, ItemAt B R x := fun x hx => by
  rw [rtP, wholeR, Bool.and_eq_true, List.all_eq_true] at hw
  exact item_calls B R 38 x (hw.2 (rtI x) (List.mem_map.2 ⟨x, hx, rfl⟩))
set_option maxHeartbeats 2000000 in
theorem showAny_calls (l : List PI) (ao : Option Addr) (n q : Nat) (w : World) (hW : Words w.heap.size w) (hm : MaxOk w) (hp : ProgIn w.heap.size w l (.slice ao n q)) (hw : wholeR 40 (rtP l) = true) (hL : (textP l).length ≤ 1000000000) :
    Calls Tryz.prog 12 #[.agg #[.slice ao n q]] w fun e w' => e = .returned (.string ⟨(textP l).toArray⟩) ∧ Below w.heap.size w w' := by
  cases l with
  | cons x l =>
    have := showG_calls w.heap.size (x :: l) ao n q w (Nat.le_refl _) hW hm hp (fun _ B R => items_of hw B R) (fun _ => hL) (fun _ => textP_ne)
    rw [if_pos hw] at this
    exact this
  | nil =>
    obtain rfl : n = 0 := by
      obtain ⟨b, o, s, _⟩ := hp
      exact (slv_lenJ s).1
    have bx : Below w.heap.size w (w.alloc (.cells #[.slice ao 0 q] 24)) := new_only _ _
    have C := Lib.hid (shownG0_calls ao q (w.alloc (.cells #[.slice ao 0 q] 24)) (fun W hb => by
      have hk := bx.trans (hb.mono (by simp))
      have := topWhole_calls W.heap.size [] ao 0 q W (Nat.le_refl _) (hm.below hk) (ProgIn.wider hk.size (ProgIn.below hk hp))
      rwa [whole_nil] at this))
    have BX := Lib.hid bx
    clear bx hp hW hm hw hL
    show Calls Tryz.prog 12 #[.agg #[.slice ao 0 q]] w fun e w' => e = .returned (.string ⟨#[]⟩) ∧ Below w.heap.size w w'
    go_enter Tryz.func12, Tryz.ntmps12
    go_wp2_with fail
    refine (C.out).mono ?_
    rintro e w1 ⟨rfl, b1⟩
    have B1 := Lib.hid (BX.out.trans (b1.mono (by simp)))
    clear b1 C
    go_wp2
    go_ret
    exact ⟨rfl, B1.out⟩
theorem textP_app : ∀ p q : List PI, textP (p ++ q) = textP p ++ textP q
  | [], q => rfl
  | x :: p, q => by rw [List.cons_append, textP, textP, textP_app p q]; simp
theorem whole_app (p q : List PI) (hp : wholeR 40 (rtP p) = true) (hq : wholeR 40 (rtP q) = true) (h1 : p.length ≤ 15) (h2 : q.length ≤ 15) : wholeR 40 (rtP (p ++ q)) = true := by
  rw [rtP, wholeR, Bool.and_eq_true, List.all_eq_true] at hp hq ⊢
  refine ⟨decide_eq_true (by rw [List.length_append]; omega), fun u hu => ?_⟩
  rw [List.map_append, List.mem_append] at hu
  rcases hu with hu | hu
  · exact hp.2 u hu
  · exact hq.2 u hu
theorem prog_shape {B : Nat} {W : World} {l : List PI} {v : Value} (h : ProgIn B W l v) : ∃ ao n c, v = .slice ao n c := by
  obtain ⟨b, o, s, _⟩ := h
  obtain ⟨ao, c, h⟩ := s.shape
  exact ⟨ao, _, c, h⟩
set_option maxHeartbeats 2000000 in
theorem showItems_law (p q : List PI) (p1 : Option Addr) (n1 c1 : Nat) (p2 : Option Addr) (n2 c2 : Nat) (w : World) (hm : MaxOk w) (hW : Words w.heap.size w) (hp : ProgIn w.heap.size w p (.slice p1 n1 c1)) (hq : ProgIn w.heap.size w q (.slice p2 n2 c2)) (hz1 : p1 = none → n1 = 0 ∧ c1 = 0) (hz2 : p2 = none → n2 = 0 ∧ c2 = 0) :
    Calls Tryz.prog 6 #[.agg #[.slice p1 n1 c1], .agg #[.slice p2 n2 c2]] w fun r w' => r = .returned (.bool true) ∧ Below w.heap.size w w' := by
  have hWW : ∀ W, Below w.heap.size w W → Words W.heap.size W := fun W h => (hW.below h).wider h.size
  have AW : Hid (∀ W, Below w.heap.size w W → Calls Tryz.prog 28 #[] W fun e w' => e = .returned (.bool true) ∧ Below W.heap.size W w') := Lib.hid fun W h => awake4_calls W (hm.below h) (hWW W h)
  have G : ∀ (l : List PI) (b : Bool), decide (progR l 20000 < 0) = b → Hid (∀ W v, Below w.heap.size w W → ProgIn W.heap.size W l v → Calls Tryz.prog 10 #[.agg #[v]] W fun e w' => e = .returned (.bool b) ∧ Below W.heap.size W w') := fun l b hb => Lib.hid fun W v _ h => by
    have := great_calls W.heap.size l v W (Nat.le_refl _) h
    rwa [hb] at this
  have Y : ∀ (l : List PI) (b : Bool), wholeR 40 (rtP l) = b → Hid (∀ W v, Below w.heap.size w W → ProgIn W.heap.size W l v → Calls Tryz.prog 29 #[.agg #[v]] W fun e w' => e = .returned (.bool b) ∧ Below W.heap.size W w') := fun l b hb => Lib.hid fun W v bel h => by
    obtain ⟨ao, n, c, rfl⟩ := prog_shape h
    have := topWhole_calls W.heap.size _ ao n c W (Nat.le_refl _) (hm.below bel) h
    rwa [hb] at this
  have S : ∀ (l : List PI), wholeR 40 (rtP l) = true → (textP l).length ≤ 1000000000 → Hid (∀ W v, Below w.heap.size w W → ProgIn W.heap.size W l v → Calls Tryz.prog 12 #[.agg #[v]] W fun e w' => e = .returned (.string ⟨(textP l).toArray⟩) ∧ Below W.heap.size W w') := fun l hb hL => Lib.hid fun W v bel h => by
    obtain ⟨ao, n, c, rfl⟩ := prog_shape h
    exact showAny_calls l ao n c W (hWW W bel) (hm.below bel) h hb hL
  have e1 : n1 = p.length := by obtain ⟨b, o, s, _⟩ := hp; exact (slv_lenJ s).1
  have e2 : n2 = q.length := by obtain ⟨b, o, s, _⟩ := hq; exact (slv_lenJ s).1
  by_cases g1 : progR p 20000 < 0
  · exact showItems_early p q p1 n1 c1 p2 n2 c2 w hp hq hz1 hz2 _ _ _ _ AW (G p true (decide_eq_true g1)) (G q _ rfl) (Y p _ rfl) (Y q _ rfl) (.inl rfl)
  by_cases g2 : progR q 20000 < 0
  · exact showItems_early p q p1 n1 c1 p2 n2 c2 w hp hq hz1 hz2 _ _ _ _ AW (G p false (decide_eq_false g1)) (G q true (decide_eq_true g2)) (Y p _ rfl) (Y q _ rfl) (.inr (.inl ⟨rfl, rfl⟩))
  have G1 := G p false (decide_eq_false g1)
  have G2 := G q false (decide_eq_false g2)
  by_cases l1 : 15 < n1
  · exact showItems_early p q p1 n1 c1 p2 n2 c2 w hp hq hz1 hz2 _ _ _ _ AW G1 G2 (Y p _ rfl) (Y q _ rfl) (.inr (.inr (.inl ⟨rfl, rfl, l1⟩)))
  by_cases l2 : 15 < n2
  · exact showItems_early p q p1 n1 c1 p2 n2 c2 w hp hq hz1 hz2 _ _ _ _ AW G1 G2 (Y p _ rfl) (Y q _ rfl) (.inr (.inr (.inr (.inl ⟨rfl, rfl, by omega, l2⟩))))
  cases h1 : wholeR 40 (rtP p) with
  | false => exact showItems_early p q p1 n1 c1 p2 n2 c2 w hp hq hz1 hz2 _ _ _ _ AW G1 G2 (Y p false h1) (Y q _ rfl) (.inr (.inr (.inr (.inr (.inl ⟨rfl, rfl, by omega, by omega, rfl⟩)))))
  | true =>
  cases h2 : wholeR 40 (rtP q) with
  | false => exact showItems_early p q p1 n1 c1 p2 n2 c2 w hp hq hz1 hz2 _ _ _ _ AW G1 G2 (Y p true h1) (Y q false h2) (.inr (.inr (.inr (.inr (.inr ⟨rfl, rfl, by omega, by omega, rfl, rfl⟩)))))
  | true =>
  have t1 := progR_w hp (by omega)
  have t2 := progR_w hq (by omega)
  have ta : (textP (p ++ q)).length ≤ 1000000000 := by rw [textP_app, List.length_append]; omega
  have SA := S (p ++ q) (whole_app p q h1 h2 (by omega) (by omega)) ta
  rw [textP_app, ← ByteArray.mk_append_mk] at SA
  have sz : ∀ l : List UInt8, (⟨l.toArray⟩ : ByteArray).size = l.length := fun l => by show l.toArray.size = _; simp
  exact showItems0_walk p q p1 n1 c1 p2 n2 c2 w hp hq hz1 hz2 ⟨(textP p).toArray⟩ ⟨(textP q).toArray⟩ (by omega) (by omega) (by rw [sz]; omega) (by rw [sz]; omega) AW G1 G2 (Y p true h1) (Y q true h2) (S p h1 (by omega)) (S q h2 (by omega)) SA
end Go.Proofs.YthilicmhdkmipaaGreatDoor

