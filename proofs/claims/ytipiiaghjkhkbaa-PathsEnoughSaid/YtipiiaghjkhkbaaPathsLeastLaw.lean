/- PathsLeast: Least of places is as the document says. -/
import Derived.Test.YtipiiaghjkhkbaaPathsKit
namespace Go.Proofs.Ytipiiaghjkhkbaa
open Go.RowKit
set_option linter.unusedVariables false

theorem sameL_refl (L : List PP) : sameL L L = true := by simp [sameL]
/-- what Least hands back, as a row of places -/
theorem least_row (B : Nat) (L : List PP) (lv : Value) (hm : L.length ≤ 1000) (hsh : ∀ x, x ∈ L → Short x) (w : World) (hB : B ≤ w.heap.size) (hl : LIn B w L lv) :
    Calls Try.prog 24 #[lv] w fun e w' => ∃ ao cap, e = .returned (.slice ao (leastP L).length cap) ∧ Hid (LIn w'.heap.size w' (leastP L) (.slice ao (leastP L).length cap)) ∧ Below w.heap.size w w' := by
  refine (least_calls B L lv hm hsh w hB hl).mono ?_
  rintro e w' ⟨v, Z, rfl, hZ, hown, hoz, hb⟩
  have hlen : Z.length ≤ L.length := by
    have := congrArg List.length hZ
    have h2 := sel_len L (leastI L.length (keyAt L)) L.length
    rw [List.length_map] at this
    rw [this]; exact h2
  have hsz : ∀ p, p ∈ Z → Short p.1 := fun p hp => hsh _ (sel_mem (Z := L) (p := leastI L.length (keyAt L)) (k := L.length) (by
    have : p.1 ∈ Z.map Prod.fst := List.mem_map.2 ⟨p, hp, rfl⟩
    rw [hZ] at this; exact this))
  have hin := own_L hown rfl (hoz.in hsz) (Nat.le_refl _) (by unfold maxLen; omega)
  rw [hZ] at hin
  obtain ⟨ao, cap, rfl⟩ := hin.shape
  exact ⟨ao, cap, rfl, Lib.hid hin, hb⟩

set_option maxRecDepth 100000 in
set_option maxHeartbeats 2000000 in
theorem pathsLeast_walk (w : World) (L : List PP) (lv : Value) (h1 : LIn w.heap.size w L lv) :
    Calls Try.prog 5 #[lv] w fun e w' => e = .returned (.bool true) ∧ Below w.heap.size w w' := by
  have M1 := Lib.hid (many_calls w.heap.size L lv w (Nat.le_refl _) h1)
  cases hl : manyP L
  rotate_left
  · rw [hl] at M1
    obtain ⟨ao1, cap1, rfl⟩ := h1.shape
    generalize L.length = n at *
    clear h1
    go_enter Try.func5, Try.ntmps5
    go_wp2_with fail
    refine M1.out.mono ?_
    rintro e w1 ⟨rfl, b1⟩
    have Hb := Lib.hid b1
    clear b1
    go_wp2_with fail
    go_ret
    exact ⟨rfl, Hb.out⟩
  obtain ⟨hlen, htight⟩ := few_of hl
  rw [hl] at M1
  have C1 := Lib.hid fun W (h : Below w.heap.size w W) => least_row w.heap.size L lv (by omega) (fun x hx => (htight x hx).short) W h.size (h1.below h)
  have C2 := Lib.hid fun W (h : Below w.heap.size w W) => refLeast_calls w.heap.size L lv (by omega) W h.size (h1.below h)
  obtain ⟨ao1, cap1, rfl⟩ := h1.shape
  have C3 : Hid (∀ (W : World) v1 v2, LIn W.heap.size W (leastP L) v1 → LIn W.heap.size W (leastP L) v2 → Calls Try.prog 23 #[v1, v2] W fun e w' => e = .returned (.bool true) ∧ Below W.heap.size W w') := Lib.hid fun W v1 v2 i1 i2 => by
    have := sameAll_calls W.heap.size (leastP L) (leastP L) v1 v2 W (Nat.le_refl _) i1 i2
    rwa [sameL_refl] at this
  generalize leastP L = R at *
  generalize L.length = n at *
  clear h1 htight hl hlen
  go_enter Try.func5, Try.ntmps5
  go_wp2_with fail
  refine M1.out.mono ?_
  rintro e w1 ⟨rfl, b1⟩
  have Hb := Lib.hid b1
  clear b1 M1
  go_wp2_with fail
  refine (C1.out w1 Hb.out).mono ?_
  rintro e w2 ⟨ao2, cap2, rfl, HR, b1⟩
  have Hb := Lib.hid (Hb.out.trans (b1.mono Hb.out.size))
  clear b1 C1
  go_wp2_with fail
  refine (C2.out w2 Hb.out).mono ?_
  rintro e w3 ⟨v3, rfl, hS, b1⟩
  obtain ⟨ao3, cap3, rfl⟩ := hS.shape
  have HS := Lib.hid hS
  have HR := Lib.hid ((HR.out.below b1).mono b1.size)
  have Hb := Lib.hid (Hb.out.trans (b1.mono Hb.out.size))
  clear b1 C2 hS
  go_wp2_with fail
  refine (C3.out w3 _ _ HR.out HS.out).mono ?_
  rintro e w4 ⟨rfl, b1⟩
  have Hb := Lib.hid (Hb.out.trans (b1.mono Hb.out.size))
  clear b1 C3
  go_wp2_with fail
  refine (awake_calls w4).mono ?_
  rintro e w5 ⟨rfl, b1⟩
  have Hb := Lib.hid (Hb.out.trans (b1.mono Hb.out.size))
  clear b1
  go_wp2_with fail
  go_ret
  exact ⟨rfl, Hb.out⟩
end Go.Proofs.Ytipiiaghjkhkbaa
