/- What all laws of this layer ask of the chapter's rows. -/
import Derived.Test.YtcllflpfmpggoaaSetsCode2
import Derived.Deep.RegionHeld3
namespace Go.Proofs.Ytcllflpfmpggoaa
open Go.RowKit
set_option linter.unusedVariables false

abbrev cA : ByteArray := ⟨#[97]⟩
abbrev cB : ByteArray := ⟨#[98]⟩
abbrev cC : ByteArray := ⟨#[99]⟩
theorem small_byte (a : UInt8) : (⟨#[a]⟩ : ByteArray).size ≤ strMax := by show 1 ≤ _; decide
theorem SIn.nothing (B : Nat) (w : World) (ao : Option Addr) (cap : Nat) : SIn B w [] (.slice ao 0 cap) := ⟨0, 0, ⟨Nat.zero_le _, ao, cap, rfl, Nat.zero_le _, .inl rfl⟩, fun j s h => by cases h⟩
theorem SIn.lit1 {w : World} {b : Nat} {s : ByteArray} (h : w.cell? ⟨b, 0, none⟩ = some (.string s)) (hb : b < w.heap.size) (hs : s.size ≤ strMax) : SIn w.heap.size w [s] (.slice (some ⟨b, 0, none⟩) 1 1) := by
  refine ⟨b, 0, ⟨by show 1 ≤ maxLen; decide, _, 1, rfl, Nat.le_refl _, .inr ⟨rfl, hb⟩⟩, fun j t hj => ?_⟩
  match j, hj with
  | 0, hj => cases hj; exact ⟨hs, h⟩
theorem SIn.lit2 {w : World} {b : Nat} {s t : ByteArray} (h : w.cell? ⟨b, 0, none⟩ = some (.string s)) (h1 : w.cell? ⟨b, 1, none⟩ = some (.string t)) (hb : b < w.heap.size) (hs : s.size ≤ strMax) (ht : t.size ≤ strMax) : SIn w.heap.size w [s, t] (.slice (some ⟨b, 0, none⟩) 2 2) := by
  refine ⟨b, 0, ⟨by show 2 ≤ maxLen; decide, _, 2, rfl, Nat.le_refl _, .inr ⟨rfl, hb⟩⟩, fun j t hj => ?_⟩
  match j, hj with
  | 0, hj => cases hj; exact ⟨hs, h⟩
  | 1, hj => cases hj; exact ⟨ht, h1⟩
theorem SIn.lit3 {w : World} {b : Nat} {s t u : ByteArray} (h : w.cell? ⟨b, 0, none⟩ = some (.string s)) (h1 : w.cell? ⟨b, 1, none⟩ = some (.string t)) (h2 : w.cell? ⟨b, 2, none⟩ = some (.string u)) (hb : b < w.heap.size) (hs : s.size ≤ strMax) (ht : t.size ≤ strMax) (hu : u.size ≤ strMax) :
    SIn w.heap.size w [s, t, u] (.slice (some ⟨b, 0, none⟩) 3 3) := by
  refine ⟨b, 0, ⟨by show 3 ≤ maxLen; decide, _, 3, rfl, Nat.le_refl _, .inr ⟨rfl, hb⟩⟩, fun j t hj => ?_⟩
  match j, hj with
  | 0, hj => cases hj; exact ⟨hs, h⟩
  | 1, hj => cases hj; exact ⟨ht, h1⟩
  | 2, hj => cases hj; exact ⟨hu, h2⟩
/-- where the first of a row lies -/
theorem SIn.first {w : World} {x : ByteArray} {r : List ByteArray} {v : Value} (n : Nat) (hn : n = (x :: r).length) (h : SIn w.heap.size w (x :: r) v) : ∃ b o cap, v = .slice (some ⟨b, o, none⟩) n cap ∧ b < w.heap.size ∧ w.cell? ⟨b, o, none⟩ = some (.string x) := by
  subst hn
  obtain ⟨b, o, ⟨_, ao, cap, rfl, _, h1⟩, hr⟩ := h
  obtain ⟨rfl, hb⟩ := h1.resolve_left (by simp)
  exact ⟨b, o, cap, rfl, hb, (hr 0 x rfl).2⟩

section rows
variable (w : World) (b c : Nat)
theorem of_row (h0 : w.cell? ⟨b, 0, none⟩ = some (.string cB)) (h1 : w.cell? ⟨b, 1, none⟩ = some (.string cA)) (h2 : w.cell? ⟨b, 2, none⟩ = some (.string cB)) (hb : b < w.heap.size) :
    Calls Try.prog 11 #[.slice (some ⟨b, 0, none⟩) 3 3] w fun e w' => ∃ g o cap, e = .returned (.slice (some ⟨g, o, none⟩) 2 cap) ∧ g < w'.heap.size ∧ w'.cell? ⟨g, o, none⟩ = some (.string cA) ∧ Below w.heap.size w w' := by
  refine (of_in w.heap.size [cB, cA, cB] _ (by decide) w (Nat.le_refl _) (SIn.lit3 h0 h1 h2 hb (small_byte _) (small_byte _) (small_byte _))).mono ?_
  rintro e w' ⟨v, rfl, hi, hbel⟩
  rw [show ofN [cB, cA, cB] = [cA, cB] by decide +kernel] at hi
  obtain ⟨g, o, cap, rfl, hg, hc⟩ := hi.first 2 rfl
  exact ⟨g, o, cap, rfl, hg, hc, hbel⟩
variable (x0 x1 y0 y1 : ByteArray) (hx0 : x0.size ≤ strMax) (hx1 : x1.size ≤ strMax) (hy0 : y0.size ≤ strMax) (hy1 : y1.size ≤ strMax)
  (h0 : w.cell? ⟨b, 0, none⟩ = some (.string x0)) (h1 : w.cell? ⟨b, 1, none⟩ = some (.string x1)) (k0 : w.cell? ⟨c, 0, none⟩ = some (.string y0)) (k1 : w.cell? ⟨c, 1, none⟩ = some (.string y1)) (hb : b < w.heap.size) (hc : c < w.heap.size)
  (n : Nat) (z : ByteArray) (r : List ByteArray) (hn : n = (z :: r).length)
include hx0 hx1 hy0 hy1 h0 h1 k0 k1 hb hc hn
theorem union_row (hr : unionN [x0, x1] [y0, y1] = z :: r) :
    Calls Try.prog 17 #[.slice (some ⟨b, 0, none⟩) 2 2, .slice (some ⟨c, 0, none⟩) 2 2] w fun e w' => ∃ g o cap, e = .returned (.slice (some ⟨g, o, none⟩) n cap) ∧ g < w'.heap.size ∧ w'.cell? ⟨g, o, none⟩ = some (.string z) ∧ Below w.heap.size w w' := by
  refine (union_calls w.heap.size [x0, x1] [y0, y1] _ _ (by simp) w (Nat.le_refl _) (SIn.lit2 h0 h1 hb hx0 hx1) (SIn.lit2 k0 k1 hc hy0 hy1)).mono ?_
  rintro e w' ⟨v, rfl, hi, hbel⟩
  rw [hr] at hi
  obtain ⟨g, o, cap, rfl, hg, hc⟩ := hi.first n hn
  exact ⟨g, o, cap, rfl, hg, hc, hbel⟩
theorem common_row (hr : pickN [x0, x1] [y0, y1] true = z :: r) :
    Calls Try.prog 19 #[.slice (some ⟨b, 0, none⟩) 2 2, .slice (some ⟨c, 0, none⟩) 2 2] w fun e w' => ∃ g o cap, e = .returned (.slice (some ⟨g, o, none⟩) n cap) ∧ g < w'.heap.size ∧ w'.cell? ⟨g, o, none⟩ = some (.string z) ∧ Below w.heap.size w w' := by
  refine (common_in w.heap.size [x0, x1] [y0, y1] _ _ (by simp) (by simp) w (Nat.le_refl _) (SIn.lit2 h0 h1 hb hx0 hx1) (SIn.lit2 k0 k1 hc hy0 hy1)).mono ?_
  rintro e w' ⟨v, rfl, hi, hbel⟩
  rw [hr] at hi
  obtain ⟨g, o, cap, rfl, hg, hc⟩ := hi.first n hn
  exact ⟨g, o, cap, rfl, hg, hc, hbel⟩
theorem minus_row (hr : pickN [x0, x1] [y0, y1] false = z :: r) :
    Calls Try.prog 21 #[.slice (some ⟨b, 0, none⟩) 2 2, .slice (some ⟨c, 0, none⟩) 2 2] w fun e w' => ∃ g o cap, e = .returned (.slice (some ⟨g, o, none⟩) n cap) ∧ g < w'.heap.size ∧ w'.cell? ⟨g, o, none⟩ = some (.string z) ∧ Below w.heap.size w w' := by
  refine (minus_calls w.heap.size [x0, x1] [y0, y1] _ _ (by simp) (by simp) w (Nat.le_refl _) (SIn.lit2 h0 h1 hb hx0 hx1) (SIn.lit2 k0 k1 hc hy0 hy1)).mono ?_
  rintro e w' ⟨v, rfl, hi, hbel⟩
  rw [hr] at hi
  obtain ⟨g, o, cap, rfl, hg, hc⟩ := hi.first n hn
  exact ⟨g, o, cap, rfl, hg, hc, hbel⟩
theorem join_row (hr : pickN [x0, x1] [y0, y1] true = z :: r) :
    Calls Try.prog 25 #[.agg #[.bool false, .slice (some ⟨b, 0, none⟩) 2 2], .agg #[.bool false, .slice (some ⟨c, 0, none⟩) 2 2]] w fun e w' => ∃ g o cap, e = .returned (.agg #[.bool false, .slice (some ⟨g, o, none⟩) n cap]) ∧ g < w'.heap.size ∧ w'.cell? ⟨g, o, none⟩ = some (.string z) ∧ Below w.heap.size w w' := by
  refine (join_calls w.heap.size false false [x0, x1] [y0, y1] _ _ (by simp) (by simp) w (Nat.le_refl _) (SIn.lit2 h0 h1 hb hx0 hx1) (SIn.lit2 k0 k1 hc hy0 hy1)).mono ?_
  rintro e w' ⟨v, rfl, hi, hbel⟩
  rw [show joinL false [x0, x1] false [y0, y1] = pickN [x0, x1] [y0, y1] true from rfl, hr] at hi
  obtain ⟨g, o, cap, rfl, hg, hc⟩ := hi.first n hn
  exact ⟨g, o, cap, rfl, hg, hc, hbel⟩
end rows
theorem dead_row (w : World) (b : Nat) (h0 : w.cell? ⟨b, 0, none⟩ = some (.string cA)) (hb : b < w.heap.size) :
    Calls Try.prog 25 #[.agg #[.bool true, .slice none 0 0], .agg #[.bool false, .slice (some ⟨b, 0, none⟩) 1 1]] w fun e w' => ∃ g o cap, e = .returned (.agg #[.bool false, .slice (some ⟨g, o, none⟩) 1 cap]) ∧ g < w'.heap.size ∧ w'.cell? ⟨g, o, none⟩ = some (.string cA) ∧ Below w.heap.size w w' := by
  refine (join_calls w.heap.size true false [] [cA] _ _ (by simp) (by simp) w (Nat.le_refl _) (SIn.nothing _ _ none 0) (SIn.lit1 h0 hb (small_byte _))).mono ?_
  rintro e w' ⟨v, rfl, hi, hbel⟩
  rw [show joinL true [] false [cA] = [cA] by decide +kernel] at hi
  obtain ⟨g, o, cap, rfl, hg, hc⟩ := hi.first 1 rfl
  exact ⟨g, o, cap, rfl, hg, hc, hbel⟩
theorem within_row (w : World) (b c : Nat) (h0 : w.cell? ⟨b, 0, none⟩ = some (.string cA)) (h1 : w.cell? ⟨b, 1, none⟩ = some (.string cC)) (k0 : w.cell? ⟨c, 0, none⟩ = some (.string cA)) (k1 : w.cell? ⟨c, 1, none⟩ = some (.string cB)) (hb : b < w.heap.size) (hc : c < w.heap.size) :
    Calls Try.prog 24 #[.slice (some ⟨b, 0, none⟩) 2 2, .slice (some ⟨c, 0, none⟩) 2 2] w fun e w' => e = .returned (.bool false) ∧ Below w.heap.size w w' := by
  have h := within_calls w.heap.size [cA, cC] [cA, cB] _ _ (by simp) (by simp) w (Nat.le_refl _) (SIn.lit2 h0 h1 hb (small_byte _) (small_byte _)) (SIn.lit2 k0 k1 hc (small_byte _) (small_byte _))
  rwa [show withinN [cA, cC] [cA, cB] = false by decide +kernel] at h

theorem lits2 {w W : World} {x0 x1 y0 y1 : ByteArray} (hW : W = (w.alloc (.cells #[.string x0, .string x1] 9)).alloc (.cells #[.string y0, .string y1] 9)) :
    W.cell? ⟨w.heap.size, 0, none⟩ = some (.string x0) ∧ W.cell? ⟨w.heap.size, 1, none⟩ = some (.string x1) ∧ W.cell? ⟨w.heap.size + 1, 0, none⟩ = some (.string y0) ∧ W.cell? ⟨w.heap.size + 1, 1, none⟩ = some (.string y1) ∧ w.heap.size < W.heap.size ∧ w.heap.size + 1 < W.heap.size ∧ Below w.heap.size w W := by
  subst hW
  exact ⟨by go_simp, by go_simp, by go_simp, by go_simp, by simp; omega, by simp, box2 _ _ _⟩
theorem cell_up {w W : World} {g o : Nat} {v : Value} (hg : g < w.heap.size) (hc : w.cell? ⟨g, o, none⟩ = some v) (hb : Below w.heap.size w W) : g < W.heap.size ∧ W.cell? ⟨g, o, none⟩ = some v :=
  ⟨Nat.lt_of_lt_of_le hg hb.size, (hb.cell (p := ⟨g, o, none⟩) hg).trans hc⟩

set_option maxRecDepth 100000 in
set_option maxHeartbeats 4000000 in
theorem awake_calls (w : World) : Calls Try.prog 16 #[] w fun e w' => e = .returned (.bool true) ∧ Below w.heap.size w w' := by
  go_enter Try.func16, Try.ntmps16
  go_wp2_with fail
  obtain ⟨W1, hW⟩ : ∃ W, W = w.alloc (.cells #[.string cB, .string cA, .string cB] 9) := ⟨_, rfl⟩
  have s0 : W1.cell? ⟨w.heap.size, 0, none⟩ = some (.string cB) := by rw [hW]; go_simp
  have s1 : W1.cell? ⟨w.heap.size, 1, none⟩ = some (.string cA) := by rw [hW]; go_simp
  have s2 : W1.cell? ⟨w.heap.size, 2, none⟩ = some (.string cB) := by rw [hW]; go_simp
  have z1 : w.heap.size < W1.heap.size := by rw [hW]; simp
  have b1 : Below w.heap.size w W1 := by rw [hW]; exact box1 _ _
  rw [← hW]
  clear hW
  refine (of_row W1 _ s0 s1 s2 z1).mono ?_
  rintro e w1 ⟨gl, ol, cl, rfl, hgl, kl, b2⟩
  have HB := Lib.hid (b1.trans (b2.mono b1.size))
  clear b1 b2 s0 s1 s2 z1
  go_wp2_with fail
  obtain ⟨W2, hW⟩ : ∃ W, W = (w1.alloc (.cells #[.string cA, .string cC] 9)).alloc (.cells #[.string cB, .string cC] 9) := ⟨_, rfl⟩
  obtain ⟨p0, p1, q0, q1, zb, zc, b1⟩ := lits2 hW
  rw [← hW]
  clear hW
  obtain ⟨hgl, kl⟩ := cell_up hgl kl b1
  refine (union_row W2 _ _ cA cC cB cC (small_byte _) (small_byte _) (small_byte _) (small_byte _) p0 p1 q0 q1 zb zc 3 cA [cB, cC] rfl (by decide +kernel)).mono ?_
  rintro e w2 ⟨gu, ou, cu, rfl, hgu, kgu, b2⟩
  obtain ⟨hgl, kl⟩ := cell_up hgl kl b2
  have HB := Lib.hid (HB.out.trans ((b1.trans (b2.mono b1.size)).mono HB.out.size))
  clear b1 b2 p0 p1 q0 q1 zb zc hgu kgu
  go_wp2_with fail
  obtain ⟨W3, hW⟩ : ∃ W, W = (w2.alloc (.cells #[.string cA, .string cC] 9)).alloc (.cells #[.string cB, .string cC] 9) := ⟨_, rfl⟩
  obtain ⟨p0, p1, q0, q1, zb, zc, b1⟩ := lits2 hW
  rw [← hW]
  clear hW
  obtain ⟨hgl, kl⟩ := cell_up hgl kl b1
  refine (common_row W3 _ _ cA cC cB cC (small_byte _) (small_byte _) (small_byte _) (small_byte _) p0 p1 q0 q1 zb zc 1 cC [] rfl (by decide +kernel)).mono ?_
  rintro e w3 ⟨gc, oc, cc, rfl, hgc, kgc, b2⟩
  obtain ⟨hgl, kl⟩ := cell_up hgl kl b2
  have HB := Lib.hid (HB.out.trans ((b1.trans (b2.mono b1.size)).mono HB.out.size))
  clear b1 b2 p0 p1 q0 q1 zb zc
  go_wp2_with fail
  obtain ⟨W4, hW⟩ : ∃ W, W = (w3.alloc (.cells #[.string cA, .string cC] 9)).alloc (.cells #[.string cB, .string cC] 9) := ⟨_, rfl⟩
  obtain ⟨p0, p1, q0, q1, zb, zc, b1⟩ := lits2 hW
  rw [← hW]
  clear hW
  obtain ⟨hgl, kl⟩ := cell_up hgl kl b1
  obtain ⟨hgc, kgc⟩ := cell_up hgc kgc b1
  refine (minus_row W4 _ _ cA cC cB cC (small_byte _) (small_byte _) (small_byte _) (small_byte _) p0 p1 q0 q1 zb zc 1 cA [] rfl (by decide +kernel)).mono ?_
  rintro e w4 ⟨gm, om, cm, rfl, hgm, kgm, b2⟩
  obtain ⟨hgl, kl⟩ := cell_up hgl kl b2
  obtain ⟨hgc, kgc⟩ := cell_up hgc kgc b2
  have HB := Lib.hid (HB.out.trans ((b1.trans (b2.mono b1.size)).mono HB.out.size))
  clear b1 b2 p0 p1 q0 q1 zb zc
  go_wp2_with fail
  obtain ⟨W5, hW⟩ : ∃ W, W = (w4.alloc (.cells #[.string cA, .string cB] 9)).alloc (.cells #[.string cB, .string cC] 9) := ⟨_, rfl⟩
  obtain ⟨p0, p1, q0, q1, zb, zc, b1⟩ := lits2 hW
  rw [← hW]
  clear hW
  obtain ⟨hgl, kl⟩ := cell_up hgl kl b1
  obtain ⟨hgc, kgc⟩ := cell_up hgc kgc b1
  obtain ⟨hgm, kgm⟩ := cell_up hgm kgm b1
  refine (join_row W5 _ _ cA cB cB cC (small_byte _) (small_byte _) (small_byte _) (small_byte _) p0 p1 q0 q1 zb zc 1 cB [] rfl (by decide +kernel)).mono ?_
  rintro e w5 ⟨gj, oj, cj, rfl, hgj, kgj, b2⟩
  obtain ⟨hgl, kl⟩ := cell_up hgl kl b2
  obtain ⟨hgc, kgc⟩ := cell_up hgc kgc b2
  obtain ⟨hgm, kgm⟩ := cell_up hgm kgm b2
  have HB := Lib.hid (HB.out.trans ((b1.trans (b2.mono b1.size)).mono HB.out.size))
  clear b1 b2 p0 p1 q0 q1 zb zc
  go_wp2_with fail
  obtain ⟨W6, hW⟩ : ∃ W, W = (w5.alloc (.cells #[.bool false, .slice (some ⟨gj, oj, none⟩) 1 cj] 32)).alloc (.cells #[.string cA] 9) := ⟨_, rfl⟩
  have j0 : W6.cell? ⟨w5.heap.size, 0, none⟩ = some (.bool false) := by rw [hW]; go_simp
  have j1 : W6.cell? ⟨w5.heap.size, 1, none⟩ = some (.slice (some ⟨gj, oj, none⟩) 1 cj) := by rw [hW]; go_simp
  have p0 : W6.cell? ⟨w5.heap.size + 1, 0, none⟩ = some (.string cA) := by rw [hW]; go_simp
  have zj : w5.heap.size < W6.heap.size := by rw [hW]; simp; try omega
  have zb : w5.heap.size + 1 < W6.heap.size := by rw [hW]; simp
  have b1 : Below w5.heap.size w5 W6 := by rw [hW]; exact box2 _ _ _
  rw [← hW]
  clear hW
  obtain ⟨hgl, kl⟩ := cell_up hgl kl b1
  obtain ⟨hgc, kgc⟩ := cell_up hgc kgc b1
  obtain ⟨hgm, kgm⟩ := cell_up hgm kgm b1
  obtain ⟨hgj, kgj⟩ := cell_up hgj kgj b1
  refine (dead_row W6 _ p0 zb).mono ?_
  rintro e w6 ⟨gd, od, cd, rfl, hgd, kgd, b2⟩
  obtain ⟨hgl, kl⟩ := cell_up hgl kl b2
  obtain ⟨hgc, kgc⟩ := cell_up hgc kgc b2
  obtain ⟨hgm, kgm⟩ := cell_up hgm kgm b2
  obtain ⟨hgj, kgj⟩ := cell_up hgj kgj b2
  obtain ⟨zj', j0⟩ := cell_up zj j0 b2
  obtain ⟨zj, j1⟩ := cell_up zj j1 b2
  have HB := Lib.hid (HB.out.trans ((b1.trans (b2.mono b1.size)).mono HB.out.size))
  generalize w5.heap.size = gJ at *
  clear b1 b2 p0 zb zj'
  go_wp2_with fail
  obtain ⟨W7, hW⟩ : ∃ W, W = ((w6.alloc (.cells #[.bool false, .slice (some ⟨gd, od, none⟩) 1 cd] 32)).alloc (.cells #[.string cA, .string cC] 9)).alloc (.cells #[.string cA, .string cB] 9) := ⟨_, rfl⟩
  have p0 : W7.cell? ⟨w6.heap.size + 1, 0, none⟩ = some (.string cA) := by rw [hW]; go_simp
  have p1 : W7.cell? ⟨w6.heap.size + 1, 1, none⟩ = some (.string cC) := by rw [hW]; go_simp
  have q0 : W7.cell? ⟨w6.heap.size + 1 + 1, 0, none⟩ = some (.string cA) := by rw [hW]; go_simp
  have q1 : W7.cell? ⟨w6.heap.size + 1 + 1, 1, none⟩ = some (.string cB) := by rw [hW]; go_simp
  have zb : w6.heap.size + 1 < W7.heap.size := by rw [hW]; simp; try omega
  have zc : w6.heap.size + 1 + 1 < W7.heap.size := by rw [hW]; simp
  have b1 : Below w6.heap.size w6 W7 := by rw [hW]; exact (box2 _ _ _).alloc (by simp; omega) _
  rw [← hW]
  clear hW
  refine (within_row W7 _ _ p0 p1 q0 q1 zb zc).mono ?_
  rintro e w7 ⟨rfl, b2⟩
  have HB := Lib.hid (HB.out.trans ((b1.trans (b2.mono b1.size)).mono HB.out.size))
  clear b1 b2 p0 p1 q0 q1 zb zc hgl kl hgc kgc hgm kgm hgj kgj zj j0 j1
  go_wp2_with fail
  go_ret
  exact ⟨rfl, HB.out⟩
end Go.Proofs.Ytcllflpfmpggoaa
