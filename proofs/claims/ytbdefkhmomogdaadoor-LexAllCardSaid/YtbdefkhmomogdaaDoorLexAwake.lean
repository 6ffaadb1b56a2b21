/- All as the laws use it; the law's own awake: the chapter's examples. -/
import Derived.Test.YtbdefkhmomogdaaDoorLexRun
namespace Go.Proofs.YtbdefkhmomogdaaDoor
open Go.RowKit Go.Maps
set_option linter.unusedVariables false

/-- v is a slice of the call's own that holds the tokens T -/
def Toks (w : World) (base : Nat) (v : Value) (T : List Tok) : Prop := Hid (w.ownsRow base 30 3 v T.length (cellsT T))
theorem Toks.below {w w' : World} {base : Nat} {v : Value} {T : List Tok} (h : Toks w base v T) (hb : Below w.heap.size w w') : Toks w' base v T := Lib.hid (owns_below h.out hb)
theorem Toks.shape {w : World} {base : Nat} {v : Value} {T : List Tok} (h : Toks w base v T) : ∃ ao cap, v = .slice ao T.length cap := by
  rcases h.out.2 with ⟨h1, h2⟩ | ⟨g, cap, cur, h1, _⟩
  · exact ⟨_, _, by rw [h1, h2]⟩
  · exact ⟨_, _, h1⟩
theorem Toks.full {w : World} {base : Nat} {v : Value} {T : List Tok} (h : Toks w base v T) (hT : T ≠ []) : ∃ g cap, v = .slice (some ⟨g, 0, none⟩) T.length cap ∧ base ≤ g := by
  rcases h.out.2 with ⟨h1, h2⟩ | ⟨g, cap, cur, h1, h2, _⟩
  · exact absurd (List.eq_nil_of_length_eq_zero h2) hT
  · exact ⟨_, _, h1, h2⟩
theorem cellsT_at : ∀ {T : List Tok} {i : Nat} {t : Tok}, T[i]? = some t → (cellsT T)[3 * i]? = some (.int .u8 (t.1 : Int)) ∧ (cellsT T)[3 * i + 1]? = some (.string (bs t.2.1)) ∧ (cellsT T)[3 * i + 2]? = some (.int .i64 (t.2.2 : Int))
  | x :: T, 0, t, h => by
    obtain rfl : x = t := by simpa using h
    exact ⟨rfl, rfl, rfl⟩
  | x :: T, i + 1, t, h => by
    have ih := cellsT_at (T := T) (i := i) (t := t) (by simpa using h)
    have e : cellsT (x :: T) = [.int .u8 (x.1 : Int), .string (bs x.2.1), .int .i64 (x.2.2 : Int)] ++ cellsT T := by simp [cellsT]
    rw [e, show 3 * (i + 1) = 3 + 3 * i from by omega]
    rw [List.getElem?_append_right (by simp only [List.length_cons, List.length_nil]; omega), List.getElem?_append_right (by simp only [List.length_cons, List.length_nil]; omega), List.getElem?_append_right (by simp only [List.length_cons, List.length_nil]; omega)]
    simp only [List.length_cons, List.length_nil]
    rw [show 3 + 3 * i - (0 + 1 + 1 + 1) = 3 * i from by omega, show 3 + 3 * i + 1 - (0 + 1 + 1 + 1) = 3 * i + 1 from by omega, show 3 + 3 * i + 2 - (0 + 1 + 1 + 1) = 3 * i + 2 from by omega]
    exact ih
theorem Toks.at {w : World} {base g cap : Nat} {T : List Tok} (h : Toks w base (.slice (some ⟨g, 0, none⟩) T.length cap) T) {i : Nat} {t : Tok} (ht : T[i]? = some t) :
    w.cell? ⟨g, 3 * i, none⟩ = some (.int .u8 (t.1 : Int)) ∧ w.cell? ⟨g, 3 * i + 1, none⟩ = some (.string (bs t.2.1)) ∧ w.cell? ⟨g, 3 * i + 2, none⟩ = some (.int .i64 (t.2.2 : Int)) := by
  obtain ⟨h1, h2, h3⟩ := cellsT_at ht
  have hi : i < T.length := (List.getElem?_eq_some_iff.1 ht).1
  exact ⟨by rw [h.out.cellAt _ (by omega), h1], by rw [h.out.cellAt _ (by omega), h2], by rw [h.out.cellAt _ (by omega), h3]⟩

theorem all_gives (s : ByteArray) (T : List Tok) (p : Nat) (e0 : Int) (hT : toksT s.data.toList = T) (hp : posT s.data.toList = p) (he : errT s.data.toList = e0) (w : World) (htab : Tab w) :
    Calls Tryd.prog 10 #[.string s] w fun e w' => ∃ ao cap, e = .returned (.tuple #[.slice ao T.length cap, .int .i64 p, .int .i64 e0]) ∧ Toks w' w.heap.size (.slice ao T.length cap) T ∧ Below w.heap.size w w' := by
  refine (all_calls s w htab).mono ?_
  rw [hT, hp, he]
  rintro e w' ⟨v, rfl, hown, hb⟩
  have hk : Toks w' w.heap.size v T := Lib.hid hown
  obtain ⟨ao, cap, rfl⟩ := hk.shape
  exact ⟨ao, cap, rfl, hk, hb⟩

def ex1 : List Tok := [(1, [108, 101, 116], 0), (2, [97, 49], 4), (5, [61], 7), (1, [98, 111, 120], 9), (5, [40], 12), (3, [78, 111, 100, 101, 50], 13), (5, [41], 18), (5, [59], 19)]
def ex2 : List Tok := [(2, [120], 0), (5, [46], 1), (5, [42], 2), (5, [61, 61], 3), (5, [45], 5), (4, [49], 6)]

set_option maxRecDepth 100000 in
set_option maxHeartbeats 2000000 in
theorem awake_calls (w : World) (htab : Tab w) :
    Calls Tryd.prog 11 #[] w fun e w' => e = .returned (.bool true) ∧ Below w.heap.size w w' := by
  have C1 := Lib.hid fun w h => all_gives ⟨#[108, 101, 116, 32, 97, 49, 32, 61, 32, 98, 111, 120, 40, 78, 111, 100, 101, 50, 41, 59, 32, 47, 47, 32, 115, 111]⟩ ex1 0 0 (by decide +kernel) (by decide +kernel) (by decide +kernel) w h
  have C2 := Lib.hid fun w h => all_gives ⟨#[120, 46, 42, 61, 61, 45, 49]⟩ ex2 0 0 (by decide +kernel) (by decide +kernel) (by decide +kernel) w h
  have C3 := Lib.hid fun w h => all_gives ⟨#[97, 36]⟩ [] 1 20 (by decide +kernel) (by decide +kernel) (by decide +kernel) w h
  have C4 := Lib.hid fun w h => all_gives ⟨#[108, 101, 116, 32, 57, 50, 50, 51, 51, 55, 50, 48, 51, 54, 56, 53, 52, 55, 55, 53, 56, 48, 56]⟩ [] 4 20 (by decide +kernel) (by decide +kernel) (by decide +kernel) w h
  go_enter Tryd.func11, Tryd.ntmps11
  go_wp2_with fail
  refine (C1.out _ htab).mono ?_; rintro e w1 ⟨ao1, cap1, rfl, k1, b1⟩
  have htab1 := htab.below b1
  go_wp2_with fail
  refine (C2.out _ htab1).mono ?_; rintro e w2 ⟨ao2, cap2, rfl, k2, b2⟩
  have htab2 := htab1.below b2
  have b12 := up_trans b1 b2
  have k12 := k1.below b2
  clear b1 b2 k1 htab1
  go_wp2_with fail
  refine (C3.out _ htab2).mono ?_; rintro e w3 ⟨ao3, cap3, rfl, k3, b3⟩
  have htab3 := htab2.below b3
  have b13 := up_trans b12 b3
  have k13 := k12.below b3
  have k23 := k2.below b3
  clear b12 b3 k12 k2 k3 htab2
  go_wp2_with fail
  refine (C4.out _ htab3).mono ?_; rintro e w4 ⟨ao4, cap4, rfl, k4, b4⟩
  have b14 := up_trans b13 b4
  have k14 := k13.below b4
  have k24 := k23.below b4
  clear b13 b4 k13 k23 k4 htab3
  obtain ⟨g1, c1, hv1, _⟩ := k14.full (by decide)
  obtain ⟨g2, c2, hv2, _⟩ := k24.full (by decide)
  simp only [Value.slice.injEq] at hv1 hv2
  obtain ⟨rfl, _, rfl⟩ := hv1
  obtain ⟨rfl, _, rfl⟩ := hv2
  obtain ⟨p1, p2, p3⟩ := k14.at (i := 0) (t := (1, [108, 101, 116], 0)) rfl
  obtain ⟨p4, p5, p6⟩ := k14.at (i := 1) (t := (2, [97, 49], 4)) rfl
  obtain ⟨p7, p8, p9⟩ := k14.at (i := 5) (t := (3, [78, 111, 100, 101, 50], 13)) rfl
  obtain ⟨q1, q2, q3⟩ := k24.at (i := 3) (t := (5, [61, 61], 3)) rfl
  obtain ⟨q4, q5, q6⟩ := k24.at (i := 5) (t := (4, [49], 6)) rfl
  have hl1 : ex1.length = 8 := rfl
  have hl2 : ex2.length = 6 := rfl
  simp only [bs] at p2 p5 p8 q2 q5
  go_wp2
  go_ret
  exact ⟨rfl, b14⟩
end Go.Proofs.YtbdefkhmomogdaaDoor
