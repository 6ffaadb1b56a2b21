/- slices.Grow of nil, slices.Concat of two rows of texts. -/
import Derived.Test.YtcllflpfmpggoaaSetsRef2
import Derived.Lib.AppendZerosOnto
import Derived.Lib.Walk
import Derived.Maps.AppendAt
namespace Go.Proofs.Ytcllflpfmpggoaa
open Go.RowKit
set_option linter.unusedVariables false

set_option maxRecDepth 100000 in
set_option maxHeartbeats 2000000 in
theorem grow_calls (n : Nat) (hn : n ≤ 1000000) (w : World) :
    Calls Try.prog 38 #[.slice none 0 0, .int .i64 n] w fun e w' => ∃ v', e = .returned v' ∧ w'.ownsRow w.heap.size 9 1 v' 0 (([] : List ByteArray).map .string) ∧ Below w.heap.size w w' := by
  obtain ⟨i0, hi, hz0, hz1, hz2⟩ := info_parts infoStr
  have h1 : ¬ ((n : Int) < 0) := by omega
  have h3 : wrap64 ((n : Int) - 0) = (n : Int) := by unfold wrap64; omega
  by_cases h0 : n = 0
  · subst h0
    go_enter Try.func38, Try.ntmps38
    go_wp2_with fail
    go_ret
    exact ⟨_, rfl, by simpa using World.ownsRow_nil _ w.heap.size 9 1, Below.refl _ _⟩
  · have h4 : (n : Int) > 0 := by omega
    have hrz : ∀ ty, (Builtin.append_ #[22, 3] ty #[.slice none 0 0, .int .i64 (n : Int)]).run Try.prog w =
        .ok (.slice (some ⟨w.heap.size, 0, none⟩) n (grownCap w n 0 9)) (w.drew.alloc (.cells (Builtin.zeroCells #[.string ⟨#[]⟩] n ++ Builtin.zeroCells #[.string ⟨#[]⟩] (grownCap w n 0 9 - n)) 9)) := fun ty => by
      have h := Lib.run_append_grow_zeros (P := Try.prog) w 22 3 ty 9 i0 _ .i64 .i64 Try.underlying22 Try.underlying3 hi hz0 none 0 0 [] (run_firstCells_none w.drew i0.size 0 0 0) n (by omega) (by omega) (by omega) (by omega) (by rw [hz2]; omega)
        (growslice_fits (by omega) (by rw [hz2]; omega))
      simpa [Value.cells] using h
    obtain ⟨G, hG⟩ : ∃ G, G = grownCap w n 0 9 := ⟨_, rfl⟩
    have hge : n ≤ G := by rw [hG]; exact grownCap_ge w _ _ _
    have hle : G ≤ maxLen := by rw [hG]; exact grownCap_le_maxLen w n 0 _ (by unfold maxLen; omega)
    rw [← hG] at hrz
    have HE : Hid (∀ cs : Array Value, cs.size = G * 1 → (w.drew.alloc (.cells cs 9)).ownsRow w.heap.size 9 1 (.slice (some ⟨w.heap.size, 0, none⟩) 0 G) 0 (([] : List ByteArray).map .string)) := Lib.hid fun cs hs => World.ownsRow_made w.drew cs G (Nat.le_refl _) hle hs
    have HSz : Hid ((Builtin.zeroCells #[Value.string ⟨#[]⟩] n ++ Builtin.zeroCells #[Value.string ⟨#[]⟩] (G - n)).size = G * 1) := Lib.hid (by rw [Array.size_append, size_zeroCells, size_zeroCells]; simp; omega)
    generalize Builtin.zeroCells #[Value.string ⟨#[]⟩] n ++ Builtin.zeroCells #[Value.string ⟨#[]⟩] (G - n) = cs at *
    unfold maxLen at hle
    clear hG
    go_enter Try.func38, Try.ntmps38
    go_wp2_with (at_builtin; refine Lib.wpList_append_run _ rfl _ _ _ _ rfl _ _ rfl rfl _ _ (hrz _) ?_)
    all_goals (go_ret; exact ⟨_, rfl, HE.out cs HSz.out, ((Below.refl _ w).drew).alloc (Nat.le_refl _) _⟩)

/-- a row of two rows -/
theorem two_run (w : World) (b : Nat) (x y : Value) (h0 : w.cell? ⟨b, 0, none⟩ = some x) (h1 : w.cell? ⟨b, 1, none⟩ = some y) : ∀ (k : Nat) z, [x, y][k]? = some z → w.cell? ⟨b, 0 + k, none⟩ = some z := by
  intro k z hk
  match k, hk with
  | 0, hk => cases hk; exact h0
  | 1, hk => cases hk; exact h1

set_option maxRecDepth 100000 in
set_option maxHeartbeats 4000000 in
theorem concat_calls (B : Nat) (xs ys : List ByteArray) (v1 v2 : Value) (hl : xs.length + ys.length ≤ 1000) (b : Nat) (w : World) (hB : B ≤ w.heap.size) (h1 : SIn B w xs v1) (h2 : SIn B w ys v2) (hb : b < w.heap.size) (c0 : w.cell? ⟨b, 0, none⟩ = some v1) (c1 : w.cell? ⟨b, 1, none⟩ = some v2) :
    Calls Try.prog 31 #[.slice (some ⟨b, 0, none⟩) 2 2] w fun e w' => ∃ v', e = .returned v' ∧ w'.ownsRow w.heap.size 9 1 v' (xs ++ ys).length ((xs ++ ys).map .string) ∧ Below w.heap.size w w' := by
  obtain ⟨a1, p1, rfl⟩ : ∃ a1 p1, v1 = .slice a1 xs.length p1 := by obtain ⟨_, _, h, _⟩ := h1; exact h.shape
  obtain ⟨a2, p2, rfl⟩ : ∃ a2 p2, v2 = .slice a2 ys.length p2 := by obtain ⟨_, _, h, _⟩ := h2; exact h.shape
  have H1 := Lib.hid h1
  have H2 := Lib.hid h2
  obtain ⟨n, hn⟩ : ∃ n, n = xs.length := ⟨_, rfl⟩
  obtain ⟨m, hm⟩ : ∃ m, m = ys.length := ⟨_, rfl⟩
  rw [← hn] at H1 c0 hl
  rw [← hm] at H2 c1 hl
  have HG : Hid (∀ W : World, Calls Try.prog 38 #[.slice none 0 0, .int .i64 ((n : Int) + (m : Int))] W fun e w' => ∃ v', e = .returned v' ∧ w'.ownsRow W.heap.size 9 1 v' 0 (([] : List ByteArray).map .string) ∧ Below W.heap.size W w') := Lib.hid fun W => by
    have := grow_calls (n + m) (by omega) W
    rwa [Int.natCast_add] at this
  have HL : Hid ((xs ++ ys).length = n + m) := Lib.hid (by rw [List.length_append, ← hn, ← hm])
  have Hn := Lib.hid hn
  have Hm := Lib.hid hm
  clear h1 h2 hn hm
  go_enter Try.func31, Try.ntmps31
  go_wp2_with fail
  go_loopw [3, 11] (fun s i wr => ∃ k : Nat, k ≤ 2 ∧ i = .int .i64 k ∧ s = .int .i64 (if k = 0 then 0 else if k = 1 then (n : Int) else (n : Int) + m) ∧ w = wr)
    (fun s i _ => 2 - (intOf i).toNat)
  case atStart => exact ⟨0, by omega, rfl, rfl, rfl⟩
  case round =>
    obtain ⟨k, hk, rfl, rfl, rfl⟩ := hrel
    rcases (by omega : k = 0 ∨ k = 1 ∨ k = 2) with rfl | rfl | rfl
    · have e3 : ¬ ((n : Int) < 0) := by omega
      go_wp2_with fail
      go_roundw
      case rel => exact ⟨1, by omega, rfl, by simp, by first | rfl | trivial⟩
      case measure => simp [intOf]
    · have e3 : ¬ ((n : Int) + (m : Int) < 0) := by omega
      go_wp2_with fail
      go_roundw
      case rel => exact ⟨2, by omega, rfl, by simp, by first | rfl | trivial⟩
      case measure => simp [intOf]
    · go_wp2_with (go_at_call 38; refine (HG.out _).mono ?_; rintro e w1 ⟨u0, rfl, hown, hbel⟩)
      have z1 : b < w1.heap.size := by have := hbel.size; omega
      have H0 := Lib.hid hown
      have Hb := Lib.hid hbel
      have d0 := (hbel.cell (p := ⟨b, 0, none⟩) hb).trans c0
      have d1 := (hbel.cell (p := ⟨b, 1, none⟩) hb).trans c1
      clear hown hbel
      go_loopw [6, 27] (fun u i W => ∃ k : Nat, k ≤ 2 ∧ i = .int .i64 k ∧ Hid (Below w.heap.size w W) ∧ Hid (W.ownsRow w.heap.size 9 1 u (if k = 0 then [] else if k = 1 then xs else xs ++ ys).length ((if k = 0 then [] else if k = 1 then xs else xs ++ ys).map .string)))
        (fun u i _ => 2 - (intOf i).toNat)
      case atStart => exact ⟨0, by omega, rfl, Hb, H0⟩
      case round =>
        obtain ⟨k, hk, rfl, HB, HO⟩ := hrel
        have d0 := (HB.out.cell (p := ⟨b, 0, none⟩) hb).trans c0
        have d1 := (HB.out.cell (p := ⟨b, 1, none⟩) hb).trans c1
        have z3 := HB.out.size
        rcases (by omega : k = 0 ∨ k = 1 ∨ k = 2) with rfl | rfl | rfl
        · have HO : Hid (wr.ownsRow w.heap.size 9 1 u6 0 (([] : List ByteArray).map .string)) := HO
          have HY := Lib.hid (H1.out.below (HB.out.mono hB))
          go_wp2_with (first
            | (at_builtin; refine wpList_app rfl _ _ rfl w.heap.size _ 0 [] rfl HO.out xs _ n Hn.out rfl B (Nat.le_trans hB z3) HY.out (by omega) z3 ?_)
            | fail)
          intro u1 w2 hown hg
          have hb2 := HB.out.grown hg z3 (fun k hk => (HO.out.lt k hk).1)
          go_wp2_with fail
          go_roundw
          case rel => exact ⟨1, by omega, rfl, Lib.hid hb2, Lib.hid (by simpa [← Hn.out] using hown)⟩
          case measure => simp [intOf]
        · have HO : Hid (wr.ownsRow w.heap.size 9 1 u6 n (xs.map .string)) := Lib.hid (by have := HO.out; rw [Hn.out]; simpa using this)
          have HY := Lib.hid (H2.out.below (HB.out.mono hB))
          go_wp2_with (first
            | (at_builtin; refine wpList_app rfl _ _ rfl w.heap.size _ n xs rfl HO.out ys _ m Hm.out rfl B (Nat.le_trans hB z3) HY.out (by omega) z3 ?_)
            | fail)
          intro u1 w2 hown hg
          have hb2 := HB.out.grown hg z3 (fun k hk => (HO.out.lt k hk).1)
          go_wp2_with fail
          go_roundw
          case rel => exact ⟨2, by omega, rfl, Lib.hid hb2, Lib.hid (by have := hown; rw [← HL.out] at this; simpa using this)⟩
          case measure => simp [intOf]
        · have HO : Hid (wr.ownsRow w.heap.size 9 1 u6 (xs ++ ys).length ((xs ++ ys).map .string)) := HO
          go_wp2_with fail
          go_ret
          exact ⟨_, rfl, HO.out, HB.out⟩
end Go.Proofs.Ytcllflpfmpggoaa
