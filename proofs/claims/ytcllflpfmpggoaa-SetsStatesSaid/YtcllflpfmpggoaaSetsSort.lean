/- sets.rising: the names of a row in order, each once, in a row of its own. -/
import Derived.Test.YtcllflpfmpggoaaSetsSortMath
import Derived.Test.YtcllflpfmpggoaaPathsOwnRow
import Derived.Test.YtcllflpfmpggoaaSetsRef2
import Derived.Test.YtcllflpfmpggoaaShelf
import Derived.Sort.OwnSorted
import Derived.Lib.OwnBridge
import Derived.Lib.SlicesCompact
namespace Go.Proofs.Ytcllflpfmpggoaa
open Go.RowKit
open Go.Sort (Holds putRow grow)
set_option linter.unusedVariables false

/-- what the sort and the compact leave -/
theorem left_ofN {w w1 : World} {g cap nn q : Nat} {os : Array Obj} {l : List ByteArray} (hown : w1.ownsRow w.heap.size 9 1 (.slice (some ⟨g, 0, none⟩) l.length cap) l.length (l.map .string)) (hbel : Below w.heap.size w w1) (hbg : w.heap.size ≤ g) :
    (putRow encStr (Sort.ahead (grow (putRow encStr (Sort.ahead w1 nn) g 0 (sortK l).toArray) os) q) g 0 (Lib.compact (sortK l) ++ List.replicate (l.length - (ofN l).length) []).toArray).ownsRow w.heap.size 9 1 (.slice (some ⟨g, 0, none⟩) (ofN l).length cap) (ofN l).length ((ofN l).map .string) ∧
      Below w.heap.size w (putRow encStr (Sort.ahead (grow (putRow encStr (Sort.ahead w1 nn) g 0 (sortK l).toArray) os) q) g 0 (Lib.compact (sortK l) ++ List.replicate (l.length - (ofN l).length) []).toArray) := by
  have hl2 : (sortK l).length = l.length := sortK_len l
  have hle := ofN_len l
  have hcl := compact_len l
  rcases hown.2 with ⟨h0, _⟩ | ⟨g', cap', cur, hv, hbase, hb, h1, h2, h3, h4⟩
  · cases h0
  cases hv
  have hs := ownsRow_sorted (n := nn) (os := os) (ss := l.map keyS) (ts := sortK l) (by simpa using hl2) hbase hb (by simpa using h1) h2 h3
  have hs' : (grow (putRow encStr (Sort.ahead w1 nn) g 0 (sortK l).toArray) os).ownsRow w.heap.size 9 1 (.slice (some ⟨g, 0, none⟩) l.length cap) l.length ((sortK l).map encStr) := by simpa using hs
  have hc := Lib.ownsRow_putRow (q := q) (k := (ofN l).length) (ys := Lib.compact (sortK l) ++ List.replicate (l.length - (ofN l).length) []) hs' (by simp; omega) hle
  rw [show (ofN l).length = (Lib.compact (sortK l)).length from hcl.symm, List.take_left, compact_vals] at hc
  rw [hcl] at hc
  exact ⟨hc, Lib.below_putRow (hbel.grown (grownBy_sorted _) hbel.size (fun j hj => by cases hj; exact hbase)) hbg⟩

theorem getD_at {l : List ByteArray} {j : Nat} {s : ByteArray} (h : l[j]? = some s) : l.getD j ByteArray.empty = s := by simp [List.getD, h]

set_option maxRecDepth 100000 in
set_option maxHeartbeats 2000000 in
theorem rising_calls (B : Nat) (l : List ByteArray) (v : Value) (hl : l.length ≤ 1000000) (w : World) (hB : B ≤ w.heap.size) (h : SIn B w l v) :
    Calls Try.prog 28 #[v] w fun e w' => ∃ v', e = .returned v' ∧ w'.ownsRow w.heap.size 9 1 v' (ofN l).length ((ofN l).map .string) ∧ Below w.heap.size w w' := by
  obtain ⟨b, o, ⟨m1, ao, cap, rfl, c1, h1⟩, r1⟩ := h
  by_cases hn : l.length = 0
  · obtain rfl := List.eq_nil_of_length_eq_zero hn
    cases ao with
    | none =>
      clear h1 hl r1 m1 c1
      have H1 := fun W => Try.slices_Clone_string_nil 0 cap W
      go_enter Try.func28, Try.ntmps28
      go_wp2_with (first
        | (go_at_call 33; refine (H1 _).mono ?_; rintro e w' ⟨rfl, rfl⟩)
        | (go_at_call 34; refine (Try.slices_Sort_string_none _ _ _).mono ?_; rintro e w' ⟨rfl, rfl⟩)
        | (go_at_call 35; refine (Try.slices_Compact_string_empty _ _ _).mono ?_; rintro e w' ⟨rfl, rfl⟩))
      go_ret
      exact ⟨_, rfl, by simpa [ofN] using World.ownsRow_nil _ _ 9 1, Below.refl _ _⟩
    | some a =>
      clear h1 hl r1 m1 c1
      have H1 := fun W => Try.slices_Clone_string_zero a cap W
      go_enter Try.func28, Try.ntmps28
      go_wp2_with (go_at_call 33; refine (H1 _).mono ?_; rintro e w1 ⟨v1, rfl, hown, hne, hb⟩)
      obtain ⟨va, vc, rfl⟩ := own_shape hown
      have HO := Lib.hid hown
      have HB := Lib.hid hb
      clear hown hb hne
      go_wp2_with (first
        | (go_at_call 34; refine (Try.slices_Sort_string_none _ _ _).mono ?_; rintro e w' ⟨rfl, rfl⟩)
        | (go_at_call 35; refine (Try.slices_Compact_string_empty _ _ _).mono ?_; rintro e w' ⟨rfl, rfl⟩))
      go_ret
      exact ⟨_, rfl, HO.out, HB.out⟩
  · obtain ⟨rfl, hbB⟩ := h1.resolve_left hn
    obtain ⟨n, hnl⟩ : ∃ n, n = l.length := ⟨_, rfl⟩
    have H1 := Lib.hid (Try.slices_Clone_string b o n cap l w (by omega) (by omega) (fun j hj => by
      obtain ⟨s, hs, _⟩ := get_at hj
      rw [getD_at hs]
      exact (r1 j s hs).2))
    rw [hnl, List.take_length, ← hnl] at H1
    have HS : Hid (∀ g c (W : World), Holds encStr W g 0 (l.map keyS).toArray → g < W.heap.size → Calls Try.prog 34 #[.slice (some ⟨g, 0, none⟩) n c] W fun e w' => e = .returned (.tuple #[]) ∧ ∃ nn os, w' = grow (putRow encStr (Sort.ahead W nn) g 0 (sortK l).toArray) os) := Lib.hid fun g c W hH hg => by
      have := Try.slices_Sort_string g 0 c (l.map keyS) W hH hg (by rw [List.length_map]; omega)
      rwa [List.length_map, ← hnl] at this
    have HC : Hid (∀ g c (W : World), Holds encStr W g 0 (sortK l).toArray → n ≤ c → Calls Try.prog 35 #[.slice (some ⟨g, 0, none⟩) n c] W fun e w' => e = .returned (.slice (some ⟨g, 0, none⟩) (ofN l).length c) ∧ ∃ q, w' = putRow encStr (Sort.ahead W q) g 0 (Lib.compact (sortK l) ++ List.replicate (l.length - (ofN l).length) []).toArray) := Lib.hid fun g c W hH hc => by
      have := Try.slices_Compact_string g 0 c (sortK l) W hH (by rw [sortK_len]; omega) (by rw [sortK_len]; omega)
      rw [sortK_len, compact_len] at this
      rw [hnl]; exact this
    have HL : Hid (∀ w1 g c nn q os, w1.ownsRow w.heap.size 9 1 (.slice (some ⟨g, 0, none⟩) n c) n (l.map .string) → Below w.heap.size w w1 → w.heap.size ≤ g → _) := Lib.hid fun w1 g c nn q os h2 h3 h4 => left_ofN (w := w) (w1 := w1) (g := g) (cap := c) (nn := nn) (q := q) (os := os) (l := l) (by rw [hnl] at h2; exact h2) h3 h4
    have hsl : Hid ((sortK l).length = n) := Lib.hid (by rw [sortK_len]; exact hnl.symm)
    have hll : Hid ((l.map keyS).length = n) := Lib.hid (by rw [List.length_map]; exact hnl.symm)
    have hkv := Lib.hid (keys_vals l)
    rw [← hnl] at hn ⊢
    have hn0 := hn
    clear h1 r1 m1 c1 hnl
    go_enter Try.func28, Try.ntmps28
    go_wp2_with (go_at_call 33; refine H1.out.mono ?_; rintro e w1 ⟨v1, rfl, hown, hne, hb⟩)
    have hown2 : w1.ownsRow w.heap.size 9 1 v1 n ((l.map keyS).map encStr) := by rw [hkv.out]; exact hown
    obtain ⟨g, c, rfl, hbg, hgl, hnc, hcm, hlen, hH⟩ := Lib.holds_of_ownsRow hown2 hne
    have HO := Lib.hid hown
    have HB := Lib.hid hb
    have C1 := Lib.hid (HS.out g c w1 hH hgl)
    have C2 : Hid (∀ nn os, Calls Try.prog 35 #[.slice (some ⟨g, 0, none⟩) n c] (grow (putRow encStr (Sort.ahead w1 nn) g 0 (sortK l).toArray) os) fun e w' => e = .returned (.slice (some ⟨g, 0, none⟩) (ofN l).length c) ∧ ∃ q, w' = putRow encStr (Sort.ahead (grow (putRow encStr (Sort.ahead w1 nn) g 0 (sortK l).toArray) os) q) g 0 (Lib.compact (sortK l) ++ List.replicate (l.length - (ofN l).length) []).toArray) := Lib.hid fun nn os =>
      HC.out g c _ (Sort.holds_grow encStr _ os g 0 _ (by simpa [putRow, Sort.mapBlock, Sort.ahead] using hgl) (Sort.holds_putRow encStr _ g 0 _ _ (Sort.holds_ahead encStr w1 nn g 0 _ hH) (by simp [hsl.out, hll.out]))) hnc
    have Hbg := Lib.hid hbg
    clear hown hown2 hb hne hH H1 HS HC hbg hgl hlen
    go_wp2_with (first
      | (go_at_call 34; refine C1.out.mono ?_; rintro e w2 ⟨rfl, nn, os, rfl⟩)
      | (go_at_call 35; refine (C2.out _ _).mono ?_; rintro e w3 ⟨rfl, q, rfl⟩))
    go_ret
    obtain ⟨k1, k2⟩ := HL.out w1 g c nn q os HO.out HB.out Hbg.out
    exact ⟨_, rfl, k1, k2⟩
end Go.Proofs.Ytcllflpfmpggoaa
