/- PathsTexts: a place's text, and how many of its steps go through, are as the document says. -/
import Derived.Test.YtipiiaghjkhkbaaPathsKit
namespace Go.Proofs.Ytipiiaghjkhkbaa
open Go.RowKit
set_option linter.unusedVariables false

set_option maxRecDepth 100000 in
set_option maxHeartbeats 2000000 in
theorem pathsTexts_walk (w : World) (x : PP) (va : Value) (h1 : x.In w.heap.size w va) :
    Calls Try.prog 4 #[.agg #[.string x.name, va]] w fun e w' => e = .returned (.bool true) ∧ Below w.heap.size w w' := by
  have L1 := Lib.hid fun W (h : Below w.heap.size w W) => long_calls x w.heap.size va W h.size (h1.below h)
  cases hl : longP x
  rotate_left
  · rw [hl] at L1
    obtain ⟨ao1, cap1, rfl⟩ := h1.shape
    generalize x.path.length = n at *
    generalize x.name = sa at *
    clear h1
    go_enter Try.func4, Try.ntmps4
    go_wp2_with fail
    have bel0 := box1 w (.cells #[.string sa, .slice ao1 n cap1] 24)
    generalize w.alloc (.cells #[.string sa, .slice ao1 n cap1] 24) = W0 at *
    refine (L1.out W0 bel0).mono ?_
    rintro e w1 ⟨rfl, b1⟩
    have Hb := Lib.hid (up_tr bel0 b1)
    clear b1
    go_wp2_with fail
    go_ret
    exact ⟨rfl, Hb.out⟩
  have ht := tight_of hl
  have hn1 := ht.path
  rw [hl] at L1
  have C1 := Lib.hid fun W (h : Below w.heap.size w W) => text_calls x ht.short w.heap.size va W h.size (h1.below h)
  have C2 := Lib.hid fun W (h : Below w.heap.size w W) => refText_calls x ht.short w.heap.size va W h.size (h1.below h)
  have C3 := Lib.hid fun W (h : Below w.heap.size w W) => through_calls x (by omega) w.heap.size va W h.size (h1.below h)
  obtain ⟨z1, b1, o1, ⟨m1, ao, cap, rfl, c1, h2⟩, r1⟩ := h1
  obtain ⟨n, hn⟩ : ∃ n, n = x.path.length := ⟨_, rfl⟩
  rw [← hn] at m1 h2 c1 hn1 C1 C2 C3 L1 ⊢
  have Hn := Lib.hid hn
  have Hr := Lib.hid r1
  have H1 := Lib.hid h2
  generalize textB x = tx at *
  generalize x.name = nm at *
  generalize x.path = l at *
  clear hn r1 h2 z1 m1 ht hl
  go_enter Try.func4, Try.ntmps4
  go_wp2_with fail
  obtain ⟨W0, hW⟩ : ∃ W, W = w.alloc (.cells #[.string nm, .slice ao n cap] 24) := ⟨_, rfl⟩
  have f0 : W0.cell? ⟨w.heap.size, 0, none⟩ = some (.string nm) := by rw [hW]; go_simp
  have f1 : W0.cell? ⟨w.heap.size, 1, none⟩ = some (.slice ao n cap) := by rw [hW]; go_simp
  have z1 : w.heap.size < W0.heap.size := by rw [hW]; simp
  have bel0 : Below w.heap.size w W0 := by rw [hW]; exact box1 _ _
  rw [← hW]
  clear hW
  refine (L1.out W0 bel0).mono ?_
  rintro e w1 ⟨rfl, b2⟩
  obtain ⟨f0, f1, z1⟩ := pl_up z1 b2 f0 f1
  have Hb1 := Lib.hid (bel0.trans (b2.mono bel0.size))
  clear b2 bel0 L1
  go_wp2_with fail
  go_loopw [4, 3] (fun i c wr => ∃ k : Nat, ∃ q : Nat, k ≤ n ∧ i = .int .i64 k ∧ c = .int .i64 q ∧ q ≤ k ∧ Hid (q = starN (l.take k)) ∧ wr = w1)
    (fun i c _ => n - (intOf i).toNat)
  case atStart => exact ⟨0, 0, by omega, rfl, rfl, Nat.le_refl _, Lib.hid rfl, rfl⟩
  case round =>
    obtain ⟨k, q, hk, rfl, rfl, hq, HQ, rfl⟩ := hrel
    have hk0 : 0 ≤ (k : Int) := by omega
    by_cases hlt : k < n
    · obtain ⟨s, hs, _⟩ := get_at (l := l) (k := k) (by rw [← Hn.out]; exact hlt)
      obtain ⟨rfl, hb1⟩ := H1.out.resolve_left (by omega)
      have k0 := (Hr.out.below (fun _ => hb1) Hb1.out k s hs).2
      have hnx := starN_next hs
      have hk1 : (k : Int) < (n : Int) := by omega
      by_cases hst : keyS s = [42]
      · rw [if_pos hst, ← HQ.out] at hnx
        have e3 := star_eq hst
        have Hnx := Lib.hid hnx
        clear hst hnx hs
        go_wp2_with fail
        go_roundw
        case rel => exact ⟨k + 1, q + 1, by omega, by go_num, by go_num, by omega, Lib.hid Hnx.out.symm, by first | rfl | trivial⟩
        case measure => simp [intOf]; omega
      · rw [if_neg hst, ← HQ.out] at hnx
        have e3 := star_ne hst
        have Hnx := Lib.hid hnx
        clear hst hnx hs
        go_wp2_with fail
        go_roundw
        case rel => exact ⟨k + 1, q, by omega, by go_num, rfl, by omega, Lib.hid Hnx.out.symm, by first | rfl | trivial⟩
        case measure => simp [intOf]; omega
    · obtain rfl : k = n := by omega
      have hres := Lib.hid (show starN l = q by rw [HQ.out, Hn.out, List.take_length])
      rw [hres.out] at C3
      have K : ∀ m : Over wr, Below w.heap.size w m.w := fun m => Hb1.out.trans (m.h.mono Hb1.out.size)
      have hF := Over.cells (W0 := wr)
      have A1 := Lib.hid fun m : Over wr => over_calls (C1.out m.w (K m))
      have A2 := Lib.hid fun m : Over wr => over_calls (C2.out m.w (K m))
      have A3 := Lib.hid fun m : Over wr => over_calls (C3.out m.w (K m))
      have A7 := Lib.hid fun m : Over wr => over_calls (awake_calls m.w)
      have HK := Lib.hid K
      clear K C1 C2 C3
      go_wp2_with fail
      refine wp_region_over (by kernel_rfl) (by kernel_rfl) ?_
      repeat (go_big_quiet_step ((first | (go_at_call 19; exact A1.out _) | (go_at_call 20; exact A2.out _) | (go_at_call 21; exact A3.out _) | (go_at_call 18; exact A7.out _))))
      refine wpQuiet_nil ?_
      rintro _ ⟨q', rfl⟩
      have HF := Lib.hid (HK.out q')
      clear A1 A2 A3 A7 HK hF
      go_wp2_with fail
      go_ret
      exact ⟨rfl, HF.out⟩
end Go.Proofs.Ytipiiaghjkhkbaa
