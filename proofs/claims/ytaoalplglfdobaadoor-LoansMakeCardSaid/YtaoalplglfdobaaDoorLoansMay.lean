/- The document's own May. -/
import Derived.Test.YtaoalplglfdobaaDoorLoansRef
namespace Go.Proofs.YtaoalplglfdobaaDoor
open Go.RowKit
set_option linter.unusedVariables false

set_option maxRecDepth 100000 in
set_option maxHeartbeats 4000000 in
theorem refMay_calls (B : Nat) (l : List LN) (p : PP) (use : Int) (v pv : Value) (w : World) (hB : B ≤ w.heap.size) (h : NIn B w l v) (hp : p.In B w pv) :
    Calls Tryd.prog 13 #[v, .agg #[.string p.name, pv], .int .i64 use] w fun e w' => e = .returned (.int .i64 (mayB l p use)) ∧ Below w.heap.size w w' := by
  obtain ⟨ao, cap, rfl⟩ := h.shape
  obtain ⟨ap, cp, rfl⟩ := hp.shape
  by_cases hu : use < 1 ∨ 6 < use
  · have e1 : mayB l p use = 2 := by unfold mayB; rw [if_pos hu]
    rw [e1]
    generalize l.length = n at *
    generalize p.path.length = np at *
    generalize p.name = sp at *
    clear h hp e1
    by_cases h1 : use < 1
    · go_enter Tryd.func13, Tryd.ntmps13
      go_wp2_with fail
      go_ret
      exact ⟨rfl, box1 _ _⟩
    · have h6 : use > 6 := by omega
      go_enter Tryd.func13, Tryd.ntmps13
      go_wp2_with fail
      go_ret
      exact ⟨rfl, box1 _ _⟩
  have hu1 : ¬ use < 1 := by omega
  have hu6 : ¬ use > 6 := by omega
  have HM : Hid (mayB l p use = if l.any (badB p use) then 141 else 0) := Lib.hid (by unfold mayB; rw [if_neg hu])
  obtain ⟨n, hn⟩ : ∃ n, n = l.length := ⟨_, rfl⟩
  obtain ⟨np, hnp⟩ : ∃ n, n = p.path.length := ⟨_, rfl⟩
  have HA : Hid (l.take n = l) := Lib.hid (by rw [hn]; exact List.take_length)
  rw [← hn] at h ⊢
  rw [← hnp] at hp ⊢
  have HI := Lib.hid fun (W : World) (y : LN) (vy : Value) (hb : Below w.heap.size w W) (hy : y.place.In B W vy) => refMeets_calls B y.place p vy _ W (Nat.le_trans hB hb.size) hy (hp.below (hb.mono hB))
  obtain ⟨hm, b, o, h1, r1⟩ := h.at
  unfold maxLen at hm
  have Hn := Lib.hid hn
  have Hr := Lib.hid r1
  have H1 := Lib.hid h1
  have HT := Lib.hid fun k y (hy : l[k]? = some y) => any_takeB (p := badB p use) hy
  have HF := Lib.hid fun k y (hy : l[k]? = some y) (he : badB p use y = true) => (List.any_eq_true.2 ⟨y, List.mem_of_getElem? hy, he⟩ : l.any (badB p use) = true)
  obtain ⟨bad, hbad, hD⟩ : ∃ bad : LN → Bool, bad = badB p use ∧ ∀ y, bad y = (meetP y.place p && (y.alone || (decide (use ≠ 1) && decide (use ≠ 2)))) := ⟨_, rfl, fun y => rfl⟩
  have HD := Lib.hid hD
  rw [← hbad] at HM HT HF
  clear hD hbad
  generalize mayB l p use = R at *
  obtain ⟨sp, hsp⟩ : ∃ s, s = p.name := ⟨_, rfl⟩
  rw [← hsp] at HI ⊢
  clear hn hnp r1 h1 h hp hsp hu
  go_enter Tryd.func13, Tryd.ntmps13
  go_wp2_with fail
  obtain ⟨W0, hW⟩ : ∃ W, W = w.alloc (.cells #[.string sp, .slice ap np cp] 25) := ⟨_, rfl⟩
  have f0 : W0.cell? ⟨w.heap.size, 0, none⟩ = some (.string sp) := by rw [hW]; go_simp
  have f1 : W0.cell? ⟨w.heap.size, 1, none⟩ = some (.slice ap np cp) := by rw [hW]; go_simp
  have z1 : w.heap.size < W0.heap.size := by rw [hW]; simp
  have bel0 := Lib.hid (show Below w.heap.size w W0 from by rw [hW]; exact box1 _ _)
  rw [← hW]
  clear hW
  go_loopw [7] (fun i wr => ∃ k : Nat, k ≤ n ∧ i = .int .i64 k ∧ Hid (Below W0.heap.size W0 wr) ∧ Hid ((l.take k).any bad = false))
    (fun i _ => n - (intOf i).toNat)
  case atStart => exact ⟨0, by omega, rfl, Lib.hid (Below.refl _ _), Lib.hid rfl⟩
  case round =>
    obtain ⟨k, hk, rfl, hbel, HK⟩ := hrel
    have hk0 : 0 ≤ (k : Int) := by omega
    by_cases hlt : k < n
    · obtain ⟨y, hy, _⟩ := get_at (l := l) (k := k) (by rw [← Hn.out]; exact hlt)
      obtain ⟨rfl, hbb⟩ := H1.out (by omega)
      have hk1 : (k : Int) < (n : Int) := by omega
      obtain ⟨vy, ⟨y0, y1, y2, y3⟩, yi⟩ := Hr.out k y hy
      have K : ∀ m : Over wr, Below W0.heap.size W0 m.w := fun m => hbel.out.trans (m.h.mono hbel.out.size)
      have K2 : ∀ m : Over wr, Below w.heap.size w m.w := fun m => bel0.out.trans ((K m).mono bel0.out.size)
      have G0 : ∀ m : Over wr, m.w.cell? ⟨w.heap.size, 0, none⟩ = some (.string sp) := fun m => ((K m).cell (p := ⟨w.heap.size, 0, none⟩) z1).trans f0
      have G1 : ∀ m : Over wr, m.w.cell? ⟨w.heap.size, 1, none⟩ = some (.slice ap np cp) := fun m => ((K m).cell (p := ⟨w.heap.size, 1, none⟩) z1).trans f1
      have Y0 : ∀ m : Over wr, m.w.cell? ⟨b, o + k * 4, none⟩ = some (.string y.place.name) := fun m => ((K2 m).cell (p := ⟨b, o + k * 4, none⟩) (by show b < _; omega)).trans y0
      have Y1 : ∀ m : Over wr, m.w.cell? ⟨b, o + k * 4 + 1, none⟩ = some vy := fun m => ((K2 m).cell (p := ⟨b, o + k * 4 + 1, none⟩) (by show b < _; omega)).trans y1
      have Y2 : ∀ m : Over wr, m.w.cell? ⟨b, o + k * 4 + 2, none⟩ = some (.bool y.alone) := fun m => ((K2 m).cell (p := ⟨b, o + k * 4 + 2, none⟩) (by show b < _; omega)).trans y2
      have A1 := Lib.hid fun m : Over wr => over_calls (HI.out m.w y vy (K2 m) (yi.below ((K2 m).mono hB)))
      have HK' := Lib.hid K
      have HT' := Lib.hid (HT.out k y hy)
      have HF' := Lib.hid (HF.out k y hy)
      have HD' := Lib.hid (HD.out y)
      clear K K2 y0 y1 y2 y3 yi hy
      generalize bad y = g at *
      generalize meetP y.place p = r at *
      generalize y.place.name = sy at *
      generalize y.alone = ya at *
      have go : ∀ (Q : Prop), (r = false → Q) → (r = true → ya = true → Q) → (r = true → ya = false → use = 1 → Q) → (r = true → ya = false → use = 2 → Q) → (r = true → ya = false → ¬ use = 1 → ¬ use = 2 → Q) → Q := fun Q a1 a2 a3 a4 a5 => by
        cases r
        · exact a1 rfl
        · cases ya
          · by_cases h1 : use = 1
            · exact a3 rfl rfl h1
            · by_cases h2 : use = 2
              · exact a4 rfl rfl h2
              · exact a5 rfl rfl h1 h2
          · exact a2 rfl rfl
      refine go _ ?_ ?_ ?_ ?_ ?_
      · rintro rfl
        have HK2 : Hid ((l.take (k + 1)).any bad = false) := Lib.hid (by rw [HT'.out, HK.out, HD'.out]; rfl)
        clear go HT' HF' HD'
        go_wp2_with fail
        refine wp_region_over (by kernel_rfl) (by kernel_rfl) ?_
        repeat (go_big_quiet_step ((go_at_call 31; exact A1.out _)))
        refine wpQuiet_nil ?_
        rintro _ ⟨m, rfl⟩
        have HB := Lib.hid (HK'.out m)
        clear G0 G1 Y0 Y1 Y2 A1 HK'
        generalize m.w = w6 at *
        go_wp2_with fail
        go_roundw
        case rel => exact ⟨k + 1, by omega, by go_num, HB, HK2⟩
        case measure => simp [intOf]; omega
      · rintro rfl rfl
        have HR : Hid (R = 141) := Lib.hid (by rw [HM.out, HF'.out (by rw [HD'.out]; rfl)]; rfl)
        clear go HT' HF' HD'
        go_wp2_with fail
        refine wp_region_over (by kernel_rfl) (by kernel_rfl) ?_
        repeat (go_big_quiet_step ((go_at_call 31; exact A1.out _)))
        refine wpQuiet_nil ?_
        rintro _ ⟨m, rfl⟩
        have HB := Lib.hid (HK'.out m)
        clear G0 G1 Y0 Y1 Y2 A1 HK'
        generalize m.w = w6 at *
        go_wp2_with fail
        go_ret
        exact ⟨ret_int HR.out.symm, bel0.out.trans (HB.out.mono bel0.out.size)⟩
      · rintro rfl rfl rfl
        have HK2 : Hid ((l.take (k + 1)).any bad = false) := Lib.hid (by rw [HT'.out, HK.out, HD'.out]; rfl)
        clear go HT' HF' HD'
        go_wp2_with fail
        refine wp_region_over (by kernel_rfl) (by kernel_rfl) ?_
        repeat (go_big_quiet_step ((go_at_call 31; exact A1.out _)))
        refine wpQuiet_nil ?_
        rintro _ ⟨m, rfl⟩
        have HB := Lib.hid (HK'.out m)
        clear G0 G1 Y0 Y1 Y2 A1 HK'
        generalize m.w = w6 at *
        go_wp2_with fail
        go_roundw
        case rel => exact ⟨k + 1, by omega, by go_num, HB, HK2⟩
        case measure => simp [intOf]; omega
      · rintro rfl rfl rfl
        have HK2 : Hid ((l.take (k + 1)).any bad = false) := Lib.hid (by rw [HT'.out, HK.out, HD'.out]; rfl)
        clear go HT' HF' HD'
        go_wp2_with fail
        refine wp_region_over (by kernel_rfl) (by kernel_rfl) ?_
        repeat (go_big_quiet_step ((go_at_call 31; exact A1.out _)))
        refine wpQuiet_nil ?_
        rintro _ ⟨m, rfl⟩
        have HB := Lib.hid (HK'.out m)
        clear G0 G1 Y0 Y1 Y2 A1 HK'
        generalize m.w = w6 at *
        go_wp2_with fail
        go_roundw
        case rel => exact ⟨k + 1, by omega, by go_num, HB, HK2⟩
        case measure => simp [intOf]; omega
      · rintro rfl rfl n1 n2
        have e1 : (use != 1) = true := by simpa using n1
        have e2 : (use != 2) = true := by simpa using n2
        have HR : Hid (R = 141) := Lib.hid (by rw [HM.out, HF'.out (by rw [HD'.out]; simp [n1, n2])]; rfl)
        clear go HT' HF' HD' n1 n2
        go_wp2_with fail
        refine wp_region_over (by kernel_rfl) (by kernel_rfl) ?_
        repeat (go_big_quiet_step ((go_at_call 31; exact A1.out _)))
        refine wpQuiet_nil ?_
        rintro _ ⟨m, rfl⟩
        have HB := Lib.hid (HK'.out m)
        clear G0 G1 Y0 Y1 Y2 A1 HK'
        generalize m.w = w6 at *
        go_wp2_with fail
        go_ret
        exact ⟨ret_int HR.out.symm, bel0.out.trans (HB.out.mono bel0.out.size)⟩
    · obtain rfl : n = k := by omega
      rw [HA.out] at HK
      have HR : Hid (R = 0) := Lib.hid (by rw [HM.out, HK.out]; rfl)
      go_wp2_with fail
      go_ret
      exact ⟨ret_int HR.out.symm, bel0.out.trans (hbel.out.mono bel0.out.size)⟩
end Go.Proofs.YtaoalplglfdobaaDoor
