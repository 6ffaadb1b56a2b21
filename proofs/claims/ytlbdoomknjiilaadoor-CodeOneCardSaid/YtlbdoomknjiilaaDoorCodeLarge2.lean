/- Large: few functions, none of them long. -/
import Derived.Test.YtlbdoomknjiilaaDoorCodeLarge
namespace Go.Proofs.YtlbdoomknjiilaaDoor
open Go.RowKit
set_option linter.unusedVariables false

set_option maxRecDepth 100000 in
set_option maxHeartbeats 8000000 in
theorem large2_calls (B : Nat) (u : UU) (vu : VU) (w : World) (hB : B ≤ w.heap.size) (hu : u.In B w vu) :
    Calls Tryd.prog 10 #[u.val vu] w fun e w' => ∃ r, e = .returned (.bool r) ∧ (r = false → u.funcs.length ≤ 30 ∧ ∀ f ∈ u.funcs, f.code.length ≤ 300) ∧ Below w.heap.size w w' := by
  have HU := Lib.hid hu
  obtain ⟨a1, c1, a2, c2, rfl⟩ := hu.shape
  obtain ⟨_, hm1, _, b1, o1, hb1, hr1⟩ := GIn.at hu.1
  obtain ⟨_, hm2, _, b2, o2, hb2, hr2⟩ := GIn.at hu.2
  unfold UU.val
  dsimp only
  obtain ⟨n1, hn1⟩ : ∃ n, n = u.funcs.length := ⟨_, rfl⟩
  obtain ⟨n2, hn2⟩ : ∃ n, n = u.types.length := ⟨_, rfl⟩
  rw [← hn1] at hb1 hm1 ⊢
  rw [← hn2] at hb2 hm2 ⊢
  have N1 := Lib.hid hn1
  have N2 := Lib.hid hn2
  have X1 := Lib.hid hb1
  have X2 := Lib.hid hb2
  have R1 := Lib.hid hr1
  have R2 := Lib.hid hr2
  unfold maxLen at hm1 hm2
  generalize u.main = mn at *
  clear hn1 hn2 hb1 hb2 hr1 hr2 hu HU
  have HP : Hid (∀ r, (r = false → n1 ≤ 30 ∧ ∀ f ∈ u.funcs, f.code.length ≤ 300) → ∀ W, Below w.heap.size w W → (fun e w' => ∃ r, e = Ending.returned (.bool r) ∧ (r = false → n1 ≤ 30 ∧ ∀ f ∈ u.funcs, f.code.length ≤ 300) ∧ Below w.heap.size w w') (.returned (.bool r)) W) := Lib.hid fun r h W hW => ⟨r, rfl, h, hW⟩
  generalize (fun e w' => ∃ r, e = Ending.returned (.bool r) ∧ (r = false → n1 ≤ 30 ∧ ∀ f ∈ u.funcs, f.code.length ≤ 300) ∧ Below w.heap.size w w') = Post at *
  have mB := Lib.hid (box1 w (.cells #[.slice a1 n1 c1, .int .i64 mn, .slice a2 n2 c2] 25))
  have HY : Hid (∀ W, Below w.heap.size w W → Post (.returned (.bool true)) W) := Lib.hid fun W hW => HP.out true (fun h => by cases h) W hW
  by_cases h1 : 30 < (n1 : Int)
  · as_aux_lemma =>
      go_enter Tryd.func10, Tryd.ntmps10
      go_wp2_with fail
      exact HY.out _ mB.out
  · have HN0 : Hid ((∀ f ∈ u.funcs, f.code.length ≤ 300) → ∀ W, Below w.heap.size w W → Post (.returned (.bool false)) W) := Lib.hid fun hc W hW => HP.out false (fun _ => ⟨by omega, hc⟩) W hW
    by_cases h2 : 40 < (n2 : Int)
    · as_aux_lemma =>
        go_enter Tryd.func10, Tryd.ntmps10
        go_wp2_with fail
        exact HY.out _ mB.out
    · have d1 := decide_eq_false h1
      have d2 := decide_eq_false h2
      go_enter Tryd.func10, Tryd.ntmps10
      go_wp2_with fail
      obtain ⟨W1, hW⟩ : ∃ W, W = w.alloc (.cells #[.slice a1 n1 c1, .int .i64 mn, .slice a2 n2 c2] 25) := ⟨_, rfl⟩
      have y0 : W1.cell? ⟨w.heap.size, 0, none⟩ = some (.slice a1 n1 c1) := by rw [hW]; go_simp
      have y2 : W1.cell? ⟨w.heap.size, 2, none⟩ = some (.slice a2 n2 c2) := by rw [hW]; go_simp
      rw [← hW] at mB ⊢
      clear hW h1 h2
      go_loopw [3] (fun i wr => ∃ k : Nat, k ≤ n1 ∧ i = .int .i64 k ∧ Hid (Below W1.heap.size W1 wr) ∧ Hid (∀ (t : Nat) g, t < k → u.funcs[t]? = some g → g.code.length ≤ 300)) (fun i _ => n1 - (intOf i).toNat)
      case atStart => exact ⟨0, by omega, rfl, Lib.hid (Below.refl _ _), Lib.hid fun t g h => by omega⟩
      case round =>
        obtain ⟨k, hk, rfl, HB, HG⟩ := hrel
        have hk0 : 0 ≤ (k : Int) := by omega
        have x0 := cell_over y0 HB.out
        have x2 := cell_over y2 HB.out
        have HD := Lib.hid (mB.out.trans (HB.out.mono mB.out.size))
        by_cases hlt : k < n1
        · obtain ⟨rfl, hbb⟩ := X1.out (by omega)
          have hk1 : (k : Int) < (n1 : Int) := by omega
          obtain ⟨f, hf, _⟩ := get_at (l := u.funcs) (k := k) (by rw [← N1.out]; exact hlt)
          have HFX := Lib.hid hf
          obtain ⟨vf, hcs, hfi⟩ := R1.out k f hf
          obtain ⟨a3, c3, hvf⟩ := GIn.shape hfi.2
          rw [hvf] at hcs hfi
          have hJ := hfi.2
          have g0 : wr.cell? ⟨b1, o1 + k * 4, none⟩ = some (.string f.name) := cell_over (hcs 0 _ rfl) HD.out
          have g3 : wr.cell? ⟨b1, o1 + k * 4 + 3, none⟩ = some (.slice a3 f.code.length c3) := cell_over (hcs 3 _ rfl) HD.out
          have HJ := Lib.hid hJ
          obtain ⟨_, hm3, _, b3, o3, hb3, hr3⟩ := GIn.at hJ
          obtain ⟨n3, hn3⟩ : ∃ n, n = f.code.length := ⟨_, rfl⟩
          rw [← hn3] at hm3 hb3 g3
          have N3 := Lib.hid hn3
          have X3 := Lib.hid hb3
          have R3 := Lib.hid hr3
          unfold maxLen at hm3
          generalize f.name = fnm at *
          clear hf hcs hfi hvf hJ HJ hn3 hb3 hr3
          by_cases h3 : 300 < (n3 : Int)
          · as_aux_lemma =>
              go_wp2_with fail
              exact HY.out _ HD.out
          · by_cases h4 : 1000 < (fnm.size : Int)
            · as_aux_lemma =>
                go_wp2_with fail
                exact HY.out _ HD.out
            · have HG2 : Hid (∀ (t : Nat) g, t < k + 1 → u.funcs[t]? = some g → g.code.length ≤ 300) := Lib.hid fun t g ht hg => by
                by_cases htk : t = k
                · subst htk
                  rw [HFX.out] at hg
                  cases hg
                  have := N3.out
                  omega
                · exact HG.out t g (by omega) hg
              have d3 := decide_eq_false h3
              have d4 := decide_eq_false h4
              clear h3 h4
              go_wp2_with fail
              obtain ⟨wo, hwo⟩ : ∃ wo : World, wo = wr := ⟨_, rfl⟩
              rw [← hwo] at x0 x2 g0 g3 HB HD ⊢
              clear hwo
              go_loopw [4] (fun i w3 => ∃ j : Nat, j ≤ n3 ∧ i = .int .i64 j ∧ Hid (Below wo.heap.size wo w3)) (fun i _ => n3 - (intOf i).toNat)
              case atStart => exact ⟨0, by omega, rfl, Lib.hid (Below.refl _ _)⟩
              case round =>
                obtain ⟨j, hj, rfl, HE⟩ := hrel
                have hj0 : 0 ≤ (j : Int) := by omega
                have x0 := cell_over x0 HE.out
                have g3 := cell_over g3 HE.out
                have HF := Lib.hid (HD.out.trans (HE.out.mono HD.out.size))
                by_cases hjn : j < n3
                · obtain ⟨rfl, hbb3⟩ := X3.out (by omega)
                  have hj1 : (j : Int) < (n3 : Int) := by omega
                  obtain ⟨x, hx, _⟩ := get_at (l := f.code) (k := j) (by rw [← N3.out]; exact hjn)
                  obtain ⟨v, hxc, hxi⟩ := R3.out j x hx
                  have K := Lib.hid (long_calls17 B x v wr (Nat.le_trans hB HF.out.size) (hxi.below (HF.out.mono hB)))
                  have xc := fun (i : Nat) u (hi : (x.cells v)[i]? = some u) => cell_over (hxc i u hi) HF.out
                  obtain ⟨s1, s2, s3, s4, s5, s6, rfl⟩ := hxi.shape
                  unfold JJ.val at K
                  dsimp only at K
                  have p0 : wr.cell? ⟨b3, o3 + j * 9, none⟩ = some (.int .u8 x.op) := xc 0 _ rfl
                  have p1 : wr.cell? ⟨b3, o3 + j * 9 + 1, none⟩ = some (.int .i64 x.a) := xc 1 _ rfl
                  have p2 : wr.cell? ⟨b3, o3 + j * 9 + 2, none⟩ = some (.int .i64 x.b) := xc 2 _ rfl
                  have p3 : wr.cell? ⟨b3, o3 + j * 9 + 3, none⟩ = some (.int .i64 x.c) := xc 3 _ rfl
                  have p4 : wr.cell? ⟨b3, o3 + j * 9 + 4, none⟩ = some (.slice s1 x.slots.length s2) := xc 4 _ rfl
                  have p5 : wr.cell? ⟨b3, o3 + j * 9 + 5, none⟩ = some (.slice s3 x.path.length s4) := xc 5 _ rfl
                  have p6 : wr.cell? ⟨b3, o3 + j * 9 + 6, none⟩ = some (.int .i64 x.int) := xc 6 _ rfl
                  have p7 : wr.cell? ⟨b3, o3 + j * 9 + 7, none⟩ = some (.string x.name) := xc 7 _ rfl
                  have p8 : wr.cell? ⟨b3, o3 + j * 9 + 8, none⟩ = some (.slice s5 x.names s6) := xc 8 _ rfl
                  generalize x.op = xo at *
                  generalize x.a = xa at *
                  generalize x.b = xb at *
                  generalize x.c = xxc at *
                  generalize x.int = xi at *
                  generalize x.name = xn at *
                  generalize x.slots.length = l1 at *
                  generalize x.path.length = l2 at *
                  generalize x.names = l3 at *
                  clear hx hxc hxi xc
                  as_aux_lemma =>
                    go_wp2_with fail
                    (with_reducible refine K.out.mono ?_)
                    rintro e w5 ⟨r, rfl, -, b5⟩
                    have HT := hid_upC HE b5
                    have HT2 := hid_upC HF b5
                    clear b5 p0 p1 p2 p3 p4 p5 p6 p7 p8 x0 g3 K
                    cases r with
                    | true =>
                      go_wp2_with fail
                      exact HY.out _ HT2.out
                    | false =>
                      go_wp2_with fail
                      go_roundw
                      case rel => exact ⟨j + 1, by omega, by go_num, HT⟩
                      case measure => simp [intOf]; omega
                · obtain rfl : n3 = j := by omega
                  have HT := hid_upC HB HE.out
                  as_aux_lemma =>
                    go_wp2_with fail
                    go_roundw
                    case rel => exact ⟨k + 1, by omega, by go_num, HT, HG2⟩
                    case measure => simp [intOf]; omega
        · obtain rfl : n1 = k := by omega
          have HN := Lib.hid (HN0.out fun f hf => by
            obtain ⟨i, hi⟩ := List.getElem?_of_mem hf
            exact HG.out i f (by have := some_lt hi; have := N1.out; omega) hi)
          go_wp2_with fail
          obtain ⟨wo, hwo⟩ : ∃ wo : World, wo = wr := ⟨_, rfl⟩
          rw [← hwo] at x0 x2 HB HD ⊢
          clear hwo
          go_loopw [5] (fun i w3 => ∃ j : Nat, j ≤ n2 ∧ i = .int .i64 j ∧ Hid (Below wo.heap.size wo w3)) (fun i _ => n2 - (intOf i).toNat)
          case atStart => exact ⟨0, by omega, rfl, Lib.hid (Below.refl _ _)⟩
          case round =>
            obtain ⟨j, hj, rfl, HE⟩ := hrel
            have x0 := cell_over x0 HE.out
            have x2 := cell_over x2 HE.out
            have HD := Lib.hid (HD.out.trans (HE.out.mono HD.out.size))
            have hj0 : 0 ≤ (j : Int) := by omega
            by_cases hjn : j < n2
            · obtain ⟨rfl, hbb⟩ := X2.out (by omega)
              have hj1 : (j : Int) < (n2 : Int) := by omega
              obtain ⟨t, ht, _⟩ := get_at (l := u.types) (k := j) (by rw [← N2.out]; exact hjn)
              obtain ⟨vt, hcs, hti⟩ := R2.out j t ht
              obtain ⟨fa, fc, hfv⟩ := GIn.shape hti.2.2
              have c1 := cell_over (hcs 1 _ rfl) HD.out
              have c2 := cell_over (hcs 2 _ rfl) HD.out
              rw [hfv] at c2
              generalize t.name = sn at *
              generalize t.fields.length = m at *
              clear hcs hti ht hfv
              by_cases h5 : 20 < (m : Int)
              · as_aux_lemma =>
                  go_wp2_with fail
                  exact HY.out _ HD.out
              · by_cases h6 : 1000 < (sn.size : Int)
                · as_aux_lemma =>
                    go_wp2_with fail
                    exact HY.out _ HD.out
                · as_aux_lemma =>
                    go_wp2_with fail
                    go_roundw
                    case rel => exact ⟨j + 1, by omega, by go_num, HE⟩
                    case measure => simp [intOf]; omega
            · obtain rfl : n2 = j := by omega
              as_aux_lemma =>
                go_wp2_with fail
                exact HN.out _ HD.out
end Go.Proofs.YtlbdoomknjiilaaDoor
