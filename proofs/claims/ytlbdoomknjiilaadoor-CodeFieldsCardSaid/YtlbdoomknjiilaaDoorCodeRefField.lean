/- The document's Field. -/
import Derived.Test.YtlbdoomknjiilaaDoorCodeField
namespace Go.Proofs.YtlbdoomknjiilaaDoor
open Go.RowKit
set_option linter.unusedVariables false

set_option maxRecDepth 100000 in
set_option maxHeartbeats 4000000 in
theorem refField_calls (B : Nat) (u : UU) (vu : VU) (nm fd : ByteArray) (w : World) (hB : B ≤ w.heap.size) (hu : u.In B w vu) :
    Calls Tryd.prog 18 #[u.val vu, .string nm, .string fd] w fun e w' => e = .returned (.tuple #[.int .i64 (max (fieldNo u nm fd) 0), .bool (decide (0 ≤ fieldNo u nm fd))]) ∧ Below w.heap.size w w' := by
  obtain ⟨a1, c1, a2, c2, rfl⟩ := hu.shape
  obtain ⟨hx0, hm, _, b, o, hb, hr⟩ := GIn.at hu.2
  unfold UU.val
  dsimp only
  obtain ⟨n, hn⟩ : ∃ n, n = u.types.length := ⟨_, rfl⟩
  rw [← hn] at hb hm ⊢
  have HL := Lib.hid hn
  have HX := Lib.hid hb
  have Hr := Lib.hid hr
  obtain ⟨R, hR⟩ : ∃ R, R = fieldNo u nm fd := ⟨_, rfl⟩
  rw [← hR]
  have HR : Hid (∀ j t, firstI (pOf u.types (isS nm)) n 0 = (j : Nat) → u.types[j]? = some t → R = firstI (pOf t.fields (isFd fd)) (t.fields.length - 0) 0) := Lib.hid fun j t h ht => by
    rw [hR, Nat.sub_zero]
    unfold fieldNo
    rw [← hn, h, Int.toNat_natCast, ht]
    simp only
    rw [if_pos (by omega)]
  have HN : Hid (firstI (pOf u.types (isS nm)) n 0 = -1 → R = -1) := Lib.hid fun h => by
    rw [hR]
    unfold fieldNo
    split
    · rw [if_neg (by rw [← hn]; omega)]
    · rfl
  obtain ⟨S, hS⟩ : ∃ S, S = firstI (pOf u.types (isS nm)) n 0 := ⟨_, rfl⟩
  rw [← hS] at HR HN
  have HS : Hid (firstI (pOf u.types (isS nm)) (n - 0) 0 = S) := Lib.hid (by rw [hS, Nat.sub_zero])
  generalize u.funcs.length = n1 at *
  generalize u.main = mn at *
  unfold maxLen at hm
  clear hu hn hb hr hR hS hx0
  obtain ⟨W1, hW⟩ : ∃ W, W = w.alloc (.cells #[.slice a1 n1 c1, .int .i64 mn, .slice a2 n c2] 25) := ⟨_, rfl⟩
  have mB : Hid (Below w.heap.size w W1) := by rw [hW]; exact Lib.hid (box1 w _)
  have y2 : W1.cell? ⟨w.heap.size, 2, none⟩ = some (.slice a2 n c2) := by rw [hW]; go_simp
  have hfin : Hid (∀ q : Int, q = R → ∀ (p : Int) (ok : Bool), p = max q 0 → ok = decide (0 ≤ q) → (fun e w' => e = Ending.returned (.tuple #[.int .i64 (max R 0), .bool (decide (0 ≤ R))]) ∧ Below w.heap.size w w') (.returned (.tuple #[.int .i64 p, .bool ok])) W1) := Lib.hid fun q hq p ok hp ho => ⟨by rw [hp, ho, hq], mB.out⟩
  generalize (fun e w' => e = Ending.returned (.tuple #[.int .i64 (max R 0), .bool (decide (0 ≤ R))]) ∧ Below w.heap.size w w') = Post at *
  go_enter Tryd.func18, Tryd.ntmps18
  go_upto_region 1 with (fail)
  rw [← hW]
  clear hW
  go_wp2_with fail
  go_loop [8] (fun i => ∃ k : Nat, k ≤ n ∧ i = .int .i64 k ∧ Hid (firstI (pOf u.types (isS nm)) (n - k) k = S)) (fun i => n - (intOf i).toNat)
  case atStart => exact ⟨0, by omega, rfl, HS⟩
  case round =>
    obtain ⟨k, hk, rfl, HK⟩ := hrel
    have hk0 : 0 ≤ (k : Int) := by omega
    by_cases hlt : k < n
    · obtain ⟨rfl, hbb⟩ := HX.out (by omega)
      have hk1 : (k : Int) < (n : Int) := by omega
      obtain ⟨t, ht, _⟩ := get_at (l := u.types) (k := k) (by rw [← HL.out]; exact hlt)
      obtain ⟨vt, hcs, hti⟩ := Hr.out k t ht
      have c0 : W1.cell? ⟨b, o + k * 16, none⟩ = some (.int .u8 t.kind) := cell_over (hcs 0 _ rfl) mB.out
      have c1 : W1.cell? ⟨b, o + k * 16 + 1, none⟩ = some (.string t.name) := cell_over (hcs 1 _ rfl) mB.out
      have c2 : W1.cell? ⟨b, o + k * 16 + 2, none⟩ = some vt.f := cell_over (hcs 2 _ rfl) mB.out
      obtain ⟨fa, fc, hfv⟩ := GIn.shape hti.2.2
      have hF := hti.2.2
      rw [hfv] at c2 hF
      have HP := Lib.hid (pOf_at (q := isS nm) ht)
      have HT := Lib.hid ht
      obtain ⟨hy0, hm2, _, bf, of, hbf, hrf⟩ := GIn.at hF
      have HXf := Lib.hid hbf
      have Hrf := Lib.hid hrf
      obtain ⟨m, hmm⟩ : ∃ m, m = t.fields.length := ⟨_, rfl⟩
      rw [← hmm] at hm2 HXf c2
      have HM := Lib.hid hmm
      unfold maxLen at hm2
      clear hcs hti hfv hF ht hy0 hbf hrf hmm
      have HNo : Hid (isS nm t = false → firstI (pOf u.types (isS nm)) (n - (k + 1)) (k + 1) = S) := Lib.hid fun h => (firstI_no hlt (by rw [HP.out, h])).symm.trans HK.out
      by_cases hkd : t.kind = 1
      · by_cases hnm : keyS t.name = keyS nm
        · have HSk : Hid (S = k) := Lib.hid (by rw [← HK.out, firstI_yes hlt (by rw [HP.out]; unfold isS; rw [decide_eq_true hkd, decide_eq_true hnm]; rfl)])
          have HRf := Lib.hid (HR.out k t HSk.out HT.out)
          rw [← HM.out] at HRf
          have es := str_neq' hnm
          have e1 : (t.kind != 1) = false := by simp [hkd]
          generalize t.kind = kd at *
          generalize t.name = sn at *
          clear hnm hkd HNo
          go_wp2_with fail
          go_loop [9] (fun i => ∃ j : Nat, j ≤ m ∧ i = .int .i64 j ∧ Hid (R = firstI (pOf t.fields (isFd fd)) (m - j) j)) (fun i => m - (intOf i).toNat)
          case atStart => exact ⟨0, by omega, rfl, HRf⟩
          case round =>
            obtain ⟨j, hj, rfl, HJ⟩ := hrel
            have hj0 : 0 ≤ (j : Int) := by omega
            by_cases hjm : j < m
            · obtain ⟨rfl, hbf⟩ := HXf.out (by omega)
              have hj1 : (j : Int) < (m : Int) := by omega
              obtain ⟨x, hx, _⟩ := get_at (l := t.fields) (k := j) (by rw [← HM.out]; exact hjm)
              obtain ⟨_, vx, hcx⟩ := Hrf.out j x hx
              have d0 : W1.cell? ⟨bf, of + j * 4, none⟩ = some (.string x) := cell_over (hcx 0 _ rfl) mB.out
              have HPx := Lib.hid (pOf_at (q := isFd fd) hx)
              clear hcx hx
              by_cases hs : keyS x = keyS fd
              · have ex := str_eq hs
                have HE : Hid (R = j) := Lib.hid (by rw [HJ.out, firstI_yes hjm (by rw [HPx.out]; unfold isFd; rw [decide_eq_true hs])])
                clear hs
                as_aux_lemma =>
                  go_wp2_with fail
                  exact hfin.out j HE.out.symm _ _ (by omega) (by rw [decide_eq_true hj0])
              · have ex := str_ne hs
                have HE : Hid (R = firstI (pOf t.fields (isFd fd)) (m - (j + 1)) (j + 1)) := Lib.hid (HJ.out.trans (firstI_no hjm (by rw [HPx.out]; unfold isFd; rw [decide_eq_false hs])))
                clear hs
                as_aux_lemma =>
                  go_wp2_with fail
                  go_round
                  case rel => exact ⟨j + 1, by omega, by go_num, HE⟩
                  case measure => simp [intOf]; omega
            · obtain rfl : m = j := by omega
              have HE : Hid (R = -1) := Lib.hid (HJ.out.trans firstI_end)
              as_aux_lemma =>
                go_wp2_with fail
                exact hfin.out (-1) HE.out.symm _ _ rfl rfl
        · have es := str_neq hnm
          have e1 : (t.kind != 1) = false := by simp [hkd]
          have HE := Lib.hid (HNo.out (by unfold isS; rw [decide_eq_false hnm, Bool.and_false]))
          generalize t.kind = kd at *
          generalize t.name = sn at *
          clear hnm hkd HNo
          as_aux_lemma =>
            go_wp2_with fail
            go_round
            case rel => exact ⟨k + 1, by omega, by go_num, HE⟩
            case measure => simp [intOf]; omega
      · have e1 : (t.kind != 1) = true := by simp [hkd]
        have HE := Lib.hid (HNo.out (by unfold isS; rw [decide_eq_false hkd, Bool.false_and]))
        generalize t.kind = kd at *
        generalize t.name = sn at *
        clear hkd HNo
        as_aux_lemma =>
          go_wp2_with fail
          go_round
          case rel => exact ⟨k + 1, by omega, by go_num, HE⟩
          case measure => simp [intOf]; omega
    · obtain rfl : n = k := by omega
      have HE := Lib.hid (HN.out (HK.out.symm.trans firstI_end))
      as_aux_lemma =>
        go_wp2_with fail
        exact hfin.out (-1) HE.out.symm _ _ rfl rfl
end Go.Proofs.YtlbdoomknjiilaaDoor
