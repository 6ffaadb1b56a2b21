/- The document's Types. -/
import Derived.Test.YtlbdoomknjiilaaDoorCodeTypes
namespace Go.Proofs.YtlbdoomknjiilaaDoor
open Go.RowKit
set_option linter.unusedVariables false

theorem any_takeT {l : List TT} {p : TT → Bool} {x : TT} {k : Nat} (hx : l[k]? = some x) : (l.take (k + 1)).any p = ((l.take k).any p || p x) := by
  rw [List.take_add_one, hx, List.any_append]
  simp
theorem any_yesT {l : List TT} {p : TT → Bool} {x : TT} (hx : x ∈ l) (h : p x = true) : l.any p = true := List.any_eq_true.2 ⟨x, hx, h⟩
set_option maxRecDepth 100000 in
set_option maxHeartbeats 8000000 in
theorem refTypes_calls (B : Nat) (l : List TT) (v : Value) (w : World) (hB : B ≤ w.heap.size) (h : TsIn B w l v) :
    Calls Tryd.prog 22 #[v] w fun e w' => e = .returned (.bool (typesB l)) ∧ Below w.heap.size w w' := by
  rw [typesB_eq]
  obtain ⟨ao, cap, rfl⟩ := GIn.shape h
  have HI := Lib.hid h
  obtain ⟨n, hn⟩ : ∃ n, n = l.length := ⟨_, rfl⟩
  rw [← hn] at HI ⊢
  have HL := Lib.hid hn
  obtain ⟨hx0, hm, hcap, b, o, h1, r1⟩ := GIn.at HI.out
  have H1 := Lib.hid h1
  have Hr := Lib.hid r1
  unfold maxLen at hm
  clear h h1 r1 hn hx0
  by_cases hle : n ≤ 30
  · have e0 : decide (30 < (n : Int)) = false := decide_eq_false (by omega)
    rw [decide_eq_true hle, Bool.true_and]
    obtain ⟨R, hR⟩ : ∃ R, R = (List.range n).all (okT l) := ⟨_, rfl⟩
    have HR := Lib.hid hR
    rw [← hR]
    clear hR
    go_enter Tryd.func22, Tryd.ntmps22
    go_wp2_with fail
    go_loopw [3] (fun i wr => ∃ k : Nat, k ≤ n ∧ i = .int .i64 k ∧ Hid ((List.range k).all (okT l) = true) ∧ Hid (Below w.heap.size w wr))
      (fun i _ => n - (intOf i).toNat)
    case atStart => exact ⟨0, by omega, rfl, Lib.hid rfl, Lib.hid (Below.refl _ _)⟩
    case round =>
      obtain ⟨k, hk, rfl, HA, HB⟩ := hrel
      have hk0 : 0 ≤ (k : Int) := by omega
      by_cases hlt : k < n
      · obtain ⟨rfl, hbb⟩ := H1.out (by omega)
        have hk1 : (k : Int) < (n : Int) := by omega
        obtain ⟨t, ht, _⟩ := get_at (l := l) (k := k) (by rw [← HL.out]; exact hlt)
        obtain ⟨vt, hcs, hti⟩ := Hr.out k t ht
        have HK := Lib.hid (okT_at ht)
        obtain ⟨fa, fc, hfv⟩ := GIn.shape hti.2.2
        have c0 := cell_over (hcs 0 _ rfl) HB.out
        have c1 : wr.cell? ⟨b, o + k * 16 + 1, none⟩ = some (.string t.name) := cell_over (hcs 1 _ rfl) HB.out
        have c2 : wr.cell? ⟨b, o + k * 16 + 2, none⟩ = some vt.f := cell_over (hcs 2 _ rfl) HB.out
        rw [hfv] at c2
        replace c0 : wr.cell? ⟨b, o + k * 16, none⟩ = some (.int .u8 t.kind) := c0
        have hgo : Hid (okT l k = true → (List.range (k + 1)).all (okT l) = true) := Lib.hid fun h => by rw [all_nextT, HA.out, h]; rfl
        have hno : Hid (okT l k = false → R = false) := Lib.hid fun h => by rw [HR.out, all_notT hlt h]
        obtain ⟨q, hq⟩ : ∃ q : TT → Bool, q = fun x => decide (keyS x.name = keyS t.name) := ⟨_, rfl⟩
        have HQ := Lib.hid hq
        rw [← hq] at HK
        clear hq
        generalize t.kind = kd at *
        generalize t.name = sn at *
        generalize t.fields.length = m at *
        clear hcs hti ht hfv
        by_cases k6 : m ≤ 6
        · have e6 : decide (6 < (m : Int)) = false := decide_eq_false (by omega)
          by_cases kk : kd = 1 ∨ kd = 2
          · have HK2 : Hid (okT l k = !(l.take k).any q) := Lib.hid (by rw [HK.out, decide_eq_true k6]; rcases kk with rfl | rfl <;> simp)
            have ev : ((kd != 1) = false ∨ ((kd != 1) = true ∧ (kd != 2) = false)) := by
              rcases kk with rfl | rfl
              · exact .inl (by decide)
              · exact .inr ⟨by decide, by decide⟩
            clear kk HK
            rcases ev with e1 | ⟨e1, e2⟩
            · go_wp2_with fail
              obtain ⟨wo, hwo⟩ : ∃ wo : World, wo = wr := ⟨_, rfl⟩
              rw [← hwo]
              rw [← hwo] at c1 HB
              clear c0 c2 hwo
              go_loopw [4] (fun i w3 => ∃ j : Nat, j ≤ k ∧ i = .int .i64 j ∧ Hid ((l.take j).any q = false) ∧ Hid (Below wo.heap.size wo w3))
                (fun i _ => k - (intOf i).toNat)
              case atStart => exact ⟨0, by omega, rfl, Lib.hid rfl, Lib.hid (Below.refl _ _)⟩
              case round =>
                obtain ⟨j, hj, rfl, HJ, HE⟩ := hrel
                have hj0 : 0 ≤ (j : Int) := by omega
                by_cases hjk : j < k
                · have hj1 : (j : Int) < (k : Int) := by omega
                  have hj2 : (j : Int) < (n : Int) := by omega
                  obtain ⟨x, hx, _⟩ := get_at (l := l) (k := j) (by rw [← HL.out]; omega)
                  obtain ⟨vx, hcx, _⟩ := Hr.out j x hx
                  have d1 : wr.cell? ⟨b, o + j * 16 + 1, none⟩ = some (.string x.name) := cell_over (cell_over (hcx 1 _ rfl) HB.out) HE.out
                  have c3 := cell_over c1 HE.out
                  have p1 := fun m : Over wr => cell_over d1 m.h
                  have p2 := fun m : Over wr => cell_over c3 m.h
                  have HX := Lib.hid (any_takeT (p := q) hx)
                  have HM : Hid (x ∈ l.take k) := Lib.hid (by
                    rw [List.mem_iff_getElem?]
                    exact ⟨j, by rw [List.getElem?_take_of_lt hjk]; exact hx⟩)
                  have hqx : q x = decide (keyS x.name = keyS sn) := by rw [HQ.out]
                  generalize x.name = sx at *
                  have z3 := World.block_lt_of_cell? wr _ d1
                  clear hx hcx
                  by_cases hs : keyS sx = keyS sn
                  · have es := str_eq hs
                    have HF : Hid (R = false) := Lib.hid (hno.out (by rw [HK2.out, any_yesT HM.out (by rw [hqx, decide_eq_true hs])]; rfl))
                    clear hs hqx
                    as_aux_lemma =>
                      go_wp2_with fail
                      refine wp_region_over (by kernel_rfl) (by kernel_rfl) ?_
                      repeat (go_big_quiet_step (fail))
                      refine wpQuiet_nil ?_
                      rintro _ ⟨m, rfl⟩
                      have HT := hid_upC HB (HE.out.trans (m.h.mono HE.out.size))
                      generalize m.w = v1 at *
                      clear p1 p2 d1 c3
                      go_wp2_with fail
                      go_ret
                      exact ⟨ret_bool HF.out.symm, HT.out⟩
                  · have es := str_ne hs
                    have HN : Hid ((l.take (j + 1)).any q = false) := Lib.hid (by rw [HX.out, HJ.out, hqx, decide_eq_false hs]; rfl)
                    clear hs hqx
                    as_aux_lemma =>
                      go_wp2_with fail
                      refine wp_region_over (by kernel_rfl) (by kernel_rfl) ?_
                      repeat (go_big_quiet_step (fail))
                      refine wpQuiet_nil ?_
                      rintro _ ⟨m, rfl⟩
                      have HT := hid_upC HE m.h
                      generalize m.w = v1 at *
                      clear p1 p2 d1 c3
                      go_wp2_with fail
                      go_roundw
                      case rel => exact ⟨j + 1, by omega, by go_num, HN, HT⟩
                      case measure => simp [intOf]; omega
                · obtain rfl : k = j := by omega
                  have HN : Hid ((List.range (k + 1)).all (okT l) = true) := Lib.hid (hgo.out (by rw [HK2.out, HJ.out]; rfl))
                  have HT := hid_upC HB HE.out
                  as_aux_lemma =>
                    go_wp2_with fail
                    go_roundw
                    case rel => exact ⟨k + 1, by omega, by go_num, HN, HT⟩
                    case measure => simp [intOf]; omega
            · go_wp2_with fail
              obtain ⟨wo, hwo⟩ : ∃ wo : World, wo = wr := ⟨_, rfl⟩
              rw [← hwo]
              rw [← hwo] at c1 HB
              clear c0 c2 hwo
              go_loopw [4] (fun i w3 => ∃ j : Nat, j ≤ k ∧ i = .int .i64 j ∧ Hid ((l.take j).any q = false) ∧ Hid (Below wo.heap.size wo w3))
                (fun i _ => k - (intOf i).toNat)
              case atStart => exact ⟨0, by omega, rfl, Lib.hid rfl, Lib.hid (Below.refl _ _)⟩
              case round =>
                obtain ⟨j, hj, rfl, HJ, HE⟩ := hrel
                have hj0 : 0 ≤ (j : Int) := by omega
                by_cases hjk : j < k
                · have hj1 : (j : Int) < (k : Int) := by omega
                  have hj2 : (j : Int) < (n : Int) := by omega
                  obtain ⟨x, hx, _⟩ := get_at (l := l) (k := j) (by rw [← HL.out]; omega)
                  obtain ⟨vx, hcx, _⟩ := Hr.out j x hx
                  have d1 : wr.cell? ⟨b, o + j * 16 + 1, none⟩ = some (.string x.name) := cell_over (cell_over (hcx 1 _ rfl) HB.out) HE.out
                  have c3 := cell_over c1 HE.out
                  have p1 := fun m : Over wr => cell_over d1 m.h
                  have p2 := fun m : Over wr => cell_over c3 m.h
                  have HX := Lib.hid (any_takeT (p := q) hx)
                  have HM : Hid (x ∈ l.take k) := Lib.hid (by
                    rw [List.mem_iff_getElem?]
                    exact ⟨j, by rw [List.getElem?_take_of_lt hjk]; exact hx⟩)
                  have hqx : q x = decide (keyS x.name = keyS sn) := by rw [HQ.out]
                  generalize x.name = sx at *
                  have z3 := World.block_lt_of_cell? wr _ d1
                  clear hx hcx
                  by_cases hs : keyS sx = keyS sn
                  · have es := str_eq hs
                    have HF : Hid (R = false) := Lib.hid (hno.out (by rw [HK2.out, any_yesT HM.out (by rw [hqx, decide_eq_true hs])]; rfl))
                    clear hs hqx
                    as_aux_lemma =>
                      go_wp2_with fail
                      refine wp_region_over (by kernel_rfl) (by kernel_rfl) ?_
                      repeat (go_big_quiet_step (fail))
                      refine wpQuiet_nil ?_
                      rintro _ ⟨m, rfl⟩
                      have HT := hid_upC HB (HE.out.trans (m.h.mono HE.out.size))
                      generalize m.w = v1 at *
                      clear p1 p2 d1 c3
                      go_wp2_with fail
                      go_ret
                      exact ⟨ret_bool HF.out.symm, HT.out⟩
                  · have es := str_ne hs
                    have HN : Hid ((l.take (j + 1)).any q = false) := Lib.hid (by rw [HX.out, HJ.out, hqx, decide_eq_false hs]; rfl)
                    clear hs hqx
                    as_aux_lemma =>
                      go_wp2_with fail
                      refine wp_region_over (by kernel_rfl) (by kernel_rfl) ?_
                      repeat (go_big_quiet_step (fail))
                      refine wpQuiet_nil ?_
                      rintro _ ⟨m, rfl⟩
                      have HT := hid_upC HE m.h
                      generalize m.w = v1 at *
                      clear p1 p2 d1 c3
                      go_wp2_with fail
                      go_roundw
                      case rel => exact ⟨j + 1, by omega, by go_num, HN, HT⟩
                      case measure => simp [intOf]; omega
                · obtain rfl : k = j := by omega
                  have HN : Hid ((List.range (k + 1)).all (okT l) = true) := Lib.hid (hgo.out (by rw [HK2.out, HJ.out]; rfl))
                  have HT := hid_upC HB HE.out
                  as_aux_lemma =>
                    go_wp2_with fail
                    go_roundw
                    case rel => exact ⟨k + 1, by omega, by go_num, HN, HT⟩
                    case measure => simp [intOf]; omega
          · have e1 : (kd != 1) = true := by simp; omega
            have e2 : (kd != 2) = true := by simp; omega
            have HF : Hid (R = false) := Lib.hid (hno.out (by rw [HK.out]; simp; omega))
            clear kk
            as_aux_lemma =>
              go_wp2_with fail
              go_ret
              exact ⟨ret_bool HF.out.symm, HB.out⟩
        · have e6 : decide (6 < (m : Int)) = true := decide_eq_true (by omega)
          have HF : Hid (R = false) := Lib.hid (hno.out (by rw [HK.out, decide_eq_false k6]; simp))
          by_cases k1 : kd = 1
          · have e1 : (kd != 1) = false := by simpa using k1
            clear k1
            as_aux_lemma =>
              go_wp2_with fail
              go_ret
              exact ⟨ret_bool HF.out.symm, HB.out⟩
          · have e1 : (kd != 1) = true := by simpa using k1
            by_cases k2 : kd = 2
            · have e2 : (kd != 2) = false := by simpa using k2
              clear k1 k2
              as_aux_lemma =>
                go_wp2_with fail
                go_ret
                exact ⟨ret_bool HF.out.symm, HB.out⟩
            · have e2 : (kd != 2) = true := by simpa using k2
              clear k1 k2
              as_aux_lemma =>
                go_wp2_with fail
                go_ret
                exact ⟨ret_bool HF.out.symm, HB.out⟩
      · obtain rfl : n = k := by omega
        have HF : Hid (R = true) := Lib.hid (by rw [HR.out]; exact HA.out)
        go_wp2_with fail
        go_ret
        exact ⟨ret_bool HF.out.symm, HB.out⟩
  · have e0 : decide (30 < (n : Int)) = true := decide_eq_true (by omega)
    rw [decide_eq_false hle]
    go_enter Tryd.func22, Tryd.ntmps22
    go_wp2_with fail
    go_ret
    exact ⟨rfl, Below.refl _ _⟩
end Go.Proofs.YtlbdoomknjiilaaDoor
