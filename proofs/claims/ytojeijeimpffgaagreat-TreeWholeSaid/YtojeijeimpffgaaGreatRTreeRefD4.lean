/- The document's own way of saying how many statements and expressions there are. -/
import Derived.Test.YtojeijeimpffgaaGreatRTreeRefD2
import Derived.Deep.Cut
namespace Go.Proofs.YtojeijeimpffgaaGreat
open Go.RowKit
set_option linter.unusedVariables false

def NumLAt (B : Nat) (l : List PS) : Prop := ∀ (v : Value) (b o : Nat) (w : World), B ≤ w.heap.size → SlV B v l.length b o → PS.Row B w b o l → nSs l ≤ 1000000 →
  Calls Tryz.prog 35 #[v] w fun e w' => e = .returned (.int .i64 (nSs l : Int)) ∧ Below w.heap.size w w'
def SubNA (B : Nat) : PA → Prop | .mk _ _ bo => NumLAt B bo
def SubN (B : Nat) : PS → Prop | .mk _ _ _ _ _ _ _ _ bo el ar _ => NumLAt B bo ∧ NumLAt B el ∧ ∀ a, a ∈ ar → SubNA B a
set_option maxRecDepth 100000 in
set_option maxHeartbeats 4000000 in
theorem numS_list (B : Nat) (l : List PS) (H0 : ∀ a, a ∈ l → SubN B a) : NumLAt B l := by
  intro v b o w hB hs1 rw1 hd
  obtain ⟨hn, ao, cap, rfl, k1⟩ := hs1
  unfold maxLen at hn
  obtain ⟨n, hx⟩ : ∃ n, n = l.length := ⟨_, rfl⟩
  rw [← hx] at hn k1 ⊢
  have Hx := Lib.hid hx
  have Hr := Lib.hid rw1
  have H1 := Lib.hid k1
  have H := Lib.hid H0
  obtain ⟨R, hR⟩ : ∃ R, R = nSs l := ⟨_, rfl⟩
  rw [← hR] at hd ⊢
  have HR := Lib.hid hR
  clear hx rw1 k1 H0 hR
  go_enter Tryz.func35, Tryz.ntmps35
  go_wp2_with fail
  go_loopw [3, 4] (fun q i wr => ∃ (k m : Nat), k ≤ n ∧ i = .int .i64 k ∧ q = .int .i64 m ∧ m ≤ R ∧ Hid (Below w.heap.size w wr) ∧ Hid (m + nSs (l.drop k) = R))
    (fun _ i _ => n - (intOf i).toNat)
  case atStart => exact ⟨0, 0, by omega, rfl, rfl, by omega, Lib.hid (Below.refl _ w), Lib.hid (by rw [List.drop_zero, HR.out]; omega)⟩
  case round =>
    obtain ⟨k, m, hk, rfl, rfl, hmR, Hw, HM⟩ := hrel
    have hsz := Hw.out.size
    by_cases hlt : k < n
    · obtain ⟨a, ha, hin⟩ := get_at (l := l) (k := k) (by rw [← Hx.out]; exact hlt)
      obtain ⟨rfl, hb⟩ := H1.out.resolve_left (by omega)
      have hg : b < wr.heap.size := by omega
      obtain ⟨va, ca, ia⟩ := PS.Row.get (PS.Row.below (Hw.out.mono hB) (fun _ => hb) Hr.out) ha
      obtain ⟨pa0, na0, qa0, pa1, na1, qa1, pa2, na2, qa2, pa3, na3, qa3, pa4, na4, qa4, pa5, na5, qa5, pa6, na6, qa6, rfl⟩ := ia.shape
      have h0 := HM.out
      rw [drop_get ha, nSs] at h0
      obtain ⟨opa, nma, sca, nsa, tya, iva, pla, esa, boa, ela, ara, ata⟩ := a
      rw [nS] at h0
      have c10 : wr.cell? ⟨b, o + k * 15 + 10, none⟩ = some (.slice pa3 na3 qa3) := ca 10 _ rfl
      have c11 : wr.cell? ⟨b, o + k * 15 + 11, none⟩ = some (.slice pa4 na4 qa4) := ca 11 _ rfl
      have c12 : wr.cell? ⟨b, o + k * 15 + 12, none⟩ = some (.slice pa5 na5 qa5) := ca 12 _ rfl
      have c13 : wr.cell? ⟨b, o + k * 15 + 13, none⟩ = some (.slice pa6 na6 qa6) := ca 13 _ rfl
      obtain ⟨SB, SL, SA⟩ := H.out _ hin
      obtain ⟨_, hns, hty, hpl, ⟨be, oe, se, re⟩, ⟨bb, ob, sb, rb⟩, ⟨bl, ol, sl, rl⟩, bm, om, ⟨hnm, aom, capm, hvm, km⟩, rm⟩ := ia
      simp only [Value.slice.injEq] at hvm
      obtain ⟨rfl, hn6, rfl⟩ := hvm
      unfold maxLen at hnm
      rw [← hn6] at hnm km
      have hB0 : B ≤ wr.heap.size := by omega
      have A1 : Hid (∀ n' : Over wr, Calls Tryz.prog 36 #[.slice pa3 na3 qa3] n'.w fun e w'' => e = .returned (.int .i64 (nEs esa : Int)) ∧ ∃ m' : Over wr, w'' = m'.w) := Lib.hid fun n' => over_calls (numE_calls B esa _ be oe n'.w (by have := n'.h.size; omega) se (PE.Row.below' (n'.h.mono hB0) se re) (by omega))
      have A2 : Hid (∀ n' : Over wr, Calls Tryz.prog 35 #[.slice pa4 na4 qa4] n'.w fun e w'' => e = .returned (.int .i64 (nSs boa : Int)) ∧ ∃ m' : Over wr, w'' = m'.w) := Lib.hid fun n' => over_calls (SB _ bb ob n'.w (by have := n'.h.size; omega) sb (PS.Row.below' (n'.h.mono hB0) sb rb) (by omega))
      have A3 : Hid (∀ n' : Over wr, Calls Tryz.prog 35 #[.slice pa5 na5 qa5] n'.w fun e w'' => e = .returned (.int .i64 (nSs ela : Int)) ∧ ∃ m' : Over wr, w'' = m'.w) := Lib.hid fun n' => over_calls (SL _ bl ol n'.w (by have := n'.h.size; omega) sl (PS.Row.below' (n'.h.mono hB0) sl rl) (by omega))
      have Km := Lib.hid km
      have Rm := Lib.hid rm
      have HN6 := Lib.hid hn6
      have SA' := Lib.hid SA
      obtain ⟨T, hT⟩ : ∃ T, T = m + 1 + nEs esa + nSs boa + nSs ela := ⟨_, rfl⟩
      have eT : (T : Int) = (m : Int) + 1 + (nEs esa : Int) + (nSs boa : Int) + (nSs ela : Int) := by omega
      have HM2 : Hid (T + nAs ara + nSs (l.drop (k + 1)) = R) := Lib.hid (by omega)
      have hTR : T + nAs ara ≤ R := by omega
      have s1 : nEs esa ≤ 1000000 := by omega
      have s2 : nSs boa ≤ 1000000 := by omega
      have s3 : nSs ela ≤ 1000000 := by omega
      have ET := Lib.hid eT
      clear hns hty hpl re sb rb sl rl rm km hn6 SB SL SA ca ha hin HM h0 se hT eT
      generalize nSs boa = xb at *
      generalize nSs ela = xl at *
      generalize nEs esa = xe at *
      go_upto_region 5 with (fail)
      have hF := Over.cells (W0 := wr)
      refine wp_region_over (by kernel_rfl) (by kernel_rfl) ?_
      repeat (go_big_quiet_step ((first | (go_at_call 36; with_reducible exact A1.out _) | (go_at_call 35; with_reducible exact A2.out _) | (go_at_call 35; with_reducible exact A3.out _))))
      refine wpQuiet_nil ?_
      rintro _ ⟨m', rfl⟩
      replace c13 := (m'.cells b (o + k * 15 + 13) hg).trans c13
      have hgd : b < m'.w.heap.size := by have := m'.h.size; omega
      have hBd : B ≤ m'.w.heap.size := by have := m'.h.size; omega
      have BD : Hid (Below w.heap.size w m'.w) := Lib.hid (Hw.out.trans (m'.h.mono (by omega)))
      have RM : Hid (PA.Row B m'.w bm om ara) := Lib.hid (by
        by_cases h6 : na6 = 0
        · have : ara = [] := List.eq_nil_of_length_eq_zero (by rw [← HN6.out]; exact h6)
          subst this; trivial
        · exact PA.Row.below (m'.h.mono hB0) (fun _ => (Km.out.resolve_left h6).2) Rm.out)
      clear A1 A2 A3 hF c10 c11 c12 Rm Hw
      generalize m'.w = wd at *
      have hwd : w.heap.size ≤ wd.heap.size := BD.out.size
      go_wp2_with fail
      go_loopw [3, 5] (fun q i wi => ∃ (k2 t : Nat), k2 ≤ na6 ∧ i = .int .i64 k2 ∧ q = .int .i64 t ∧ t ≤ 1000000 ∧ Hid (Below wd.heap.size wd wi) ∧ Hid (t + nAs (ara.drop k2) = T + nAs ara))
        (fun _ i _ => na6 - (intOf i).toNat)
      case atStart => exact ⟨0, T, by omega, rfl, by rw [ET.out], by omega, Lib.hid (Below.refl _ wd), Lib.hid (by rw [List.drop_zero])⟩
      case round =>
        obtain ⟨k2, t, hk2, rfl, rfl, ht, Hi, HQ⟩ := hrel
        have hsi := Hi.out.size
        have z13 := (Hi.out.cell (p := ⟨b, o + k * 15 + 13, none⟩) hgd).trans c13
        have hgi : b < wr.heap.size := by omega
        by_cases hlt2 : k2 < na6
        · obtain ⟨a, ha, hin⟩ := get_at (l := ara) (k := k2) (by rw [← HN6.out]; exact hlt2)
          obtain ⟨rfl, hbm⟩ := Km.out.resolve_left (by omega)
          have hgm : bm < wr.heap.size := by omega
          obtain ⟨vm, cm, im⟩ := PA.Row.get (PA.Row.below (Hi.out.mono hBd) (fun _ => hbm) RM.out) ha
          obtain ⟨p7, n7, q7, rfl⟩ := im.shape
          have hsub := SA'.out a hin
          have h0 := HQ.out
          rw [drop_get ha, nAs] at h0
          obtain ⟨xv, xn, xbo⟩ := a
          rw [nA] at h0
          have c2 : wr.cell? ⟨bm, om + k2 * 3 + 2, none⟩ = some (.slice p7 n7 q7) := cm 2 _ rfl
          obtain ⟨_, b7, o7, s7, r7⟩ := im
          have C : Hid (Calls Tryz.prog 35 #[.slice p7 n7 q7] wr fun e w' => e = .returned (.int .i64 (nSs xbo : Int)) ∧ Below wr.heap.size wr w') := Lib.hid (hsub _ b7 o7 wr (by omega) s7 r7 (by omega))
          obtain ⟨t3, ht3⟩ : ∃ t3, t3 = t + nSs xbo := ⟨_, rfl⟩
          have e3 : (t3 : Int) = (t : Int) + (nSs xbo : Int) := by omega
          have HQ2 : Hid (t3 + nAs (ara.drop (k2 + 1)) = T + nAs ara) := Lib.hid (by omega)
          have hx7 : nSs xbo ≤ 1000000 := by omega
          have hq2 : t3 ≤ 1000000 := by omega
          have E3 := Lib.hid e3
          clear ht3 e3 h0
          generalize nSs xbo = da at *
          clear ha cm hin HQ hsub s7 r7
          go_wp2_with fail
          refine C.out.mono ?_
          rintro e u2 ⟨rfl, b2⟩
          have B2 := Lib.hid (Hi.out.trans (b2.mono (by omega)))
          clear b2 c2 z13 C Hi
          go_wp2
          go_roundw
          case rel => exact ⟨k2 + 1, t3, by omega, by go_num, by rw [E3.out], hq2, B2, HQ2⟩
          case measure => simp [intOf]; omega
        · obtain rfl : k2 = na6 := by omega
          have hq1 : t = T + nAs ara := by have := HQ.out; rw [HN6.out, drop_end, nAs] at this; omega
          have HM3 : Hid (t + nSs (l.drop (k + 1)) = R) := Lib.hid (by rw [hq1]; exact HM2.out)
          have htR : t ≤ R := by omega
          have BW : Hid (Below w.heap.size w wr) := Lib.hid (BD.out.trans (Hi.out.mono (by omega)))
          clear HQ Km RM SA' HM2 hq1 Hi BD
          go_wp2
          go_roundw
          case rel => exact ⟨k + 1, t, by omega, by go_num, rfl, htR, BW, HM3⟩
          case measure => simp [intOf]; omega
    · obtain rfl : k = n := by omega
      obtain rfl : m = R := by have := HM.out; rw [Hx.out, drop_end, nSs] at this; omega
      go_wp2
      go_ret
      exact ⟨rfl, Hw.out⟩
theorem subN_all (B : Nat) (a : PS) : SubN B a :=
  PS.rec (motive_1 := SubN B) (motive_2 := SubNA B) (motive_3 := fun l => ∀ x, x ∈ l → SubN B x) (motive_4 := fun l => ∀ x, x ∈ l → SubNA B x)
    (fun op n s ns t i p es bo el ar pos h1 h2 h3 => ⟨numS_list B bo h1, numS_list B el h2, h3⟩) (fun v n bo h => numS_list B bo h)
    (fun x h => by cases h) (fun a l ha hl x h => by cases h with | head => exact ha | tail _ h => exact hl x h)
    (fun x h => by cases h) (fun a l ha hl x h => by cases h with | head => exact ha | tail _ h => exact hl x h) a
theorem numS_calls (B : Nat) (l : List PS) : NumLAt B l := numS_list B l (fun a _ => subN_all B a)
end Go.Proofs.YtojeijeimpffgaaGreat

