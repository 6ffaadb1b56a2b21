/- The document's own way of saying how deep, how large: expressions. -/
import Derived.Test.YtojeijeimpffgaaGreatRTreeRefD1
namespace Go.Proofs.YtojeijeimpffgaaGreat
open Go.RowKit
set_option linter.unusedVariables false

/-! ### expressions -/
def DeepEAt (B : Nat) (a : PE) : Prop := ∀ (v : VE) (w : World), B ≤ w.heap.size → a.In B w v → dE a ≤ 1000000 →
  Calls Tryz.prog 32 #[.agg (a.cells v).toArray] w fun e w' => e = .returned (.int .i64 (dE a : Int)) ∧ Below w.heap.size w w'
theorem dEs_mem : ∀ {l : List PE} {a : PE}, a ∈ l → dE a ≤ dEs l
  | x :: l, a, h => by
    rw [dEs]
    rcases List.mem_cons.1 h with rfl | h1
    · omega
    · have := dEs_mem h1; omega
set_option maxRecDepth 100000 in
set_option maxHeartbeats 2000000 in
theorem deepE_step (B : Nat) (opa iva : Int) (nma sca : ByteArray) (pla : PP) (l : List PE) (ata : Int) (H0 : ∀ a, a ∈ l → DeepEAt B a) : DeepEAt B (.mk opa iva nma sca pla l ata) := by
  intro v w hB ha hd
  obtain ⟨pa0, na0, qa0, ao, n', cap, rfl⟩ := ha.shape
  obtain ⟨_, _, b, o, ⟨hn, ao', cap', hv, k1⟩, rw1⟩ := ha
  simp only [Value.slice.injEq] at hv
  obtain ⟨rfl, rfl, rfl⟩ := hv
  rw [dE] at hd ⊢
  unfold maxLen at hn
  obtain ⟨n, hx⟩ : ∃ n, n = l.length := ⟨_, rfl⟩
  rw [← hx] at hn k1 ⊢
  have Hx := Lib.hid hx
  have Hr := Lib.hid rw1
  have H1 := Lib.hid k1
  have H := Lib.hid H0
  have Hm := Lib.hid (fun a (h : a ∈ l) => dEs_mem h)
  obtain ⟨R, hR⟩ : ∃ R, R = dEs l := ⟨_, rfl⟩
  rw [← hR] at hd ⊢
  have HR := Lib.hid hR
  have er : ((R + 1 : Nat) : Int) = (R : Int) + 1 := by omega
  rw [er]
  show Calls Tryz.prog 32 #[.agg #[.int .u8 opa, .int .i64 iva, .string nma, .string sca, .string pla.name, .slice pa0 na0 qa0, .slice ao n cap, .int .i64 ata]] w _
  clear hx rw1 k1 H0 hR er
  go_enter Tryz.func32, Tryz.ntmps32
  go_wp2_with fail
  go_loopw [3, 4] (fun q i wr => ∃ (k m : Nat), k ≤ n ∧ i = .int .i64 k ∧ q = .int .i64 m ∧ m ≤ R ∧ w.heap.size < wr.heap.size ∧ wr.cell? ⟨w.heap.size, 6, none⟩ = some (.slice ao n cap) ∧ Hid (Below w.heap.size w wr) ∧ Hid (max m (dEs (l.drop k)) = R))
    (fun _ i _ => n - (intOf i).toNat)
  case atStart => exact ⟨0, 0, by omega, rfl, rfl, by omega, by simp, by go_simp, Lib.hid ((Below.refl _ w).alloc (Nat.le_refl _) _), Lib.hid (by rw [List.drop_zero, HR.out]; omega)⟩
  case round =>
    obtain ⟨k, m, hk, rfl, rfl, hmR, hz, hc, Hw, HM⟩ := hrel
    by_cases hlt : k < n
    · obtain ⟨a, ha, hin⟩ := get_at (l := l) (k := k) (by rw [← Hx.out]; exact hlt)
      obtain ⟨rfl, hb⟩ := H1.out.resolve_left (by omega)
      have hg : b < wr.heap.size := by omega
      obtain ⟨va, ca, ia⟩ := PE.Row.get (PE.Row.below (Hw.out.mono hB) hb Hr.out) ha
      obtain ⟨pb0, nb0, qb0, pb1, nb1, qb1, rfl⟩ := ia.shape
      have c0 : wr.cell? ⟨b, o + k * 8, none⟩ = some (.int .u8 a.op) := ca 0 _ rfl
      have c1 : wr.cell? ⟨b, o + k * 8 + 1, none⟩ = some (.int .i64 a.int) := ca 1 _ rfl
      have c2 : wr.cell? ⟨b, o + k * 8 + 2, none⟩ = some (.string a.name) := ca 2 _ rfl
      have c3 : wr.cell? ⟨b, o + k * 8 + 3, none⟩ = some (.string a.second) := ca 3 _ rfl
      have c4 : wr.cell? ⟨b, o + k * 8 + 4, none⟩ = some (.string a.place.name) := ca 4 _ rfl
      have c5 : wr.cell? ⟨b, o + k * 8 + 5, none⟩ = some (.slice pb0 nb0 qb0) := ca 5 _ rfl
      have c6 : wr.cell? ⟨b, o + k * 8 + 6, none⟩ = some (.slice pb1 nb1 qb1) := ca 6 _ rfl
      have c7 : wr.cell? ⟨b, o + k * 8 + 7, none⟩ = some (.int .i64 a.pos) := ca 7 _ rfl
      have hda := Hm.out a hin
      rw [← HR.out] at hda
      have C : Hid (Calls Tryz.prog 32 #[.agg #[.int .u8 a.op, .int .i64 a.int, .string a.name, .string a.second, .string a.place.name, .slice pb0 nb0 qb0, .slice pb1 nb1 qb1, .int .i64 a.pos]] wr fun e w' => e = .returned (.int .i64 (dE a : Int)) ∧ Below wr.heap.size wr w') := Lib.hid (H.out a hin ⟨.slice pb0 nb0 qb0, .slice pb1 nb1 qb1⟩ wr (by omega) ia (by omega))
      have MC := Lib.hid (fun w' => most_calls m (dE a) w')
      have HM2 : Hid (max (max m (dE a)) (dEs (l.drop (k + 1))) = R) := Lib.hid (by rw [← HM.out, drop_get ha, dEs]; omega)
      have hm2 : max m (dE a) ≤ R := by omega
      generalize dE a = da at *
      clear ha ca ia hin HM hda
      go_wp2_with fail
      refine C.out.mono ?_
      rintro e w2 ⟨rfl, b2⟩
      have hc2 := (b2.cell (p := ⟨w.heap.size, 6, none⟩) hz).trans hc
      have hz2 : w.heap.size < w2.heap.size := by have := b2.size; omega
      have B2 := Lib.hid (Hw.out.trans (b2.mono (by omega)))
      clear b2 c0 c1 c2 c3 c4 c5 c6 c7 hc C Hw
      go_wp2_with fail
      refine (MC.out _).mono ?_
      rintro e w3 ⟨rfl, b3⟩
      have hc3 := (b3.cell (p := ⟨w.heap.size, 6, none⟩) hz2).trans hc2
      have hz3 : w.heap.size < w3.heap.size := by have := b3.size; omega
      have B3 := Lib.hid (B2.out.trans (b3.mono (by omega)))
      generalize max m da = m3 at *
      clear b3 hc2 B2 MC
      go_wp2
      go_roundw
      case rel => exact ⟨k + 1, m3, by omega, by go_num, rfl, hm2, hz3, hc3, B3, HM2⟩
      case measure => simp [intOf]; omega
    · obtain rfl : k = n := by omega
      obtain rfl : m = R := by have := HM.out; rw [Hx.out, drop_end, dEs] at this; omega
      go_wp2
      go_ret
      exact ⟨rfl, Hw.out⟩
theorem deepE_calls (B : Nat) (a : PE) : DeepEAt B a :=
  PE.rec (motive_1 := DeepEAt B) (motive_2 := fun l => ∀ x, x ∈ l → DeepEAt B x) (fun op i n s p xs pos H => deepE_step B op i n s p xs pos H)
    (fun x h => by cases h) (fun a l ha hl x h => by cases h with | head => exact ha | tail _ h => exact hl x h) a
/-! ### how many expressions -/
def NumEAt (B : Nat) (l : List PE) : Prop := ∀ (v : Value) (b o : Nat) (w : World), B ≤ w.heap.size → SlV B v l.length b o → PE.Row B w b o l → nEs l ≤ 1000000 →
  Calls Tryz.prog 36 #[v] w fun e w' => e = .returned (.int .i64 (nEs l : Int)) ∧ Below w.heap.size w w'
def SubE (B : Nat) : PE → Prop | .mk _ _ _ _ _ l _ => NumEAt B l
set_option maxRecDepth 100000 in
set_option maxHeartbeats 2000000 in
theorem numE_step (B : Nat) (l : List PE) (H0 : ∀ a, a ∈ l → SubE B a) : NumEAt B l := by
  intro v b o w hB hs1 rw1 hd
  obtain ⟨hn, ao, cap, rfl, k1⟩ := hs1
  unfold maxLen at hn
  obtain ⟨n, hx⟩ : ∃ n, n = l.length := ⟨_, rfl⟩
  rw [← hx] at hn k1 ⊢
  have Hx := Lib.hid hx
  have Hr := Lib.hid rw1
  have H1 := Lib.hid k1
  have H := Lib.hid H0
  obtain ⟨R, hR⟩ : ∃ R, R = nEs l := ⟨_, rfl⟩
  rw [← hR] at hd ⊢
  have HR := Lib.hid hR
  clear hx rw1 k1 H0 hR
  go_enter Tryz.func36, Tryz.ntmps36
  go_wp2_with fail
  go_loopw [3, 4] (fun q i wr => ∃ (k m : Nat), k ≤ n ∧ i = .int .i64 k ∧ q = .int .i64 m ∧ m ≤ R ∧ Hid (Below w.heap.size w wr) ∧ Hid (m + nEs (l.drop k) = R))
    (fun _ i _ => n - (intOf i).toNat)
  case atStart => exact ⟨0, 0, by omega, rfl, rfl, by omega, Lib.hid (Below.refl _ w), Lib.hid (by rw [List.drop_zero, HR.out]; omega)⟩
  case round =>
    obtain ⟨k, m, hk, rfl, rfl, hmR, Hw, HM⟩ := hrel
    have hsz := Hw.out.size
    by_cases hlt : k < n
    · obtain ⟨a, ha, hin⟩ := get_at (l := l) (k := k) (by rw [← Hx.out]; exact hlt)
      obtain ⟨rfl, hb⟩ := H1.out.resolve_left (by omega)
      have hg : b < wr.heap.size := by omega
      obtain ⟨va, ca, ia⟩ := PE.Row.get (PE.Row.below (Hw.out.mono hB) hb Hr.out) ha
      obtain ⟨pb0, nb0, qb0, pb1, nb1, qb1, rfl⟩ := ia.shape
      obtain ⟨op, i0, nm, sc, pl, l2, ps⟩ := a
      have c6 : wr.cell? ⟨b, o + k * 8 + 6, none⟩ = some (.slice pb1 nb1 qb1) := ca 6 _ rfl
      obtain ⟨_, _, b2, o2, s2, r2⟩ := ia
      have h0 := HM.out
      rw [drop_get ha, nEs, nE] at h0
      have C := Lib.hid (H.out _ hin (.slice pb1 nb1 qb1) b2 o2 wr (by omega) s2 r2 (by omega))
      have HM2 : Hid (m + 1 + nEs l2 + nEs (l.drop (k + 1)) = R) := Lib.hid (by omega)
      have hm2 : m + 1 + nEs l2 ≤ R := by omega
      obtain ⟨m3, hm3⟩ : ∃ m3, m3 = m + 1 + nEs l2 := ⟨_, rfl⟩
      rw [← hm3] at HM2 hm2
      generalize nEs l2 = na at *
      have e3 : (m3 : Int) = (m : Int) + 1 + (na : Int) := by omega
      clear ha ca hin HM h0 s2 r2
      go_wp2_with fail
      refine C.out.mono ?_
      rintro e w2 ⟨rfl, b2⟩
      have B2 := Lib.hid (Hw.out.trans (b2.mono (by omega)))
      clear b2 c6 C Hw hm3
      go_wp2
      go_roundw
      case rel => exact ⟨k + 1, m3, by omega, by go_num, by rw [e3], hm2, B2, HM2⟩
      case measure => simp [intOf]; omega
    · obtain rfl : k = n := by omega
      obtain rfl : m = R := by have := HM.out; rw [Hx.out, drop_end, nEs] at this; omega
      go_wp2
      go_ret
      exact ⟨rfl, Hw.out⟩
theorem subE_all (B : Nat) (a : PE) : SubE B a :=
  PE.rec (motive_1 := SubE B) (motive_2 := fun l => ∀ x, x ∈ l → SubE B x) (fun op i n s p xs pos H => numE_step B xs H)
    (fun x h => by cases h) (fun a l ha hl x h => by cases h with | head => exact ha | tail _ h => exact hl x h) a
theorem numE_calls (B : Nat) (l : List PE) : NumEAt B l := numE_step B l fun a _ => subE_all B a
end Go.Proofs.YtojeijeimpffgaaGreat

