/- The laws' own reckoning of room: fields; types and expressions alone. -/
import Derived.Test.YtabncmmadbjegaaTreeRoomE
namespace Go.Proofs.Ytabncmmadbjegaa
open Go.RowKit
set_option linter.unusedVariables false

set_option maxHeartbeats 1000000 in
theorem roomF_calls (B R : Nat) (l : List PF) (v : Value) (m : Int) (hm : RB m) (w : World) (hB : B ≤ w.heap.size) (hr : RoomAt B R w m) (b o : Nat) (s1 : SlV B v l.length b o) (rw1 : PF.Row B w b o l) :
    Calls Try.prog 11 #[.pointer (some ⟨R, 0, none⟩), v] w fun e w' => e = .returned (.tuple #[]) ∧ RoomAt B R w' (fieldsR l m) ∧ But R w w' := by
  obtain ⟨hn, ao, cap, rfl, k1⟩ := s1
  unfold maxLen at hn
  have hBR := hr.1
  obtain ⟨n, hx⟩ : ∃ n, n = l.length := ⟨_, rfl⟩
  have hN : fieldsR l m = listR fieldR (l.drop 0) m := rfl
  rw [← hx] at hn k1 ⊢
  have Hx := Lib.hid hx
  have Hr := Lib.hid rw1
  have H1 := Lib.hid k1
  have HN := Lib.hid hN
  have R0 := Lib.hid hr
  generalize fieldsR l m = res at *
  clear hN hx rw1 k1 hr
  go_enter Try.func11, Try.ntmps11
  go_wp2_with fail
  go_loopw [4] (fun i wr => ∃ (k : Nat) (q : Int), k ≤ n ∧ i = .int .i64 k ∧ RB q ∧ Hid (RoomAt B R wr q) ∧ Hid (But R w wr) ∧ Hid (res = listR fieldR (l.drop k) q))
    (fun i _ => n - (intOf i).toNat)
  case atStart => exact ⟨0, m, by omega, rfl, hm, R0, Lib.hid (But.refl _ _), HN⟩
  case round =>
    clear HN R0
    obtain ⟨k, q, hk, rfl, hq, Hq, Hw, HR⟩ := hrel
    obtain ⟨_, hRw, hc, hf⟩ := Hq.out
    have hsw := Hw.out.size
    by_cases hlt : k < n
    · by_cases hneg : q < 0
      · have hneg' : ¬ 0 ≤ q := by omega
        have e1 : k < n ∧ q < 0 := ⟨hlt, hneg⟩
        have hres := Lib.hid (HR.out.trans (listR_neg hneg))
        go_wp2
        go_end0
        exact ⟨rfl, by rw [hres.out]; exact Hq.out, Hw.out⟩
      · have hpos : 0 ≤ q := by omega
        obtain ⟨a, ha, hin⟩ := get_at (l := l) (k := k) (by rw [← Hx.out]; exact hlt)
        obtain ⟨rfl, hb⟩ := H1.out.resolve_left (by omega)
        have hg : b < wr.heap.size := by omega
        obtain ⟨va, ca, ia⟩ := PF.Row.get (PF.Row.below (Hw.out.below hBR hB) hb Hr.out) ha
        obtain ⟨p1, n1, q1, rfl⟩ := ia.shape
        have c0 : wr.cell? ⟨b, o + k * 4, none⟩ = some (.string a.name) := ca 0 _ rfl
        have c1 : wr.cell? ⟨b, o + k * 4 + 1, none⟩ = some (.int .u8 a.type.kind) := ca 1 _ rfl
        have c2 : wr.cell? ⟨b, o + k * 4 + 2, none⟩ = some (.string a.type.name) := ca 2 _ rfl
        have c3 : wr.cell? ⟨b, o + k * 4 + 3, none⟩ = some (.slice p1 n1 q1) := ca 3 _ rfl
        have C := Lib.hid (room_name B R q a.name hq wr Hq.out)
        have hq1 := nameR_rb hq a.name.size
        have Ia := Lib.hid ia.2
        have D := Lib.hid (fun w' h1 h2 h3 => roomT_calls B R a.type (.slice p1 n1 q1) (nameR q a.name.size) w' hq1 h1 h2 h3)
        have HR2 := Lib.hid (HR.out.trans (by rw [drop_at ha, listR_cons hpos]))
        have hq2 := fieldR_rb a q hq
        have e2 : fieldR a q = typeR a.type (nameR q a.name.size) := rfl
        have E2 := Lib.hid e2
        generalize fieldR a q = q2 at *
        clear ha ca ia hin HR e2
        go_wp2_with fail
        refine C.out.mono ?_
        rintro e w1 ⟨rfl, r1, b1⟩
        have bbR : b ≠ R := by omega
        have d1 : w1.cell? ⟨b, o + k * 4 + 1, none⟩ = some (.int .u8 a.type.kind) := (b1.cell _ _ hg bbR).trans c1
        have d2 : w1.cell? ⟨b, o + k * 4 + 2, none⟩ = some (.string a.type.name) := (b1.cell _ _ hg bbR).trans c2
        have d3 : w1.cell? ⟨b, o + k * 4 + 3, none⟩ = some (.slice p1 n1 q1) := (b1.cell _ _ hg bbR).trans c3
        have hs1 := b1.size
        have hBw : B ≤ w1.heap.size := by omega
        have Ib := Lib.hid (PT.In.below (b1.below hBR (by omega)) Ia.out)
        have R1 := Lib.hid r1
        have B1 := Lib.hid b1
        clear c0 c1 c2 c3 r1 b1 hc hf
        go_wp2_with fail
        refine (D.out _ hBw R1.out Ib.out).mono ?_
        rintro e w2 ⟨rfl, r2, b2⟩
        have R2 := Lib.hid (show RoomAt B R w2 q2 by rw [E2.out]; exact r2)
        have B2 := Lib.hid ((Hw.out.trans B1.out).trans b2)
        clear r2 b2 d1 d2 d3
        go_wp2
        go_roundw
        case rel => exact ⟨k + 1, q2, by omega, by go_num, hq2, R2, B2, HR2⟩
        case measure => simp [intOf]; omega
    · obtain rfl : k = n := by omega
      have hres := Lib.hid (HR.out.trans (by rw [List.drop_of_length_le (by rw [← Hx.out]; exact Nat.le_refl _)]))
      go_wp2
      go_end0
      exact ⟨rfl, by rw [hres.out]; exact Hq.out, Hw.out⟩

/-- a block of the call's own that says how much room is left at first -/
theorem room_new (B : Nat) (w : World) (hB : B ≤ w.heap.size) (t : TypeId) (m : Int) : RoomAt B w.heap.size (w.alloc (.cells #[.int .i64 m] t)) m :=
  ⟨hB, by simp, by go_simp, by go_simp⟩
theorem But.newer {w w1 w2 : World} (h : Below w.heap.size w w1) (k : But w.heap.size w1 w2) : Below w.heap.size w w2 := h.trans (k.below (Nat.le_refl _) h.size)
end Go.Proofs.Ytabncmmadbjegaa
