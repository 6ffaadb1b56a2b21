/- The laws' own reckoning of room: RoomT (made by gen_room.py). -/
import Derived.Test.YtabncmmadbjegaaTreeRoom
namespace Go.Proofs.Ytabncmmadbjegaa
open Go.RowKit
set_option linter.unusedVariables false

def RoomTAt (B R : Nat) (a : PT) : Prop := ∀ (v : Value) (m : Int) (w : World), RB m → B ≤ w.heap.size → RoomAt B R w m → a.In B w v →
  Calls Try.prog 12 #[.pointer (some ⟨R, 0, none⟩), .agg #[.int .u8 a.kind, .string a.name, v]] w fun e w' => e = .returned (.tuple #[]) ∧ RoomAt B R w' (typeR a m) ∧ But R w w'
set_option maxHeartbeats 1000000 in
theorem roomT_step (B R : Nat) (kd : Int) (nm : ByteArray) (l : List PT) (H0 : ∀ a, a ∈ l → RoomTAt B R a) : RoomTAt B R (.mk kd nm l) := by
  intro v m w hm hB hr ha
  obtain ⟨⟨u1, z1⟩, b, o, ⟨hn, ao, cap, rfl, k1⟩, rw1⟩ := ha
  have hBR := hr.1
  have hRz := hr.2.1
  unfold maxLen at hn
  obtain ⟨n, hx⟩ : ∃ n, n = l.length := ⟨_, rfl⟩
  rw [← hx] at hn k1 ⊢
  have Hx := Lib.hid hx
  have Hr := Lib.hid rw1
  have H1 := Lib.hid k1
  have H := Lib.hid H0
  have hN : typeR (.mk kd nm l) m = listR typeR l (nameR m nm.size) := by rw [typeR, typesR_list]
  have hm1 := nameR_rb hm nm.size
  have C0 := Lib.hid (fun w h => room_name B R m nm hm w h)
  show Calls Try.prog 12 #[.pointer (some ⟨R, 0, none⟩), .agg #[.int .u8 kd, .string nm, .slice ao n cap]] w _
  have HN := Lib.hid hN
  generalize typeR (.mk kd nm l) m = res at *
  generalize nameR m nm.size = m1 at *
  clear hN hx rw1 k1 H0
  go_enter Try.func12, Try.ntmps12
  go_wp2_with fail
  refine (C0.out _ (hr.below ((Below.refl _ w).alloc (Nat.le_refl _) _))).mono ?_
  rintro e w1 ⟨rfl, r1, b1⟩
  have hz1 : w.heap.size < w1.heap.size := by have := b1.size; simp at this; omega
  have hbox : w1.cell? ⟨w.heap.size, 2, none⟩ = some (.slice ao n cap) := (b1.cell w.heap.size 2 (by simp) (by omega)).trans (by go_simp)
  have b1' := (But.alloc w _).trans b1
  have B1 := Lib.hid b1'
  have R1 := Lib.hid r1
  clear b1 b1' r1 C0
  go_wp2_with fail
  go_loopw [4] (fun i wr => ∃ (k : Nat) (q : Int), k ≤ n ∧ i = .int .i64 k ∧ RB q ∧ Hid (RoomAt B R wr q) ∧ Hid (But R w1 wr) ∧ Hid (res = listR typeR (l.drop k) q))
    (fun i _ => n - (intOf i).toNat)
  case atStart => exact ⟨0, m1, by omega, rfl, hm1, R1, Lib.hid (But.refl _ _), HN⟩
  case round =>
    obtain ⟨k, q, hk, rfl, hq, Hq, Hw, HR⟩ := hrel
    obtain ⟨_, hRw, hc, hf⟩ := Hq.out
    have hsw := Hw.out.size
    have hbx : wr.cell? ⟨w.heap.size, 2, none⟩ = some (.slice ao n cap) := (Hw.out.cell w.heap.size 2 hz1 (by omega)).trans hbox
    clear hbox
    by_cases hlt : k < n
    · by_cases hneg : q < 0
      · have hneg' : ¬ 0 ≤ q := by omega
        have e1 : k < n ∧ q < 0 := ⟨hlt, hneg⟩
        have hres := Lib.hid (HR.out.trans (listR_neg hneg))
        go_wp2
        go_end0
        exact ⟨rfl, by rw [hres.out]; exact Hq.out, B1.out.trans Hw.out⟩
      · have hpos : 0 ≤ q := by omega
        obtain ⟨a, ha, hin⟩ := get_at (l := l) (k := k) (by rw [← Hx.out]; exact hlt)
        obtain ⟨rfl, hb⟩ := H1.out.resolve_left (by omega)
        have hg : b < wr.heap.size := by omega
        have hbel := (B1.out.trans Hw.out).below hBR hB
        obtain ⟨va, ca, ia⟩ := PT.Row.get (PT.Row.below hbel hb Hr.out) ha
        obtain ⟨p1, q1, t1, rfl⟩ := ia.shape
        have c0 : wr.cell? ⟨b, o + k * 3, none⟩ = some (.int .u8 a.kind) := ca 0 _ rfl
        have c1 : wr.cell? ⟨b, o + k * 3 + 1, none⟩ = some (.string a.name) := ca 1 _ rfl
        have c2 : wr.cell? ⟨b, o + k * 3 + 2, none⟩ = some (.slice p1 q1 t1) := ca 2 _ rfl
        have C := Lib.hid (H.out a hin (.slice p1 q1 t1) q wr hq (by omega) Hq.out ia)
        have HR2 := Lib.hid (HR.out.trans (by rw [drop_at ha, listR_cons hpos]))
        have hq2 := typeR_rb a q hq
        generalize typeR a q = q2 at *
        clear ha ca ia hin HR hbel
        go_wp2_with fail
        refine C.out.mono ?_
        rintro e w2 ⟨rfl, r2, b2⟩
        have R2 := Lib.hid r2
        have B2 := Lib.hid (Hw.out.trans b2)
        clear r2 b2 c0 c1 c2 hc hf hbx
        go_wp2
        go_roundw
        case rel => exact ⟨k + 1, q2, by omega, by go_num, hq2, R2, B2, HR2⟩
        case measure => simp [intOf]; omega
    · obtain rfl : k = n := by omega
      have hres := Lib.hid (HR.out.trans (by rw [List.drop_of_length_le (by rw [← Hx.out]; exact Nat.le_refl _)]))
      go_wp2
      go_end0
      exact ⟨rfl, by rw [hres.out]; exact Hq.out, B1.out.trans Hw.out⟩
theorem roomT_calls (B R : Nat) (a : PT) : RoomTAt B R a :=
  PT.rec (motive_1 := RoomTAt B R) (motive_2 := fun l => ∀ x, x ∈ l → RoomTAt B R x) (fun k n xs H => roomT_step B R k n xs H)
    (fun x h => by cases h) (fun a l ha hl x h => by cases h with | head => exact ha | tail _ h => exact hl x h) a
end Go.Proofs.Ytabncmmadbjegaa
