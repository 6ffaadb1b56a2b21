/- The laws' own reckoning of how much room a tree takes: names, types, places, expressions. -/
import Derived.Test.YthilicmhdkmipaaGreatDoorIJoinAW
import Derived.Test.YthilicmhdkmipaaGreatDoorIJoinAE
namespace Go.Proofs.YthilicmhdkmipaaGreatDoor
open Go.RowKit
set_option linter.unusedVariables false

set_option maxHeartbeats 400000 in
theorem room_name1 (R : Nat) (m : Int) (s : ByteArray) (h1 : -100 ≤ m) (h : m < 5) (w : World) (hc : w.cell? ⟨R, 0, none⟩ = some (.int .i64 m)) (hf : w.frozen? ⟨R, 0, none⟩ = false) :
    Calls Tryz.prog 35 #[.pointer (some ⟨R, 0, none⟩), .string s] w fun e w' => e = .returned (.tuple #[]) ∧ w' = w.setCell ⟨R, 0, none⟩ (.int .i64 (-1)) := by
  go_enter Tryz.func35, Tryz.ntmps35
  go_wp2
  exact bodyPost_ret (v := .tuple #[]) (by simp [results, Tryz.results35, go_sem]) rfl ⟨rfl, rfl⟩
set_option maxHeartbeats 400000 in
theorem room_name2 (R : Nat) (m : Int) (s : ByteArray) (h1 : 5 ≤ m) (h2 : m ≤ 20000) (h : m - 5 < (s.size : Int)) (w : World) (hc : w.cell? ⟨R, 0, none⟩ = some (.int .i64 m)) (hf : w.frozen? ⟨R, 0, none⟩ = false) :
    Calls Tryz.prog 35 #[.pointer (some ⟨R, 0, none⟩), .string s] w fun e w' => e = .returned (.tuple #[]) ∧ w' = w.setCell ⟨R, 0, none⟩ (.int .i64 (-1)) := by
  go_enter Tryz.func35, Tryz.ntmps35
  go_wp2
  exact bodyPost_ret (v := .tuple #[]) (by simp [results, Tryz.results35, go_sem]) rfl ⟨rfl, rfl⟩
set_option maxHeartbeats 400000 in
theorem room_name3 (R : Nat) (m : Int) (s : ByteArray) (h1 : 5 ≤ m) (h2 : m ≤ 20000) (h : (s.size : Int) ≤ m - 5) (w : World) (hc : w.cell? ⟨R, 0, none⟩ = some (.int .i64 m)) (hf : w.frozen? ⟨R, 0, none⟩ = false) :
    Calls Tryz.prog 35 #[.pointer (some ⟨R, 0, none⟩), .string s] w fun e w' => e = .returned (.tuple #[]) ∧ w' = w.setCell ⟨R, 0, none⟩ (.int .i64 (m - 5 - s.size)) := by
  have h' : 5 ≤ m ∧ (s.size : Int) ≤ m - 5 := ⟨h1, h⟩
  go_enter Tryz.func35, Tryz.ntmps35
  go_wp2
  go_end0
  exact ⟨rfl, rfl⟩
theorem room_name (B R : Nat) (m : Int) (s : ByteArray) (hm : RB m) (w : World) (hr : RoomAt B R w m) :
    Calls Tryz.prog 35 #[.pointer (some ⟨R, 0, none⟩), .string s] w fun e w' => e = .returned (.tuple #[]) ∧ RoomAt B R w' (nameR m s.size) ∧ But R w w' := by
  obtain ⟨h1, h2⟩ := hm
  by_cases h : m < 5
  · refine (room_name1 R m s (by omega) h w hr.2.2.1 hr.2.2.2).mono ?_
    rintro e w' ⟨rfl, rfl⟩
    exact ⟨rfl, by rw [nameR_no (.inl h)]; exact hr.set _, But.set _ _⟩
  · by_cases h3 : m - 5 < (s.size : Int)
    · refine (room_name2 R m s (by omega) h2 h3 w hr.2.2.1 hr.2.2.2).mono ?_
      rintro e w' ⟨rfl, rfl⟩
      exact ⟨rfl, by rw [nameR_no (.inr h3)]; exact hr.set _, But.set _ _⟩
    · refine (room_name3 R m s (by omega) h2 (by omega) w hr.2.2.1 hr.2.2.2).mono ?_
      rintro e w' ⟨rfl, rfl⟩
      exact ⟨rfl, by rw [nameR_yes (by omega) (by omega)]; exact hr.set _, But.set _ _⟩

set_option maxHeartbeats 1000000 in
theorem room_names (B R : Nat) (l : List ByteArray) (v : Value) (m : Int) (h1 : -1 ≤ m) (h2 : m ≤ 20000) (w : World) (hB : B ≤ w.heap.size) (hr : RoomAt B R w m) (hl : NIn B w l v) :
    Calls Tryz.prog 84 #[.pointer (some ⟨R, 0, none⟩), v] w fun e w' => e = .returned (.tuple #[]) ∧ RoomAt B R w' (namesR l m) ∧ But R w w' := by
  obtain ⟨b, o, ⟨hn, ao, cap, rfl, k1⟩, rw1⟩ := hl
  unfold maxLen at hn
  have hr0 := hr
  obtain ⟨hBR, hRz, hc, hf⟩ := hr
  have hset := hr0.set (m - 5)
  have hbut := But.set (R := R) w (.int .i64 (m - 5))
  obtain ⟨n, hx⟩ : ∃ n, n = l.length := ⟨_, rfl⟩
  have hN : namesR l m = listR (fun s m => nameR m s.size) (l.drop 0) (m - 5) := rfl
  rw [← hx] at hn k1 ⊢
  have Hx := Lib.hid hx
  have Hr := Lib.hid rw1
  have H1 := Lib.hid k1
  have HN := Lib.hid hN
  have Hset := Lib.hid hset
  have Hbut := Lib.hid hbut
  generalize namesR l m = res at *
  clear hN hx rw1 k1 hset hbut hr0
  go_enter Tryz.func84, Tryz.ntmps84
  go_wp2_with fail
  go_loopw [4] (fun i wr => ∃ (k : Nat) (q : Int), k ≤ n ∧ i = .int .i64 k ∧ RB q ∧ Hid (RoomAt B R wr q) ∧ Hid (But R w wr) ∧ Hid (res = listR (fun s m => nameR m s.size) (l.drop k) q))
    (fun i _ => n - (intOf i).toNat)
  case atStart => exact ⟨0, m - 5, by omega, rfl, ⟨by omega, by omega⟩, Hset, Hbut, HN⟩
  case round =>
    clear HN Hset Hbut hc hf
    obtain ⟨k, q, hk, rfl, hq, Hq, Hw, HR⟩ := hrel
    obtain ⟨_, hRw, hc, hf⟩ := Hq.out
    by_cases hlt : k < n
    · by_cases hneg : q < 0
      · have hneg' : ¬ 0 ≤ q := by omega
        have e1 : k < n ∧ q < 0 := ⟨hlt, hneg⟩
        have hres := Lib.hid (HR.out.trans (listR_neg hneg))
        go_wp2
        go_end0
        exact ⟨rfl, by rw [hres.out]; exact Hq.out, Hw.out⟩
      · have hpos : 0 ≤ q := by omega
        obtain ⟨a, ha, hin⟩ := get_at (l := l) (k := k) (by rw [← Hx.out]; exact hlt)
        obtain ⟨rfl, hb⟩ := H1.out.resolve_left (by omega)
        have hg : b < wr.heap.size := by have := Hw.out.size; omega
        obtain ⟨za, ca⟩ := NRow.get (NRow.below hb (Hw.out.below hBR hB) Hr.out) ha
        have c0 : wr.cell? ⟨b, o + k, none⟩ = some (.string a) := by have := ca 0 _ rfl; simpa using this
        have C := Lib.hid (room_name B R q a hq wr Hq.out)
        have HR2 := Lib.hid (HR.out.trans (by rw [drop_at ha, listR_cons hpos]))
        have hq2 := nameR_rb hq a.size
        generalize nameR q a.size = q2 at *
        clear ha ca hin HR
        go_wp2_with fail
        refine C.out.mono ?_
        rintro e w2 ⟨rfl, r2, b2⟩
        have R2 := Lib.hid r2
        have B2 := Lib.hid (Hw.out.trans b2)
        clear r2 b2 c0 hc hf
        go_wp2
        go_roundw
        case rel => exact ⟨k + 1, q2, by omega, by go_num, hq2, R2, B2, HR2⟩
        case measure => simp [intOf]; omega
    · obtain rfl : k = n := by omega
      have hres := Lib.hid (HR.out.trans (by rw [List.drop_of_length_le (by rw [← Hx.out]; exact Nat.le_refl _)]))
      go_wp2
      go_end0
      exact ⟨rfl, by rw [hres.out]; exact Hq.out, Hw.out⟩
end Go.Proofs.YthilicmhdkmipaaGreatDoor
/- The laws' own reckoning of room: RoomP (made by gen_room.py). -/
namespace Go.Proofs.YthilicmhdkmipaaGreatDoor
open Go.RowKit
set_option linter.unusedVariables false

set_option maxHeartbeats 1000000 in
theorem roomP_calls (B R : Nat) (x : PP) (v : Value) (m : Int) (w : World) (hm : RB m) (hB : B ≤ w.heap.size) (hr : RoomAt B R w m) (hx : x.In B w v) :
    Calls Tryz.prog 85 #[.pointer (some ⟨R, 0, none⟩), .agg #[.string x.name, v]] w fun e w' => e = .returned (.tuple #[]) ∧ RoomAt B R w' (placeR x m) ∧ But R w w' := by
  obtain ⟨p, n, q, rfl⟩ := hx.2.shape
  have hBR := hr.1
  have hm1 := nameR_b hm x.name.size
  have C0 := Lib.hid (fun w h => room_name B R m x.name hm w h)
  have C1 := Lib.hid (fun w hB h hl => room_names B R x.path (.slice p n q) (nameR m x.name.size) hm1.1 hm1.2 w hB h hl)
  go_enter Tryz.func85, Tryz.ntmps85
  go_wp2_with fail
  refine (C0.out _ (hr.below ((Below.refl _ w).alloc (Nat.le_refl _) _))).mono ?_
  rintro e w1 ⟨rfl, r1, b1⟩
  have hz1 : w.heap.size < w1.heap.size := by have := b1.size; simp at this; omega
  have hRz := hr.2.1
  have hbox : w1.cell? ⟨w.heap.size, 1, none⟩ = some (.slice p n q) := (b1.cell w.heap.size 1 (by simp) (by omega)).trans (by go_simp)
  have b1' := (But.alloc w _).trans b1
  go_wp2_with fail
  refine (C1.out _ (by omega) r1 (hx.2.below (b1'.below hBR hB))).mono ?_
  rintro e w2 ⟨rfl, r2, b2⟩
  have B2 := Lib.hid (b1'.trans b2)
  have R2 := Lib.hid r2
  clear b2 r2 b1 b1' r1
  go_wp2
  go_end0
  exact ⟨rfl, R2.out, B2.out⟩
end Go.Proofs.YthilicmhdkmipaaGreatDoor
/- The laws' own reckoning of room: RoomT (made by gen_room.py). -/
namespace Go.Proofs.YthilicmhdkmipaaGreatDoor
open Go.RowKit
set_option linter.unusedVariables false

def RoomTAt (B R : Nat) (a : PT) : Prop := ∀ (v : Value) (m : Int) (w : World), RB m → B ≤ w.heap.size → RoomAt B R w m → a.In B w v →
  Calls Tryz.prog 37 #[.pointer (some ⟨R, 0, none⟩), .agg #[.int .u8 a.kind, .string a.name, v]] w fun e w' => e = .returned (.tuple #[]) ∧ RoomAt B R w' (typeR a m) ∧ But R w w'
set_option maxHeartbeats 1000000 in
theorem roomT_step (B R : Nat) (kd : Int) (nm : ByteArray) (l : List PT) (H0 : ∀ a, a ∈ l → RoomTAt B R a) : RoomTAt B R (.mk kd nm l) := by
  intro v m w hm hB hr ha
  obtain ⟨⟨u1, z1⟩, b, o, ⟨hn, ao, cap, rfl, k1⟩, rw1⟩ := ha
  have hBR := hr.1
  have hRz := hr.2.1
  unfold maxLen at hn
  obtain ⟨n, hx⟩ : ∃ n, n = l.length := ⟨_, rfl⟩
  rw [← hx] at hn k1 ⊢
  have Hx := Lib.hid hx
  have Hr := Lib.hid rw1
  have H1 := Lib.hid k1
  have H := Lib.hid H0
  have hN : typeR (.mk kd nm l) m = listR typeR l (nameR m nm.size) := by rw [typeR, typesR_list]
  have hm1 := nameR_rb hm nm.size
  have C0 := Lib.hid (fun w h => room_name B R m nm hm w h)
  show Calls Tryz.prog 37 #[.pointer (some ⟨R, 0, none⟩), .agg #[.int .u8 kd, .string nm, .slice ao n cap]] w _
  have HN := Lib.hid hN
  generalize typeR (.mk kd nm l) m = res at *
  generalize nameR m nm.size = m1 at *
  clear hN hx rw1 k1 H0
  go_enter Tryz.func37, Tryz.ntmps37
  go_wp2_with fail
  refine (C0.out _ (hr.below ((Below.refl _ w).alloc (Nat.le_refl _) _))).mono ?_
  rintro e w1 ⟨rfl, r1, b1⟩
  have hz1 : w.heap.size < w1.heap.size := by have := b1.size; simp at this; omega
  have hbox : w1.cell? ⟨w.heap.size, 2, none⟩ = some (.slice ao n cap) := (b1.cell w.heap.size 2 (by simp) (by omega)).trans (by go_simp)
  have b1' := (But.alloc w _).trans b1
  have B1 := Lib.hid b1'
  have R1 := Lib.hid r1
  clear b1 b1' r1 C0
  go_wp2_with fail
  go_loopw [4] (fun i wr => ∃ (k : Nat) (q : Int), k ≤ n ∧ i = .int .i64 k ∧ RB q ∧ Hid (RoomAt B R wr q) ∧ Hid (But R w1 wr) ∧ Hid (res = listR typeR (l.drop k) q))
    (fun i _ => n - (intOf i).toNat)
  case atStart => exact ⟨0, m1, by omega, rfl, hm1, R1, Lib.hid (But.refl _ _), HN⟩
  case round =>
    obtain ⟨k, q, hk, rfl, hq, Hq, Hw, HR⟩ := hrel
    obtain ⟨_, hRw, hc, hf⟩ := Hq.out
    have hsw := Hw.out.size
    have hbx : wr.cell? ⟨w.heap.size, 2, none⟩ = some (.slice ao n cap) := (Hw.out.cell w.heap.size 2 hz1 (by omega)).trans hbox
    clear hbox
    by_cases hlt : k < n
    · by_cases hneg : q < 0
      · have hneg' : ¬ 0 ≤ q := by omega
        have e1 : k < n ∧ q < 0 := ⟨hlt, hneg⟩
        have hres := Lib.hid (HR.out.trans (listR_neg hneg))
        go_wp2
        go_end0
        exact ⟨rfl, by rw [hres.out]; exact Hq.out, B1.out.trans Hw.out⟩
      · have hpos : 0 ≤ q := by omega
        obtain ⟨a, ha, hin⟩ := get_at (l := l) (k := k) (by rw [← Hx.out]; exact hlt)
        obtain ⟨rfl, hb⟩ := H1.out.resolve_left (by omega)
        have hg : b < wr.heap.size := by omega
        have hbel := (B1.out.trans Hw.out).below hBR hB
        obtain ⟨va, ca, ia⟩ := PT.Row.get (PT.Row.below hbel hb Hr.out) ha
        obtain ⟨p1, q1, t1, rfl⟩ := ia.shape
        have c0 : wr.cell? ⟨b, o + k * 3, none⟩ = some (.int .u8 a.kind) := ca 0 _ rfl
        have c1 : wr.cell? ⟨b, o + k * 3 + 1, none⟩ = some (.string a.name) := ca 1 _ rfl
        have c2 : wr.cell? ⟨b, o + k * 3 + 2, none⟩ = some (.slice p1 q1 t1) := ca 2 _ rfl
        have C := Lib.hid (H.out a hin (.slice p1 q1 t1) q wr hq (by omega) Hq.out ia)
        have HR2 := Lib.hid (HR.out.trans (by rw [drop_at ha, listR_cons hpos]))
        have hq2 := typeR_rb a q hq
        generalize typeR a q = q2 at *
        clear ha ca ia hin HR hbel
        go_wp2_with fail
        refine C.out.mono ?_
        rintro e w2 ⟨rfl, r2, b2⟩
        have R2 := Lib.hid r2
        have B2 := Lib.hid (Hw.out.trans b2)
        clear r2 b2 c0 c1 c2 hc hf hbx
        go_wp2
        go_roundw
        case rel => exact ⟨k + 1, q2, by omega, by go_num, hq2, R2, B2, HR2⟩
        case measure => simp [intOf]; omega
    · obtain rfl : k = n := by omega
      have hres := Lib.hid (HR.out.trans (by rw [List.drop_of_length_le (by rw [← Hx.out]; exact Nat.le_refl _)]))
      go_wp2
      go_end0
      exact ⟨rfl, by rw [hres.out]; exact Hq.out, B1.out.trans Hw.out⟩
theorem roomT_calls (B R : Nat) (a : PT) : RoomTAt B R a :=
  PT.rec (motive_1 := RoomTAt B R) (motive_2 := fun l => ∀ x, x ∈ l → RoomTAt B R x) (fun k n xs H => roomT_step B R k n xs H)
    (fun x h => by cases h) (fun a l ha hl x h => by cases h with | head => exact ha | tail _ h => exact hl x h) a
end Go.Proofs.YthilicmhdkmipaaGreatDoor
/- The laws' own reckoning of room: RoomE (made by gen_room.py). -/
namespace Go.Proofs.YthilicmhdkmipaaGreatDoor
open Go.RowKit
set_option linter.unusedVariables false

def RoomEAt (B R : Nat) (a : PE) : Prop := ∀ (v : VE) (m : Int) (w : World), RB m → B ≤ w.heap.size → RoomAt B R w m → a.In B w v →
  Calls Tryz.prog 39 #[.pointer (some ⟨R, 0, none⟩), .agg (a.cells v).toArray] w fun e w' => e = .returned (.tuple #[]) ∧ RoomAt B R w' (exprR a m) ∧ But R w w'
set_option maxRecDepth 100000 in
set_option maxHeartbeats 2000000 in
theorem roomE_step (B R : Nat) (opa iva : Int) (nma sca : ByteArray) (pla : PP) (l : List PE) (ata : Int) (H0 : ∀ a, a ∈ l → RoomEAt B R a) : RoomEAt B R (.mk opa iva nma sca pla l ata) := by
  intro v m w hm hB hr ha
  obtain ⟨pa0, na0, qa0, pa1, na1, qa1, rfl⟩ := ha.shape
  obtain ⟨_, hp, b, o, ⟨hn, ao, cap, hv, k1⟩, rw1⟩ := ha
  simp only [Value.slice.injEq] at hv
  obtain ⟨rfl, hnl, rfl⟩ := hv
  have hBR := hr.1
  have hRz := hr.2.1
  unfold maxLen at hn
  rw [← hnl] at hn k1
  have Hx := Lib.hid hnl
  have Hr := Lib.hid rw1
  have H1 := Lib.hid k1
  have H := Lib.hid H0
  have hN : exprR (.mk opa iva nma sca pla l ata) m = listR exprR l (placeR pla (nameR (nameR m nma.size) sca.size)) := by rw [exprR, exprsR_list]
  have hm1 := nameR_rb hm nma.size
  have hm2 := nameR_rb hm1 sca.size
  have hm3 := placeR_rb pla hm2
  have C0 := Lib.hid (fun w h => room_name B R m nma hm w h)
  have C1 := Lib.hid (fun w h => room_name B R _ sca hm1 w h)
  have C2 := Lib.hid (fun w hB h hx => roomP_calls B R pla (.slice pa0 na0 qa0) _ w hm2 hB h hx)
  have HP := Lib.hid hp
  show Calls Tryz.prog 39 #[.pointer (some ⟨R, 0, none⟩), .agg #[.int .u8 opa, .int .i64 iva, .string nma, .string sca, .string pla.name, .slice pa0 na0 qa0, .slice pa1 na1 qa1, .int .i64 ata]] w _
  have HN := Lib.hid hN
  generalize exprR (.mk opa iva nma sca pla l ata) m = res at *
  generalize placeR pla (nameR (nameR m nma.size) sca.size) = m3 at *
  generalize nameR (nameR m nma.size) sca.size = m2 at *
  generalize nameR m nma.size = m1 at *
  clear hN hnl rw1 k1 H0 hp
  go_enter Tryz.func39, Tryz.ntmps39
  go_wp2_with fail
  refine (C0.out _ (hr.below ((Below.refl _ w).alloc (Nat.le_refl _) _))).mono ?_
  rintro e w1 ⟨rfl, r1, b1⟩
  have hz1 : w.heap.size < w1.heap.size := by have := b1.size; simp at this; omega
  have x1_3 : w1.cell? ⟨w.heap.size, 3, none⟩ = some (.string sca) := (b1.cell w.heap.size 3 (by simp) (by omega)).trans (by go_simp)
  have x1_4 : w1.cell? ⟨w.heap.size, 4, none⟩ = some (.string pla.name) := (b1.cell w.heap.size 4 (by simp) (by omega)).trans (by go_simp)
  have x1_5 : w1.cell? ⟨w.heap.size, 5, none⟩ = some (.slice pa0 na0 qa0) := (b1.cell w.heap.size 5 (by simp) (by omega)).trans (by go_simp)
  have x1_6 : w1.cell? ⟨w.heap.size, 6, none⟩ = some (.slice pa1 na1 qa1) := (b1.cell w.heap.size 6 (by simp) (by omega)).trans (by go_simp)
  have y1 := (But.alloc w _).trans b1
  have Y1 := Lib.hid y1
  clear b1
  go_wp2_with fail
  refine (C1.out _ r1).mono ?_
  rintro e w2 ⟨rfl, r2, b2⟩
  have hz2 : w.heap.size < w2.heap.size := by have := b2.size; omega
  have x2_4 : w2.cell? ⟨w.heap.size, 4, none⟩ = some (.string pla.name) := (b2.cell w.heap.size 4 hz1 (by omega)).trans x1_4
  have x2_5 : w2.cell? ⟨w.heap.size, 5, none⟩ = some (.slice pa0 na0 qa0) := (b2.cell w.heap.size 5 hz1 (by omega)).trans x1_5
  have x2_6 : w2.cell? ⟨w.heap.size, 6, none⟩ = some (.slice pa1 na1 qa1) := (b2.cell w.heap.size 6 hz1 (by omega)).trans x1_6
  have y2 := y1.trans b2
  have Y2 := Lib.hid y2
  clear b2 x1_3 x1_4 x1_5 x1_6 y1 Y1 r1
  go_wp2_with fail
  refine (C2.out _ (by omega) r2 (HP.out.below (Y2.out.below hBR hB))).mono ?_
  rintro e w3 ⟨rfl, r3, b3⟩
  have hz3 : w.heap.size < w3.heap.size := by have := b3.size; omega
  have x3_6 : w3.cell? ⟨w.heap.size, 6, none⟩ = some (.slice pa1 na1 qa1) := (b3.cell w.heap.size 6 hz2 (by omega)).trans x2_6
  have y3 := y2.trans b3
  have Y3 := Lib.hid y3
  clear b3 x2_4 x2_5 x2_6 y2 Y2 r2
  have R1 := Lib.hid r3
  clear r3 y3
  go_wp2_with fail
  go_loopw [4] (fun i wr => ∃ (k : Nat) (q : Int), k ≤ na1 ∧ i = .int .i64 k ∧ RB q ∧ Hid (RoomAt B R wr q) ∧ Hid (But R w3 wr) ∧ Hid (res = listR exprR (l.drop k) q))
    (fun i _ => na1 - (intOf i).toNat)
  case atStart => exact ⟨0, m3, by omega, rfl, hm3, R1, Lib.hid (But.refl _ _), HN⟩
  case round =>
    obtain ⟨k, q, hk, rfl, hq, Hq, Hw, HR⟩ := hrel
    obtain ⟨_, hRw, hc, hf⟩ := Hq.out
    have hsw := Hw.out.size
    have hbx : wr.cell? ⟨w.heap.size, 6, none⟩ = some (.slice pa1 na1 qa1) := (Hw.out.cell w.heap.size 6 hz3 (by omega)).trans x3_6
    clear x3_6
    by_cases hlt : k < na1
    · by_cases hneg : q < 0
      · have hneg' : ¬ 0 ≤ q := by omega
        have e1 : k < na1 ∧ q < 0 := ⟨hlt, hneg⟩
        have hres := Lib.hid (HR.out.trans (listR_neg hneg))
        go_wp2
        go_end0
        exact ⟨rfl, by rw [hres.out]; exact Hq.out, Y3.out.trans Hw.out⟩
      · have hpos : 0 ≤ q := by omega
        obtain ⟨a, ha, hin⟩ := get_at (l := l) (k := k) (by rw [← Hx.out]; exact hlt)
        obtain ⟨rfl, hb⟩ := H1.out.resolve_left (by omega)
        have hg : b < wr.heap.size := by omega
        have hbel := (Y3.out.trans Hw.out).below hBR hB
        obtain ⟨va, ca, ia⟩ := PE.Row.get (PE.Row.below hbel hb Hr.out) ha
        obtain ⟨pb0, nb0, qb0, pb1, nb1, qb1, rfl⟩ := ia.shape
        have c0 : wr.cell? ⟨b, o + k * 8, none⟩ = some (.int .u8 a.op) := ca 0 _ rfl
        have c1 : wr.cell? ⟨b, o + k * 8 + 1, none⟩ = some (.int .i64 a.int) := ca 1 _ rfl
        have c2 : wr.cell? ⟨b, o + k * 8 + 2, none⟩ = some (.string a.name) := ca 2 _ rfl
        have c3 : wr.cell? ⟨b, o + k * 8 + 3, none⟩ = some (.string a.second) := ca 3 _ rfl
        have c4 : wr.cell? ⟨b, o + k * 8 + 4, none⟩ = some (.string a.place.name) := ca 4 _ rfl
        have c5 : wr.cell? ⟨b, o + k * 8 + 5, none⟩ = some (.slice pb0 nb0 qb0) := ca 5 _ rfl
        have c6 : wr.cell? ⟨b, o + k * 8 + 6, none⟩ = some (.slice pb1 nb1 qb1) := ca 6 _ rfl
        have c7 : wr.cell? ⟨b, o + k * 8 + 7, none⟩ = some (.int .i64 a.pos) := ca 7 _ rfl
        have C : Hid (Calls Tryz.prog 39 #[.pointer (some ⟨R, 0, none⟩), .agg #[.int .u8 a.op, .int .i64 a.int, .string a.name, .string a.second, .string a.place.name, .slice pb0 nb0 qb0, .slice pb1 nb1 qb1, .int .i64 a.pos]] wr fun e w' => e = .returned (.tuple #[]) ∧ RoomAt B R w' (exprR a q) ∧ But R wr w') := Lib.hid (H.out a hin ⟨.slice pb0 nb0 qb0, .slice pb1 nb1 qb1⟩ q wr hq (by omega) Hq.out ia)
        have HR2 := Lib.hid (HR.out.trans (by rw [drop_at ha, listR_cons hpos]))
        have hq2 := exprR_rb a q hq
        generalize exprR a q = q2 at *
        clear ha ca ia hin HR hbel
        go_wp2_with fail
        refine C.out.mono ?_
        rintro e u2 ⟨rfl, r2, b2⟩
        have R2 := Lib.hid r2
        have B2 := Lib.hid (Hw.out.trans b2)
        clear r2 b2 c0 c1 c2 c3 c4 c5 c6 c7 hc hf hbx
        go_wp2
        go_roundw
        case rel => exact ⟨k + 1, q2, by omega, by go_num, hq2, R2, B2, HR2⟩
        case measure => simp [intOf]; omega
    · obtain rfl : k = na1 := by omega
      have hres := Lib.hid (HR.out.trans (by rw [List.drop_of_length_le (by rw [← Hx.out]; exact Nat.le_refl _)]))
      go_wp2
      go_end0
      exact ⟨rfl, by rw [hres.out]; exact Hq.out, Y3.out.trans Hw.out⟩

theorem roomE_calls (B R : Nat) (a : PE) : RoomEAt B R a :=
  PE.rec (motive_1 := RoomEAt B R) (motive_2 := fun l => ∀ x, x ∈ l → RoomEAt B R x) (fun op i n s p xs pos H => roomE_step B R op i n s p xs pos H)
    (fun x h => by cases h) (fun a l ha hl x h => by cases h with | head => exact ha | tail _ h => exact hl x h) a
end Go.Proofs.YthilicmhdkmipaaGreatDoor
/- The laws' own reckoning of room: fields; types and expressions alone. -/
namespace Go.Proofs.YthilicmhdkmipaaGreatDoor
open Go.RowKit
set_option linter.unusedVariables false

set_option maxHeartbeats 1000000 in
theorem roomF_calls (B R : Nat) (l : List PF) (v : Value) (m : Int) (hm : RB m) (w : World) (hB : B ≤ w.heap.size) (hr : RoomAt B R w m) (b o : Nat) (s1 : SlV B v l.length b o) (rw1 : PF.Row B w b o l) :
    Calls Tryz.prog 36 #[.pointer (some ⟨R, 0, none⟩), v] w fun e w' => e = .returned (.tuple #[]) ∧ RoomAt B R w' (fieldsR l m) ∧ But R w w' := by
  obtain ⟨hn, ao, cap, rfl, k1⟩ := s1
  unfold maxLen at hn
  have hBR := hr.1
  obtain ⟨n, hx⟩ : ∃ n, n = l.length := ⟨_, rfl⟩
  have hN : fieldsR l m = listR fieldR (l.drop 0) m := rfl
  rw [← hx] at hn k1 ⊢
  have Hx := Lib.hid hx
  have Hr := Lib.hid rw1
  have H1 := Lib.hid k1
  have HN := Lib.hid hN
  have R0 := Lib.hid hr
  generalize fieldsR l m = res at *
  clear hN hx rw1 k1 hr
  go_enter Tryz.func36, Tryz.ntmps36
  go_wp2_with fail
  go_loopw [4] (fun i wr => ∃ (k : Nat) (q : Int), k ≤ n ∧ i = .int .i64 k ∧ RB q ∧ Hid (RoomAt B R wr q) ∧ Hid (But R w wr) ∧ Hid (res = listR fieldR (l.drop k) q))
    (fun i _ => n - (intOf i).toNat)
  case atStart => exact ⟨0, m, by omega, rfl, hm, R0, Lib.hid (But.refl _ _), HN⟩
  case round =>
    clear HN R0
    obtain ⟨k, q, hk, rfl, hq, Hq, Hw, HR⟩ := hrel
    obtain ⟨_, hRw, hc, hf⟩ := Hq.out
    have hsw := Hw.out.size
    by_cases hlt : k < n
    · by_cases hneg : q < 0
      · have hneg' : ¬ 0 ≤ q := by omega
        have e1 : k < n ∧ q < 0 := ⟨hlt, hneg⟩
        have hres := Lib.hid (HR.out.trans (listR_neg hneg))
        go_wp2
        go_end0
        exact ⟨rfl, by rw [hres.out]; exact Hq.out, Hw.out⟩
      · have hpos : 0 ≤ q := by omega
        obtain ⟨a, ha, hin⟩ := get_at (l := l) (k := k) (by rw [← Hx.out]; exact hlt)
        obtain ⟨rfl, hb⟩ := H1.out.resolve_left (by omega)
        have hg : b < wr.heap.size := by omega
        obtain ⟨va, ca, ia⟩ := PF.Row.get (PF.Row.below (Hw.out.below hBR hB) hb Hr.out) ha
        obtain ⟨p1, n1, q1, rfl⟩ := ia.shape
        have c0 : wr.cell? ⟨b, o + k * 4, none⟩ = some (.string a.name) := ca 0 _ rfl
        have c1 : wr.cell? ⟨b, o + k * 4 + 1, none⟩ = some (.int .u8 a.type.kind) := ca 1 _ rfl
        have c2 : wr.cell? ⟨b, o + k * 4 + 2, none⟩ = some (.string a.type.name) := ca 2 _ rfl
        have c3 : wr.cell? ⟨b, o + k * 4 + 3, none⟩ = some (.slice p1 n1 q1) := ca 3 _ rfl
        have C := Lib.hid (room_name B R q a.name hq wr Hq.out)
        have hq1 := nameR_rb hq a.name.size
        have Ia := Lib.hid ia.2
        have D := Lib.hid (fun w' h1 h2 h3 => roomT_calls B R a.type (.slice p1 n1 q1) (nameR q a.name.size) w' hq1 h1 h2 h3)
        have HR2 := Lib.hid (HR.out.trans (by rw [drop_at ha, listR_cons hpos]))
        have hq2 := fieldR_rb a q hq
        have e2 : fieldR a q = typeR a.type (nameR q a.name.size) := rfl
        have E2 := Lib.hid e2
        generalize fieldR a q = q2 at *
        clear ha ca ia hin HR e2
        go_wp2_with fail
        refine C.out.mono ?_
        rintro e w1 ⟨rfl, r1, b1⟩
        have bbR : b ≠ R := by omega
        have d1 : w1.cell? ⟨b, o + k * 4 + 1, none⟩ = some (.int .u8 a.type.kind) := (b1.cell _ _ hg bbR).trans c1
        have d2 : w1.cell? ⟨b, o + k * 4 + 2, none⟩ = some (.string a.type.name) := (b1.cell _ _ hg bbR).trans c2
        have d3 : w1.cell? ⟨b, o + k * 4 + 3, none⟩ = some (.slice p1 n1 q1) := (b1.cell _ _ hg bbR).trans c3
        have hs1 := b1.size
        have hBw : B ≤ w1.heap.size := by omega
        have Ib := Lib.hid (PT.In.below (b1.below hBR (by omega)) Ia.out)
        have R1 := Lib.hid r1
        have B1 := Lib.hid b1
        clear c0 c1 c2 c3 r1 b1 hc hf
        go_wp2_with fail
        refine (D.out _ hBw R1.out Ib.out).mono ?_
        rintro e w2 ⟨rfl, r2, b2⟩
        have R2 := Lib.hid (show RoomAt B R w2 q2 by rw [E2.out]; exact r2)
        have B2 := Lib.hid ((Hw.out.trans B1.out).trans b2)
        clear r2 b2 d1 d2 d3
        go_wp2
        go_roundw
        case rel => exact ⟨k + 1, q2, by omega, by go_num, hq2, R2, B2, HR2⟩
        case measure => simp [intOf]; omega
    · obtain rfl : k = n := by omega
      have hres := Lib.hid (HR.out.trans (by rw [List.drop_of_length_le (by rw [← Hx.out]; exact Nat.le_refl _)]))
      go_wp2
      go_end0
      exact ⟨rfl, by rw [hres.out]; exact Hq.out, Hw.out⟩

/-- a block of the call's own that says how much room is left at first -/
theorem room_new (B : Nat) (w : World) (hB : B ≤ w.heap.size) (t : TypeId) (m : Int) : RoomAt B w.heap.size (w.alloc (.cells #[.int .i64 m] t)) m :=
  ⟨hB, by simp, by go_simp, by go_simp⟩
end Go.Proofs.YthilicmhdkmipaaGreatDoor
