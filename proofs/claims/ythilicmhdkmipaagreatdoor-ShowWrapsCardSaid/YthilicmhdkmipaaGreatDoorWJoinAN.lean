/- The laws' own reckoning of room: RoomE (made by gen_room.py). -/
import Derived.Test.YthilicmhdkmipaaGreatDoorWJoinAF
import Derived.Test.YthilicmhdkmipaaGreatDoorWShowWriter
import Derived.Deep.Cut
import Derived.Deep.CutRange
import Derived.StillTailTactics
import Derived.Test.YthilicmhdkmipaaGreatDoorWJoinAH
import Derived.Lib.ItoaLen
namespace Go.Proofs.YthilicmhdkmipaaGreatDoor
open Go.RowKit
set_option linter.unusedVariables false

def RoomEAt (B R : Nat) (a : PE) : Prop := ∀ (v : VE) (m : Int) (w : World), RB m → B ≤ w.heap.size → RoomAt B R w m → a.In B w v →
  Calls Tryz.prog 39 #[.pointer (some ⟨R, 0, none⟩), .agg (a.cells v).toArray] w fun e w' => e = .returned (.tuple #[]) ∧ RoomAt B R w' (exprR a m) ∧ But R w w'
set_option maxRecDepth 100000 in
set_option maxHeartbeats 2000000 in
theorem roomE_step (B R : Nat) (opa iva : Int) (nma sca : ByteArray) (pla : PP) (l : List PE) (ata : Int) (H0 : ∀ a, a ∈ l → RoomEAt B R a) : RoomEAt B R (.mk opa iva nma sca pla l ata) := by
  intro v m w hm hB hr ha
  obtain ⟨pa0, na0, qa0, pa1, na1, qa1, rfl⟩ := ha.shape
  obtain ⟨_, hp, b, o, ⟨hn, ao, cap, hv, k1⟩, rw1⟩ := ha
  simp only [Value.slice.injEq] at hv
  obtain ⟨rfl, hnl, rfl⟩ := hv
  have hBR := hr.1
  have hRz := hr.2.1
  unfold maxLen at hn
  rw [← hnl] at hn k1
  have Hx := Lib.hid hnl
  have Hr := Lib.hid rw1
  have H1 := Lib.hid k1
  have H := Lib.hid H0
  have hN : exprR (.mk opa iva nma sca pla l ata) m = listR exprR l (placeR pla (nameR (nameR m nma.size) sca.size)) := by rw [exprR, exprsR_list]
  have hm1 := nameR_rb hm nma.size
  have hm2 := nameR_rb hm1 sca.size
  have hm3 := placeR_rb pla hm2
  have C0 := Lib.hid (fun w h => room_name B R m nma hm w h)
  have C1 := Lib.hid (fun w h => room_name B R _ sca hm1 w h)
  have C2 := Lib.hid (fun w hB h hx => roomP_calls B R pla (.slice pa0 na0 qa0) _ w hm2 hB h hx)
  have HP := Lib.hid hp
  show Calls Tryz.prog 39 #[.pointer (some ⟨R, 0, none⟩), .agg #[.int .u8 opa, .int .i64 iva, .string nma, .string sca, .string pla.name, .slice pa0 na0 qa0, .slice pa1 na1 qa1, .int .i64 ata]] w _
  have HN := Lib.hid hN
  generalize exprR (.mk opa iva nma sca pla l ata) m = res at *
  generalize placeR pla (nameR (nameR m nma.size) sca.size) = m3 at *
  generalize nameR (nameR m nma.size) sca.size = m2 at *
  generalize nameR m nma.size = m1 at *
  clear hN hnl rw1 k1 H0 hp
  go_enter Tryz.func39, Tryz.ntmps39
  go_wp2_with fail
  refine (C0.out _ (hr.below ((Below.refl _ w).alloc (Nat.le_refl _) _))).mono ?_
  rintro e w1 ⟨rfl, r1, b1⟩
  have hz1 : w.heap.size < w1.heap.size := by have := b1.size; simp at this; omega
  have x1_3 : w1.cell? ⟨w.heap.size, 3, none⟩ = some (.string sca) := (b1.cell w.heap.size 3 (by simp) (by omega)).trans (by go_simp)
  have x1_4 : w1.cell? ⟨w.heap.size, 4, none⟩ = some (.string pla.name) := (b1.cell w.heap.size 4 (by simp) (by omega)).trans (by go_simp)
  have x1_5 : w1.cell? ⟨w.heap.size, 5, none⟩ = some (.slice pa0 na0 qa0) := (b1.cell w.heap.size 5 (by simp) (by omega)).trans (by go_simp)
  have x1_6 : w1.cell? ⟨w.heap.size, 6, none⟩ = some (.slice pa1 na1 qa1) := (b1.cell w.heap.size 6 (by simp) (by omega)).trans (by go_simp)
  have y1 := (But.alloc w _).trans b1
  have Y1 := Lib.hid y1
  clear b1
  go_wp2_with fail
  refine (C1.out _ r1).mono ?_
  rintro e w2 ⟨rfl, r2, b2⟩
  have hz2 : w.heap.size < w2.heap.size := by have := b2.size; omega
  have x2_4 : w2.cell? ⟨w.heap.size, 4, none⟩ = some (.string pla.name) := (b2.cell w.heap.size 4 hz1 (by omega)).trans x1_4
  have x2_5 : w2.cell? ⟨w.heap.size, 5, none⟩ = some (.slice pa0 na0 qa0) := (b2.cell w.heap.size 5 hz1 (by omega)).trans x1_5
  have x2_6 : w2.cell? ⟨w.heap.size, 6, none⟩ = some (.slice pa1 na1 qa1) := (b2.cell w.heap.size 6 hz1 (by omega)).trans x1_6
  have y2 := y1.trans b2
  have Y2 := Lib.hid y2
  clear b2 x1_3 x1_4 x1_5 x1_6 y1 Y1 r1
  go_wp2_with fail
  refine (C2.out _ (by omega) r2 (HP.out.below (Y2.out.below hBR hB))).mono ?_
  rintro e w3 ⟨rfl, r3, b3⟩
  have hz3 : w.heap.size < w3.heap.size := by have := b3.size; omega
  have x3_6 : w3.cell? ⟨w.heap.size, 6, none⟩ = some (.slice pa1 na1 qa1) := (b3.cell w.heap.size 6 hz2 (by omega)).trans x2_6
  have y3 := y2.trans b3
  have Y3 := Lib.hid y3
  clear b3 x2_4 x2_5 x2_6 y2 Y2 r2
  have R1 := Lib.hid r3
  clear r3 y3
  go_wp2_with fail
  go_loopw [4] (fun i wr => ∃ (k : Nat) (q : Int), k ≤ na1 ∧ i = .int .i64 k ∧ RB q ∧ Hid (RoomAt B R wr q) ∧ Hid (But R w3 wr) ∧ Hid (res = listR exprR (l.drop k) q))
    (fun i _ => na1 - (intOf i).toNat)
  case atStart => exact ⟨0, m3, by omega, rfl, hm3, R1, Lib.hid (But.refl _ _), HN⟩
  case round =>
    obtain ⟨k, q, hk, rfl, hq, Hq, Hw, HR⟩ := hrel
    obtain ⟨_, hRw, hc, hf⟩ := Hq.out
    have hsw := Hw.out.size
    have hbx : wr.cell? ⟨w.heap.size, 6, none⟩ = some (.slice pa1 na1 qa1) := (Hw.out.cell w.heap.size 6 hz3 (by omega)).trans x3_6
    clear x3_6
    by_cases hlt : k < na1
    · by_cases hneg : q < 0
      · have hneg' : ¬ 0 ≤ q := by omega
        have e1 : k < na1 ∧ q < 0 := ⟨hlt, hneg⟩
        have hres := Lib.hid (HR.out.trans (listR_neg hneg))
        go_wp2
        go_end0
        exact ⟨rfl, by rw [hres.out]; exact Hq.out, Y3.out.trans Hw.out⟩
      · have hpos : 0 ≤ q := by omega
        obtain ⟨a, ha, hin⟩ := get_at (l := l) (k := k) (by rw [← Hx.out]; exact hlt)
        obtain ⟨rfl, hb⟩ := H1.out.resolve_left (by omega)
        have hg : b < wr.heap.size := by omega
        have hbel := (Y3.out.trans Hw.out).below hBR hB
        obtain ⟨va, ca, ia⟩ := PE.Row.get (PE.Row.below hbel hb Hr.out) ha
        obtain ⟨pb0, nb0, qb0, pb1, nb1, qb1, rfl⟩ := ia.shape
        have c0 : wr.cell? ⟨b, o + k * 8, none⟩ = some (.int .u8 a.op) := ca 0 _ rfl
        have c1 : wr.cell? ⟨b, o + k * 8 + 1, none⟩ = some (.int .i64 a.int) := ca 1 _ rfl
        have c2 : wr.cell? ⟨b, o + k * 8 + 2, none⟩ = some (.string a.name) := ca 2 _ rfl
        have c3 : wr.cell? ⟨b, o + k * 8 + 3, none⟩ = some (.string a.second) := ca 3 _ rfl
        have c4 : wr.cell? ⟨b, o + k * 8 + 4, none⟩ = some (.string a.place.name) := ca 4 _ rfl
        have c5 : wr.cell? ⟨b, o + k * 8 + 5, none⟩ = some (.slice pb0 nb0 qb0) := ca 5 _ rfl
        have c6 : wr.cell? ⟨b, o + k * 8 + 6, none⟩ = some (.slice pb1 nb1 qb1) := ca 6 _ rfl
        have c7 : wr.cell? ⟨b, o + k * 8 + 7, none⟩ = some (.int .i64 a.pos) := ca 7 _ rfl
        have C : Hid (Calls Tryz.prog 39 #[.pointer (some ⟨R, 0, none⟩), .agg #[.int .u8 a.op, .int .i64 a.int, .string a.name, .string a.second, .string a.place.name, .slice pb0 nb0 qb0, .slice pb1 nb1 qb1, .int .i64 a.pos]] wr fun e w' => e = .returned (.tuple #[]) ∧ RoomAt B R w' (exprR a q) ∧ But R wr w') := Lib.hid (H.out a hin ⟨.slice pb0 nb0 qb0, .slice pb1 nb1 qb1⟩ q wr hq (by omega) Hq.out ia)
        have HR2 := Lib.hid (HR.out.trans (by rw [drop_at ha, listR_cons hpos]))
        have hq2 := exprR_rb a q hq
        generalize exprR a q = q2 at *
        clear ha ca ia hin HR hbel
        go_wp2_with fail
        refine C.out.mono ?_
        rintro e u2 ⟨rfl, r2, b2⟩
        have R2 := Lib.hid r2
        have B2 := Lib.hid (Hw.out.trans b2)
        clear r2 b2 c0 c1 c2 c3 c4 c5 c6 c7 hc hf hbx
        go_wp2
        go_roundw
        case rel => exact ⟨k + 1, q2, by omega, by go_num, hq2, R2, B2, HR2⟩
        case measure => simp [intOf]; omega
    · obtain rfl : k = na1 := by omega
      have hres := Lib.hid (HR.out.trans (by rw [List.drop_of_length_le (by rw [← Hx.out]; exact Nat.le_refl _)]))
      go_wp2
      go_end0
      exact ⟨rfl, by rw [hres.out]; exact Hq.out, Y3.out.trans Hw.out⟩

theorem roomE_calls (B R : Nat) (a : PE) : RoomEAt B R a :=
  PE.rec (motive_1 := RoomEAt B R) (motive_2 := fun l => ∀ x, x ∈ l → RoomEAt B R x) (fun op i n s p xs pos H => roomE_step B R op i n s p xs pos H)
    (fun x h => by cases h) (fun a l ha hl x h => by cases h with | head => exact ha | tail _ h => exact hl x h) a
end Go.Proofs.YthilicmhdkmipaaGreatDoor
/- The laws' own reckoning of room: fields; types and expressions alone. -/
namespace Go.Proofs.YthilicmhdkmipaaGreatDoor
open Go.RowKit
set_option linter.unusedVariables false

/-- a block of the call's own that says how much room is left at first -/
theorem room_new (B : Nat) (w : World) (hB : B ≤ w.heap.size) (t : TypeId) (m : Int) : RoomAt B w.heap.size (w.alloc (.cells #[.int .i64 m] t)) m :=
  ⟨hB, by simp, by go_simp, by go_simp⟩
set_option maxHeartbeats 1000000 in
theorem greatT_calls (B : Nat) (a : PT) (v : Value) (w : World) (hB : B ≤ w.heap.size) (ha : a.In B w v) :
    Calls Tryz.prog 15 #[.agg #[.int .u8 a.kind, .string a.name, v]] w fun e w' => e = .returned (.bool (decide (typeR a 20000 < 0))) ∧ Below w.heap.size w w' := by
  obtain ⟨p, n, q, rfl⟩ := ha.shape
  have C := Lib.hid (fun R w' h1 h2 h3 => roomT_calls B R a (.slice p n q) 20000 w' ⟨by omega, by omega⟩ h1 h2 h3)
  have Ia := Lib.hid ha
  have hq := typeR_rb a 20000 ⟨by omega, by omega⟩
  obtain ⟨hq1, hq2⟩ := hq
  clear ha
  go_enter Tryz.func15, Tryz.ntmps15
  go_wp2_with fail
  refine (C.out (w.heap.size + 1) _ (by simp; omega) ?_ (Ia.out.below (box2B _ hB _ _))).mono ?_
  · have h := room_new B (w.alloc (.cells #[.int .u8 a.kind, .string a.name, .slice p n q] 31)) (by simp; omega) 64 20000
    simpa using h
  rintro e w1 ⟨rfl, ⟨_, _, hc, hf⟩, b1⟩
  have b2 : Below w.heap.size w w1 := (box2 w _ _).trans (b1.below (by omega) (by simp; omega))
  have B2 := Lib.hid b2
  clear b1 b2
  go_wp2
  go_ret
  exact ⟨rfl, B2.out⟩
set_option maxHeartbeats 1000000 in
theorem greatE_calls (B : Nat) (op i : Int) (n s : ByteArray) (p : PP) (l : List PE) (pos : Int) (a0 : Option Addr) (n0 c0 : Nat) (a1 : Option Addr) (n1 c1 : Nat) (w : World) (hB : B ≤ w.heap.size) (ha : PE.In B w (.mk op i n s p l pos) ⟨.slice a0 n0 c0, .slice a1 n1 c1⟩) :
    Calls Tryz.prog 16 #[.agg #[.int .u8 op, .int .i64 i, .string n, .string s, .string p.name, .slice a0 n0 c0, .slice a1 n1 c1, .int .i64 pos]] w fun e w' => e = .returned (.bool (decide (exprR (.mk op i n s p l pos) 20000 < 0))) ∧ Below w.heap.size w w' := by
  have C : Hid (∀ (R : Nat) (w' : World), B ≤ w'.heap.size → RoomAt B R w' 20000 → PE.In B w' (.mk op i n s p l pos) ⟨.slice a0 n0 c0, .slice a1 n1 c1⟩ →
    Calls Tryz.prog 39 #[.pointer (some ⟨R, 0, none⟩), .agg #[.int .u8 op, .int .i64 i, .string n, .string s, .string p.name, .slice a0 n0 c0, .slice a1 n1 c1, .int .i64 pos]] w' fun e w'' => e = .returned (.tuple #[]) ∧ RoomAt B R w'' (exprR (.mk op i n s p l pos) 20000) ∧ But R w' w'') :=
    Lib.hid (fun R w' h1 h2 h3 => roomE_calls B R (.mk op i n s p l pos) ⟨.slice a0 n0 c0, .slice a1 n1 c1⟩ 20000 w' ⟨by omega, by omega⟩ h1 h2 h3)
  have Ia := Lib.hid ha
  obtain ⟨hq1, hq2⟩ := exprR_rb (.mk op i n s p l pos) 20000 ⟨by omega, by omega⟩
  generalize exprR (.mk op i n s p l pos) 20000 = res at *
  clear ha
  go_enter Tryz.func16, Tryz.ntmps16
  go_wp2_with fail
  refine (C.out (w.heap.size + 1) _ (by simp; omega) ?_ (Ia.out.below (box2B _ hB _ _))).mono ?_
  · have h := room_new B (w.alloc (.cells #[.int .u8 op, .int .i64 i, .string n, .string s, .string p.name, .slice a0 n0 c0, .slice a1 n1 c1, .int .i64 pos] 37)) (by simp; omega) 64 20000
    simpa using h
  rintro e w1 ⟨rfl, ⟨_, _, hc, hf⟩, b1⟩
  have b2 : Below w.heap.size w w1 := (box2 w _ _).trans (b1.below (by omega) (by simp; omega))
  have B2 := Lib.hid b2
  clear b1 b2
  go_wp2
  go_ret
  exact ⟨rfl, B2.out⟩
end Go.Proofs.YthilicmhdkmipaaGreatDoor
/- The writer's own: tokens, lists with commas between, a line's end. -/
namespace Go.Proofs.YthilicmhdkmipaaGreatDoor
open Go.RowKit
set_option linter.unusedVariables false

/-- from a text T0, with G0 ahead of the next token, the tokens ts were written -/
def AtW (B R : Nat) (T0 G0 : TkB) (ts : List TkB) (w : World) : Prop := IsW B R (T0 ++ puts G0 ts) ⟨(gapA G0 ts).toArray⟩ w
/-- the text isn't too long -/
def Lim (T0 G0 : TkB) (ts : List TkB) : Prop := (T0 ++ puts G0 ts).length ≤ 1000000000
theorem puts_len (g : TkB) (a b : List TkB) : (puts g a).length ≤ (puts g (a ++ b)).length := by rw [puts_append, List.length_append]; omega
theorem Lim.less {T0 G0 : TkB} {a b : List TkB} (h : Lim T0 G0 (a ++ b)) : Lim T0 G0 a := by
  unfold Lim at *
  have := puts_len G0 a b
  rw [List.length_append] at *
  omega
theorem AtW.stays {B R : Nat} {T0 G0 : TkB} {ts : List TkB} {w w' : World} (h : AtW B R T0 G0 ts w) (k : Below w.heap.size w w') : AtW B R T0 G0 ts w' := IsW.stays h k
theorem AtW.lt {B R : Nat} {T0 G0 : TkB} {ts : List TkB} {w : World} (h : AtW B R T0 G0 ts w) : R < w.heap.size := IsW.lt h
/-- the gap's cell -/
theorem IsW.gap {B R : Nat} {T : TkB} {g : ByteArray} {w : World} (h : IsW B R T g w) : w.cell? ⟨R, 2, none⟩ = some (.string g) ∧ w.frozen? ⟨R, 2, none⟩ = false := by
  obtain ⟨_, p, v, _, hb, _⟩ := h
  exact ⟨by rw [Lib.cell_of_heap hb]; rfl, Lib.frozen_of_heap hb 2⟩
theorem IsW.setGap {B R : Nat} {T : TkB} {g g' : ByteArray} {w : World} (h : IsW B R T g w) : IsW B R T g' (w.setCell ⟨R, 2, none⟩ (.string g')) ∧ WBut B R w (w.setCell ⟨R, 2, none⟩ (.string g')) := by
  obtain ⟨hB, p, v, hp, hb, ho⟩ := h
  have hne := IsW.owner hb ho
  refine ⟨⟨hB, p, v, hp, heap_setCell_same w R 2 _ _ _ hb, ho.kept (row := some R) ⟨rfl, rfl, rfl, by simp, fun j _ hn => Below.heap_setCell _ _ _ _ (fun e => hn (by simpa using e))⟩ (by
    right; intro e; exact hne (by simpa using e))⟩, (Below.refl B w).setCell (p := ⟨R, 2, none⟩) hB _, by simp, fun b _ h2 _ => Below.heap_setCell _ _ _ _ (by simpa using h2)⟩
theorem kT_mk (l : TkB) : kT ⟨l.toArray⟩ = l := by unfold kT; simp
/-- one token more -/
theorem puts_one (T0 G0 : TkB) (ts : List TkB) (t : TkB) : T0 ++ puts G0 (ts ++ [t]) = T0 ++ puts G0 ts ++ gapA G0 ts ++ t := by
  rw [puts_append, puts, puts]; simp
theorem gapA_one (G0 : TkB) (ts : List TkB) (t : TkB) : gapA G0 (ts ++ [t]) = [32] := by
  rw [gapA_append]; rfl
set_option maxRecDepth 100000 in
set_option maxHeartbeats 2000000 in
theorem put_calls (B R : Nat) (toks : List ByteArray) (S o cap : Nat) (T0 G0 : TkB) (ts : List TkB) (w : World) (hB : B ≤ w.heap.size) (hn : toks.length ≤ 1000000) (hA : AtW B R T0 G0 ts w) (hS : Safe R w S) (hr : NRow w S o toks) (hL : Lim T0 G0 (ts ++ toks.map kT)) :
    Calls Tryz.prog 98 #[.pointer (some ⟨R, 0, none⟩), .slice (some ⟨S, o, none⟩) toks.length cap] w fun e w' => e = .returned (.tuple #[]) ∧ AtW B R T0 G0 (ts ++ toks.map kT) w' ∧ WBut B R w w' := by
  obtain ⟨n, hx⟩ : ∃ n, n = toks.length := ⟨_, rfl⟩
  rw [← hx] at hn ⊢
  have Hx := Lib.hid hx
  have HR := Lib.hid hr
  have HS := Lib.hid hS
  have HL := Lib.hid hL
  have HA := Lib.hid hA
  clear hx hr hS hL hA
  go_enter Tryz.func98, Tryz.ntmps98
  go_wp2_with fail
  go_loopw [8] (fun i wr => ∃ k : Nat, k ≤ n ∧ i = .int .i64 k ∧ Hid (AtW B R T0 G0 (ts ++ (toks.map kT).take k) wr) ∧ Hid (WBut B R w wr) ∧ Hid (Safe R wr S))
    (fun i _ => n - (intOf i).toNat)
  case atStart => exact ⟨0, by omega, rfl, Lib.hid (by simpa using HA.out), Lib.hid (WBut.refl B R w), HS⟩
  case round =>
    obtain ⟨k, hk, rfl, Hw, Hb, Hs⟩ := hrel
    by_cases hlt : k < n
    · obtain ⟨a, ha, hin⟩ := (⟨toks[k]'(by rw [← Hx.out]; exact hlt), List.getElem?_eq_getElem _, List.getElem_mem _⟩ : ∃ a, toks[k]? = some a ∧ a ∈ toks)
      have hcell : ∀ j v, w.cell? ⟨S, j, none⟩ = some v → wr.cell? ⟨S, j, none⟩ = some v := fun j v h => (HS.out.cell Hb.out j).trans h
      obtain ⟨hsa, ca⟩ := NRow.get HR.out ha
      have c0 : wr.cell? ⟨S, o + k, none⟩ = some (.string a) := by
        have := hcell _ _ (ca 0 _ rfl)
        simpa using this
      have hSlt : S < wr.heap.size := Hs.out.lt
      have hRlt : R < wr.heap.size := Hw.out.lt
      have hBr : B ≤ wr.heap.size := Nat.le_trans hB Hb.out.size
      obtain ⟨gp, hgp⟩ : ∃ gp : ByteArray, gp = ⟨(gapA G0 (ts ++ (toks.map kT).take k)).toArray⟩ := ⟨_, rfl⟩
      obtain ⟨T, hT⟩ : ∃ T, T = T0 ++ puts G0 (ts ++ (toks.map kT).take k) := ⟨_, rfl⟩
      have hI : IsW B R T gp wr := by rw [hT, hgp]; exact Hw.out
      have htake : ts ++ (toks.map kT).take (k + 1) = (ts ++ (toks.map kT).take k) ++ [kT a] := by
        rw [List.append_assoc]
        congr 1
        rw [List.take_add_one, List.getElem?_map, ha]
        rfl
      have hnext : T0 ++ puts G0 (ts ++ (toks.map kT).take (k + 1)) = T ++ kT gp ++ kT a := by
        rw [htake, puts_one, hT, hgp, kT_mk (gapA G0 _)]
      have hgapn : gapA G0 (ts ++ (toks.map kT).take (k + 1)) = [32] := by rw [htake, gapA_one]
      have hlen : (T ++ kT gp ++ kT a).length ≤ 1000000000 := by
        rw [← hnext]
        have h1 : Lim T0 G0 ((ts ++ (toks.map kT).take (k + 1)) ++ (toks.map kT).drop (k + 1)) := by
          rw [List.append_assoc, List.take_append_drop]; exact HL.out
        exact h1.less
      rw [List.length_append, List.length_append] at hlen
      have hl1 : (kT gp).length = gp.size := rfl
      have hl2 : (kT a).length = a.size := rfl
      obtain ⟨cg, fg⟩ := hI.gap
      have HI := Lib.hid hI
      have HN := Lib.hid hnext
      have HG := Lib.hid hgapn
      clear hcell ca ha hin hgp hT htake hnext hgapn hI Hw
      go_upto_region 3 with (fail)
      go_still_tail 7, (by kernel_rfl)
      go_wp2_with fail
      refine (writeW_calls B R T gp gp wr.drew (IsW.stays HI.out (Below.refl _ wr).drew) (by omega) (by simpa using hBr)).mono ?_
      rintro e w1 ⟨rfl, h1, b1⟩
      have H1 := Lib.hid h1
      have B1 : Hid (WBut B R wr w1) := Lib.hid ((WBut.of (Below.refl _ wr).drew hBr).trans b1)
      have z1 : B ≤ w1.heap.size := Nat.le_trans hBr B1.out.size
      clear h1 b1
      go_wp2_with fail
      refine (writeW_calls B R (T ++ kT gp) gp a w1 H1.out (by rw [List.length_append]; omega) z1).mono ?_
      rintro e w2 ⟨rfl, h2, b2⟩
      have H2 := Lib.hid h2
      have B2 : Hid (WBut B R wr w2) := Lib.hid (B1.out.trans b2)
      obtain ⟨cg2, fg2⟩ := h2.gap
      have hR2 : R < w2.heap.size := h2.lt
      clear h2 b2 c0 cg fg
      go_wp2
      have h3 := H2.out.setGap (g' := ⟨#[32]⟩)
      go_roundw
      case rel =>
        refine ⟨k + 1, by omega, by go_num, Lib.hid ?_, Lib.hid (Hb.out.trans (B2.out.trans h3.2)), Lib.hid (Hs.out.but (B2.out.trans h3.2))⟩
        unfold AtW
        rw [HN.out, HG.out]
        exact h3.1
      case measure => simp [intOf]; omega
    · obtain rfl : k = n := by omega
      have hall : (toks.map kT).take k = toks.map kT := List.take_of_length_le (by rw [List.length_map, Hx.out]; exact Nat.le_refl _)
      go_wp2
      go_end0
      exact ⟨rfl, by rw [← hall]; exact Hw.out, Hb.out⟩
end Go.Proofs.YthilicmhdkmipaaGreatDoor
/- How long the texts of types, places and expressions are that are not too great. -/
namespace Go.Proofs.YthilicmhdkmipaaGreatDoor
open Go.RowKit
set_option linter.unusedVariables false

/-- what a row of tokens weighs: its bytes, and a blank for each -/
def wtT : List TkB → Nat
  | [] => 0
  | t :: l => t.length + 1 + wtT l
theorem wtT_app : ∀ a b : List TkB, wtT (a ++ b) = wtT a + wtT b
  | [], b => by simp [wtT]
  | t :: a, b => by rw [List.cons_append, wtT, wtT, wtT_app a b]; omega
theorem wtT_puts : ∀ (a : List TkB) (g : TkB), (puts g a).length ≤ g.length + wtT a
  | [], g => by simp [puts]
  | t :: a, g => by
    rw [puts, List.length_append, List.length_append, wtT]
    have := wtT_puts a [32]
    simp at this; omega
theorem wtT_line (a : List TkB) : (lineT a).length ≤ wtT a := by
  have := wtT_puts a []
  simpa [lineT] using this
theorem typeWord_len (k : Int) : (typeWord k).length ≤ 8 := by
  unfold typeWord
  generalize k.toNat = j
  by_cases h : j < 13
  · have hall : ∀ j : Fin 13, (([[], [105, 110, 116], [98, 111, 111, 108], [117, 110, 105, 116], [], [66, 111, 120], [67, 101, 108, 108], [82, 99], [65, 114, 99], [77, 117, 116, 101, 120], [65, 116, 111, 109, 105, 99], [83, 101, 110, 100, 101, 114], [82, 101, 99, 101, 105, 118, 101, 114]] : List TkB).getD j.val []).length ≤ 8 := by decide
    exact hall ⟨j, h⟩
  · rw [List.getD_eq_getElem?_getD, List.getElem?_eq_none (by simp; omega)]; simp
theorem exprWord_len (k : Int) : (exprWord k).length ≤ 6 := by
  unfold exprWord
  generalize k.toNat = j
  by_cases h : j < 37
  · have hall : ∀ j : Fin 37, (([[], [], [], [], [], [], [], [45], [110, 111, 116], [43], [45], [42], [47], [37], [60], [61, 61], [97, 110, 100], [111, 114], [], [], [], [98, 111, 120], [117, 110, 98, 111, 120], [99, 101, 108, 108], [103, 101, 116], [115, 101, 116], [114, 99], [97, 114, 99], [99, 108, 111, 110, 101], [109, 117, 116, 101, 120], [111, 112, 101, 110], [97, 116, 111, 109, 105, 99], [108, 111, 97, 100], [115, 116, 111, 114, 101], [102, 101, 116, 99, 104], [115, 101, 110, 100], [114, 101, 99, 118]] : List TkB).getD j.val []).length ≤ 6 := by decide
    exact hall ⟨j, h⟩
  · rw [List.getD_eq_getElem?_getD, List.getElem?_eq_none (by simp; omega)]; simp
theorem nameR_ok {m : Int} {n : Nat} (h : 0 ≤ nameR m n) : nameR m n = m - 5 - n := by
  unfold nameR at *
  split at h
  · omega
  · rename_i h2; rw [if_neg h2]
theorem typesR_neg : ∀ (l : List PT) (m : Int), m < 0 → typesR l m = m
  | [], m, _ => by rw [typesR]
  | t :: l, m, h => by rw [typesR, if_pos h]
theorem exprsR_neg : ∀ (l : List PE) (m : Int), m < 0 → exprsR l m = m
  | [], m, _ => by rw [exprsR]
  | t :: l, m, h => by rw [exprsR, if_pos h]
theorem kT_len (s : ByteArray) : (kT s).length = s.size := rfl
mutual
theorem typeR_w : ∀ (t : PT) (m : Int), 0 ≤ typeR t m → (wtT (tokT t) : Int) + 2 ≤ 5 * (m - typeR t m)
  | .mk k n ts, m, h => by
    rw [typeR] at h ⊢
    by_cases h0 : nameR m n.size < 0
    · rw [typesR_neg _ _ h0] at h; omega
    have hn := nameR_ok (m := m) (n := n.size) (by omega)
    have ih := typesR_w ts (nameR m n.size) h
    have hk := typeWord_len k
    have hkl := kT_len n
    rw [tokT]
    split
    · simp only [wtT]; omega
    · split
      · simp only [wtT]; omega
      · split
        · simp only [wtT, wAmp, List.length_cons, List.length_nil]; omega
        · split
          · simp only [wtT, wAmp, wMut, List.length_cons, List.length_nil]; omega
          · simp only [wtT, wLess, wMore, wtT_app, List.length_cons, List.length_nil]; omega
theorem typesR_w : ∀ (l : List PT) (m : Int), 0 ≤ typesR l m → (wtT (tokTs l) : Int) ≤ 5 * (m - typesR l m)
  | [], m, h => by rw [typesR, tokTs]; simp [wtT]
  | t :: l, m, h => by
    rw [typesR] at h ⊢
    by_cases h0 : m < 0
    · rw [if_pos h0] at h; omega
    rw [if_neg h0] at h ⊢
    by_cases h1 : typeR t m < 0
    · rw [typesR_neg _ _ h1] at h; omega
    have a := typeR_w t m (by omega)
    have b := typesR_w l (typeR t m) h
    rw [tokTs]
    have : (0 : Int) ≤ (wtT (tokTs l) : Int) := by omega
    omega
end
/-- names, and steps -/
theorem namesR_w : ∀ (l : List ByteArray) (m : Int), 0 ≤ listR (fun s m => nameR m s.size) l m → (wtT (stepsT l) : Int) ≤ 5 * (m - listR (fun s m => nameR m s.size) l m) ∧ (wtT (l.map kT) : Int) + 4 * l.length ≤ 5 * (m - listR (fun s m => nameR m s.size) l m)
  | [], m, h => by simp [listR, stepsT, wtT]
  | s :: l, m, h => by
    rw [listR] at h ⊢
    by_cases h0 : m < 0
    · rw [if_pos h0] at h; omega
    rw [if_neg h0] at h ⊢
    by_cases h1 : nameR m s.size < 0
    · rw [listR_neg h1] at h; omega
    have hn := nameR_ok (m := m) (n := s.size) (by omega)
    obtain ⟨a, b⟩ := namesR_w l (nameR m s.size) h
    have hkl := kT_len s
    constructor
    · rw [stepsT]; simp only [wtT, wDot, List.length_cons, List.length_nil]; omega
    · rw [List.map_cons, wtT, List.length_cons]; omega
theorem placeR_w (x : PP) (m : Int) (h : 0 ≤ placeR x m) : (wtT (tokP x) : Int) ≤ 5 * (m - placeR x m) ∧ (wtT (x.path.map kT) : Int) + 4 * x.path.length ≤ 5 * (m - placeR x m) ∧ placeR x m + 10 ≤ m := by
  unfold placeR namesR at *
  by_cases h0 : nameR m x.name.size - 5 < 0
  · rw [listR_neg h0] at h; omega
  have hn := nameR_ok (m := m) (n := x.name.size) (by omega)
  obtain ⟨a, b⟩ := namesR_w x.path _ h
  have hkl := kT_len x.name
  refine ⟨?_, by omega, by omega⟩
  unfold tokP
  rw [wtT]
  omega
end Go.Proofs.YthilicmhdkmipaaGreatDoor
