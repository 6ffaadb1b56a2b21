/- The document's own way of saying how deep, how large: the greater one, types, expressions. -/
import Derived.Test.YtojeijeimpffgaaGreatRJoinC
import Derived.Test.YtojeijeimpffgaaGreatRJoinD
namespace Go.Proofs.YtojeijeimpffgaaGreat
open Go.RowKit
set_option linter.unusedVariables false

mutual
def dT : PT → Nat
  | .mk _ _ l => dTs l + 1
def dTs : List PT → Nat
  | [] => 0
  | t :: l => max (dT t) (dTs l)
end
mutual
def dE : PE → Nat
  | .mk _ _ _ _ _ l _ => dEs l + 1
def dEs : List PE → Nat
  | [] => 0
  | t :: l => max (dE t) (dEs l)
end
mutual
def nE : PE → Nat
  | .mk _ _ _ _ _ l _ => 1 + nEs l
def nEs : List PE → Nat
  | [] => 0
  | t :: l => nE t + nEs l
end
mutual
def dS : PS → Nat
  | .mk op _ _ _ t _ _ es bo el ar _ => max (max (max (dSs bo) (dSs el)) (dAs ar)) (max (dEs es) (if op = 12 then dT t else 0)) + 1
def dA : PA → Nat
  | .mk _ _ bo => dSs bo
def dSs : List PS → Nat
  | [] => 0
  | t :: l => max (dS t) (dSs l)
def dAs : List PA → Nat
  | [] => 0
  | t :: l => max (dA t) (dAs l)
end
mutual
def nS : PS → Nat
  | .mk _ _ _ _ _ _ _ es bo el ar _ => 1 + nEs es + nSs bo + nSs el + nAs ar
def nA : PA → Nat
  | .mk _ _ bo => nSs bo
def nSs : List PS → Nat
  | [] => 0
  | t :: l => nS t + nSs l
def nAs : List PA → Nat
  | [] => 0
  | t :: l => nA t + nAs l
end
/-- a list from a place on: its first one and the rest -/
theorem drop_get {α : Type} {l : List α} {k : Nat} {a : α} (h : l[k]? = some a) : l.drop k = a :: l.drop (k + 1) := by
  obtain ⟨hk, rfl⟩ := List.getElem?_eq_some_iff.1 h
  exact List.drop_eq_getElem_cons hk
theorem drop_end {α : Type} {l : List α} : l.drop l.length = [] := List.drop_of_length_le (Nat.le_refl _)
set_option maxHeartbeats 400000 in
theorem most_calls (a b : Nat) (w : World) : Calls Tryz.prog 30 #[.int .i64 (a : Int), .int .i64 (b : Int)] w fun e w' => e = .returned (.int .i64 ((max a b : Nat) : Int)) ∧ Below w.heap.size w w' := by
  obtain ⟨x, hx⟩ : ∃ x : Int, x = (a : Int) := ⟨_, rfl⟩
  obtain ⟨y, hy⟩ : ∃ y : Int, y = (b : Int) := ⟨_, rfl⟩
  obtain ⟨z, hz⟩ : ∃ z : Int, z = ((max a b : Nat) : Int) := ⟨_, rfl⟩
  rw [← hx, ← hy, ← hz]
  by_cases h : y < x
  · obtain rfl : z = x := by omega
    clear hx hy hz
    go_enter Tryz.func30, Tryz.ntmps30
    go_wp2_with fail
    go_ret
    exact ⟨rfl, Below.refl _ _⟩
  · obtain rfl : z = y := by omega
    clear hx hy hz
    go_enter Tryz.func30, Tryz.ntmps30
    go_wp2_with fail
    go_ret
    exact ⟨rfl, Below.refl _ _⟩

/-! ### types -/
def DeepTAt (B : Nat) (a : PT) : Prop := ∀ (v : Value) (w : World), B ≤ w.heap.size → a.In B w v → dT a ≤ 1000000 →
  Calls Tryz.prog 31 #[.agg #[.int .u8 a.kind, .string a.name, v]] w fun e w' => e = .returned (.int .i64 (dT a : Int)) ∧ Below w.heap.size w w'
theorem dTs_mem : ∀ {l : List PT} {a : PT}, a ∈ l → dT a ≤ dTs l
  | x :: l, a, h => by
    rw [dTs]
    rcases List.mem_cons.1 h with rfl | h1
    · omega
    · have := dTs_mem h1; omega
set_option maxHeartbeats 1000000 in
theorem deepT_step (B : Nat) (kd : Int) (nm : ByteArray) (l : List PT) (H0 : ∀ a, a ∈ l → DeepTAt B a) : DeepTAt B (.mk kd nm l) := by
  intro v w hB ha hd
  obtain ⟨_, b, o, ⟨hn, ao, cap, rfl, k1⟩, rw1⟩ := ha
  rw [dT] at hd ⊢
  unfold maxLen at hn
  obtain ⟨n, hx⟩ : ∃ n, n = l.length := ⟨_, rfl⟩
  rw [← hx] at hn k1 ⊢
  have Hx := Lib.hid hx
  have Hr := Lib.hid rw1
  have H1 := Lib.hid k1
  have H := Lib.hid H0
  have Hm := Lib.hid (fun a (h : a ∈ l) => dTs_mem h)
  obtain ⟨R, hR⟩ : ∃ R, R = dTs l := ⟨_, rfl⟩
  rw [← hR] at hd ⊢
  have HR := Lib.hid hR
  have er : ((R + 1 : Nat) : Int) = (R : Int) + 1 := by omega
  rw [er]
  show Calls Tryz.prog 31 #[.agg #[.int .u8 kd, .string nm, .slice ao n cap]] w _
  clear hx rw1 k1 H0 hR er
  go_enter Tryz.func31, Tryz.ntmps31
  go_wp2_with fail
  go_loopw [3, 4] (fun q i wr => ∃ (k m : Nat), k ≤ n ∧ i = .int .i64 k ∧ q = .int .i64 m ∧ m ≤ R ∧ w.heap.size < wr.heap.size ∧ wr.cell? ⟨w.heap.size, 2, none⟩ = some (.slice ao n cap) ∧ Hid (Below w.heap.size w wr) ∧ Hid (max m (dTs (l.drop k)) = R))
    (fun _ i _ => n - (intOf i).toNat)
  case atStart => exact ⟨0, 0, by omega, rfl, rfl, by omega, by simp, by go_simp, Lib.hid ((Below.refl _ w).alloc (Nat.le_refl _) _), Lib.hid (by rw [List.drop_zero, HR.out]; omega)⟩
  case round =>
    obtain ⟨k, m, hk, rfl, rfl, hmR, hz, hc, Hw, HM⟩ := hrel
    by_cases hlt : k < n
    · obtain ⟨a, ha, hin⟩ := get_at (l := l) (k := k) (by rw [← Hx.out]; exact hlt)
      obtain ⟨rfl, hb⟩ := H1.out.resolve_left (by omega)
      have hg : b < wr.heap.size := by omega
      obtain ⟨va, ca, ia⟩ := PT.Row.get (PT.Row.below (Hw.out.mono hB) hb Hr.out) ha
      obtain ⟨p1, q1, t1, rfl⟩ := ia.shape
      have c0 : wr.cell? ⟨b, o + k * 3, none⟩ = some (.int .u8 a.kind) := ca 0 _ rfl
      have c1 : wr.cell? ⟨b, o + k * 3 + 1, none⟩ = some (.string a.name) := ca 1 _ rfl
      have c2 : wr.cell? ⟨b, o + k * 3 + 2, none⟩ = some (.slice p1 q1 t1) := ca 2 _ rfl
      have hda := Hm.out a hin
      rw [← HR.out] at hda
      have C := Lib.hid (H.out a hin (.slice p1 q1 t1) wr (by omega) ia (by omega))
      have MC := Lib.hid (fun w' => most_calls m (dT a) w')
      have HM2 : Hid (max (max m (dT a)) (dTs (l.drop (k + 1))) = R) := Lib.hid (by rw [← HM.out, drop_get ha, dTs]; omega)
      have hm2 : max m (dT a) ≤ R := by omega
      generalize dT a = da at *
      clear ha ca ia hin HM hda
      go_wp2_with fail
      refine C.out.mono ?_
      rintro e w2 ⟨rfl, b2⟩
      have hc2 := (b2.cell (p := ⟨w.heap.size, 2, none⟩) hz).trans hc
      have hz2 : w.heap.size < w2.heap.size := by have := b2.size; omega
      have B2 := Lib.hid (Hw.out.trans (b2.mono (by omega)))
      clear b2 c0 c1 c2 hc C Hw
      go_wp2_with fail
      refine (MC.out _).mono ?_
      rintro e w3 ⟨rfl, b3⟩
      have hc3 := (b3.cell (p := ⟨w.heap.size, 2, none⟩) hz2).trans hc2
      have hz3 : w.heap.size < w3.heap.size := by have := b3.size; omega
      have B3 := Lib.hid (B2.out.trans (b3.mono (by omega)))
      generalize max m da = m3 at *
      clear b3 hc2 B2 MC
      go_wp2
      go_roundw
      case rel => exact ⟨k + 1, m3, by omega, by go_num, rfl, hm2, hz3, hc3, B3, HM2⟩
      case measure => simp [intOf]; omega
    · obtain rfl : k = n := by omega
      obtain rfl : m = R := by have := HM.out; rw [Hx.out, drop_end, dTs] at this; omega
      go_wp2
      go_ret
      exact ⟨rfl, Hw.out⟩
theorem deepT_calls (B : Nat) (a : PT) : DeepTAt B a :=
  PT.rec (motive_1 := DeepTAt B) (motive_2 := fun l => ∀ x, x ∈ l → DeepTAt B x) (fun k n xs H => deepT_step B k n xs H)
    (fun x h => by cases h) (fun a l ha hl x h => by cases h with | head => exact ha | tail _ h => exact hl x h) a
end Go.Proofs.YtojeijeimpffgaaGreat

