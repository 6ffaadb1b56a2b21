/- The laws' own reckoning of room: RoomP (made by gen_room.py). -/
import Derived.Test.YtabncmmadbjegaaTreeRoom
namespace Go.Proofs.Ytabncmmadbjegaa
open Go.RowKit
set_option linter.unusedVariables false

set_option maxHeartbeats 1000000 in
theorem roomP_calls (B R : Nat) (x : PP) (v : Value) (m : Int) (w : World) (hm : RB m) (hB : B ≤ w.heap.size) (hr : RoomAt B R w m) (hx : x.In B w v) :
    Calls Try.prog 27 #[.pointer (some ⟨R, 0, none⟩), .agg #[.string x.name, v]] w fun e w' => e = .returned (.tuple #[]) ∧ RoomAt B R w' (placeR x m) ∧ But R w w' := by
  obtain ⟨p, n, q, rfl⟩ := hx.2.shape
  have hBR := hr.1
  have hm1 := nameR_b hm x.name.size
  have C0 := Lib.hid (fun w h => room_name B R m x.name hm w h)
  have C1 := Lib.hid (fun w hB h hl => room_names B R x.path (.slice p n q) (nameR m x.name.size) hm1.1 hm1.2 w hB h hl)
  go_enter Try.func27, Try.ntmps27
  go_wp2_with fail
  refine (C0.out _ (hr.below ((Below.refl _ w).alloc (Nat.le_refl _) _))).mono ?_
  rintro e w1 ⟨rfl, r1, b1⟩
  have hz1 : w.heap.size < w1.heap.size := by have := b1.size; simp at this; omega
  have hRz := hr.2.1
  have hbox : w1.cell? ⟨w.heap.size, 1, none⟩ = some (.slice p n q) := (b1.cell w.heap.size 1 (by simp) (by omega)).trans (by go_simp)
  have b1' := (But.alloc w _).trans b1
  go_wp2_with fail
  refine (C1.out _ (by omega) r1 (hx.2.below (b1'.below hBR hB))).mono ?_
  rintro e w2 ⟨rfl, r2, b2⟩
  have B2 := Lib.hid (b1'.trans b2)
  have R2 := Lib.hid r2
  clear b2 r2 b1 b1' r1
  go_wp2
  go_end0
  exact ⟨rfl, R2.out, B2.out⟩
end Go.Proofs.Ytabncmmadbjegaa
