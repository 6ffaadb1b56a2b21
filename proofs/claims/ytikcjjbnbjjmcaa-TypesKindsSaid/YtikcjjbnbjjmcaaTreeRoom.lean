/- The laws' own reckoning of how much room a tree takes: names, types, places, expressions. -/
import Derived.Test.YtikcjjbnbjjmcaaTreeRoomMath
import Derived.Test.YtikcjjbnbjjmcaaTreeSameT
namespace Go.Proofs.Ytikcjjbnbjjmcaa
open Go.RowKit
set_option linter.unusedVariables false

set_option maxHeartbeats 400000 in
theorem room_name1 (R : Nat) (m : Int) (s : ByteArray) (h1 : -100 ≤ m) (h : m < 5) (w : World) (hc : w.cell? ⟨R, 0, none⟩ = some (.int .i64 m)) (hf : w.frozen? ⟨R, 0, none⟩ = false) :
    Calls Try.prog 14 #[.pointer (some ⟨R, 0, none⟩), .string s] w fun e w' => e = .returned (.tuple #[]) ∧ w' = w.setCell ⟨R, 0, none⟩ (.int .i64 (-1)) := by
  go_enter Try.func14, Try.ntmps14
  go_wp2
  exact bodyPost_ret (v := .tuple #[]) (by simp [results, Try.results14, go_sem]) rfl ⟨rfl, rfl⟩
set_option maxHeartbeats 400000 in
theorem room_name2 (R : Nat) (m : Int) (s : ByteArray) (h1 : 5 ≤ m) (h2 : m ≤ 20000) (h : m - 5 < (s.size : Int)) (w : World) (hc : w.cell? ⟨R, 0, none⟩ = some (.int .i64 m)) (hf : w.frozen? ⟨R, 0, none⟩ = false) :
    Calls Try.prog 14 #[.pointer (some ⟨R, 0, none⟩), .string s] w fun e w' => e = .returned (.tuple #[]) ∧ w' = w.setCell ⟨R, 0, none⟩ (.int .i64 (-1)) := by
  go_enter Try.func14, Try.ntmps14
  go_wp2
  exact bodyPost_ret (v := .tuple #[]) (by simp [results, Try.results14, go_sem]) rfl ⟨rfl, rfl⟩
set_option maxHeartbeats 400000 in
theorem room_name3 (R : Nat) (m : Int) (s : ByteArray) (h1 : 5 ≤ m) (h2 : m ≤ 20000) (h : (s.size : Int) ≤ m - 5) (w : World) (hc : w.cell? ⟨R, 0, none⟩ = some (.int .i64 m)) (hf : w.frozen? ⟨R, 0, none⟩ = false) :
    Calls Try.prog 14 #[.pointer (some ⟨R, 0, none⟩), .string s] w fun e w' => e = .returned (.tuple #[]) ∧ w' = w.setCell ⟨R, 0, none⟩ (.int .i64 (m - 5 - s.size)) := by
  have h' : 5 ≤ m ∧ (s.size : Int) ≤ m - 5 := ⟨h1, h⟩
  go_enter Try.func14, Try.ntmps14
  go_wp2
  go_end0
  exact ⟨rfl, rfl⟩
theorem room_name (B R : Nat) (m : Int) (s : ByteArray) (hm : RB m) (w : World) (hr : RoomAt B R w m) :
    Calls Try.prog 14 #[.pointer (some ⟨R, 0, none⟩), .string s] w fun e w' => e = .returned (.tuple #[]) ∧ RoomAt B R w' (nameR m s.size) ∧ But R w w' := by
  obtain ⟨h1, h2⟩ := hm
  by_cases h : m < 5
  · refine (room_name1 R m s (by omega) h w hr.2.2.1 hr.2.2.2).mono ?_
    rintro e w' ⟨rfl, rfl⟩
    exact ⟨rfl, by rw [nameR_no (.inl h)]; exact hr.set _, But.set _ _⟩
  · by_cases h3 : m - 5 < (s.size : Int)
    · refine (room_name2 R m s (by omega) h2 h3 w hr.2.2.1 hr.2.2.2).mono ?_
      rintro e w' ⟨rfl, rfl⟩
      exact ⟨rfl, by rw [nameR_no (.inr h3)]; exact hr.set _, But.set _ _⟩
    · refine (room_name3 R m s (by omega) h2 (by omega) w hr.2.2.1 hr.2.2.2).mono ?_
      rintro e w' ⟨rfl, rfl⟩
      exact ⟨rfl, by rw [nameR_yes (by omega) (by omega)]; exact hr.set _, But.set _ _⟩

end Go.Proofs.Ytikcjjbnbjjmcaa
