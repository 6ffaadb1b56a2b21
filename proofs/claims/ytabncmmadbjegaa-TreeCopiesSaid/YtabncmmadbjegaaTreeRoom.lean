/- The laws' own reckoning of how much room a tree takes: names, types, places, expressions. -/
import Derived.Test.YtabncmmadbjegaaTreeRoomMath
import Derived.Test.YtabncmmadbjegaaJoinC
namespace Go.Proofs.Ytabncmmadbjegaa
open Go.RowKit
set_option linter.unusedVariables false

set_option maxHeartbeats 400000 in
theorem room_name1 (R : Nat) (m : Int) (s : ByteArray) (h1 : -100 ≤ m) (h : m < 5) (w : World) (hc : w.cell? ⟨R, 0, none⟩ = some (.int .i64 m)) (hf : w.frozen? ⟨R, 0, none⟩ = false) :
    Calls Try.prog 10 #[.pointer (some ⟨R, 0, none⟩), .string s] w fun e w' => e = .returned (.tuple #[]) ∧ w' = w.setCell ⟨R, 0, none⟩ (.int .i64 (-1)) := by
  go_enter Try.func10, Try.ntmps10
  go_wp2
  exact bodyPost_ret (v := .tuple #[]) (by simp [results, Try.results10, go_sem]) rfl ⟨rfl, rfl⟩
set_option maxHeartbeats 400000 in
theorem room_name2 (R : Nat) (m : Int) (s : ByteArray) (h1 : 5 ≤ m) (h2 : m ≤ 20000) (h : m - 5 < (s.size : Int)) (w : World) (hc : w.cell? ⟨R, 0, none⟩ = some (.int .i64 m)) (hf : w.frozen? ⟨R, 0, none⟩ = false) :
    Calls Try.prog 10 #[.pointer (some ⟨R, 0, none⟩), .string s] w fun e w' => e = .returned (.tuple #[]) ∧ w' = w.setCell ⟨R, 0, none⟩ (.int .i64 (-1)) := by
  go_enter Try.func10, Try.ntmps10
  go_wp2
  exact bodyPost_ret (v := .tuple #[]) (by simp [results, Try.results10, go_sem]) rfl ⟨rfl, rfl⟩
set_option maxHeartbeats 400000 in
theorem room_name3 (R : Nat) (m : Int) (s : ByteArray) (h1 : 5 ≤ m) (h2 : m ≤ 20000) (h : (s.size : Int) ≤ m - 5) (w : World) (hc : w.cell? ⟨R, 0, none⟩ = some (.int .i64 m)) (hf : w.frozen? ⟨R, 0, none⟩ = false) :
    Calls Try.prog 10 #[.pointer (some ⟨R, 0, none⟩), .string s] w fun e w' => e = .returned (.tuple #[]) ∧ w' = w.setCell ⟨R, 0, none⟩ (.int .i64 (m - 5 - s.size)) := by
  have h' : 5 ≤ m ∧ (s.size : Int) ≤ m - 5 := ⟨h1, h⟩
  go_enter Try.func10, Try.ntmps10
  go_wp2
  go_end0
  exact ⟨rfl, rfl⟩
theorem room_name (B R : Nat) (m : Int) (s : ByteArray) (hm : RB m) (w : World) (hr : RoomAt B R w m) :
    Calls Try.prog 10 #[.pointer (some ⟨R, 0, none⟩), .string s] w fun e w' => e = .returned (.tuple #[]) ∧ RoomAt B R w' (nameR m s.size) ∧ But R w w' := by
  obtain ⟨h1, h2⟩ := hm
  by_cases h : m < 5
  · refine (room_name1 R m s (by omega) h w hr.2.2.1 hr.2.2.2).mono ?_
    rintro e w' ⟨rfl, rfl⟩
    exact ⟨rfl, by rw [nameR_no (.inl h)]; exact hr.set _, But.set _ _⟩
  · by_cases h3 : m - 5 < (s.size : Int)
    · refine (room_name2 R m s (by omega) h2 h3 w hr.2.2.1 hr.2.2.2).mono ?_
      rintro e w' ⟨rfl, rfl⟩
      exact ⟨rfl, by rw [nameR_no (.inr h3)]; exact hr.set _, But.set _ _⟩
    · refine (room_name3 R m s (by omega) h2 (by omega) w hr.2.2.1 hr.2.2.2).mono ?_
      rintro e w' ⟨rfl, rfl⟩
      exact ⟨rfl, by rw [nameR_yes (by omega) (by omega)]; exact hr.set _, But.set _ _⟩

set_option maxHeartbeats 1000000 in
theorem room_names (B R : Nat) (l : List ByteArray) (v : Value) (m : Int) (h1 : -1 ≤ m) (h2 : m ≤ 20000) (w : World) (hB : B ≤ w.heap.size) (hr : RoomAt B R w m) (hl : NIn B w l v) :
    Calls Try.prog 26 #[.pointer (some ⟨R, 0, none⟩), v] w fun e w' => e = .returned (.tuple #[]) ∧ RoomAt B R w' (namesR l m) ∧ But R w w' := by
  obtain ⟨b, o, ⟨hn, ao, cap, rfl, k1⟩, rw1⟩ := hl
  unfold maxLen at hn
  have hr0 := hr
  obtain ⟨hBR, hRz, hc, hf⟩ := hr
  have hset := hr0.set (m - 5)
  have hbut := But.set (R := R) w (.int .i64 (m - 5))
  obtain ⟨n, hx⟩ : ∃ n, n = l.length := ⟨_, rfl⟩
  have hN : namesR l m = listR (fun s m => nameR m s.size) (l.drop 0) (m - 5) := rfl
  rw [← hx] at hn k1 ⊢
  have Hx := Lib.hid hx
  have Hr := Lib.hid rw1
  have H1 := Lib.hid k1
  have HN := Lib.hid hN
  have Hset := Lib.hid hset
  have Hbut := Lib.hid hbut
  generalize namesR l m = res at *
  clear hN hx rw1 k1 hset hbut hr0
  go_enter Try.func26, Try.ntmps26
  go_wp2_with fail
  go_loopw [4] (fun i wr => ∃ (k : Nat) (q : Int), k ≤ n ∧ i = .int .i64 k ∧ RB q ∧ Hid (RoomAt B R wr q) ∧ Hid (But R w wr) ∧ Hid (res = listR (fun s m => nameR m s.size) (l.drop k) q))
    (fun i _ => n - (intOf i).toNat)
  case atStart => exact ⟨0, m - 5, by omega, rfl, ⟨by omega, by omega⟩, Hset, Hbut, HN⟩
  case round =>
    clear HN Hset Hbut hc hf
    obtain ⟨k, q, hk, rfl, hq, Hq, Hw, HR⟩ := hrel
    obtain ⟨_, hRw, hc, hf⟩ := Hq.out
    by_cases hlt : k < n
    · by_cases hneg : q < 0
      · have hneg' : ¬ 0 ≤ q := by omega
        have e1 : k < n ∧ q < 0 := ⟨hlt, hneg⟩
        have hres := Lib.hid (HR.out.trans (listR_neg hneg))
        go_wp2
        go_end0
        exact ⟨rfl, by rw [hres.out]; exact Hq.out, Hw.out⟩
      · have hpos : 0 ≤ q := by omega
        obtain ⟨a, ha, hin⟩ := get_at (l := l) (k := k) (by rw [← Hx.out]; exact hlt)
        obtain ⟨rfl, hb⟩ := H1.out.resolve_left (by omega)
        have hg : b < wr.heap.size := by have := Hw.out.size; omega
        obtain ⟨za, ca⟩ := NRow.get (NRow.below hb (Hw.out.below hBR hB) Hr.out) ha
        have c0 : wr.cell? ⟨b, o + k, none⟩ = some (.string a) := by have := ca 0 _ rfl; simpa using this
        have C := Lib.hid (room_name B R q a hq wr Hq.out)
        have HR2 := Lib.hid (HR.out.trans (by rw [drop_at ha, listR_cons hpos]))
        have hq2 := nameR_rb hq a.size
        generalize nameR q a.size = q2 at *
        clear ha ca hin HR
        go_wp2_with fail
        refine C.out.mono ?_
        rintro e w2 ⟨rfl, r2, b2⟩
        have R2 := Lib.hid r2
        have B2 := Lib.hid (Hw.out.trans b2)
        clear r2 b2 c0 hc hf
        go_wp2
        go_roundw
        case rel => exact ⟨k + 1, q2, by omega, by go_num, hq2, R2, B2, HR2⟩
        case measure => simp [intOf]; omega
    · obtain rfl : k = n := by omega
      have hres := Lib.hid (HR.out.trans (by rw [List.drop_of_length_le (by rw [← Hx.out]; exact Nat.le_refl _)]))
      go_wp2
      go_end0
      exact ⟨rfl, by rw [hres.out]; exact Hq.out, Hw.out⟩
end Go.Proofs.Ytabncmmadbjegaa
