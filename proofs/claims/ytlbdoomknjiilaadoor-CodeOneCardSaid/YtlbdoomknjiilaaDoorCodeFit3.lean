/- Code: fitsPath, fitsSlots, fitsName. -/
import Derived.Test.YtlbdoomknjiilaaDoorCodeHas
import Derived.Shelf.Abstract
namespace Go.Proofs.YtlbdoomknjiilaaDoor
open Go.RowKit
set_option linter.unusedVariables false

theorem any_not {α : Type} (l : List α) (q : α → Bool) : (!l.any fun x => !q x) = l.all q := by
  rw [List.any_eq_not_all_not]; simp
theorem enters1 : ∀ args w, (callFunc 63 args).run Tryd.prog w = .ok (.enter 63 args) w := enters_of Tryd.func63 (by kernel_rfl) rfl
theorem enters2 : ∀ args w, (callFunc 65 args).run Tryd.prog w = .ok (.enter 65 args) w := enters_of Tryd.func65 (by kernel_rfl) rfl
theorem path1_calls (s : ByteArray) (w : World) : Calls Tryd.prog 63 #[.string s] w fun e w' => e = .returned (.bool (!nameB s)) ∧ Below w.heap.size w w' := by
  have HC := Lib.hid fun W => isName_calls s W
  generalize nameB s = r at *
  go_enter Tryd.func63, Tryd.ntmps63
  go_wp2_with (go_at_call 54; (with_reducible refine (HC.out _).mono ?_); rintro e w1 ⟨rfl, rfl⟩)
  go_ret
  exact ⟨rfl, Below.refl _ _⟩
set_option maxRecDepth 100000 in
set_option maxHeartbeats 1000000 in
theorem fitsPath_calls (B : Nat) (r : RR) (l : List ByteArray) (v : Value) (w : World) (hB : B ≤ w.heap.size) (h : SIn B w l v) :
    Calls Tryd.prog 50 #[r.val, v] w fun e w' => e = .returned (.bool (if r.p then pathB l else decide (l.length = 0))) ∧ Below w.heap.size w w' := by
  obtain ⟨op, a, b, i, p, s, n⟩ := r
  show Calls _ _ #[.agg #[.string ⟨op.toArray⟩, .int .u8 a, .int .u8 b, .int .u8 i, .bool p, .bool s, .bool n], v] w fun e w' => e = .returned (.bool (if p = true then pathB l else decide (l.length = 0))) ∧ _
  have HC := Lib.hid fun (W : World) (hb : Below w.heap.size w W) => containsLS_calls B 63 #[] enters1 (fun x => !nameB x) l v W (Nat.le_trans hB hb.size) (h.below (hb.mono hB)) fun x _ W' _ => path1_calls x W'
  have hE := enters1
  obtain ⟨ao, cap, rfl⟩ := h.shape'
  unfold pathB
  rw [← any_not]
  generalize (l.any fun x => !nameB x) = q at *
  generalize l.length = m at *
  generalize (⟨op.toArray⟩ : ByteArray) = S at *
  generalize (a : Int) = a at *
  generalize (b : Int) = b at *
  generalize (i : Int) = i at *
  have b0 := box1 w (.cells #[.string S, .int .u8 a, .int .u8 b, .int .u8 i, .bool p, .bool s, .bool n] 79)
  clear h
  cases p
  · rw [if_neg (by simp)]
    by_cases h0 : m = 0
    · subst h0
      rw [decide_eq_true rfl]
      go_enter Tryd.func50, Tryd.ntmps50
      go_wp2_with fail
      go_ret
      exact ⟨rfl, b0⟩
    · have e0 : ((m : Int) == 0) = false := by simpa using h0
      rw [decide_eq_false h0]
      clear h0
      go_enter Tryd.func50, Tryd.ntmps50
      go_wp2_with fail
      go_ret
      exact ⟨rfl, b0⟩
  · rw [if_pos rfl]
    by_cases h0 : m ≤ 40
    · have e0 : decide ((m : Int) ≤ 40) = true := decide_eq_true (by omega)
      rw [decide_eq_true h0]
      clear h0
      go_enter Tryd.func50, Tryd.ntmps50
      go_wp2_with fail
      (with_reducible refine (HC.out _ b0).mono ?_)
      rintro e w1 ⟨rfl, b1⟩
      have HB := Lib.hid (up_tr b0 b1)
      clear b1
      go_wp2_with fail
      go_ret
      exact ⟨rfl, HB.out⟩
    · have e0 : decide ((m : Int) ≤ 40) = false := decide_eq_false (by omega)
      rw [decide_eq_false h0]
      clear h0
      go_enter Tryd.func50, Tryd.ntmps50
      go_wp2_with fail
      go_ret
      exact ⟨rfl, b0⟩
theorem fitsName_calls (r : RR) (nm : ByteArray) (w : World) :
    Calls Tryd.prog 52 #[r.val, .string nm] w fun e w' => e = .returned (.bool (if r.n then nameB nm else decide (nm.size = 0))) ∧ Below w.heap.size w w' := by
  obtain ⟨op, a, b, i, p, s, n⟩ := r
  show Calls _ _ #[.agg #[.string ⟨op.toArray⟩, .int .u8 a, .int .u8 b, .int .u8 i, .bool p, .bool s, .bool n], .string nm] w fun e w' => e = .returned (.bool (if n = true then nameB nm else decide (nm.size = 0))) ∧ _
  have HC := Lib.hid fun W => isName_calls nm W
  generalize nameB nm = q at *
  generalize (⟨op.toArray⟩ : ByteArray) = S at *
  generalize (a : Int) = a at *
  generalize (b : Int) = b at *
  generalize (i : Int) = i at *
  have b0 := box1 w (.cells #[.string S, .int .u8 a, .int .u8 b, .int .u8 i, .bool p, .bool s, .bool n] 79)
  cases n
  · rw [if_neg (by simp)]
    have el : nm.toList.isEmpty = decide (nm.size = 0) := by
      rw [ByteArray.toList_eq]
      cases h : nm.data.toList with
      | nil => have : nm.size = nm.data.toList.length := rfl; rw [h] at this; simp [this]
      | cons c l => have : nm.size = nm.data.toList.length := rfl; rw [h] at this; simp [this]
    cases h : decide (nm.size = 0)
    · rw [h] at el
      clear h
      go_enter Tryd.func52, Tryd.ntmps52
      go_wp2_with fail
      go_ret
      exact ⟨rfl, b0⟩
    · rw [h] at el
      clear h
      go_enter Tryd.func52, Tryd.ntmps52
      go_wp2_with fail
      go_ret
      exact ⟨rfl, b0⟩
  · rw [if_pos rfl]
    go_enter Tryd.func52, Tryd.ntmps52
    go_wp2_with (go_at_call 54; (with_reducible refine (HC.out _).mono ?_); rintro e w1 ⟨rfl, rfl⟩)
    go_ret
    exact ⟨rfl, b0⟩
theorem slots1_calls (z : Int) (g n : Nat) (ao : Option Addr) (cap : Nat) (w : World) (h : w.cell? ⟨g, 6, none⟩ = some (.slice ao n cap)) :
    Calls Tryd.prog 65 #[.int .i64 z, .pointer (some ⟨g, 0, none⟩)] w fun e w' => e = .returned (.bool (!withinB z 0 n)) ∧ Below w.heap.size w w' := by
  have HC := Lib.hid fun W => within_calls z 0 n W
  generalize withinB z 0 n = r at *
  go_enter Tryd.func65, Tryd.ntmps65
  go_wp2_with (go_at_call 61; (with_reducible refine (HC.out _).mono ?_); rintro e w1 ⟨rfl, rfl⟩)
  go_ret
  exact ⟨rfl, Below.refl _ _⟩
set_option maxRecDepth 100000 in
set_option maxHeartbeats 1000000 in
theorem fitsSlots_calls (B : Nat) (u : UU) (vu : VU) (f : FF) (vc : Value) (r : RR) (l : List Int) (v : Value) (w : World) (hB : B ≤ w.heap.size) (hu : u.In B w vu) (hf : ∃ ao cap, vc = .slice ao f.code.length cap) (h : ZIn B w l v) :
    Calls Tryd.prog 51 #[siteV u vu f vc, r.val, v] w fun e w' => e = .returned (.bool (if r.s then slotsB l f.code.length else decide (l.length = 0))) ∧ Below w.heap.size w w' := by
  obtain ⟨a1, c1, a2, c2, rfl⟩ := hu.shape
  obtain ⟨a3, c3, rfl⟩ := hf
  obtain ⟨op, a, b, i, p, s, n⟩ := r
  show Calls _ _ #[.agg #[.slice a1 u.funcs.length c1, .int .i64 u.main, .slice a2 u.types.length c2, .string f.name, .int .i64 f.params, .int .i64 f.slots, .slice a3 f.code.length c3], .agg #[.string ⟨op.toArray⟩, .int .u8 a, .int .u8 b, .int .u8 i, .bool p, .bool s, .bool n], v] w fun e w' => e = .returned (.bool (if s = true then slotsB l f.code.length else decide (l.length = 0))) ∧ _
  generalize u.funcs.length = n1 at *
  generalize u.types.length = n2 at *
  generalize f.code.length = n3 at *
  generalize u.main = mn at *
  generalize f.name = fn at *
  generalize f.params = pa at *
  generalize f.slots = sl at *
  have HC := Lib.hid fun (W : World) (hb : Below w.heap.size w W) (h6 : W.cell? ⟨w.heap.size, 6, none⟩ = some (.slice a3 n3 c3)) => containsLZ_calls B 65 #[.pointer (some ⟨w.heap.size, 0, none⟩)] enters2 (fun x => !withinB x 0 n3) l v W (Nat.le_trans hB hb.size) (h.below (hb.mono hB))
    fun x _ W' hW' => slots1_calls x w.heap.size n3 a3 c3 W' ((hW'.cell (p := ⟨w.heap.size, 6, none⟩) (World.block_lt_of_cell? W _ h6)).trans h6)
  have hE := enters2
  obtain ⟨ao, cap, rfl⟩ := GIn.shape h
  unfold slotsB
  rw [← any_not]
  generalize (l.any fun x => !withinB x 0 n3) = q at *
  generalize l.length = m at *
  generalize (⟨op.toArray⟩ : ByteArray) = S at *
  generalize (a : Int) = a at *
  generalize (b : Int) = b at *
  generalize (i : Int) = i at *
  have b0 := box2 w (.cells #[.slice a1 n1 c1, .int .i64 mn, .slice a2 n2 c2, .string fn, .int .i64 pa, .int .i64 sl, .slice a3 n3 c3] 65) (.cells #[.string S, .int .u8 a, .int .u8 b, .int .u8 i, .bool p, .bool s, .bool n] 79)
  have h6 : ((w.alloc (.cells #[.slice a1 n1 c1, .int .i64 mn, .slice a2 n2 c2, .string fn, .int .i64 pa, .int .i64 sl, .slice a3 n3 c3] 65)).alloc (.cells #[.string S, .int .u8 a, .int .u8 b, .int .u8 i, .bool p, .bool s, .bool n] 79)).cell? ⟨w.heap.size, 6, none⟩ = some (.slice a3 n3 c3) := by go_simp
  have H6 := Lib.hid h6
  clear h h6 hu
  cases s
  · rw [if_neg (by simp)]
    by_cases h0 : m = 0
    · subst h0
      rw [decide_eq_true rfl]
      go_enter Tryd.func51, Tryd.ntmps51
      go_wp2_with fail
      go_ret
      exact ⟨rfl, b0⟩
    · have e0 : ((m : Int) == 0) = false := by simpa using h0
      rw [decide_eq_false h0]
      clear h0
      go_enter Tryd.func51, Tryd.ntmps51
      go_wp2_with fail
      go_ret
      exact ⟨rfl, b0⟩
  · rw [if_pos rfl]
    by_cases h0 : m ≤ 6
    · have e0 : decide ((m : Int) ≤ 6) = true := decide_eq_true (by omega)
      rw [decide_eq_true h0]
      clear h0
      go_enter Tryd.func51, Tryd.ntmps51
      go_wp2_with fail
      (with_reducible refine (HC.out _ b0 H6.out).mono ?_)
      rintro e w1 ⟨rfl, b1⟩
      have HB := Lib.hid (up_tr b0 b1)
      clear b1
      go_wp2_with fail
      go_ret
      exact ⟨rfl, HB.out⟩
    · have e0 : decide ((m : Int) ≤ 6) = false := decide_eq_false (by omega)
      rw [decide_eq_false h0]
      clear h0
      go_enter Tryd.func51, Tryd.ntmps51
      go_wp2_with fail
      go_ret
      exact ⟨rfl, b0⟩
end Go.Proofs.YtlbdoomknjiilaaDoor
