/- Comparing: two texts, two rows of texts, the first that is not 0. -/
import Derived.Test.YtipiiaghjkhkbaaPathsOwnRow
import Derived.Test.YtipiiaghjkhkbaaHead
import Derived.WalkKit
import Derived.BigQuiet
namespace Go.Proofs.Ytipiiaghjkhkbaa
open Go.RowKit
set_option linter.unusedVariables false

theorem less_cmp : ∀ x y : List UInt8, Op.bytesLess x y = decide (cmpS x y < 0)
  | [], [] => by simp [Op.bytesLess, lexc]
  | _ :: _, [] => by simp [Op.bytesLess, lexc]
  | [], _ :: _ => by simp [Op.bytesLess, lexc]
  | a :: x, b :: y => by
    have ih := less_cmp x y
    rw [Op.bytesLess, ih]
    show _ = decide ((if cmpU a b = 0 then lexc cmpU x y else cmpU a b) < 0)
    by_cases h : a = b
    · subst h
      simp [cmpU]
    · have hc : ¬ cmpU a b = 0 := fun e => h ((cmpU_good.zero a b).1 e)
      rw [if_neg hc]
      have hb : (a == b) = false := by simpa using h
      rw [hb]
      simp only [Bool.false_and, Bool.or_false]
      rw [decide_eq_decide]
      unfold cmpU at hc ⊢
      split
      · simp [*]
      · split <;> simp [*]
theorem cmpU_val (a b : UInt8) : cmpU a b = -1 ∨ cmpU a b = 0 ∨ cmpU a b = 1 := by
  unfold cmpU; split
  · exact .inl rfl
  · split
    · exact .inr (.inr rfl)
    · exact .inr (.inl rfl)
theorem lexc_val {α : Type} {c : α → α → Int} (h : ∀ a b, c a b = -1 ∨ c a b = 0 ∨ c a b = 1) : ∀ a b, lexc c a b = -1 ∨ lexc c a b = 0 ∨ lexc c a b = 1
  | [], [] => .inr (.inl rfl)
  | [], _ :: _ => .inl rfl
  | _ :: _, [] => .inr (.inr rfl)
  | x :: a, y :: b => by
    rw [lexc]
    split
    · exact lexc_val h a b
    · exact h x y
theorem cmpS_val : ∀ a b, cmpS a b = -1 ∨ cmpS a b = 0 ∨ cmpS a b = 1 := lexc_val cmpU_val
theorem cmpK_val : ∀ a b, cmpK a b = -1 ∨ cmpK a b = 0 ∨ cmpK a b = 1 := lexc_val cmpS_val
theorem gtr_run (a b : ByteArray) (r : Bool) (h : (!(Op.bytesLess a.toList b.toList || a.toList == b.toList)) = r) (w : World) : Sem.run Try.prog (binOp BinOp.gtr 9 (.string a) (.string b)) w = .ok (.bool r) w := by
  subst h
  simp [binOp, Op.stringOp]
theorem toL (s : ByteArray) : s.toList = keyS s := ByteArray.toList_eq s

set_option maxHeartbeats 1000000 in
theorem isNaN_calls (s : ByteArray) (w : World) : Calls Try.prog 70 #[.string s] w fun e w' => e = .returned (.bool false) ∧ w' = w := by
  have e1 : (!s.toList == s.toList) = false := by simp
  go_enter Try.func70, Try.ntmps70
  go_wp2_with fail
  go_ret
  exact ⟨rfl, rfl⟩
set_option maxHeartbeats 1000000 in
theorem cmpStr_calls (a b : ByteArray) (w : World) : Calls Try.prog 48 #[.string a, .string b] w fun e w' => e = .returned (.int .i64 (cmpS (keyS a) (keyS b))) ∧ w' = w := by
  have l1 := less_cmp (keyS a) (keyS b)
  have q1 : (keyS a == keyS b) = decide (cmpS (keyS a) (keyS b) = 0) := by
    rw [Bool.eq_iff_iff, beq_iff_eq, decide_eq_true_eq]
    exact (cmpS_good.zero _ _).symm
  rw [← toL, ← toL] at l1 q1 ⊢
  have hn := fun s W => isNaN_calls s W
  rcases cmpS_val a.toList b.toList with h | h | h
  · rw [h] at l1 q1 ⊢
    have e1 : Op.bytesLess a.toList b.toList = true := l1
    clear l1 q1 h
    go_enter Try.func48, Try.ntmps48
    go_wp2_with (go_at_call 70; refine (hn _ _).mono ?_; rintro e w' ⟨rfl, rfl⟩)
    go_ret
    exact ⟨rfl, rfl⟩
  · rw [h] at l1 q1 ⊢
    have e1 : Op.bytesLess a.toList b.toList = false := l1
    have e2 : (a.toList == b.toList) = true := q1
    have e3 := gtr_run a b false (by rw [e1, e2]; rfl)
    clear l1 q1 h
    go_enter Try.func48, Try.ntmps48
    go_wp2_with (go_at_call 70; refine (hn _ _).mono ?_; rintro e w' ⟨rfl, rfl⟩)
    go_ret
    exact ⟨rfl, rfl⟩
  · rw [h] at l1 q1 ⊢
    have e1 : Op.bytesLess a.toList b.toList = false := l1
    have e2 : (a.toList == b.toList) = false := q1
    have e3 := gtr_run a b true (by rw [e1, e2]; rfl)
    clear l1 q1 h
    go_enter Try.func48, Try.ntmps48
    go_wp2_with (go_at_call 70; refine (hn _ _).mono ?_; rintro e w' ⟨rfl, rfl⟩)
    go_ret
    exact ⟨rfl, rfl⟩
theorem lexc_at {α : Type} {c : α → α → Int} {X Y : List α} {k : Nat} {x y : α} (hx : X[k]? = some x) (hy : Y[k]? = some y) : lexc c (X.drop k) (Y.drop k) = if c x y = 0 then lexc c (X.drop (k + 1)) (Y.drop (k + 1)) else c x y := by
  rw [List.drop_eq_getElem_cons (some_lt hx), List.drop_eq_getElem_cons (some_lt hy), lexc]
  have h1 : X[k]'(some_lt hx) = x := Option.some.inj ((List.getElem?_eq_getElem _).symm.trans hx)
  have h2 : Y[k]'(some_lt hy) = y := Option.some.inj ((List.getElem?_eq_getElem _).symm.trans hy)
  rw [h1, h2]
theorem lexc_more {α : Type} {c : α → α → Int} {X Y : List α} {k : Nat} (hx : k < X.length) (hy : Y.length ≤ k) : lexc c (X.drop k) (Y.drop k) = 1 := by
  rw [List.drop_eq_getElem_cons hx, List.drop_eq_nil_of_le hy, lexc]
theorem lexc_less {α : Type} {c : α → α → Int} {X Y : List α} {k : Nat} (hx : X.length ≤ k) (hy : k < Y.length) : lexc c (X.drop k) (Y.drop k) = -1 := by
  rw [List.drop_eq_getElem_cons hy, List.drop_eq_nil_of_le hx, lexc]
theorem lexc_both {α : Type} {c : α → α → Int} {X Y : List α} {k : Nat} (hx : X.length ≤ k) (hy : Y.length ≤ k) : lexc c (X.drop k) (Y.drop k) = 0 := by
  rw [List.drop_eq_nil_of_le hy, List.drop_eq_nil_of_le hx, lexc]

/-- the row of keys -/
def cmpR (xs ys : List ByteArray) : Int := lexc cmpS (xs.map keyS) (ys.map keyS)
set_option maxHeartbeats 1000000 in
theorem cmpRow_calls (B : Nat) (xs ys : List ByteArray) (v1 v2 : Value) (w : World) (h1 : SIn B w xs v1) (h2 : SIn B w ys v2) :
    Calls Try.prog 49 #[v1, v2] w fun e w' => e = .returned (.int .i64 (cmpR xs ys)) ∧ w' = w := by
  obtain ⟨b1, o1, ⟨m1, ao1, cap1, rfl, c1, h1⟩, r1⟩ := h1
  obtain ⟨b2, o2, ⟨m2, ao2, cap2, rfl, c2, h2⟩, r2⟩ := h2
  unfold maxLen at m1 m2
  have L0 : Hid (cmpR xs ys = lexc cmpS ((xs.map keyS).drop 0) ((ys.map keyS).drop 0)) := Lib.hid rfl
  generalize cmpR xs ys = R at *
  have La : Hid (∀ (k : Nat) x y, xs[k]? = some x → ys[k]? = some y → lexc cmpS ((xs.map keyS).drop k) ((ys.map keyS).drop k) = if cmpS (keyS x) (keyS y) = 0 then lexc cmpS ((xs.map keyS).drop (k + 1)) ((ys.map keyS).drop (k + 1)) else cmpS (keyS x) (keyS y)) :=
    Lib.hid fun k x y hx hy => lexc_at (by rw [List.getElem?_map, hx]; rfl) (by rw [List.getElem?_map, hy]; rfl)
  have Lm : Hid (∀ k, k < xs.length → ys.length ≤ k → lexc cmpS ((xs.map keyS).drop k) ((ys.map keyS).drop k) = 1) := Lib.hid fun k hx hy => lexc_more (by simpa using hx) (by simpa using hy)
  have Ll : Hid (∀ k, xs.length ≤ k → k < ys.length → lexc cmpS ((xs.map keyS).drop k) ((ys.map keyS).drop k) = -1) := Lib.hid fun k hx hy => lexc_less (by simpa using hx) (by simpa using hy)
  have Lb : Hid (∀ k, xs.length ≤ k → ys.length ≤ k → lexc cmpS ((xs.map keyS).drop k) ((ys.map keyS).drop k) = 0) := Lib.hid fun k hx hy => lexc_both (by simpa using hx) (by simpa using hy)
  obtain ⟨n, hx⟩ : ∃ n, n = xs.length := ⟨_, rfl⟩
  obtain ⟨m, hy⟩ : ∃ m, m = ys.length := ⟨_, rfl⟩
  rw [← hx] at m1 h1 c1 Lm Ll Lb ⊢
  rw [← hy] at m2 h2 c2 Lm Ll Lb ⊢
  have Hx := Lib.hid hx
  have Hy := Lib.hid hy
  have Hr := Lib.hid r1
  have Hs := Lib.hid r2
  have H1 := Lib.hid h1
  have H2 := Lib.hid h2
  generalize hA : xs.map keyS = X at *
  generalize hB : ys.map keyS = Y at *
  clear hx hy r1 r2 h1 h2 hA hB
  go_enter Try.func49, Try.ntmps49
  go_wp2_with fail
  go_loopw [11] (fun i wr => ∃ k : Nat, k ≤ n ∧ k ≤ m ∧ i = .int .i64 k ∧ wr = w ∧ Hid (R = lexc cmpS (X.drop k) (Y.drop k)))
    (fun i _ => n - (intOf i).toNat)
  case atStart => exact ⟨0, by omega, by omega, rfl, rfl, L0⟩
  case round =>
    obtain ⟨k, hk, hkm, rfl, rfl, HK⟩ := hrel
    have hk0 : 0 ≤ (k : Int) := by omega
    by_cases hlt : k < n
    · obtain ⟨x, ha, _⟩ := get_at (l := xs) (k := k) (by rw [← Hx.out]; exact hlt)
      obtain ⟨rfl, hb1⟩ := H1.out.resolve_left (by omega)
      have k0 := (Hr.out k x ha).2
      have hk1 : (k : Int) < (n : Int) := by omega
      by_cases hlm : k < m
      · obtain ⟨y, hb, _⟩ := get_at (l := ys) (k := k) (by rw [← Hy.out]; exact hlm)
        obtain ⟨rfl, hb2⟩ := H2.out.resolve_left (by omega)
        have k1 := (Hs.out k y hb).2
        have hk2 : (k : Int) < (m : Int) := by omega
        have hk3 : ¬ (k : Int) ≥ (m : Int) := by omega
        have HC := Lib.hid (HK.out.trans (La.out k x y ha hb))
        have hcon := fun W => cmpStr_calls x y W
        generalize cmpS (keyS x) (keyS y) = c at *
        clear ha hb
        by_cases hc : c = 0
        · subst hc
          have HN := Lib.hid (HC.out.trans (if_pos rfl))
          go_wp2_with (go_at_call 48; refine (hcon _).mono ?_; rintro e w' ⟨rfl, rfl⟩)
          go_roundw
          case rel => exact ⟨k + 1, by omega, by omega, by go_num, by first | rfl | trivial, HN⟩
          case measure => simp [intOf]; omega
        · have HN := Lib.hid (HC.out.trans (if_neg hc))
          have e3 : (c != 0) = true := by simpa using hc
          go_wp2_with (go_at_call 48; refine (hcon _).mono ?_; rintro e w' ⟨rfl, rfl⟩)
          go_ret
          exact ⟨ret_int HN.out.symm, rfl⟩
      · have hk3 : (k : Int) ≥ (m : Int) := by omega
        have HN := Lib.hid (HK.out.trans (Lm.out k hlt (by omega)))
        go_wp2_with fail
        go_ret
        exact ⟨ret_int HN.out.symm, rfl⟩
    · obtain rfl : k = n := by omega
      by_cases hlm : k < m
      · have HN := Lib.hid (HK.out.trans (Ll.out k (Nat.le_refl _) hlm))
        have hk2 : (k : Int) < (m : Int) := by omega
        go_wp2_with fail
        go_ret
        exact ⟨ret_int HN.out.symm, rfl⟩
      · have HN := Lib.hid (HK.out.trans (Lb.out k (Nat.le_refl _) (by omega)))
        have hk2 : ¬ (k : Int) < (m : Int) := by omega
        go_wp2_with fail
        go_ret
        exact ⟨ret_int HN.out.symm, rfl⟩

set_option maxHeartbeats 1000000 in
/-- cmp.Or of two -/
theorem or_calls (x y : Int) (b o cap : Nat) (w : World) (c0 : w.cell? ⟨b, o, none⟩ = some (.int .i64 x)) (c1 : w.cell? ⟨b, o + 1, none⟩ = some (.int .i64 y)) :
    Calls Try.prog 42 #[.slice (some ⟨b, o, none⟩) 2 cap] w fun e w' => e = .returned (.int .i64 (if x = 0 then y else x)) ∧ w' = w := by
  by_cases hx : x = 0
  · subst hx
    rw [if_pos rfl]
    by_cases hy : y = 0
    · subst hy
      go_enter Try.func42, Try.ntmps42
      go_wp2_with fail
      go_loopw [8] (fun i wr => ∃ k : Nat, k ≤ 2 ∧ i = .int .i64 k ∧ wr = w) (fun i _ => 2 - (intOf i).toNat)
      case atStart => exact ⟨0, by omega, rfl, rfl⟩
      case round =>
        obtain ⟨k, hk, rfl, rfl⟩ := hrel
        obtain rfl | rfl | rfl : k = 0 ∨ k = 1 ∨ k = 2 := by omega
        · go_wp2_with fail
          go_roundw
          case rel => exact ⟨1, by omega, by go_num, by first | rfl | trivial⟩
          case measure => simp [intOf]
        · go_wp2_with fail
          go_roundw
          case rel => exact ⟨2, by omega, by go_num, by first | rfl | trivial⟩
          case measure => simp [intOf]
        · go_wp2_with fail
          go_ret
          exact ⟨rfl, rfl⟩
    · have e3 : (y != 0) = true := by simpa using hy
      go_enter Try.func42, Try.ntmps42
      go_wp2_with fail
      go_loopw [8] (fun i wr => ∃ k : Nat, k ≤ 1 ∧ i = .int .i64 k ∧ wr = w) (fun i _ => 2 - (intOf i).toNat)
      case atStart => exact ⟨0, by omega, rfl, rfl⟩
      case round =>
        obtain ⟨k, hk, rfl, rfl⟩ := hrel
        obtain rfl | rfl : k = 0 ∨ k = 1 := by omega
        · go_wp2_with fail
          go_roundw
          case rel => exact ⟨1, by omega, by go_num, by first | rfl | trivial⟩
          case measure => simp [intOf]
        · go_wp2_with fail
          go_ret
          exact ⟨rfl, rfl⟩
  · rw [if_neg hx]
    have e3 : (x != 0) = true := by simpa using hx
    go_enter Try.func42, Try.ntmps42
    go_wp2_with fail
    go_loopw [8] (fun i wr => i = .int .i64 (0 : Nat) ∧ wr = w) (fun i _ => 2 - (intOf i).toNat)
    case atStart => exact ⟨rfl, rfl⟩
    case round =>
      obtain ⟨rfl, rfl⟩ := hrel
      go_wp2_with fail
      go_ret
      exact ⟨rfl, rfl⟩
end Go.Proofs.Ytipiiaghjkhkbaa
