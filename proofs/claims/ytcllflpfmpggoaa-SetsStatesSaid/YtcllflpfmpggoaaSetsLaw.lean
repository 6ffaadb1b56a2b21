/- The document's own Same; the laws' own Many, rise. -/
import Derived.Test.YtcllflpfmpggoaaSetsRef
namespace Go.Proofs.Ytcllflpfmpggoaa
open Go.RowKit
set_option linter.unusedVariables false

def sameN (xs ys : List ByteArray) : Bool := decide (xs.map keyS = ys.map keyS)
theorem sameN_iff {xs ys : List ByteArray} : sameN xs ys = true ↔ xs = ys := by
  unfold sameN
  rw [decide_eq_true_iff]
  constructor
  · intro h
    exact (List.map_inj_right fun a b h => key_same.1 h).1 h
  · rintro rfl; rfl
theorem sameN_refl (xs : List ByteArray) : sameN xs xs = true := sameN_iff.2 rfl
theorem sameN_len {xs ys : List ByteArray} (h : ¬ xs.length = ys.length) : sameN xs ys = false := by
  rw [← Bool.not_eq_true, sameN_iff]
  rintro rfl; exact h rfl
theorem sameN_no {xs ys : List ByteArray} {j : Nat} {x y : ByteArray} (hx : xs[j]? = some x) (hy : ys[j]? = some y) (h : ¬ keyS x = keyS y) : sameN xs ys = false := by
  rw [← Bool.not_eq_true, sameN_iff]
  rintro rfl
  rw [hx] at hy
  cases hy
  exact h rfl
theorem sameN_yes {xs ys : List ByteArray} (hl : xs.length = ys.length) (h : ∀ (j : Nat) x y, xs[j]? = some x → ys[j]? = some y → keyS x = keyS y) : sameN xs ys = true := by
  rw [sameN_iff]
  apply List.ext_getElem?
  intro j
  by_cases hj : j < xs.length
  · have h1 : xs[j]? = some xs[j] := List.getElem?_eq_getElem hj
    have h2 : ys[j]? = some ys[j] := List.getElem?_eq_getElem (by omega)
    rw [h1, h2]
    exact congrArg some (key_same.1 (h j _ _ h1 h2))
  · rw [List.getElem?_eq_none (by omega), List.getElem?_eq_none (by omega)]

set_option maxHeartbeats 1000000 in
theorem refSame_calls (B : Nat) (xs ys : List ByteArray) (v1 v2 : Value) (w : World) (hB : B ≤ w.heap.size) (h1 : SIn B w xs v1) (h2 : SIn B w ys v2) :
    Calls Try.prog 12 #[v1, v2] w fun e w' => e = .returned (.bool (sameN xs ys)) ∧ Below w.heap.size w w' := by
  obtain ⟨b1, o1, ⟨m1, ao1, cap1, rfl, c1, h1⟩, r1⟩ := h1
  obtain ⟨b2, o2, ⟨m2, ao2, cap2, rfl, c2, h2⟩, r2⟩ := h2
  unfold maxLen at m1 m2
  by_cases hl : xs.length = ys.length
  rotate_left
  · rw [sameN_len hl]
    generalize xs.length = n at *
    generalize ys.length = m at *
    have e1 : ((n : Int) != (m : Int)) = true := by rw [bne_iff_ne]; omega
    clear h1 h2 r1 r2 hl
    go_enter Try.func12, Try.ntmps12
    go_wp2
    go_ret
    exact ⟨rfl, Below.refl _ _⟩
  have hyes := Lib.hid fun h => sameN_yes hl h
  have hno := Lib.hid fun j x y h h' => sameN_no (xs := xs) (ys := ys) (j := j) (x := x) (y := y) h h'
  obtain ⟨n, hx⟩ : ∃ n, n = xs.length := ⟨_, rfl⟩
  have hy : n = ys.length := hx.trans hl
  rw [← hx] at m1 h1 c1 ⊢
  rw [← hy] at h2 c2 ⊢
  generalize sameN xs ys = R at *
  have Hx := Lib.hid hx
  have Hy := Lib.hid hy
  have R1 := Lib.hid r1
  have R2 := Lib.hid r2
  have H1 := Lib.hid h1
  have H2 := Lib.hid h2
  clear hx hy r1 r2 h1 h2 hl m2
  go_enter Try.func12, Try.ntmps12
  go_wp2_with fail
  go_loopw [5] (fun i wr => ∃ k : Nat, k ≤ n ∧ i = .int .i64 k ∧ Hid (Below w.heap.size w wr) ∧ Hid (∀ (j : Nat) x y, j < k → xs[j]? = some x → ys[j]? = some y → keyS x = keyS y))
    (fun i _ => n - (intOf i).toNat)
  case atStart => exact ⟨0, by omega, rfl, Lib.hid (Below.refl _ _), Lib.hid fun j x y h => by omega⟩
  case round =>
    obtain ⟨k, hk, rfl, hbel, HK⟩ := hrel
    have hk0 : 0 ≤ (k : Int) := by omega
    by_cases hlt : k < n
    · obtain ⟨x, hx, _⟩ := get_at (l := xs) (k := k) (by rw [← Hx.out]; exact hlt)
      obtain ⟨y, hy, _⟩ := get_at (l := ys) (k := k) (by rw [← Hy.out]; exact hlt)
      obtain ⟨rfl, hb1⟩ := H1.out.resolve_left (by omega)
      obtain ⟨rfl, hb2⟩ := H2.out.resolve_left (by omega)
      have hk1 : (k : Int) < (n : Int) := by omega
      have x0 := (R1.out.below (fun _ => hb1) (hbel.out.mono hB) k x hx).2
      have y0 := (R2.out.below (fun _ => hb2) (hbel.out.mono hB) k y hy).2
      have hbw := hbel.out.size
      have FA : ∀ m : Over wr, m.w.cell? ⟨b1, o1 + k, none⟩ = some (.string x) := fun m => (m.h.cell (p := ⟨b1, o1 + k, none⟩) (by show b1 < _; omega)).trans x0
      have FB : ∀ m : Over wr, m.w.cell? ⟨b2, o2 + k, none⟩ = some (.string y) := fun m => (m.h.cell (p := ⟨b2, o2 + k, none⟩) (by show b2 < _; omega)).trans y0
      have HK' : Hid (∀ m : Over wr, Below w.heap.size w m.w) := Lib.hid fun m => hbel.out.trans (m.h.mono hbw)
      have Hx' := Lib.hid hx
      have Hy' := Lib.hid hy
      clear x0 y0 hx hy
      by_cases he : keyS x = keyS y
      · have e1 := str_neq' he
        have HK2 : Hid (∀ (j : Nat) x y, j < k + 1 → xs[j]? = some x → ys[j]? = some y → keyS x = keyS y) := Lib.hid fun j x' y' hj h1 h2 => by
          by_cases e : j = k
          · subst e
            rw [Hx'.out] at h1; rw [Hy'.out] at h2
            cases h1; cases h2
            exact he
          · exact HK.out j x' y' (by omega) h1 h2
        clear he
        go_wp2_with fail
        refine wp_region_over (by kernel_rfl) (by kernel_rfl) ?_
        repeat (go_big_quiet_step (fail))
        refine wpQuiet_nil ?_
        rintro _ ⟨m, rfl⟩
        have HB := Lib.hid (HK'.out m)
        clear FA FB HK'
        generalize m.w = w6 at *
        go_wp2_with fail
        go_roundw
        case rel => exact ⟨k + 1, by omega, by go_num, HB, HK2⟩
        case measure => simp [intOf]; omega
      · have e1 := str_neq he
        have HR := Lib.hid (hno.out k x y Hx'.out Hy'.out he)
        clear he
        go_wp2_with fail
        refine wp_region_over (by kernel_rfl) (by kernel_rfl) ?_
        repeat (go_big_quiet_step (fail))
        refine wpQuiet_nil ?_
        rintro _ ⟨m, rfl⟩
        have HB := Lib.hid (HK'.out m)
        clear FA FB HK'
        generalize m.w = w6 at *
        go_wp2_with fail
        go_ret
        exact ⟨ret_bool HR.out.symm, HB.out⟩
    · obtain rfl : n = k := by omega
      have HR := Lib.hid (hyes.out fun j x y h1 h2 => HK.out j x y (by rw [Hx.out]; exact some_lt h1) h1 h2)
      go_wp2_with fail
      go_ret
      exact ⟨ret_bool HR.out.symm, hbel.out⟩

def manyN (l : List ByteArray) : Bool := decide (60 < l.length) || l.any fun s => decide (1000 < s.size)
theorem fewN_of {l : List ByteArray} (h : manyN l = false) : l.length ≤ 60 ∧ ∀ s, s ∈ l → s.size ≤ 1000 := by
  unfold manyN at h
  rw [Bool.or_eq_false_iff, decide_eq_false_iff_not, List.any_eq_false] at h
  exact ⟨by omega, fun s hs => by have := h.2 s hs; simpa using this⟩
theorem manyN_yes {l : List ByteArray} {j : Nat} {s : ByteArray} (hs : l[j]? = some s) (h : 1000 < s.size) : manyN l = true := by
  unfold manyN
  rw [Bool.or_eq_true]
  exact .inr (List.any_eq_true.2 ⟨s, List.mem_of_getElem? hs, by simpa using h⟩)
theorem manyN_len {l : List ByteArray} (h : 60 < l.length) : manyN l = true := by
  unfold manyN
  rw [decide_eq_true h]; rfl
theorem manyN_no {l : List ByteArray} (h1 : ¬ 60 < l.length) (h3 : ∀ (j : Nat) s, l[j]? = some s → ¬ 1000 < s.size) : manyN l = false := by
  unfold manyN
  rw [Bool.or_eq_false_iff, decide_eq_false_iff_not, List.any_eq_false]
  refine ⟨h1, fun s hs => ?_⟩
  obtain ⟨j, hj⟩ := List.mem_iff_getElem?.1 hs
  simpa using h3 j s hj

set_option maxHeartbeats 1000000 in
theorem manyN_calls (l : List ByteArray) (B : Nat) (v : Value) (w : World) (hB : B ≤ w.heap.size) (hx : SIn B w l v) :
    Calls Try.prog 10 #[v] w fun e w' => e = .returned (.bool (manyN l)) ∧ Below w.heap.size w w' := by
  obtain ⟨b1, o1, ⟨m1, ao, cap, rfl, c1, h1⟩, r1⟩ := hx
  unfold maxLen at m1
  have hyes := Lib.hid fun j s hs h => manyN_yes (l := l) (j := j) (s := s) hs h
  obtain ⟨n, hn⟩ : ∃ n, n = l.length := ⟨_, rfl⟩
  have hno := Lib.hid fun h1 h3 => manyN_no (l := l) h1 h3
  have hlen : Hid (60 < n → manyN l = true) := Lib.hid fun h => manyN_len (by rw [← hn]; exact h)
  rw [← hn] at m1 h1 c1 hno ⊢
  generalize manyN l = R at *
  have Hn := Lib.hid hn
  have Hr := Lib.hid r1
  have H1 := Lib.hid h1
  clear hn r1 h1
  by_cases g1 : 60 < n
  · have e1 : (n : Int) > 60 := by omega
    have HR := Lib.hid (hlen.out g1)
    go_enter Try.func10, Try.ntmps10
    go_wp2_with fail
    go_ret
    exact ⟨ret_bool HR.out.symm, Below.refl _ _⟩
  have e1 : ¬ (n : Int) > 60 := by omega
  have HN := Lib.hid (hno.out g1)
  go_enter Try.func10, Try.ntmps10
  go_wp2_with fail
  go_loopw [3] (fun i wr => ∃ k : Nat, k ≤ n ∧ i = .int .i64 k ∧ Hid (Below w.heap.size w wr) ∧ Hid (∀ (j : Nat) s, j < k → l[j]? = some s → ¬ 1000 < s.size))
    (fun i _ => n - (intOf i).toNat)
  case atStart => exact ⟨0, by omega, rfl, Lib.hid (Below.refl _ _), Lib.hid fun j s h => by omega⟩
  case round =>
    obtain ⟨k, hk, rfl, hbel, HK⟩ := hrel
    have hk0 : 0 ≤ (k : Int) := by omega
    by_cases hlt : k < n
    · obtain ⟨s, hs, _⟩ := get_at (l := l) (k := k) (by rw [← Hn.out]; exact hlt)
      obtain ⟨rfl, hbb⟩ := H1.out.resolve_left (by omega)
      have k0 := (Hr.out.below (fun _ => hbb) (hbel.out.mono hB) k s hs).2
      have hk1 : (k : Int) < (n : Int) := by omega
      have Hs := Lib.hid hs
      clear hs
      by_cases hsz : 1000 < s.size
      · have e3 : (s.size : Int) > 1000 := by omega
        have HR := Lib.hid (hyes.out k s Hs.out hsz)
        go_wp2_with fail
        go_ret
        exact ⟨ret_bool HR.out.symm, hbel.out⟩
      · have e3 : ¬ (s.size : Int) > 1000 := by omega
        have HK2 : Hid (∀ (j : Nat) s, j < k + 1 → l[j]? = some s → ¬ 1000 < s.size) := Lib.hid fun j s' hj hs' => by
          by_cases e : j = k
          · subst e
            have := Option.some.inj (Hs.out.symm.trans hs')
            rw [← this]; exact hsz
          · exact HK.out j s' (by omega) hs'
        go_wp2_with fail
        go_roundw
        case rel => exact ⟨k + 1, by omega, by go_num, hbel, HK2⟩
        case measure => simp [intOf]; omega
    · obtain rfl : k = n := by omega
      have HR := Lib.hid (HN.out fun j s hs => HK.out j s (by rw [Hn.out]; exact some_lt hs) hs)
      go_wp2_with fail
      go_ret
      exact ⟨ret_bool HR.out.symm, hbel.out⟩

def riseN (l : List ByteArray) : Bool := (List.range (l.length - 1)).all fun j => match l[j]?, l[j + 1]? with | some x, some y => lessS x y | _, _ => true
theorem riseN_yes {l : List ByteArray} (h : Rise l) : riseN l = true := by
  unfold riseN
  rw [List.all_eq_true]
  intro j hj
  rw [List.mem_range] at hj
  have h1 : l[j]? = some l[j] := List.getElem?_eq_getElem (by omega)
  have h2 : l[j + 1]? = some l[j + 1] := List.getElem?_eq_getElem (by omega)
  rw [h1, h2]
  exact List.pairwise_iff_getElem.1 h j (j + 1) (by omega) (by omega) (by omega)
theorem less_next {l : List ByteArray} (h : Rise l) {j : Nat} {x y : ByteArray} (hx : l[j]? = some x) (hy : l[j + 1]? = some y) : lessS x y = true := by
  have := List.pairwise_iff_getElem.1 h j (j + 1) (some_lt hx) (some_lt hy) (by omega)
  rw [(List.getElem?_eq_some_iff.1 hx).2, (List.getElem?_eq_some_iff.1 hy).2] at this
  exact this

theorem geq_run (a b : ByteArray) (r : Bool) (h : (!(Op.bytesLess a.toList b.toList)) = r) (w : World) : Sem.run Try.prog (binOp BinOp.geq 9 (.string a) (.string b)) w = .ok (.bool r) w := by
  subst h
  simp [binOp, Op.stringOp]
set_option maxHeartbeats 1000000 in
/-- of a row that rises the law's own rise says yes -/
theorem rise_calls (l : List ByteArray) (hrise : Rise l) (B : Nat) (v : Value) (w : World) (hB : B ≤ w.heap.size) (hx : SIn B w l v) :
    Calls Try.prog 27 #[v] w fun e w' => e = .returned (.bool true) ∧ Below w.heap.size w w' := by
  obtain ⟨b1, o1, ⟨m1, ao, cap, rfl, c1, h1⟩, r1⟩ := hx
  unfold maxLen at m1
  obtain ⟨n, hn⟩ : ∃ n, n = l.length := ⟨_, rfl⟩
  have HN := Lib.hid fun j x y h h' => less_next hrise (j := j) (x := x) (y := y) h h'
  rw [← hn] at m1 h1 c1 ⊢
  have Hn := Lib.hid hn
  have Hr := Lib.hid r1
  have H1 := Lib.hid h1
  clear hn r1 h1 hrise
  go_enter Try.func27, Try.ntmps27
  go_wp2_with fail
  go_loopw [3] (fun i wr => ∃ k : Nat, 1 ≤ k ∧ k ≤ n + 1 ∧ i = .int .i64 k ∧ Hid (Below w.heap.size w wr))
    (fun i _ => n + 1 - (intOf i).toNat)
  case atStart => exact ⟨1, by omega, by omega, rfl, Lib.hid (Below.refl _ _)⟩
  case round =>
    obtain ⟨k, hk1, hk, rfl, hbel⟩ := hrel
    obtain ⟨d, rfl⟩ : ∃ d, k = d + 1 := ⟨k - 1, by omega⟩
    have hk0 : 0 ≤ (d : Int) := by omega
    by_cases hlt : d + 1 < n
    · obtain ⟨x, hx, _⟩ := get_at (l := l) (k := d) (by rw [← Hn.out]; omega)
      obtain ⟨y, hy, _⟩ := get_at (l := l) (k := d + 1) (by rw [← Hn.out]; exact hlt)
      obtain ⟨rfl, hb1⟩ := H1.out.resolve_left (by omega)
      have hk1 : (d : Int) + 1 < (n : Int) := by omega
      have hk2 : (d : Int) < (n : Int) := by omega
      have hk3 : 0 ≤ (d : Int) + 1 := by omega
      have x0 := (Hr.out.below (fun _ => hb1) (hbel.out.mono hB) d x hx).2
      have y0 := (Hr.out.below (fun _ => hb1) (hbel.out.mono hB) (d + 1) y hy).2
      have hbw := hbel.out.size
      have FA : ∀ m : Over wr, m.w.cell? ⟨b1, o1 + d, none⟩ = some (.string x) := fun m => (m.h.cell (p := ⟨b1, o1 + d, none⟩) (by show b1 < _; omega)).trans x0
      have FB : ∀ m : Over wr, m.w.cell? ⟨b1, o1 + (d + 1), none⟩ = some (.string y) := fun m => (m.h.cell (p := ⟨b1, o1 + (d + 1), none⟩) (by show b1 < _; omega)).trans y0
      have HK' : Hid (∀ m : Over wr, Below w.heap.size w m.w) := Lib.hid fun m => hbel.out.trans (m.h.mono hbw)
      have hl := HN.out d x y hx hy
      have e1 : Op.bytesLess x.toList y.toList = true := hl
      have e3 := geq_run x y false (by rw [e1]; rfl)
      clear x0 y0 hx hy hl
      go_wp2_with fail
      refine wp_region_over (by kernel_rfl) (by kernel_rfl) ?_
      repeat (go_big_quiet_step (fail))
      refine wpQuiet_nil ?_
      rintro _ ⟨m, rfl⟩
      have HB := Lib.hid (HK'.out m)
      clear FA FB HK'
      generalize m.w = w6 at *
      go_wp2_with fail
      go_roundw
      case rel => exact ⟨d + 2, by omega, by omega, by go_num, HB⟩
      case measure => simp [intOf]; omega
    · have hk1 : ¬ (d : Int) + 1 < (n : Int) := by omega
      go_wp2_with fail
      go_ret
      exact ⟨rfl, hbel.out⟩
end Go.Proofs.Ytcllflpfmpggoaa
