/- slices.IndexFunc, slices.ContainsFunc of a function value that turns nothing (made by gen_codeindex.py). -/
import Derived.Test.YtlbdoomknjiilaaDoorCodeRow
import Derived.Deep.DeepFit
namespace Go.Proofs.YtlbdoomknjiilaaDoor
open Go.RowKit
set_option linter.unusedVariables false

/-- the first one from k on, of m, of which p says yes; else -1 -/
def firstI (p : Nat → Bool) : Nat → Nat → Int
  | 0, _ => -1
  | m + 1, k => if p k then (k : Int) else firstI p m (k + 1)
theorem firstI_yes {p : Nat → Bool} {n k : Nat} (hk : k < n) (h : p k = true) : firstI p (n - k) k = k := by
  obtain ⟨m, hm⟩ : ∃ m, n - k = m + 1 := ⟨n - k - 1, by omega⟩
  rw [hm, firstI, if_pos h]
theorem firstI_no {p : Nat → Bool} {n k : Nat} (hk : k < n) (h : p k = false) : firstI p (n - k) k = firstI p (n - (k + 1)) (k + 1) := by
  obtain ⟨m, hm⟩ : ∃ m, n - k = m + 1 := ⟨n - k - 1, by omega⟩
  rw [hm, firstI, if_neg (by simp [h]), show n - (k + 1) = m by omega]
theorem firstI_end {p : Nat → Bool} {n : Nat} : firstI p (n - n) n = -1 := by rw [Nat.sub_self, firstI]
theorem firstI_any (p : Nat → Bool) (m k : Nat) : decide (0 ≤ firstI p m k) = (List.range m).any fun i => p (k + i) := by
  induction m generalizing k with
  | zero => simp [firstI]
  | succ m ih =>
    rw [firstI, List.range_succ_eq_map, List.any_cons, List.any_map]
    by_cases h : p k = true
    · rw [if_pos h]
      simp [h]
    · rw [if_neg h, ih]
      simp only [Bool.not_eq_true] at h
      simp only [Nat.add_zero, h, Bool.false_or]
      congr 1
      funext i
      simp only [Function.comp]
      congr 1
      omega
theorem firstI_any0 (p : Nat → Bool) (n : Nat) : decide (0 ≤ firstI p n 0) = (List.range n).any p := by
  rw [firstI_any]
  simp
/-- p of each number is q of the list's element there -/
theorem range_any {α : Type} (l : List α) (p : Nat → Bool) (q : α → Bool) (h : ∀ (k : Nat) x, l[k]? = some x → p k = q x) : (List.range l.length).any p = l.any q := by
  rw [Bool.eq_iff_iff, List.any_eq_true, List.any_eq_true]
  constructor
  · rintro ⟨k, hk, hp⟩
    obtain ⟨x, hx, hm⟩ := get_at (l := l) (k := k) (by simpa using hk)
    exact ⟨x, hm, by rw [← h k x hx]; exact hp⟩
  · rintro ⟨x, hm, hp⟩
    obtain ⟨k, hk⟩ := List.mem_iff_getElem?.1 hm
    exact ⟨k, by simpa using some_lt hk, by rw [h k x hk]; exact hp⟩
/-- the elements of a row that lies at b, o: each one's cells, and what the function value says of it -/
def AsksS (w : World) (b o n : Nat) (g : FuncId) (lb : Array Value) (p : Nat → Bool) : Prop := b < w.heap.size ∧ ∀ k, k < n → ∃ c0, (w.cell? ⟨b, o + k, none⟩ = some c0) ∧
  ∀ W, Below w.heap.size w W → Calls Tryd.prog g (#[c0] ++ lb) W fun e W' => e = .returned (.bool (p k)) ∧ Below W.heap.size W W'
set_option maxRecDepth 100000 in
set_option maxHeartbeats 2000000 in
theorem indexS_calls (g : FuncId) (lb : Array Value) (hE : ∀ args w, (callFunc g args).run Tryd.prog w = .ok (.enter g args) w) (p : Nat → Bool) (ao : Option Addr) (n cap b o : Nat) (hm : n ≤ maxLen) (w : World) (ha : n ≠ 0 → ao = some ⟨b, o, none⟩ ∧ AsksS w b o n g lb p) :
    Calls Tryd.prog 74 #[.slice ao n cap, .func (.func g) #[] lb] w fun e w' => e = .returned (.int .i64 (firstI p n 0)) ∧ Below w.heap.size w w' := by
  have HA := Lib.hid ha
  obtain ⟨R, hR⟩ : ∃ R, R = firstI p n 0 := ⟨_, rfl⟩
  have HR : Hid (firstI p (n - 0) 0 = R) := Lib.hid (by rw [hR, Nat.sub_zero])
  rw [← hR]
  unfold maxLen at hm
  clear ha hR
  go_enter Tryd.func74, Tryd.ntmps74
  go_wp2_with fail
  go_loopw [5, 8] (fun _ i wr => ∃ k : Nat, k ≤ n ∧ i = .int .i64 k ∧ Hid (firstI p (n - k) k = R) ∧ Hid (Below w.heap.size w wr))
    (fun _ i _ => n - (intOf i).toNat)
  case atStart => exact ⟨0, by omega, rfl, HR, Lib.hid (Below.refl _ _)⟩
  case round =>
    obtain ⟨k, hk, rfl, HK, HB⟩ := hrel
    have hk0 : 0 ≤ (k : Int) := by omega
    by_cases hlt : k < n
    · obtain ⟨rfl, hbb, hrow⟩ := HA.out (by omega)
      have hk1 : (k : Int) < (n : Int) := by omega
      obtain ⟨c0, h0, hcall⟩ := hrow k hlt
      have HC := Lib.hid (hcall wr HB.out)
      have g0 := (HB.out.cell (p := ⟨b, o + k, none⟩) hbb).trans h0
      clear hrow hcall h0
      cases hp : p k
      · have HN : Hid (firstI p (n - (k + 1)) (k + 1) = R) := Lib.hid ((firstI_no hlt hp).symm.trans HK.out)
        rw [hp] at HC
        clear hp HK
        go_wp2_with fail
        (with_reducible refine HC.out.mono ?_)
        rintro e W2 ⟨rfl, b2⟩
        have HT2 : Hid (Below w.heap.size w W2) := Lib.hid (up_tr HB.out b2)
        clear HC b2 g0
        go_wp2_with fail
        go_roundw
        case rel => exact ⟨k + 1, by omega, by go_num, HN, HT2⟩
        case measure => simp [intOf]; omega
      · have HN : Hid ((k : Int) = R) := Lib.hid ((firstI_yes hlt hp).symm.trans HK.out)
        rw [hp] at HC
        clear hp HK
        go_wp2_with fail
        (with_reducible refine HC.out.mono ?_)
        rintro e W2 ⟨rfl, b2⟩
        have HT2 : Hid (Below w.heap.size w W2) := Lib.hid (up_tr HB.out b2)
        clear HC b2 g0
        go_wp2_with fail
        go_ret
        exact ⟨ret_int HN.out, HT2.out⟩
    · obtain rfl : n = k := by omega
      have HN : Hid ((-1 : Int) = R) := Lib.hid (firstI_end.symm.trans HK.out)
      clear HK
      go_wp2_with fail
      go_ret
      exact ⟨ret_int HN.out, HB.out⟩
set_option maxRecDepth 100000 in
theorem containsS_calls (g : FuncId) (lb : Array Value) (hE : ∀ args w, (callFunc g args).run Tryd.prog w = .ok (.enter g args) w) (p : Nat → Bool) (ao : Option Addr) (n cap b o : Nat) (hm : n ≤ maxLen) (w : World) (ha : n ≠ 0 → ao = some ⟨b, o, none⟩ ∧ AsksS w b o n g lb p) :
    Calls Tryd.prog 64 #[.slice ao n cap, .func (.func g) #[] lb] w fun e w' => e = .returned (.bool ((List.range n).any p)) ∧ Below w.heap.size w w' := by
  have HC := Lib.hid (indexS_calls g lb hE p ao n cap b o hm w ha)
  rw [← firstI_any0]
  generalize firstI p n 0 = R at *
  clear ha
  by_cases h : 0 ≤ R
  · have h2 : R ≥ 0 := h
    rw [decide_eq_true h]
    go_enter Tryd.func64, Tryd.ntmps64
    go_wp2_with fail
    (with_reducible refine HC.out.mono ?_)
    rintro e w1 ⟨rfl, b1⟩
    have HB := Lib.hid b1
    clear b1
    go_wp2_with fail
    go_ret
    exact ⟨rfl, HB.out⟩
  · have h2 := decide_eq_false h
    rw [h2]
    clear h
    go_enter Tryd.func64, Tryd.ntmps64
    go_wp2_with fail
    (with_reducible refine HC.out.mono ?_)
    rintro e w1 ⟨rfl, b1⟩
    have HB := Lib.hid b1
    clear b1
    go_wp2_with fail
    go_ret
    exact ⟨rfl, HB.out⟩
/-- the elements of a row that lies at b, o: each one's cells, and what the function value says of it -/
def AsksZ (w : World) (b o n : Nat) (g : FuncId) (lb : Array Value) (p : Nat → Bool) : Prop := b < w.heap.size ∧ ∀ k, k < n → ∃ c0, (w.cell? ⟨b, o + k, none⟩ = some c0) ∧
  ∀ W, Below w.heap.size w W → Calls Tryd.prog g (#[c0] ++ lb) W fun e W' => e = .returned (.bool (p k)) ∧ Below W.heap.size W W'
set_option maxRecDepth 100000 in
set_option maxHeartbeats 2000000 in
theorem indexZ_calls (g : FuncId) (lb : Array Value) (hE : ∀ args w, (callFunc g args).run Tryd.prog w = .ok (.enter g args) w) (p : Nat → Bool) (ao : Option Addr) (n cap b o : Nat) (hm : n ≤ maxLen) (w : World) (ha : n ≠ 0 → ao = some ⟨b, o, none⟩ ∧ AsksZ w b o n g lb p) :
    Calls Tryd.prog 75 #[.slice ao n cap, .func (.func g) #[] lb] w fun e w' => e = .returned (.int .i64 (firstI p n 0)) ∧ Below w.heap.size w w' := by
  have HA := Lib.hid ha
  obtain ⟨R, hR⟩ : ∃ R, R = firstI p n 0 := ⟨_, rfl⟩
  have HR : Hid (firstI p (n - 0) 0 = R) := Lib.hid (by rw [hR, Nat.sub_zero])
  rw [← hR]
  unfold maxLen at hm
  clear ha hR
  go_enter Tryd.func75, Tryd.ntmps75
  go_wp2_with fail
  go_loopw [5, 8] (fun _ i wr => ∃ k : Nat, k ≤ n ∧ i = .int .i64 k ∧ Hid (firstI p (n - k) k = R) ∧ Hid (Below w.heap.size w wr))
    (fun _ i _ => n - (intOf i).toNat)
  case atStart => exact ⟨0, by omega, rfl, HR, Lib.hid (Below.refl _ _)⟩
  case round =>
    obtain ⟨k, hk, rfl, HK, HB⟩ := hrel
    have hk0 : 0 ≤ (k : Int) := by omega
    by_cases hlt : k < n
    · obtain ⟨rfl, hbb, hrow⟩ := HA.out (by omega)
      have hk1 : (k : Int) < (n : Int) := by omega
      obtain ⟨c0, h0, hcall⟩ := hrow k hlt
      have HC := Lib.hid (hcall wr HB.out)
      have g0 := (HB.out.cell (p := ⟨b, o + k, none⟩) hbb).trans h0
      clear hrow hcall h0
      cases hp : p k
      · have HN : Hid (firstI p (n - (k + 1)) (k + 1) = R) := Lib.hid ((firstI_no hlt hp).symm.trans HK.out)
        rw [hp] at HC
        clear hp HK
        go_wp2_with fail
        (with_reducible refine HC.out.mono ?_)
        rintro e W2 ⟨rfl, b2⟩
        have HT2 : Hid (Below w.heap.size w W2) := Lib.hid (up_tr HB.out b2)
        clear HC b2 g0
        go_wp2_with fail
        go_roundw
        case rel => exact ⟨k + 1, by omega, by go_num, HN, HT2⟩
        case measure => simp [intOf]; omega
      · have HN : Hid ((k : Int) = R) := Lib.hid ((firstI_yes hlt hp).symm.trans HK.out)
        rw [hp] at HC
        clear hp HK
        go_wp2_with fail
        (with_reducible refine HC.out.mono ?_)
        rintro e W2 ⟨rfl, b2⟩
        have HT2 : Hid (Below w.heap.size w W2) := Lib.hid (up_tr HB.out b2)
        clear HC b2 g0
        go_wp2_with fail
        go_ret
        exact ⟨ret_int HN.out, HT2.out⟩
    · obtain rfl : n = k := by omega
      have HN : Hid ((-1 : Int) = R) := Lib.hid (firstI_end.symm.trans HK.out)
      clear HK
      go_wp2_with fail
      go_ret
      exact ⟨ret_int HN.out, HB.out⟩
set_option maxRecDepth 100000 in
theorem containsZ_calls (g : FuncId) (lb : Array Value) (hE : ∀ args w, (callFunc g args).run Tryd.prog w = .ok (.enter g args) w) (p : Nat → Bool) (ao : Option Addr) (n cap b o : Nat) (hm : n ≤ maxLen) (w : World) (ha : n ≠ 0 → ao = some ⟨b, o, none⟩ ∧ AsksZ w b o n g lb p) :
    Calls Tryd.prog 66 #[.slice ao n cap, .func (.func g) #[] lb] w fun e w' => e = .returned (.bool ((List.range n).any p)) ∧ Below w.heap.size w w' := by
  have HC := Lib.hid (indexZ_calls g lb hE p ao n cap b o hm w ha)
  rw [← firstI_any0]
  generalize firstI p n 0 = R at *
  clear ha
  by_cases h : 0 ≤ R
  · have h2 : R ≥ 0 := h
    rw [decide_eq_true h]
    go_enter Tryd.func66, Tryd.ntmps66
    go_wp2_with fail
    (with_reducible refine HC.out.mono ?_)
    rintro e w1 ⟨rfl, b1⟩
    have HB := Lib.hid b1
    clear b1
    go_wp2_with fail
    go_ret
    exact ⟨rfl, HB.out⟩
  · have h2 := decide_eq_false h
    rw [h2]
    clear h
    go_enter Tryd.func66, Tryd.ntmps66
    go_wp2_with fail
    (with_reducible refine HC.out.mono ?_)
    rintro e w1 ⟨rfl, b1⟩
    have HB := Lib.hid b1
    clear b1
    go_wp2_with fail
    go_ret
    exact ⟨rfl, HB.out⟩
/-- the elements of a row that lies at b, o: each one's cells, and what the function value says of it -/
def AsksF (w : World) (b o n : Nat) (g : FuncId) (lb : Array Value) (p : Nat → Bool) : Prop := b < w.heap.size ∧ ∀ k, k < n → ∃ c0 c1 c2 c3, (w.cell? ⟨b, o + k * 4, none⟩ = some c0 ∧ w.cell? ⟨b, o + k * 4 + 1, none⟩ = some c1 ∧ w.cell? ⟨b, o + k * 4 + 2, none⟩ = some c2 ∧ w.cell? ⟨b, o + k * 4 + 3, none⟩ = some c3) ∧
  ∀ W, Below w.heap.size w W → Calls Tryd.prog g (#[.agg #[c0, c1, c2, c3]] ++ lb) W fun e W' => e = .returned (.bool (p k)) ∧ Below W.heap.size W W'
set_option maxRecDepth 100000 in
set_option maxHeartbeats 2000000 in
theorem indexF_calls (g : FuncId) (lb : Array Value) (hE : ∀ args w, (callFunc g args).run Tryd.prog w = .ok (.enter g args) w) (p : Nat → Bool) (ao : Option Addr) (n cap b o : Nat) (hm : n ≤ maxLen) (w : World) (ha : n ≠ 0 → ao = some ⟨b, o, none⟩ ∧ AsksF w b o n g lb p) :
    Calls Tryd.prog 56 #[.slice ao n cap, .func (.func g) #[] lb] w fun e w' => e = .returned (.int .i64 (firstI p n 0)) ∧ Below w.heap.size w w' := by
  have HA := Lib.hid ha
  obtain ⟨R, hR⟩ : ∃ R, R = firstI p n 0 := ⟨_, rfl⟩
  have HR : Hid (firstI p (n - 0) 0 = R) := Lib.hid (by rw [hR, Nat.sub_zero])
  rw [← hR]
  unfold maxLen at hm
  clear ha hR
  go_enter Tryd.func56, Tryd.ntmps56
  go_wp2_with fail
  go_loopw [5, 8] (fun _ i wr => ∃ k : Nat, k ≤ n ∧ i = .int .i64 k ∧ Hid (firstI p (n - k) k = R) ∧ Hid (Below w.heap.size w wr))
    (fun _ i _ => n - (intOf i).toNat)
  case atStart => exact ⟨0, by omega, rfl, HR, Lib.hid (Below.refl _ _)⟩
  case round =>
    obtain ⟨k, hk, rfl, HK, HB⟩ := hrel
    have hk0 : 0 ≤ (k : Int) := by omega
    by_cases hlt : k < n
    · obtain ⟨rfl, hbb, hrow⟩ := HA.out (by omega)
      have hk1 : (k : Int) < (n : Int) := by omega
      obtain ⟨c0, c1, c2, c3, ⟨h0, h1, h2, h3⟩, hcall⟩ := hrow k hlt
      have HC := Lib.hid (hcall wr HB.out)
      have g0 := (HB.out.cell (p := ⟨b, o + k * 4, none⟩) hbb).trans h0
      have g1 := (HB.out.cell (p := ⟨b, o + k * 4 + 1, none⟩) hbb).trans h1
      have g2 := (HB.out.cell (p := ⟨b, o + k * 4 + 2, none⟩) hbb).trans h2
      have g3 := (HB.out.cell (p := ⟨b, o + k * 4 + 3, none⟩) hbb).trans h3
      clear hrow hcall h0 h1 h2 h3
      cases hp : p k
      · have HN : Hid (firstI p (n - (k + 1)) (k + 1) = R) := Lib.hid ((firstI_no hlt hp).symm.trans HK.out)
        rw [hp] at HC
        clear hp HK
        go_wp2_with fail
        (with_reducible refine HC.out.mono ?_)
        rintro e W2 ⟨rfl, b2⟩
        have HT2 : Hid (Below w.heap.size w W2) := Lib.hid (up_tr HB.out b2)
        clear HC b2 g0 g1 g2 g3
        go_wp2_with fail
        go_roundw
        case rel => exact ⟨k + 1, by omega, by go_num, HN, HT2⟩
        case measure => simp [intOf]; omega
      · have HN : Hid ((k : Int) = R) := Lib.hid ((firstI_yes hlt hp).symm.trans HK.out)
        rw [hp] at HC
        clear hp HK
        go_wp2_with fail
        (with_reducible refine HC.out.mono ?_)
        rintro e W2 ⟨rfl, b2⟩
        have HT2 : Hid (Below w.heap.size w W2) := Lib.hid (up_tr HB.out b2)
        clear HC b2 g0 g1 g2 g3
        go_wp2_with fail
        go_ret
        exact ⟨ret_int HN.out, HT2.out⟩
    · obtain rfl : n = k := by omega
      have HN : Hid ((-1 : Int) = R) := Lib.hid (firstI_end.symm.trans HK.out)
      clear HK
      go_wp2_with fail
      go_ret
      exact ⟨ret_int HN.out, HB.out⟩
set_option maxRecDepth 100000 in
theorem containsF_calls (g : FuncId) (lb : Array Value) (hE : ∀ args w, (callFunc g args).run Tryd.prog w = .ok (.enter g args) w) (p : Nat → Bool) (ao : Option Addr) (n cap b o : Nat) (hm : n ≤ maxLen) (w : World) (ha : n ≠ 0 → ao = some ⟨b, o, none⟩ ∧ AsksF w b o n g lb p) :
    Calls Tryd.prog 38 #[.slice ao n cap, .func (.func g) #[] lb] w fun e w' => e = .returned (.bool ((List.range n).any p)) ∧ Below w.heap.size w w' := by
  have HC := Lib.hid (indexF_calls g lb hE p ao n cap b o hm w ha)
  rw [← firstI_any0]
  generalize firstI p n 0 = R at *
  clear ha
  by_cases h : 0 ≤ R
  · have h2 : R ≥ 0 := h
    rw [decide_eq_true h]
    go_enter Tryd.func38, Tryd.ntmps38
    go_wp2_with fail
    (with_reducible refine HC.out.mono ?_)
    rintro e w1 ⟨rfl, b1⟩
    have HB := Lib.hid b1
    clear b1
    go_wp2_with fail
    go_ret
    exact ⟨rfl, HB.out⟩
  · have h2 := decide_eq_false h
    rw [h2]
    clear h
    go_enter Tryd.func38, Tryd.ntmps38
    go_wp2_with fail
    (with_reducible refine HC.out.mono ?_)
    rintro e w1 ⟨rfl, b1⟩
    have HB := Lib.hid b1
    clear b1
    go_wp2_with fail
    go_ret
    exact ⟨rfl, HB.out⟩
/-- the elements of a row that lies at b, o: each one's cells, and what the function value says of it -/
def AsksFd (w : World) (b o n : Nat) (g : FuncId) (lb : Array Value) (p : Nat → Bool) : Prop := b < w.heap.size ∧ ∀ k, k < n → ∃ c0 c1 c2 c3, (w.cell? ⟨b, o + k * 4, none⟩ = some c0 ∧ w.cell? ⟨b, o + k * 4 + 1, none⟩ = some c1 ∧ w.cell? ⟨b, o + k * 4 + 2, none⟩ = some c2 ∧ w.cell? ⟨b, o + k * 4 + 3, none⟩ = some c3) ∧
  ∀ W, Below w.heap.size w W → Calls Tryd.prog g (#[.agg #[c0, c1, c2, c3]] ++ lb) W fun e W' => e = .returned (.bool (p k)) ∧ Below W.heap.size W W'
set_option maxRecDepth 100000 in
set_option maxHeartbeats 2000000 in
theorem indexFd_calls (g : FuncId) (lb : Array Value) (hE : ∀ args w, (callFunc g args).run Tryd.prog w = .ok (.enter g args) w) (p : Nat → Bool) (ao : Option Addr) (n cap b o : Nat) (hm : n ≤ maxLen) (w : World) (ha : n ≠ 0 → ao = some ⟨b, o, none⟩ ∧ AsksFd w b o n g lb p) :
    Calls Tryd.prog 33 #[.slice ao n cap, .func (.func g) #[] lb] w fun e w' => e = .returned (.int .i64 (firstI p n 0)) ∧ Below w.heap.size w w' := by
  have HA := Lib.hid ha
  obtain ⟨R, hR⟩ : ∃ R, R = firstI p n 0 := ⟨_, rfl⟩
  have HR : Hid (firstI p (n - 0) 0 = R) := Lib.hid (by rw [hR, Nat.sub_zero])
  rw [← hR]
  unfold maxLen at hm
  clear ha hR
  go_enter Tryd.func33, Tryd.ntmps33
  go_wp2_with fail
  go_loopw [5, 8] (fun _ i wr => ∃ k : Nat, k ≤ n ∧ i = .int .i64 k ∧ Hid (firstI p (n - k) k = R) ∧ Hid (Below w.heap.size w wr))
    (fun _ i _ => n - (intOf i).toNat)
  case atStart => exact ⟨0, by omega, rfl, HR, Lib.hid (Below.refl _ _)⟩
  case round =>
    obtain ⟨k, hk, rfl, HK, HB⟩ := hrel
    have hk0 : 0 ≤ (k : Int) := by omega
    by_cases hlt : k < n
    · obtain ⟨rfl, hbb, hrow⟩ := HA.out (by omega)
      have hk1 : (k : Int) < (n : Int) := by omega
      obtain ⟨c0, c1, c2, c3, ⟨h0, h1, h2, h3⟩, hcall⟩ := hrow k hlt
      have HC := Lib.hid (hcall wr HB.out)
      have g0 := (HB.out.cell (p := ⟨b, o + k * 4, none⟩) hbb).trans h0
      have g1 := (HB.out.cell (p := ⟨b, o + k * 4 + 1, none⟩) hbb).trans h1
      have g2 := (HB.out.cell (p := ⟨b, o + k * 4 + 2, none⟩) hbb).trans h2
      have g3 := (HB.out.cell (p := ⟨b, o + k * 4 + 3, none⟩) hbb).trans h3
      clear hrow hcall h0 h1 h2 h3
      cases hp : p k
      · have HN : Hid (firstI p (n - (k + 1)) (k + 1) = R) := Lib.hid ((firstI_no hlt hp).symm.trans HK.out)
        rw [hp] at HC
        clear hp HK
        go_wp2_with fail
        (with_reducible refine HC.out.mono ?_)
        rintro e W2 ⟨rfl, b2⟩
        have HT2 : Hid (Below w.heap.size w W2) := Lib.hid (up_tr HB.out b2)
        clear HC b2 g0 g1 g2 g3
        go_wp2_with fail
        go_roundw
        case rel => exact ⟨k + 1, by omega, by go_num, HN, HT2⟩
        case measure => simp [intOf]; omega
      · have HN : Hid ((k : Int) = R) := Lib.hid ((firstI_yes hlt hp).symm.trans HK.out)
        rw [hp] at HC
        clear hp HK
        go_wp2_with fail
        (with_reducible refine HC.out.mono ?_)
        rintro e W2 ⟨rfl, b2⟩
        have HT2 : Hid (Below w.heap.size w W2) := Lib.hid (up_tr HB.out b2)
        clear HC b2 g0 g1 g2 g3
        go_wp2_with fail
        go_ret
        exact ⟨ret_int HN.out, HT2.out⟩
    · obtain rfl : n = k := by omega
      have HN : Hid ((-1 : Int) = R) := Lib.hid (firstI_end.symm.trans HK.out)
      clear HK
      go_wp2_with fail
      go_ret
      exact ⟨ret_int HN.out, HB.out⟩
/-- the elements of a row that lies at b, o: each one's cells, and what the function value says of it -/
def AsksJ (w : World) (b o n : Nat) (g : FuncId) (lb : Array Value) (p : Nat → Bool) : Prop := b < w.heap.size ∧ ∀ k, k < n → ∃ c0 c1 c2 c3 c4 c5 c6 c7 c8, (w.cell? ⟨b, o + k * 9, none⟩ = some c0 ∧ w.cell? ⟨b, o + k * 9 + 1, none⟩ = some c1 ∧ w.cell? ⟨b, o + k * 9 + 2, none⟩ = some c2 ∧ w.cell? ⟨b, o + k * 9 + 3, none⟩ = some c3 ∧ w.cell? ⟨b, o + k * 9 + 4, none⟩ = some c4 ∧ w.cell? ⟨b, o + k * 9 + 5, none⟩ = some c5 ∧ w.cell? ⟨b, o + k * 9 + 6, none⟩ = some c6 ∧ w.cell? ⟨b, o + k * 9 + 7, none⟩ = some c7 ∧ w.cell? ⟨b, o + k * 9 + 8, none⟩ = some c8) ∧
  ∀ W, Below w.heap.size w W → Calls Tryd.prog g (#[.agg #[c0, c1, c2, c3, c4, c5, c6, c7, c8]] ++ lb) W fun e W' => e = .returned (.bool (p k)) ∧ Below W.heap.size W W'
set_option maxRecDepth 100000 in
set_option maxHeartbeats 2000000 in
theorem indexJ_calls (g : FuncId) (lb : Array Value) (hE : ∀ args w, (callFunc g args).run Tryd.prog w = .ok (.enter g args) w) (p : Nat → Bool) (ao : Option Addr) (n cap b o : Nat) (hm : n ≤ maxLen) (w : World) (ha : n ≠ 0 → ao = some ⟨b, o, none⟩ ∧ AsksJ w b o n g lb p) :
    Calls Tryd.prog 67 #[.slice ao n cap, .func (.func g) #[] lb] w fun e w' => e = .returned (.int .i64 (firstI p n 0)) ∧ Below w.heap.size w w' := by
  have HA := Lib.hid ha
  obtain ⟨R, hR⟩ : ∃ R, R = firstI p n 0 := ⟨_, rfl⟩
  have HR : Hid (firstI p (n - 0) 0 = R) := Lib.hid (by rw [hR, Nat.sub_zero])
  rw [← hR]
  unfold maxLen at hm
  clear ha hR
  go_enter Tryd.func67, Tryd.ntmps67
  go_wp2_with fail
  go_loopw [5, 8] (fun _ i wr => ∃ k : Nat, k ≤ n ∧ i = .int .i64 k ∧ Hid (firstI p (n - k) k = R) ∧ Hid (Below w.heap.size w wr))
    (fun _ i _ => n - (intOf i).toNat)
  case atStart => exact ⟨0, by omega, rfl, HR, Lib.hid (Below.refl _ _)⟩
  case round =>
    obtain ⟨k, hk, rfl, HK, HB⟩ := hrel
    have hk0 : 0 ≤ (k : Int) := by omega
    by_cases hlt : k < n
    · obtain ⟨rfl, hbb, hrow⟩ := HA.out (by omega)
      have hk1 : (k : Int) < (n : Int) := by omega
      obtain ⟨c0, c1, c2, c3, c4, c5, c6, c7, c8, ⟨h0, h1, h2, h3, h4, h5, h6, h7, h8⟩, hcall⟩ := hrow k hlt
      have HC := Lib.hid (hcall wr HB.out)
      have g0 := (HB.out.cell (p := ⟨b, o + k * 9, none⟩) hbb).trans h0
      have g1 := (HB.out.cell (p := ⟨b, o + k * 9 + 1, none⟩) hbb).trans h1
      have g2 := (HB.out.cell (p := ⟨b, o + k * 9 + 2, none⟩) hbb).trans h2
      have g3 := (HB.out.cell (p := ⟨b, o + k * 9 + 3, none⟩) hbb).trans h3
      have g4 := (HB.out.cell (p := ⟨b, o + k * 9 + 4, none⟩) hbb).trans h4
      have g5 := (HB.out.cell (p := ⟨b, o + k * 9 + 5, none⟩) hbb).trans h5
      have g6 := (HB.out.cell (p := ⟨b, o + k * 9 + 6, none⟩) hbb).trans h6
      have g7 := (HB.out.cell (p := ⟨b, o + k * 9 + 7, none⟩) hbb).trans h7
      have g8 := (HB.out.cell (p := ⟨b, o + k * 9 + 8, none⟩) hbb).trans h8
      clear hrow hcall h0 h1 h2 h3 h4 h5 h6 h7 h8
      cases hp : p k
      · have HN : Hid (firstI p (n - (k + 1)) (k + 1) = R) := Lib.hid ((firstI_no hlt hp).symm.trans HK.out)
        rw [hp] at HC
        clear hp HK
        go_wp2_with fail
        (with_reducible refine HC.out.mono ?_)
        rintro e W2 ⟨rfl, b2⟩
        have HT2 : Hid (Below w.heap.size w W2) := Lib.hid (up_tr HB.out b2)
        clear HC b2 g0 g1 g2 g3 g4 g5 g6 g7 g8
        go_wp2_with fail
        go_roundw
        case rel => exact ⟨k + 1, by omega, by go_num, HN, HT2⟩
        case measure => simp [intOf]; omega
      · have HN : Hid ((k : Int) = R) := Lib.hid ((firstI_yes hlt hp).symm.trans HK.out)
        rw [hp] at HC
        clear hp HK
        go_wp2_with fail
        (with_reducible refine HC.out.mono ?_)
        rintro e W2 ⟨rfl, b2⟩
        have HT2 : Hid (Below w.heap.size w W2) := Lib.hid (up_tr HB.out b2)
        clear HC b2 g0 g1 g2 g3 g4 g5 g6 g7 g8
        go_wp2_with fail
        go_ret
        exact ⟨ret_int HN.out, HT2.out⟩
    · obtain rfl : n = k := by omega
      have HN : Hid ((-1 : Int) = R) := Lib.hid (firstI_end.symm.trans HK.out)
      clear HK
      go_wp2_with fail
      go_ret
      exact ⟨ret_int HN.out, HB.out⟩
set_option maxRecDepth 100000 in
theorem containsJ_calls (g : FuncId) (lb : Array Value) (hE : ∀ args w, (callFunc g args).run Tryd.prog w = .ok (.enter g args) w) (p : Nat → Bool) (ao : Option Addr) (n cap b o : Nat) (hm : n ≤ maxLen) (w : World) (ha : n ≠ 0 → ao = some ⟨b, o, none⟩ ∧ AsksJ w b o n g lb p) :
    Calls Tryd.prog 55 #[.slice ao n cap, .func (.func g) #[] lb] w fun e w' => e = .returned (.bool ((List.range n).any p)) ∧ Below w.heap.size w w' := by
  have HC := Lib.hid (indexJ_calls g lb hE p ao n cap b o hm w ha)
  rw [← firstI_any0]
  generalize firstI p n 0 = R at *
  clear ha
  by_cases h : 0 ≤ R
  · have h2 : R ≥ 0 := h
    rw [decide_eq_true h]
    go_enter Tryd.func55, Tryd.ntmps55
    go_wp2_with fail
    (with_reducible refine HC.out.mono ?_)
    rintro e w1 ⟨rfl, b1⟩
    have HB := Lib.hid b1
    clear b1
    go_wp2_with fail
    go_ret
    exact ⟨rfl, HB.out⟩
  · have h2 := decide_eq_false h
    rw [h2]
    clear h
    go_enter Tryd.func55, Tryd.ntmps55
    go_wp2_with fail
    (with_reducible refine HC.out.mono ?_)
    rintro e w1 ⟨rfl, b1⟩
    have HB := Lib.hid b1
    clear b1
    go_wp2_with fail
    go_ret
    exact ⟨rfl, HB.out⟩
/-- the elements of a row that lies at b, o: each one's cells, and what the function value says of it -/
def AsksI (w : World) (b o n : Nat) (g : FuncId) (lb : Array Value) (p : Nat → Bool) : Prop := b < w.heap.size ∧ ∀ k, k < n → ∃ c0 c1 c2 c3 c4 c5 c6 c7 c8 c9 c10 c11 c12 c13 c14 c15, (w.cell? ⟨b, o + k * 16, none⟩ = some c0 ∧ w.cell? ⟨b, o + k * 16 + 1, none⟩ = some c1 ∧ w.cell? ⟨b, o + k * 16 + 2, none⟩ = some c2 ∧ w.cell? ⟨b, o + k * 16 + 3, none⟩ = some c3 ∧ w.cell? ⟨b, o + k * 16 + 4, none⟩ = some c4 ∧ w.cell? ⟨b, o + k * 16 + 5, none⟩ = some c5 ∧ w.cell? ⟨b, o + k * 16 + 6, none⟩ = some c6 ∧ w.cell? ⟨b, o + k * 16 + 7, none⟩ = some c7 ∧ w.cell? ⟨b, o + k * 16 + 8, none⟩ = some c8 ∧ w.cell? ⟨b, o + k * 16 + 9, none⟩ = some c9 ∧ w.cell? ⟨b, o + k * 16 + 10, none⟩ = some c10 ∧ w.cell? ⟨b, o + k * 16 + 11, none⟩ = some c11 ∧ w.cell? ⟨b, o + k * 16 + 12, none⟩ = some c12 ∧ w.cell? ⟨b, o + k * 16 + 13, none⟩ = some c13 ∧ w.cell? ⟨b, o + k * 16 + 14, none⟩ = some c14 ∧ w.cell? ⟨b, o + k * 16 + 15, none⟩ = some c15) ∧
  ∀ W, Below w.heap.size w W → Calls Tryd.prog g (#[.agg #[c0, c1, c2, c3, c4, c5, c6, c7, c8, c9, c10, c11, c12, c13, c14, c15]] ++ lb) W fun e W' => e = .returned (.bool (p k)) ∧ Below W.heap.size W W'
set_option maxRecDepth 100000 in
set_option maxHeartbeats 2000000 in
theorem indexI_calls (g : FuncId) (lb : Array Value) (hE : ∀ args w, (callFunc g args).run Tryd.prog w = .ok (.enter g args) w) (p : Nat → Bool) (ao : Option Addr) (n cap b o : Nat) (hm : n ≤ maxLen) (w : World) (ha : n ≠ 0 → ao = some ⟨b, o, none⟩ ∧ AsksI w b o n g lb p) :
    Calls Tryd.prog 32 #[.slice ao n cap, .func (.func g) #[] lb] w fun e w' => e = .returned (.int .i64 (firstI p n 0)) ∧ Below w.heap.size w w' := by
  have HA := Lib.hid ha
  obtain ⟨R, hR⟩ : ∃ R, R = firstI p n 0 := ⟨_, rfl⟩
  have HR : Hid (firstI p (n - 0) 0 = R) := Lib.hid (by rw [hR, Nat.sub_zero])
  rw [← hR]
  unfold maxLen at hm
  clear ha hR
  go_enter Tryd.func32, Tryd.ntmps32
  go_wp2_with fail
  go_loopw [5, 8] (fun _ i wr => ∃ k : Nat, k ≤ n ∧ i = .int .i64 k ∧ Hid (firstI p (n - k) k = R) ∧ Hid (Below w.heap.size w wr))
    (fun _ i _ => n - (intOf i).toNat)
  case atStart => exact ⟨0, by omega, rfl, HR, Lib.hid (Below.refl _ _)⟩
  case round =>
    obtain ⟨k, hk, rfl, HK, HB⟩ := hrel
    have hk0 : 0 ≤ (k : Int) := by omega
    by_cases hlt : k < n
    · obtain ⟨rfl, hbb, hrow⟩ := HA.out (by omega)
      have hk1 : (k : Int) < (n : Int) := by omega
      obtain ⟨c0, c1, c2, c3, c4, c5, c6, c7, c8, c9, c10, c11, c12, c13, c14, c15, ⟨h0, h1, h2, h3, h4, h5, h6, h7, h8, h9, h10, h11, h12, h13, h14, h15⟩, hcall⟩ := hrow k hlt
      have HC := Lib.hid (hcall wr HB.out)
      have g0 := (HB.out.cell (p := ⟨b, o + k * 16, none⟩) hbb).trans h0
      have g1 := (HB.out.cell (p := ⟨b, o + k * 16 + 1, none⟩) hbb).trans h1
      have g2 := (HB.out.cell (p := ⟨b, o + k * 16 + 2, none⟩) hbb).trans h2
      have g3 := (HB.out.cell (p := ⟨b, o + k * 16 + 3, none⟩) hbb).trans h3
      have g4 := (HB.out.cell (p := ⟨b, o + k * 16 + 4, none⟩) hbb).trans h4
      have g5 := (HB.out.cell (p := ⟨b, o + k * 16 + 5, none⟩) hbb).trans h5
      have g6 := (HB.out.cell (p := ⟨b, o + k * 16 + 6, none⟩) hbb).trans h6
      have g7 := (HB.out.cell (p := ⟨b, o + k * 16 + 7, none⟩) hbb).trans h7
      have g8 := (HB.out.cell (p := ⟨b, o + k * 16 + 8, none⟩) hbb).trans h8
      have g9 := (HB.out.cell (p := ⟨b, o + k * 16 + 9, none⟩) hbb).trans h9
      have g10 := (HB.out.cell (p := ⟨b, o + k * 16 + 10, none⟩) hbb).trans h10
      have g11 := (HB.out.cell (p := ⟨b, o + k * 16 + 11, none⟩) hbb).trans h11
      have g12 := (HB.out.cell (p := ⟨b, o + k * 16 + 12, none⟩) hbb).trans h12
      have g13 := (HB.out.cell (p := ⟨b, o + k * 16 + 13, none⟩) hbb).trans h13
      have g14 := (HB.out.cell (p := ⟨b, o + k * 16 + 14, none⟩) hbb).trans h14
      have g15 := (HB.out.cell (p := ⟨b, o + k * 16 + 15, none⟩) hbb).trans h15
      clear hrow hcall h0 h1 h2 h3 h4 h5 h6 h7 h8 h9 h10 h11 h12 h13 h14 h15
      cases hp : p k
      · have HN : Hid (firstI p (n - (k + 1)) (k + 1) = R) := Lib.hid ((firstI_no hlt hp).symm.trans HK.out)
        rw [hp] at HC
        clear hp HK
        go_wp2_with fail
        (with_reducible refine HC.out.mono ?_)
        rintro e W2 ⟨rfl, b2⟩
        have HT2 : Hid (Below w.heap.size w W2) := Lib.hid (up_tr HB.out b2)
        clear HC b2 g0 g1 g2 g3 g4 g5 g6 g7 g8 g9 g10 g11 g12 g13 g14 g15
        go_wp2_with fail
        go_roundw
        case rel => exact ⟨k + 1, by omega, by go_num, HN, HT2⟩
        case measure => simp [intOf]; omega
      · have HN : Hid ((k : Int) = R) := Lib.hid ((firstI_yes hlt hp).symm.trans HK.out)
        rw [hp] at HC
        clear hp HK
        go_wp2_with fail
        (with_reducible refine HC.out.mono ?_)
        rintro e W2 ⟨rfl, b2⟩
        have HT2 : Hid (Below w.heap.size w W2) := Lib.hid (up_tr HB.out b2)
        clear HC b2 g0 g1 g2 g3 g4 g5 g6 g7 g8 g9 g10 g11 g12 g13 g14 g15
        go_wp2_with fail
        go_ret
        exact ⟨ret_int HN.out, HT2.out⟩
    · obtain rfl : n = k := by omega
      have HN : Hid ((-1 : Int) = R) := Lib.hid (firstI_end.symm.trans HK.out)
      clear HK
      go_wp2_with fail
      go_ret
      exact ⟨ret_int HN.out, HB.out⟩
set_option maxRecDepth 100000 in
theorem containsI_calls (g : FuncId) (lb : Array Value) (hE : ∀ args w, (callFunc g args).run Tryd.prog w = .ok (.enter g args) w) (p : Nat → Bool) (ao : Option Addr) (n cap b o : Nat) (hm : n ≤ maxLen) (w : World) (ha : n ≠ 0 → ao = some ⟨b, o, none⟩ ∧ AsksI w b o n g lb p) :
    Calls Tryd.prog 35 #[.slice ao n cap, .func (.func g) #[] lb] w fun e w' => e = .returned (.bool ((List.range n).any p)) ∧ Below w.heap.size w w' := by
  have HC := Lib.hid (indexI_calls g lb hE p ao n cap b o hm w ha)
  rw [← firstI_any0]
  generalize firstI p n 0 = R at *
  clear ha
  by_cases h : 0 ≤ R
  · have h2 : R ≥ 0 := h
    rw [decide_eq_true h]
    go_enter Tryd.func35, Tryd.ntmps35
    go_wp2_with fail
    (with_reducible refine HC.out.mono ?_)
    rintro e w1 ⟨rfl, b1⟩
    have HB := Lib.hid b1
    clear b1
    go_wp2_with fail
    go_ret
    exact ⟨rfl, HB.out⟩
  · have h2 := decide_eq_false h
    rw [h2]
    clear h
    go_enter Tryd.func35, Tryd.ntmps35
    go_wp2_with fail
    (with_reducible refine HC.out.mono ?_)
    rintro e w1 ⟨rfl, b1⟩
    have HB := Lib.hid b1
    clear b1
    go_wp2_with fail
    go_ret
    exact ⟨rfl, HB.out⟩
end Go.Proofs.YtlbdoomknjiilaaDoor
