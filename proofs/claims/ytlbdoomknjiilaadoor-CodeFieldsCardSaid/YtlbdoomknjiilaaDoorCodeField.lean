/- code.Field. -/
import Derived.Test.YtlbdoomknjiilaaDoorCodeHas
import Derived.Test.YtlbdoomknjiilaaDoorCodeUnit
import Derived.Shelf.Abstract
import Derived.OwnWalk
import Derived.Deep.Cut
import Derived.Deep.CutRange
namespace Go.Proofs.YtlbdoomknjiilaaDoor
open Go.RowKit
set_option linter.unusedVariables false

theorem firstI_cases (p : Nat → Bool) (m k : Nat) : firstI p m k = -1 ∨ ∃ j, k ≤ j ∧ j < k + m ∧ p j = true ∧ firstI p m k = j := by
  induction m generalizing k with
  | zero => exact .inl rfl
  | succ m ih =>
    rw [firstI]
    by_cases h : p k = true
    · rw [if_pos h]; exact .inr ⟨k, by omega, by omega, h, rfl⟩
    · rw [if_neg h]
      rcases ih (k + 1) with h1 | ⟨j, h1, h2, h3, h4⟩
      · exact .inl h1
      · exact .inr ⟨j, by omega, by omega, h3, h4⟩
def isS (nm : ByteArray) (t : TT) : Bool := decide (t.kind = 1) && decide (keyS t.name = keyS nm)
def isFd (fd : ByteArray) (s : ByteArray) : Bool := decide (keyS s = keyS fd)
/-- the number of the field of that name of the first struct of that name -/
def fieldNo (u : UU) (nm fd : ByteArray) : Int :=
  match u.types[(firstI (pOf u.types (isS nm)) u.types.length 0).toNat]? with
  | some t => if 0 ≤ firstI (pOf u.types (isS nm)) u.types.length 0 then firstI (pOf t.fields (isFd fd)) t.fields.length 0 else -1
  | none => -1
theorem entersF1 : ∀ args w, (callFunc 30 args).run Tryd.prog w = .ok (.enter 30 args) w := enters_of Tryd.func30 (by kernel_rfl) rfl
theorem entersF2 : ∀ args w, (callFunc 31 args).run Tryd.prog w = .ok (.enter 31 args) w := enters_of Tryd.func31 (by kernel_rfl) rfl
theorem fieldS_calls (x : TT) (v : VT) (s : ByteArray) (g : Nat) (w : World) (h : w.cell? ⟨g, 0, none⟩ = some (.string s)) :
    Calls Tryd.prog 30 #[x.val v, .pointer (some ⟨g, 0, none⟩)] w fun e w' => e = .returned (.bool (isS s x)) ∧ Below w.heap.size w w' := by
  obtain ⟨f, k3, s4, a5, n5, c5, a6, n6, c6, k7, i8, s9, s10, s11, a12, n12, c12, a13, n13, c13, i14, i15⟩ := v
  unfold TT.val isS
  dsimp only
  have hlt := World.block_lt_of_cell? w _ h
  generalize x.kind = kd
  generalize x.name = sx
  by_cases hk : kd = 1
  · subst hk
    rw [decide_eq_true rfl, Bool.true_and]
    by_cases ht : keyS sx = keyS s
    · have e2 := str_eq ht
      rw [decide_eq_true ht]
      clear ht
      go_enter Tryd.func30, Tryd.ntmps30
      go_wp2_with fail
      go_ret
      exact ⟨rfl, box1 _ _⟩
    · have e2 := str_ne ht
      rw [decide_eq_false ht]
      clear ht
      go_enter Tryd.func30, Tryd.ntmps30
      go_wp2_with fail
      go_ret
      exact ⟨rfl, box1 _ _⟩
  · have e1 : (kd == 1) = false := by simpa using hk
    rw [decide_eq_false hk, Bool.false_and]
    clear hk
    go_enter Tryd.func30, Tryd.ntmps30
    go_wp2_with fail
    go_ret
    exact ⟨rfl, box1 _ _⟩
theorem fieldF_calls (x : ByteArray) (v : VFd) (s : ByteArray) (g : Nat) (w : World) (h : w.cell? ⟨g, 0, none⟩ = some (.string s)) :
    Calls Tryd.prog 31 #[fieldVal x v, .pointer (some ⟨g, 0, none⟩)] w fun e w' => e = .returned (.bool (isFd s x)) ∧ Below w.heap.size w w' := by
  obtain ⟨r1, r2, r3⟩ := v
  unfold fieldVal isFd
  dsimp only
  have hlt := World.block_lt_of_cell? w _ h
  by_cases ht : keyS x = keyS s
  · have e2 := str_eq ht
    rw [decide_eq_true ht]
    clear ht
    go_enter Tryd.func31, Tryd.ntmps31
    go_wp2_with fail
    go_ret
    exact ⟨rfl, box1 _ _⟩
  · have e2 := str_ne ht
    rw [decide_eq_false ht]
    clear ht
    go_enter Tryd.func31, Tryd.ntmps31
    go_wp2_with fail
    go_ret
    exact ⟨rfl, box1 _ _⟩
set_option maxRecDepth 100000 in
set_option maxHeartbeats 4000000 in
theorem field0_walk (a1 a2 : Option Addr) (n1 n2 c1 c2 : Nat) (mn : Int) (nm fd : ByteArray) (w : World) (i n : Int) (hm : n2 ≤ maxLen)
    (K0 : Hid (∀ W, Hid (Below w.heap.size w W) → Hid (W.cell? ⟨w.heap.size + 1, 0, none⟩ = some (.string nm)) → Calls Tryd.prog 32 #[.slice a2 n2 c2, .func (.func 30) #[] #[.pointer (some ⟨w.heap.size + 1, 0, none⟩)]] W fun e w' => e = .returned (.int .i64 i) ∧ Below W.heap.size W w'))
    (hi : i = -1 ∨ ∃ (j b o : Nat) (fa : Option Addr) (m fc : Nat), i = j ∧ j < n2 ∧ a2 = some ⟨b, o, none⟩ ∧ w.cell? ⟨b, o + j * 16 + 2, none⟩ = some (.slice fa m fc) ∧
      Hid (∀ W, Hid (Below w.heap.size w W) → Hid (W.cell? ⟨w.heap.size + 2, 0, none⟩ = some (.string fd)) → Calls Tryd.prog 33 #[.slice fa m fc, .func (.func 31) #[] #[.pointer (some ⟨w.heap.size + 2, 0, none⟩)]] W fun e w' => e = .returned (.int .i64 n) ∧ Below W.heap.size W w'))
    (hn : i = -1 → n = -1) (hn2 : n = -1 ∨ 0 ≤ n) :
    Calls Tryd.prog 17 #[.agg #[.slice a1 n1 c1, .int .i64 mn, .slice a2 n2 c2], .string nm, .string fd] w fun e w' => e = .returned (.tuple #[.int .i64 (max n 0), .bool (decide (0 ≤ n))]) ∧ Below w.heap.size w w' := by
  unfold maxLen at hm
  obtain ⟨W0, hW⟩ : ∃ W, W = ((w.alloc (.cells #[.slice a1 n1 c1, .int .i64 mn, .slice a2 n2 c2] 25)).alloc (.cells #[.string nm] 9)).alloc (.cells #[.string fd] 9) := ⟨_, rfl⟩
  have mB : Hid (Below w.heap.size w W0) := by rw [hW]; exact Lib.hid ((box2 w _ _).alloc (by simp; omega) _)
  have y2 : W0.cell? ⟨w.heap.size, 2, none⟩ = some (.slice a2 n2 c2) := by rw [hW]; go_simp
  have m1 : Hid (W0.cell? ⟨w.heap.size + 1, 0, none⟩ = some (.string nm)) := Lib.hid (by rw [hW]; go_simp)
  have m2 : W0.cell? ⟨w.heap.size + 2, 0, none⟩ = some (.string fd) := by rw [hW]; go_simp
  have hE := entersF1
  have hE2 := entersF2
  rcases hi with rfl | ⟨j, b, o, fa, m, fc, rfl, hj, rfl, hc, K1⟩
  · obtain rfl := hn rfl
    clear hn hn2
    go_enter Tryd.func17, Tryd.ntmps17
    go_upto_region 1 with (fail)
    rw [← hW]
    clear hW
    go_wp2_with fail
    (with_reducible refine (K0.out _ mB m1).mono ?_)
    rintro e w1 ⟨rfl, b1⟩
    have H1 := Lib.hid (mB.out.trans (b1.mono mB.out.size))
    clear b1
    go_wp2_with fail
    go_ret2
    exact ⟨rfl, H1.out⟩
  · have hj0 : 0 ≤ (j : Int) := by omega
    have hj1 : (j : Int) < (n2 : Int) := by omega
    have hjn : ¬ (j : Int) < 0 := by omega
    have q2 := cell_over hc mB.out
    clear hn
    rcases hn2 with rfl | hn0
    · go_enter Tryd.func17, Tryd.ntmps17
      go_upto_region 1 with (fail)
      rw [← hW]
      clear hW
      go_wp2_with fail
      (with_reducible refine (K0.out _ mB m1).mono ?_)
      rintro e w1 ⟨rfl, b1⟩
      have H1 := Lib.hid (mB.out.trans (b1.mono mB.out.size))
      have y2 := cell_over y2 b1
      have q2 := cell_over q2 b1
      have m2 := Lib.hid (cell_over m2 b1)
      clear b1
      go_wp2_with fail
      (with_reducible refine (K1.out _ H1 m2).mono ?_)
      rintro e w2 ⟨rfl, b2⟩
      have H2 := Lib.hid (H1.out.trans (b2.mono H1.out.size))
      clear b2
      go_wp2_with fail
      go_ret2
      exact ⟨rfl, H2.out⟩
    · go_enter Tryd.func17, Tryd.ntmps17
      go_upto_region 1 with (fail)
      rw [← hW]
      clear hW
      go_wp2_with fail
      (with_reducible refine (K0.out _ mB m1).mono ?_)
      rintro e w1 ⟨rfl, b1⟩
      have H1 := Lib.hid (mB.out.trans (b1.mono mB.out.size))
      have y2 := cell_over y2 b1
      have q2 := cell_over q2 b1
      have m2 := Lib.hid (cell_over m2 b1)
      clear b1
      go_wp2_with fail
      (with_reducible refine (K1.out _ H1 m2).mono ?_)
      rintro e w2 ⟨rfl, b2⟩
      have H2 := Lib.hid (H1.out.trans (b2.mono H1.out.size))
      clear b2
      go_wp2_with fail
      go_ret2
      exact ⟨by rw [decide_eq_true hn0, Int.max_eq_left hn0]; rfl, H2.out⟩
theorem field_calls (B : Nat) (u : UU) (vu : VU) (nm fd : ByteArray) (w : World) (hB : B ≤ w.heap.size) (hu : u.In B w vu) :
    Calls Tryd.prog 17 #[u.val vu, .string nm, .string fd] w fun e w' => e = .returned (.tuple #[.int .i64 (max (fieldNo u nm fd) 0), .bool (decide (0 ≤ fieldNo u nm fd))]) ∧ Below w.heap.size w w' := by
  have K0 := fun (W : World) (h : Hid (Below w.heap.size w W)) (hc : Hid (W.cell? ⟨w.heap.size + 1, 0, none⟩ = some (.string nm))) => indexLI_calls B 30 #[.pointer (some ⟨w.heap.size + 1, 0, none⟩)] entersF1 (isS nm) u.types vu.t W (Nat.le_trans hB h.out.size) (hu.below (h.out.mono hB)).2
    fun x v _ _ W' hW' => fieldS_calls x v nm (w.heap.size + 1) W' (cell_over hc.out hW')
  have K1 := fun (t : TT) (vt : VT) (ht : t.In B w vt) (W : World) (h : Hid (Below w.heap.size w W)) (hc : Hid (W.cell? ⟨w.heap.size + 2, 0, none⟩ = some (.string fd))) => indexLFd_calls B 31 #[.pointer (some ⟨w.heap.size + 2, 0, none⟩)] entersF2 (isFd fd) t.fields vt.f W (Nat.le_trans hB h.out.size) (ht.2.2.below (h.out.mono hB))
    fun x v _ W' hW' => fieldF_calls x v fd (w.heap.size + 2) W' (cell_over hc.out hW')
  obtain ⟨a1, c1, a2, c2, rfl⟩ := hu.shape
  obtain ⟨_, hm, _, b, o, hb, hr⟩ := GIn.at hu.2
  unfold UU.val
  dsimp only
  refine field0_walk a1 a2 _ _ c1 c2 _ nm fd w _ (fieldNo u nm fd) hm (Lib.hid K0) ?_ ?_ ?_
  · rcases firstI_cases (pOf u.types (isS nm)) u.types.length 0 with h | ⟨j, _, hj, _, h⟩
    · exact .inl h
    · rw [Nat.zero_add] at hj
      obtain ⟨rfl, hbB⟩ := hb (by omega)
      obtain ⟨t, ht, _⟩ := get_at (l := u.types) (k := j) hj
      obtain ⟨vt, hcs, hti⟩ := hr j t ht
      have e : fieldNo u nm fd = firstI (pOf t.fields (isFd fd)) t.fields.length 0 := by
        unfold fieldNo
        rw [h, Int.toNat_natCast, ht]
        simp only
        rw [if_pos (by omega)]
      have K := K1 t vt hti
      obtain ⟨fa, fc, hfv⟩ := GIn.shape hti.2.2
      rw [hfv] at K
      refine .inr ⟨j, b, o, fa, t.fields.length, fc, h, hj, rfl, ?_, Lib.hid ?_⟩
      · rw [← hfv]; exact hcs 2 _ rfl
      · rw [e]; exact K
  · intro h
    unfold fieldNo
    split
    · rw [if_neg (by omega)]
    · rfl
  · unfold fieldNo
    split
    · split
      · rcases firstI_cases (pOf _ (isFd fd)) _ 0 with h | ⟨j, _, _, _, h⟩
        · exact .inl h
        · exact .inr (by rw [h]; omega)
      · exact .inl rfl
    · exact .inl rfl
end Go.Proofs.YtlbdoomknjiilaaDoor
