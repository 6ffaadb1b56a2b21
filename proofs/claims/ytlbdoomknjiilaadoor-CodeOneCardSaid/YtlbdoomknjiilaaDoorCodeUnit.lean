/- Code: mayFuncs, Instr. -/
import Derived.Test.YtlbdoomknjiilaaDoorCodeFunc
import Derived.Deep.QuietTactic
import Derived.BigQuiet
import Derived.Deep.RegionHeld3
namespace Go.Proofs.YtlbdoomknjiilaaDoor
open Go.RowKit
set_option linter.unusedVariables false

theorem enters4 : ∀ args w, (callFunc 36 args).run Tryd.prog w = .ok (.enter 36 args) w := enters_of Tryd.func36 (by kernel_rfl) rfl
/-- a box that holds a unit -/
def UnitAt (w : World) (g : Nat) (u : UU) (vu : VU) : Prop := At w g 0 (u.cells vu)
theorem UnitAt.lt {w : World} {g : Nat} {u : UU} {vu : VU} (h : UnitAt w g u vu) : g < w.heap.size := World.block_lt_of_cell? w _ (h 0 _ rfl)
theorem UnitAt.up {w W : World} {g : Nat} {u : UU} {vu : VU} (h : UnitAt w g u vu) (k : Below w.heap.size w W) : UnitAt W g u vu := At.below h h.lt k
def UU.val (u : UU) (vu : VU) : Value := .agg #[vu.f, .int .i64 u.main, vu.t]
set_option maxRecDepth 100000 in
set_option maxHeartbeats 1000000 in
theorem mayFuncs1_calls (B : Nat) (u : UU) (vu : VU) (f : FF) (vc : Value) (g : Nat) (w : World) (hB : B ≤ w.heap.size) (hu : u.In B w vu) (hf : f.In B w vc) (hne : u.funcs ≠ []) (hT : RTab w.heap.size w) (hg : UnitAt w g u vu) :
    Calls Tryd.prog 36 #[f.val vc, .pointer (some ⟨g, 0, none⟩)] w fun e w' => e = .returned (.bool (!mayF u f)) ∧ Below w.heap.size w w' := by
  have HC := Lib.hid fun (W : World) (h : Below w.heap.size w W) => mayFunc_calls B u vu f vc W (Nat.le_trans hB h.size) (hu.below (h.mono hB)) (hf.below (h.mono hB)) hne (hT.up h)
  have hlt := hg.lt
  have k0 : w.cell? ⟨g, 0, none⟩ = some vu.f := hg 0 _ rfl
  have k1 : w.cell? ⟨g, 1, none⟩ = some (.int .i64 u.main) := hg 1 _ rfl
  have k2 : w.cell? ⟨g, 2, none⟩ = some vu.t := hg 2 _ rfl
  obtain ⟨a1, c1, a2, c2, rfl⟩ := hu.shape
  obtain ⟨a3, c3, rfl⟩ := GIn.shape hf.2
  unfold siteV at HC
  unfold FF.val
  dsimp only at HC k0 k1 k2 ⊢
  generalize mayF u f = r at *
  generalize u.main = mn at *
  generalize u.funcs.length = n1 at *
  generalize u.types.length = n2 at *
  generalize f.name = fn at *
  generalize f.params = pa at *
  generalize f.slots = sl at *
  generalize f.code.length = n3 at *
  have b0 := box1 w (.cells #[.string fn, .int .i64 pa, .int .i64 sl, .slice a3 n3 c3] 45)
  clear hg hu hf
  go_enter Tryd.func36, Tryd.ntmps36
  go_wp2_with fail
  (with_reducible refine (HC.out _ b0).mono ?_)
  rintro e w1 ⟨rfl, b1⟩
  have HB := Lib.hid (up_tr b0 b1)
  clear b1
  go_wp2_with fail
  go_ret
  exact ⟨rfl, HB.out⟩

set_option maxRecDepth 100000 in
set_option maxHeartbeats 4000000 in
theorem mayFuncs0_walk (a1 a2 : Option Addr) (n1 n2 c1 c2 : Nat) (mn : Int) (t5 : Bool) (w : World) (b o : Nat) (pm : Int)
    (hp : 0 ≤ mn ∧ mn < n1 → a1 = some ⟨b, o, none⟩ ∧ b < w.heap.size ∧ w.cell? ⟨b, o + mn.toNat * 4 + 1, none⟩ = some (.int .i64 pm)) (hm : n1 ≤ maxLen)
    (K0 : Hid (∀ W, Calls Tryd.prog 25 #[.int .i64 mn, .slice a1 n1 c1] W fun e w' => e = .returned (.bool (decide (0 ≤ mn) && decide (mn < n1))) ∧ W = w'))
    (K5 : n1 ≠ 0 → Hid (∀ (W : World), Hid (Below w.heap.size w W) → Hid (At W w.heap.size 0 [.slice a1 n1 c1, .int .i64 mn, .slice a2 n2 c2]) →
      Calls Tryd.prog 38 #[.slice a1 n1 c1, .func (.func 36) #[] #[.pointer (some ⟨w.heap.size, 0, none⟩)]] W fun e w' => e = .returned (.bool t5) ∧ Below W.heap.size W w')) :
    Calls Tryd.prog 21 #[.agg #[.slice a1 n1 c1, .int .i64 mn, .slice a2 n2 c2]] w fun e w' =>
      e = .returned (.bool (decide (n1 ≤ 200) && ((decide (0 ≤ mn) && (decide (mn < n1) && decide (pm = 0))) && !t5))) ∧ Below w.heap.size w w' := by
  unfold maxLen at hm
  have mB := Lib.hid (box1 w (.cells #[.slice a1 n1 c1, .int .i64 mn, .slice a2 n2 c2] 25))
  have mA : Hid (At (w.alloc (.cells #[.slice a1 n1 c1, .int .i64 mn, .slice a2 n2 c2] 25)) w.heap.size 0 [.slice a1 n1 c1, .int .i64 mn, .slice a2 n2 c2]) := Lib.hid (by
    intro i v hi
    match i, hi with
    | 0, hi => cases hi; go_simp
    | 1, hi => cases hi; go_simp
    | 2, hi => cases hi; go_simp)
  have hE := enters4
  by_cases h1 : n1 ≤ 200
  · have e1 : decide (200 < (n1 : Int)) = false := decide_eq_false (by omega)
    rw [decide_eq_true h1]
    by_cases h2 : 0 ≤ mn ∧ mn < n1
    · obtain ⟨rfl, hb, hc⟩ := hp h2
      obtain ⟨h2a, h2b⟩ := h2
      rw [decide_eq_true h2a, decide_eq_true h2b] at K0 ⊢
      obtain ⟨k, rfl⟩ : ∃ k : Nat, mn = k := ⟨mn.toNat, by omega⟩
      rw [Int.toNat_natCast] at hc
      have K5 := K5 (by omega)
      by_cases h3 : pm = 0
      · subst h3
        rw [decide_eq_true rfl]
        clear hp h1
        go_enter Tryd.func21, Tryd.ntmps21
        go_wp2_with (go_at_call 25; (with_reducible refine (K0.out _).mono ?_); rintro e w1 ⟨rfl, rfl⟩)
        (with_reducible refine (K5.out _ mB mA).mono ?_)
        rintro e w1 ⟨rfl, b1⟩
        have HB := Lib.hid (up_tr mB.out b1)
        clear b1
        go_wp2_with fail
        go_ret
        exact ⟨rfl, HB.out⟩
      · have e3 : (pm != 0) = true := by simpa using h3
        rw [decide_eq_false h3]
        clear hp h1 h3
        go_enter Tryd.func21, Tryd.ntmps21
        go_wp2_with (go_at_call 25; (with_reducible refine (K0.out _).mono ?_); rintro e w1 ⟨rfl, rfl⟩)
        go_ret
        exact ⟨rfl, mB.out⟩
    · have e2 : (decide (0 ≤ mn) && decide (mn < n1)) = false := by
        rw [Bool.and_eq_false_iff, decide_eq_false_iff_not, decide_eq_false_iff_not]; omega
      have e3 : (decide (0 ≤ mn) && (decide (mn < n1) && decide (pm = 0))) = false := by rw [← Bool.and_assoc, e2]; rfl
      rw [e3]
      rw [e2] at K0
      clear hp h1 h2 e2 e3
      go_enter Tryd.func21, Tryd.ntmps21
      go_wp2_with (go_at_call 25; (with_reducible refine (K0.out _).mono ?_); rintro e w1 ⟨rfl, rfl⟩)
      go_ret
      exact ⟨rfl, mB.out⟩
  · have e1 : decide (200 < (n1 : Int)) = true := decide_eq_true (by omega)
    rw [decide_eq_false h1]
    clear hp h1
    go_enter Tryd.func21, Tryd.ntmps21
    go_wp2_with fail
    go_ret
    exact ⟨rfl, mB.out⟩
theorem mayFuncs_calls (B : Nat) (u : UU) (vu : VU) (w : World) (hB : B ≤ w.heap.size) (hu : u.In B w vu) (hT : RTab w.heap.size w) :
    Calls Tryd.prog 21 #[u.val vu] w fun e w' => e = .returned (.bool (decide (u.funcs.length ≤ 200) && (mainB u && u.funcs.all (mayF u)))) ∧ Below w.heap.size w w' := by
  have K0 := fun W a1 c1 => isNumber_calls u.main a1 u.funcs.length c1 W
  have K5 := fun (hn : u.funcs.length ≠ 0) (W : World) (h : Hid (Below w.heap.size w W)) (ha : Hid (UnitAt W w.heap.size u vu)) => containsLF_calls B 36 #[.pointer (some ⟨w.heap.size, 0, none⟩)] enters4 (fun x => !mayF u x) u.funcs vu.f W (Nat.le_trans hB h.out.size) (hu.below (h.out.mono hB)).1
    fun x v _ hx W' hW' => mayFuncs1_calls B u vu x v w.heap.size W' (Nat.le_trans hB (Nat.le_trans h.out.size hW'.size)) (hu.below (h.out.mono hB |>.trans (hW'.mono (Nat.le_trans hB h.out.size)))) (hx.below (hW'.mono (Nat.le_trans hB h.out.size))) (fun e => hn (by rw [e]; rfl)) (hT.up (up_tr h.out hW')) (ha.out.up hW')
  obtain ⟨a1, c1, a2, c2, rfl⟩ := hu.shape
  obtain ⟨_, hm, _, b, o, hb, hr⟩ := GIn.at hu.1
  unfold mainB
  rw [← any_not]
  refine mayFuncs0_walk a1 a2 _ _ c1 c2 _ _ w b o (paramsAt u u.main) (fun h => ?_) hm (Lib.hid fun W => K0 W a1 c1) (fun h => Lib.hid (K5 h))
  obtain ⟨rfl, hbB⟩ := hb (by omega)
  obtain ⟨g, hg, hgm⟩ := get_at (l := u.funcs) (k := u.main.toNat) (by omega)
  obtain ⟨vg, hc, _⟩ := hr _ g hg
  refine ⟨rfl, by omega, ?_⟩
  have e : paramsAt u u.main = g.params := by simp [paramsAt, hg]
  rw [e]
  exact hc 1 _ rfl
end Go.Proofs.YtlbdoomknjiilaaDoor
