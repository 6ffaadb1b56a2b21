/- Code: site.may, site.mayFunc. -/
import Derived.Test.YtlbdoomknjiilaaDoorCodeSiteW
namespace Go.Proofs.YtlbdoomknjiilaaDoor
open Go.RowKit
set_option linter.unusedVariables false

theorem RTab.mono {B B' : Nat} {w : World} (h : RTab B w) (hB : B ≤ B') : RTab B' w := ⟨Nat.lt_of_lt_of_le h.1 hB, h.2⟩
theorem RTab.up {w W : World} (h : RTab w.heap.size w) (k : Below w.heap.size w W) : RTab W.heap.size W := (h.below k).mono k.size
theorem site_calls (B : Nat) (u : UU) (vu : VU) (f : FF) (vc : Value) (x : JJ) (v : VJ) (w : World) (hB : B ≤ w.heap.size) (hu : u.In B w vu) (hf : f.In B w vc) (hx : x.In B w v) (hne : u.funcs ≠ []) (hT : RTab w.heap.size w) :
    Calls Tryd.prog 26 #[siteV u vu f vc, x.val v] w fun e w' => e = .returned (.bool (mayJ u f x)) ∧ Below w.heap.size w w' := by
  have hfs := GIn.shape hf.2
  obtain ⟨s1, s2, s3, s4, s5, s6, s7, s8⟩ := rowR_sorts x.op
  have upu := fun (W : World) (h : Hid (Below w.heap.size w W)) => hu.below (h.out.mono hB)
  have upx := fun (W : World) (h : Hid (Below w.heap.size w W)) => hx.below (h.out.mono hB)
  have upB := fun (W : World) (h : Hid (Below w.heap.size w W)) => Nat.le_trans hB h.out.size
  have R1 := fun (W : World) (h : Hid (Below w.heap.size w W)) => rowOf_calls x.op hx.1 W (hT.up h.out)
  have K0 := fun (W : World) (h : Hid (Below w.heap.size w W)) => known_calls (rowR x.op) W
  have K1 := fun (W : World) (h : Hid (Below w.heap.size w W)) => fits_calls B u vu f vc (rowR x.op).a s1 x.a x v W (upB W h) (upu W h) hfs (upx W h) (fun _ => hne) (fun h => absurd h s5)
  have K2 := fun (h1 : fitsB u f (rowR x.op).a x.a x.a = true) => fun (W : World) (h : Hid (Below w.heap.size w W)) => fits_calls B u vu f vc (rowR x.op).b s2 x.b x v W (upB W h) (upu W h) hfs (upx W h) (fun h => absurd h s7) (h4_of hne h1)
  have K3 := fun (W : World) (h : Hid (Below w.heap.size w W)) => fits_calls B u vu f vc (rowR x.op).i s3 x.int x v W (upB W h) (upu W h) hfs (upx W h) (fun h => absurd h s8) (fun h => absurd h s6)
  have K6 := fun (W : World) (h : Hid (Below w.heap.size w W)) => fitsPath_calls B (rowR x.op) x.path v.p W (upB W h) (upx W h).2.2.2.1
  have K7 := fun (W : World) (h : Hid (Below w.heap.size w W)) => fitsSlots_calls B u vu f vc (rowR x.op) x.slots v.s W (upB W h) (upu W h) hfs (upx W h).2.2.1
  have K8 := fun (W : World) (h : Hid (Below w.heap.size w W)) => fitsName_calls (rowR x.op) x.name W
  obtain ⟨a1, c1, a2, c2, rfl⟩ := hu.shape
  obtain ⟨a3, c3, rfl⟩ := hfs
  obtain ⟨a4, c4, a5, c5, a6, c6, rfl⟩ := hx.shape
  unfold mayJ knownB
  exact site0_walk a1 a2 a3 a4 a5 a6 _ _ _ _ _ _ c1 c2 c3 c4 c5 c6 _ _ _ _ _ _ _ _ _ _ _ _ _ _ _ _ _ _ _ _ _ _ _ _ _ _ w (Lib.hid R1) (Lib.hid K0) (Lib.hid K1) (fun h => Lib.hid (K2 h)) (Lib.hid K3) (Lib.hid K6) (Lib.hid K7) (Lib.hid K8) rfl (show (((x.names : Nat) : Int) == 0) = decide (x.names = 0) by rw [Bool.eq_iff_iff, beq_iff_eq, decide_eq_true_iff]; omega)
theorem enters3 : ∀ args w, (callFunc 53 args).run Tryd.prog w = .ok (.enter 53 args) w := enters_of Tryd.func53 (by kernel_rfl) rfl
/-- a box that holds a site -/
def SiteAt (w : World) (g : Nat) (u : UU) (vu : VU) (f : FF) (vc : Value) : Prop := At w g 0 [vu.f, .int .i64 u.main, vu.t, .string f.name, .int .i64 f.params, .int .i64 f.slots, vc]
theorem SiteAt.lt {w : World} {g : Nat} {u : UU} {vu : VU} {f : FF} {vc : Value} (h : SiteAt w g u vu f vc) : g < w.heap.size := World.block_lt_of_cell? w _ (h 0 _ rfl)
theorem SiteAt.up {w W : World} {g : Nat} {u : UU} {vu : VU} {f : FF} {vc : Value} (h : SiteAt w g u vu f vc) (k : Below w.heap.size w W) : SiteAt W g u vu f vc := At.below h h.lt k
set_option maxRecDepth 100000 in
set_option maxHeartbeats 1000000 in
theorem mayFunc1_calls (B : Nat) (u : UU) (vu : VU) (f : FF) (vc : Value) (x : JJ) (v : VJ) (g : Nat) (w : World) (hB : B ≤ w.heap.size) (hu : u.In B w vu) (hf : f.In B w vc) (hx : x.In B w v) (hne : u.funcs ≠ []) (hT : RTab w.heap.size w) (hg : SiteAt w g u vu f vc) :
    Calls Tryd.prog 53 #[x.val v, .pointer (some ⟨g, 0, none⟩)] w fun e w' => e = .returned (.bool (!mayJ u f x)) ∧ Below w.heap.size w w' := by
  have HC := Lib.hid fun (W : World) (h : Below w.heap.size w W) => site_calls B u vu f vc x v W (Nat.le_trans hB h.size) (hu.below (h.mono hB)) (hf.below (h.mono hB)) (hx.below (h.mono hB)) hne (hT.up h)
  have hlt := hg.lt
  have k0 : w.cell? ⟨g, 0, none⟩ = some vu.f := hg 0 _ rfl
  have k1 : w.cell? ⟨g, 1, none⟩ = some (.int .i64 u.main) := hg 1 _ rfl
  have k2 : w.cell? ⟨g, 2, none⟩ = some vu.t := hg 2 _ rfl
  have k3 : w.cell? ⟨g, 3, none⟩ = some (.string f.name) := hg 3 _ rfl
  have k4 : w.cell? ⟨g, 4, none⟩ = some (.int .i64 f.params) := hg 4 _ rfl
  have k5 : w.cell? ⟨g, 5, none⟩ = some (.int .i64 f.slots) := hg 5 _ rfl
  have k6 : w.cell? ⟨g, 6, none⟩ = some vc := hg 6 _ rfl
  obtain ⟨a4, c4, a5, c5, a6, c6, rfl⟩ := hx.shape
  obtain ⟨a1, c1, a2, c2, rfl⟩ := hu.shape
  obtain ⟨a3, c3, rfl⟩ := GIn.shape hf.2
  unfold siteV at HC
  unfold JJ.val at HC ⊢
  dsimp only at HC k0 k1 k2 k3 k4 k5 k6 ⊢
  generalize mayJ u f x = r at *
  generalize u.main = mn at *
  generalize u.funcs.length = n1 at *
  generalize u.types.length = n2 at *
  generalize f.name = fn at *
  generalize f.params = pa at *
  generalize f.slots = sl at *
  generalize f.code.length = n3 at *
  generalize x.op = op at *
  generalize x.a = xa at *
  generalize x.b = xb at *
  generalize x.c = xc at *
  generalize x.int = xi at *
  generalize x.name = nm at *
  generalize x.slots.length = n4 at *
  generalize x.path.length = n5 at *
  generalize x.names = n6 at *
  have b0 := box1 w (.cells #[.int .u8 op, .int .i64 xa, .int .i64 xb, .int .i64 xc, .slice a4 n4 c4, .slice a5 n5 c5, .int .i64 xi, .string nm, .slice a6 n6 c6] 34)
  clear hg hu hf hx
  go_enter Tryd.func53, Tryd.ntmps53
  go_wp2_with fail
  (with_reducible refine (HC.out _ b0).mono ?_)
  rintro e w1 ⟨rfl, b1⟩
  have HB := Lib.hid (up_tr b0 b1)
  clear b1
  go_wp2_with fail
  go_ret
  exact ⟨rfl, HB.out⟩

set_option maxRecDepth 100000 in
set_option maxHeartbeats 4000000 in
theorem mayFunc0_walk (a1 a2 a3 : Option Addr) (n1 n2 n3 c1 c2 c3 : Nat) (mn pa sl : Int) (fn : ByteArray) (t0 t5 : Bool) (w : World)
    (K0 : Hid (∀ W, Calls Tryd.prog 54 #[.string fn] W fun e w' => e = .returned (.bool t0) ∧ W = w'))
    (K5 : Hid (∀ (W : World), Hid (Below w.heap.size w W) → Hid (At W w.heap.size 0 [.slice a1 n1 c1, .int .i64 mn, .slice a2 n2 c2, .string fn, .int .i64 pa, .int .i64 sl, .slice a3 n3 c3]) →
      Calls Tryd.prog 55 #[.slice a3 n3 c3, .func (.func 53) #[] #[.pointer (some ⟨w.heap.size, 0, none⟩)]] W fun e w' => e = .returned (.bool t5) ∧ Below W.heap.size W w')) :
    Calls Tryd.prog 37 #[.agg #[.slice a1 n1 c1, .int .i64 mn, .slice a2 n2 c2, .string fn, .int .i64 pa, .int .i64 sl, .slice a3 n3 c3]] w fun e w' =>
      e = .returned (.bool (t0 && (decide (0 ≤ pa) && (decide (pa ≤ sl) && (decide (sl ≤ 60) && (decide (n3 ≤ 4000) && !t5)))))) ∧ Below w.heap.size w w' := by
  obtain ⟨o1, ho1⟩ : ∃ o, o = Obj.cells #[.slice a1 n1 c1, .int .i64 mn, .slice a2 n2 c2, .string fn, .int .i64 pa, .int .i64 sl, .slice a3 n3 c3] 65 := ⟨_, rfl⟩
  obtain ⟨o2, ho2⟩ : ∃ o, o = Obj.cells #[.string fn, .int .i64 pa, .int .i64 sl, .slice a3 n3 c3] 45 := ⟨_, rfl⟩
  have mB := Lib.hid (box2 w o1 o2)
  have mA : Hid (At ((w.alloc o1).alloc o2) w.heap.size 0 [.slice a1 n1 c1, .int .i64 mn, .slice a2 n2 c2, .string fn, .int .i64 pa, .int .i64 sl, .slice a3 n3 c3]) := Lib.hid (by
    subst ho1 ho2
    intro i v hi
    match i, hi with
    | 0, hi => cases hi; go_simp
    | 1, hi => cases hi; go_simp
    | 2, hi => cases hi; go_simp
    | 3, hi => cases hi; go_simp
    | 4, hi => cases hi; go_simp
    | 5, hi => cases hi; go_simp
    | 6, hi => cases hi; go_simp)
  subst ho1 ho2
  have hE := enters3
  cases t0 with
  | false =>
    go_enter Tryd.func37, Tryd.ntmps37
    go_wp2_with (go_at_call 54; (with_reducible refine (K0.out _).mono ?_); rintro e w1 ⟨rfl, rfl⟩)
    go_ret
    exact ⟨rfl, mB.out⟩
  | true =>
    by_cases h1 : 0 ≤ pa
    · rw [decide_eq_true h1]
      by_cases h2 : pa ≤ sl
      · rw [decide_eq_true h2]
        by_cases h3 : sl ≤ 60
        · rw [decide_eq_true h3]
          by_cases h4 : n3 ≤ 4000
          · have e4 : decide ((n3 : Int) ≤ 4000) = true := decide_eq_true (by omega)
            rw [decide_eq_true h4]
            clear h4
            go_enter Tryd.func37, Tryd.ntmps37
            go_wp2_with (go_at_call 54; (with_reducible refine (K0.out _).mono ?_); rintro e w1 ⟨rfl, rfl⟩)
            (with_reducible refine (K5.out _ mB mA).mono ?_)
            rintro e w1 ⟨rfl, b1⟩
            have HB := Lib.hid (up_tr mB.out b1)
            clear b1
            go_wp2_with fail
            go_ret
            exact ⟨rfl, HB.out⟩
          · have e4 : decide ((n3 : Int) ≤ 4000) = false := decide_eq_false (by omega)
            rw [decide_eq_false h4]
            clear h4
            go_enter Tryd.func37, Tryd.ntmps37
            go_wp2_with (go_at_call 54; (with_reducible refine (K0.out _).mono ?_); rintro e w1 ⟨rfl, rfl⟩)
            go_ret
            exact ⟨rfl, mB.out⟩
        · rw [decide_eq_false h3]
          go_enter Tryd.func37, Tryd.ntmps37
          go_wp2_with (go_at_call 54; (with_reducible refine (K0.out _).mono ?_); rintro e w1 ⟨rfl, rfl⟩)
          go_ret
          exact ⟨rfl, mB.out⟩
      · rw [decide_eq_false h2]
        go_enter Tryd.func37, Tryd.ntmps37
        go_wp2_with (go_at_call 54; (with_reducible refine (K0.out _).mono ?_); rintro e w1 ⟨rfl, rfl⟩)
        go_ret
        exact ⟨rfl, mB.out⟩
    · rw [decide_eq_false h1]
      go_enter Tryd.func37, Tryd.ntmps37
      go_wp2_with (go_at_call 54; (with_reducible refine (K0.out _).mono ?_); rintro e w1 ⟨rfl, rfl⟩)
      go_ret
      exact ⟨rfl, mB.out⟩
theorem mayFunc_calls (B : Nat) (u : UU) (vu : VU) (f : FF) (vc : Value) (w : World) (hB : B ≤ w.heap.size) (hu : u.In B w vu) (hf : f.In B w vc) (hne : u.funcs ≠ []) (hT : RTab w.heap.size w) :
    Calls Tryd.prog 37 #[siteV u vu f vc] w fun e w' => e = .returned (.bool (mayF u f)) ∧ Below w.heap.size w w' := by
  have K0 := fun W => isName_calls f.name W
  have K5 := fun (W : World) (h : Hid (Below w.heap.size w W)) (ha : Hid (SiteAt W w.heap.size u vu f vc)) => containsLJ_calls B 53 #[.pointer (some ⟨w.heap.size, 0, none⟩)] enters3 (fun x => !mayJ u f x) f.code vc W (Nat.le_trans hB h.out.size) (hf.below (h.out.mono hB)).2
    fun x v _ hx W' hW' => mayFunc1_calls B u vu f vc x v w.heap.size W' (Nat.le_trans hB (Nat.le_trans h.out.size hW'.size)) (hu.below (h.out.mono hB |>.trans (hW'.mono (Nat.le_trans hB h.out.size)))) (hf.below (h.out.mono hB |>.trans (hW'.mono (Nat.le_trans hB h.out.size)))) (hx.below (hW'.mono (Nat.le_trans hB h.out.size))) hne (hT.up (up_tr h.out hW')) (ha.out.up hW')
  obtain ⟨a1, c1, a2, c2, rfl⟩ := hu.shape
  obtain ⟨a3, c3, rfl⟩ := GIn.shape hf.2
  unfold mayF
  rw [← any_not]
  exact mayFunc0_walk a1 a2 a3 _ _ _ c1 c2 c3 _ _ _ _ _ _ w (Lib.hid K0) (Lib.hid K5)
end Go.Proofs.YtlbdoomknjiilaaDoor
