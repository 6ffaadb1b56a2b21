/- The document's own way of saying what is whole: items, programs. -/
import Derived.Test.YtojeijeimpffgaaGreatRTreeRefS4
namespace Go.Proofs.YtojeijeimpffgaaGreat
open Go.RowKit
set_option linter.unusedVariables false

def zE (e : PE) : Bool := decide (e.op = 0) && (decide (e.int = 0) && (noB e.name && (noB e.second && (noB e.place.name && (decide (e.place.path.length = 0) && decide (e.args.length = 0))))))
set_option maxRecDepth 100000 in
set_option maxHeartbeats 4000000 in
theorem refZeroE_calls (op iv : Int) (nm sc : ByteArray) (pl : PP) (es : List PE) (ps : Int) (p0 : Option Addr) (n0 q0 : Nat) (p1 : Option Addr) (n1 q1 : Nat) (w : World) (h0 : n0 = pl.path.length) (h1 : n1 = es.length) :
    Calls Tryz.prog 57 #[.agg #[.int .u8 op, .int .i64 iv, .string nm, .string sc, .string pl.name, .slice p0 n0 q0, .slice p1 n1 q1, .int .i64 ps]] w fun e w' => e = .returned (.bool (zE (.mk op iv nm sc pl es ps))) ∧ Below w.heap.size w w' := by
  have hr : zE (.mk op iv nm sc pl es ps) = (decide (op = 0) && (decide (iv = 0) && (noB nm && (noB sc && (noB pl.name && (decide (n0 = 0) && decide (n1 = 0))))))) := by rw [h0, h1]; rfl
  have o1 := is_noB nm
  have o2 := is_noB sc
  have o3 := is_noB pl.name
  have HR := Lib.hid hr
  clear hr h0 h1
  by_cases a1 : op = 0
  · subst a1
    by_cases a2 : iv = 0
    · subst a2
      cases b1 : noB nm
      · rw [b1] at o1
        have F : Hid (zE (.mk 0 0 nm sc pl es ps) = false) := Lib.hid (by rw [HR.out, b1]; rfl)
        clear HR b1
        go_enter Tryz.func57, Tryz.ntmps57
        go_wp2_with fail
        go_ret
        exact ⟨ret_bool F.out.symm, box1 _ _⟩
      · rw [b1] at o1
        cases b2 : noB sc
        · rw [b2] at o2
          have F : Hid (zE (.mk 0 0 nm sc pl es ps) = false) := Lib.hid (by rw [HR.out, b1, b2]; rfl)
          clear HR b1 b2
          go_enter Tryz.func57, Tryz.ntmps57
          go_wp2_with fail
          go_ret
          exact ⟨ret_bool F.out.symm, box1 _ _⟩
        · rw [b2] at o2
          cases b3 : noB pl.name
          · rw [b3] at o3
            have F : Hid (zE (.mk 0 0 nm sc pl es ps) = false) := Lib.hid (by rw [HR.out, b1, b2, b3]; rfl)
            clear HR b1 b2 b3
            go_enter Tryz.func57, Tryz.ntmps57
            go_wp2_with fail
            go_ret
            exact ⟨ret_bool F.out.symm, box1 _ _⟩
          · rw [b3] at o3
            by_cases a3 : n0 = 0
            · subst a3
              by_cases a4 : n1 = 0
              · subst a4
                have F : Hid (zE (.mk 0 0 nm sc pl es ps) = true) := Lib.hid (by rw [HR.out, b1, b2, b3]; rfl)
                clear HR b1 b2 b3
                go_enter Tryz.func57, Tryz.ntmps57
                go_wp2_with fail
                go_ret
                exact ⟨ret_bool F.out.symm, box1 _ _⟩
              · have e4 : ((n1 : Int) == 0) = false := is_no' (by omega)
                have F : Hid (zE (.mk 0 0 nm sc pl es ps) = false) := Lib.hid (by rw [HR.out, b1, b2, b3, decide_eq_false a4]; rfl)
                clear HR b1 b2 b3 a4
                go_enter Tryz.func57, Tryz.ntmps57
                go_wp2_with fail
                go_ret
                exact ⟨ret_bool F.out.symm, box1 _ _⟩
            · have e3 : ((n0 : Int) == 0) = false := is_no' (by omega)
              have F : Hid (zE (.mk 0 0 nm sc pl es ps) = false) := Lib.hid (by rw [HR.out, b1, b2, b3, decide_eq_false a3]; rfl)
              clear HR b1 b2 b3 a3
              go_enter Tryz.func57, Tryz.ntmps57
              go_wp2_with fail
              go_ret
              exact ⟨ret_bool F.out.symm, box1 _ _⟩
    · have e2 : (iv == 0) = false := is_no' a2
      have F : Hid (zE (.mk 0 iv nm sc pl es ps) = false) := Lib.hid (by rw [HR.out, decide_eq_false a2]; rfl)
      clear HR a2
      go_enter Tryz.func57, Tryz.ntmps57
      go_wp2_with fail
      go_ret
      exact ⟨ret_bool F.out.symm, box1 _ _⟩
  · have e1 : (op == 0) = false := is_no' a1
    have F : Hid (zE (.mk op iv nm sc pl es ps) = false) := Lib.hid (by rw [HR.out, decide_eq_false a1]; rfl)
    clear HR a1
    go_enter Tryz.func57, Tryz.ntmps57
    go_wp2_with fail
    go_ret
    exact ⟨ret_bool F.out.symm, box1 _ _⟩
/-! ### items -/
def okField (kd : Int) (f : PF) : Bool := if kd = 2 then tyB f.name && (zT f.type || rT 38 f.type) else nmB f.name && rT 38 f.type
def rI (x : PI) : Bool :=
  (decide (1 ≤ x.kind) && (decide (x.kind ≤ 3) && decide (x.fields.length ≤ 6))) && (x.fields.all (okField x.kind) &&
    (if x.kind = 3 then nmB x.name && (rT 38 x.result && (!lentB x.ret && (rE 38 x.ret && x.body.all (rS 38)))) else tyB x.name && (zT x.result && (decide (x.body.length = 0) && zE x.ret))))
theorem field_cases (a b c : Bool) : a = false ∨ (a = true ∧ b = true) ∨ (a = true ∧ b = false ∧ c = true) ∨ (a = true ∧ b = false ∧ c = false) := by
  cases a <;> cases b <;> cases c <;> simp
theorem two_cases (a b : Bool) : a = false ∨ (a = true ∧ b = true) ∨ (a = true ∧ b = false) := by
  cases a <;> cases b <;> simp
set_option maxRecDepth 100000 in
set_option maxHeartbeats 8000000 in
theorem refItem_calls (B : Nat) (kd : Int) (nm : ByteArray) (fs : List PF) (rt : PT) (bo : List PS) (rx : PE) (ps : Int) (pa0 : Option Addr) (na0 qa0 : Nat) (pa1 : Option Addr) (na1 qa1 : Nat) (pa2 : Option Addr) (na2 qa2 : Nat) (pa3 : Option Addr) (na3 qa3 : Nat) (pa4 : Option Addr) (na4 qa4 : Nat) (w : World) (hB : B ≤ w.heap.size)
    (hin : PI.In B w ⟨kd, nm, fs, rt, bo, rx, ps⟩ ⟨.slice pa0 na0 qa0, .slice pa1 na1 qa1, .slice pa2 na2 qa2, ⟨.slice pa3 na3 qa3, .slice pa4 na4 qa4⟩⟩) :
    Calls Tryz.prog 28 #[.agg #[.int .u8 kd, .string nm, .slice pa0 na0 qa0, .int .u8 rt.kind, .string rt.name, .slice pa1 na1 qa1, .slice pa2 na2 qa2, .int .u8 rx.op, .int .i64 rx.int, .string rx.name, .string rx.second, .string rx.place.name, .slice pa3 na3 qa3, .slice pa4 na4 qa4, .int .i64 rx.pos, .int .i64 ps], .int .i64 39] w fun e w' => e = .returned (.bool (rI ⟨kd, nm, fs, rt, bo, rx, ps⟩)) ∧ Below w.heap.size w w' := by
  obtain ⟨⟨_, _, zn⟩, ⟨bf, of, ⟨hnf, aof, capf, hvf, kf⟩, rf⟩, hrt, ⟨bb, ob, sb, rb⟩, hrx⟩ := hin
  simp only [Value.slice.injEq] at hvf
  obtain ⟨rfl, hn0, rfl⟩ := hvf
  unfold maxLen at hnf
  rw [← hn0] at hnf kf
  have hn2 : na2 = bo.length := by obtain ⟨_, ao, cap, h, _⟩ := sb; injection h
  have hrtl : na1 = rt.args.length := by
    obtain ⟨a, b, c⟩ := rt
    obtain ⟨_, b', o', ⟨_, ao, cap, h, _⟩, _⟩ := hrt
    injection h
  have hx34 : na3 = rx.place.path.length ∧ na4 = rx.args.length := by
    obtain ⟨a, b, c, d, e, f, g⟩ := rx
    obtain ⟨_, ⟨_, b', o', ⟨_, ao, cap, h, _⟩, _⟩, b'', o'', ⟨_, ao', cap', h', _⟩, _⟩ := hrx
    constructor
    · injection h
    · injection h'
  have HN0 := Lib.hid hn0
  have Kf := Lib.hid kf
  have Rf := Lib.hid rf
  have HRI : Hid (rI ⟨kd, nm, fs, rt, bo, rx, ps⟩ = ((decide (1 ≤ kd) && (decide (kd ≤ 3) && decide (na0 ≤ 6))) && (fs.all (okField kd) && (if kd = 3 then nmB nm && (rT 38 rt && (!lentB rx && (rE 38 rx && bo.all (rS 38)))) else tyB nm && (zT rt && (decide (na2 = 0) && zE rx)))))) := Lib.hid (by rw [hn0, hn2]; rfl)
  have CTn : Hid (∀ W, Calls Tryz.prog 53 #[.string nm] W fun e w' => e = .returned (.bool (tyB nm)) ∧ Below W.heap.size W w') := Lib.hid fun W => refType_calls nm zn W
  have CNn : Hid (∀ W, Calls Tryz.prog 56 #[.string nm] W fun e w' => e = .returned (.bool (nmB nm)) ∧ Below W.heap.size W w') := Lib.hid fun W => refName_calls nm zn W
  have CZT : Hid (∀ W, Calls Tryz.prog 54 #[.agg #[.int .u8 rt.kind, .string rt.name, .slice pa1 na1 qa1]] W fun e w' => e = .returned (.bool (zT rt)) ∧ Below W.heap.size W w') := Lib.hid fun W => refZeroT_calls rt pa1 na1 qa1 W hrtl
  have CRT : Hid (∀ W, Below w.heap.size w W → Calls Tryz.prog 55 #[.agg #[.int .u8 rt.kind, .string rt.name, .slice pa1 na1 qa1], .int .i64 38] W fun e w' => e = .returned (.bool (rT 38 rt)) ∧ Below W.heap.size W w') := Lib.hid fun W h => refWT_calls 38 (by decide) B rt _ W (Nat.le_trans hB h.size) (PT.In.below (h.mono hB) hrt)
  have CZE : Hid (∀ W, Calls Tryz.prog 57 #[.agg #[.int .u8 rx.op, .int .i64 rx.int, .string rx.name, .string rx.second, .string rx.place.name, .slice pa3 na3 qa3, .slice pa4 na4 qa4, .int .i64 rx.pos]] W fun e w' => e = .returned (.bool (zE rx)) ∧ Below W.heap.size W w') := Lib.hid fun W => by
    obtain ⟨a, b, c, d, e, f, g⟩ := rx
    exact refZeroE_calls a b c d e f g pa3 na3 qa3 pa4 na4 qa4 W hx34.1 hx34.2
  have CLE : Hid (∀ W, Calls Tryz.prog 58 #[.agg #[.int .u8 rx.op, .int .i64 rx.int, .string rx.name, .string rx.second, .string rx.place.name, .slice pa3 na3 qa3, .slice pa4 na4 qa4, .int .i64 rx.pos]] W fun e w' => e = .returned (.bool (lentB rx)) ∧ Below W.heap.size W w') := Lib.hid fun W => by
    obtain ⟨a, b, c, d, e, f, g⟩ := rx
    exact refLent_calls a b c d e f g pa3 na3 qa3 pa4 na4 qa4 W
  have CRE : Hid (∀ W, Below w.heap.size w W → Calls Tryz.prog 59 #[.agg #[.int .u8 rx.op, .int .i64 rx.int, .string rx.name, .string rx.second, .string rx.place.name, .slice pa3 na3 qa3, .slice pa4 na4 qa4, .int .i64 rx.pos], .int .i64 38] W fun e w' => e = .returned (.bool (rE 38 rx)) ∧ Below W.heap.size W w') := Lib.hid fun W h => refWE_calls 38 (by decide) B rx ⟨.slice pa3 na3 qa3, .slice pa4 na4 qa4⟩ W (Nat.le_trans hB h.size) (PE.In.below (h.mono hB) hrx)
  have CRL : Hid (∀ W, Below w.heap.size w W → Calls Tryz.prog 60 #[.slice pa2 na2 qa2, .int .i64 38] W fun e w' => e = .returned (.bool (bo.all (rS 38))) ∧ Below W.heap.size W w') := Lib.hid fun W h => refWL_calls 38 (by decide) B bo _ bb ob W (Nat.le_trans hB h.size) sb (PS.Row.below' (h.mono hB) sb rb)
  clear hn0 hn2 hrtl hx34 kf rf hrt sb rb hrx zn
  go_enter Tryz.func28, Tryz.ntmps28
  go_upto_region 1 with (fail)
  obtain ⟨W0, hW0⟩ : ∃ W0, W0 = w.alloc (.cells #[.int .u8 kd, .string nm, .slice pa0 na0 qa0, .int .u8 rt.kind, .string rt.name, .slice pa1 na1 qa1, .slice pa2 na2 qa2, .int .u8 rx.op, .int .i64 rx.int, .string rx.name, .string rx.second, .string rx.place.name, .slice pa3 na3 qa3, .slice pa4 na4 qa4, .int .i64 rx.pos, .int .i64 ps] 47) := ⟨_, rfl⟩
  rw [← hW0]
  obtain ⟨G, hG⟩ : ∃ G, G = w.heap.size := ⟨_, rfl⟩
  have hz0 : G < W0.heap.size := by rw [hW0, hG]; simp
  have x0 : W0.cell? ⟨G, 0, none⟩ = some (.int .u8 kd) := by rw [hW0, hG]; go_simp
  have x1 : W0.cell? ⟨G, 1, none⟩ = some (.string nm) := by rw [hW0, hG]; go_simp
  have x2 : W0.cell? ⟨G, 2, none⟩ = some (.slice pa0 na0 qa0) := by rw [hW0, hG]; go_simp
  have x3 : W0.cell? ⟨G, 3, none⟩ = some (.int .u8 rt.kind) := by rw [hW0, hG]; go_simp
  have x4 : W0.cell? ⟨G, 4, none⟩ = some (.string rt.name) := by rw [hW0, hG]; go_simp
  have x5 : W0.cell? ⟨G, 5, none⟩ = some (.slice pa1 na1 qa1) := by rw [hW0, hG]; go_simp
  have x6 : W0.cell? ⟨G, 6, none⟩ = some (.slice pa2 na2 qa2) := by rw [hW0, hG]; go_simp
  have x7 : W0.cell? ⟨G, 7, none⟩ = some (.int .u8 rx.op) := by rw [hW0, hG]; go_simp
  have x8 : W0.cell? ⟨G, 8, none⟩ = some (.int .i64 rx.int) := by rw [hW0, hG]; go_simp
  have x9 : W0.cell? ⟨G, 9, none⟩ = some (.string rx.name) := by rw [hW0, hG]; go_simp
  have x10 : W0.cell? ⟨G, 10, none⟩ = some (.string rx.second) := by rw [hW0, hG]; go_simp
  have x11 : W0.cell? ⟨G, 11, none⟩ = some (.string rx.place.name) := by rw [hW0, hG]; go_simp
  have x12 : W0.cell? ⟨G, 12, none⟩ = some (.slice pa3 na3 qa3) := by rw [hW0, hG]; go_simp
  have x13 : W0.cell? ⟨G, 13, none⟩ = some (.slice pa4 na4 qa4) := by rw [hW0, hG]; go_simp
  have x14 : W0.cell? ⟨G, 14, none⟩ = some (.int .i64 rx.pos) := by rw [hW0, hG]; go_simp
  have BW : Below w.heap.size w W0 := by rw [hW0]; exact (Below.refl _ w).alloc (Nat.le_refl _) _
  have B0 := Lib.hid BW
  have hB0 : B ≤ W0.heap.size := Nat.le_trans hB BW.size
  rw [← hG]
  clear hG hW0 BW
  by_cases k1 : kd < 1
  · have F : Hid (rI ⟨kd, nm, fs, rt, bo, rx, ps⟩ = false) := Lib.hid (by rw [HRI.out, decide_eq_false (show ¬ 1 ≤ kd by omega)]; rfl)
    go_wp2_with fail
    go_ret
    exact ⟨ret_bool F.out.symm, B0.out⟩
  by_cases k3 : 3 < kd
  · have F : Hid (rI ⟨kd, nm, fs, rt, bo, rx, ps⟩ = false) := Lib.hid (by rw [HRI.out, decide_eq_false (show ¬ kd ≤ 3 by omega), Bool.false_and, Bool.and_false]; rfl)
    go_wp2_with fail
    go_ret
    exact ⟨ret_bool F.out.symm, B0.out⟩
  by_cases k6 : 6 < na0
  · have F : Hid (rI ⟨kd, nm, fs, rt, bo, rx, ps⟩ = false) := Lib.hid (by rw [HRI.out, decide_eq_false (show ¬ na0 ≤ 6 by omega), Bool.and_false, Bool.and_false]; rfl)
    have e6 : (6 : Int) < (na0 : Int) := by omega
    clear k6
    go_wp2_with fail
    go_ret
    exact ⟨ret_bool F.out.symm, B0.out⟩
  have HR2 : Hid (rI ⟨kd, nm, fs, rt, bo, rx, ps⟩ = (fs.all (okField kd) && (if kd = 3 then nmB nm && (rT 38 rt && (!lentB rx && (rE 38 rx && bo.all (rS 38)))) else tyB nm && (zT rt && (decide (na2 = 0) && zE rx))))) := Lib.hid (by
    rw [HRI.out, decide_eq_true (show 1 ≤ kd by omega), decide_eq_true (show kd ≤ 3 by omega), decide_eq_true (show na0 ≤ 6 by omega)]; rfl)
  have e6 : ¬ (6 : Int) < (na0 : Int) := by omega
  clear HRI k6
  go_wp2_with fail
  go_loopw [5] (fun i wr => ∃ k : Nat, k ≤ na0 ∧ i = .int .i64 k ∧ Hid (Below W0.heap.size W0 wr) ∧ Hid (∀ (j : Nat) x, j < k → fs[j]? = some x → okField kd x = true))
    (fun i _ => na0 - (intOf i).toNat)
  case atStart => exact ⟨0, by omega, rfl, Lib.hid (Below.refl _ _), Lib.hid fun j x hj => by omega⟩
  case round =>
    obtain ⟨k, hk, rfl, Hw, HK⟩ := hrel
    have hsw := Hw.out.size
    have hzr : G < wr.heap.size := Nat.lt_of_lt_of_le hz0 hsw
    replace x0 := (Hw.out.cell (p := ⟨G, 0, none⟩) hz0).trans x0
    replace x1 := (Hw.out.cell (p := ⟨G, 1, none⟩) hz0).trans x1
    replace x2 := (Hw.out.cell (p := ⟨G, 2, none⟩) hz0).trans x2
    replace x3 := (Hw.out.cell (p := ⟨G, 3, none⟩) hz0).trans x3
    replace x4 := (Hw.out.cell (p := ⟨G, 4, none⟩) hz0).trans x4
    replace x5 := (Hw.out.cell (p := ⟨G, 5, none⟩) hz0).trans x5
    replace x6 := (Hw.out.cell (p := ⟨G, 6, none⟩) hz0).trans x6
    replace x7 := (Hw.out.cell (p := ⟨G, 7, none⟩) hz0).trans x7
    replace x8 := (Hw.out.cell (p := ⟨G, 8, none⟩) hz0).trans x8
    replace x9 := (Hw.out.cell (p := ⟨G, 9, none⟩) hz0).trans x9
    replace x10 := (Hw.out.cell (p := ⟨G, 10, none⟩) hz0).trans x10
    replace x11 := (Hw.out.cell (p := ⟨G, 11, none⟩) hz0).trans x11
    replace x12 := (Hw.out.cell (p := ⟨G, 12, none⟩) hz0).trans x12
    replace x13 := (Hw.out.cell (p := ⟨G, 13, none⟩) hz0).trans x13
    replace x14 := (Hw.out.cell (p := ⟨G, 14, none⟩) hz0).trans x14
    have BR : Hid (Below w.heap.size w wr) := Lib.hid (B0.out.trans (Hw.out.mono B0.out.size))
    have hBr : B ≤ wr.heap.size := Nat.le_trans hB0 hsw
    by_cases hlt : k < na0
    · clear x1 x3 x4 x5 x6 x7 x8 x9 x10 x11 x12 x13 x14 CTn CNn CZT CRT CZE CLE CRE CRL
      obtain ⟨a, ha, hin⟩ := get_at (l := fs) (k := k) (by rw [← HN0.out]; exact hlt)
      obtain ⟨rfl, hbf⟩ := Kf.out.resolve_left (by omega)
      have hgf : bf < wr.heap.size := by omega
      obtain ⟨vf, cf, jf⟩ := PF.Row.get (PF.Row.below (BR.out.mono hB) hbf Rf.out) ha
      obtain ⟨p7, n7, q7, rfl⟩ := jf.shape
      obtain ⟨fn, ft⟩ := a
      have c0 : wr.cell? ⟨bf, of + k * 4, none⟩ = some (.string fn) := cf 0 _ rfl
      have c1 : wr.cell? ⟨bf, of + k * 4 + 1, none⟩ = some (.int .u8 ft.kind) := cf 1 _ rfl
      have c2 : wr.cell? ⟨bf, of + k * 4 + 2, none⟩ = some (.string ft.name) := cf 2 _ rfl
      have c3 : wr.cell? ⟨bf, of + k * 4 + 3, none⟩ = some (.slice p7 n7 q7) := cf 3 _ rfl
      obtain ⟨zfn, hft⟩ := jf
      replace hft : PT.In B wr ft (.slice p7 n7 q7) := hft
      have hftl : n7 = ft.args.length := by
        obtain ⟨a, b, c⟩ := ft
        obtain ⟨_, b', o', ⟨_, ao, cap, h, _⟩, _⟩ := hft
        injection h
      have CT : Hid (∀ W, Calls Tryz.prog 53 #[.string fn] W fun e w' => e = .returned (.bool (tyB fn)) ∧ Below W.heap.size W w') := Lib.hid fun W => refType_calls fn zfn W
      have CN : Hid (∀ W, Calls Tryz.prog 56 #[.string fn] W fun e w' => e = .returned (.bool (nmB fn)) ∧ Below W.heap.size W w') := Lib.hid fun W => refName_calls fn zfn W
      have CZ : Hid (∀ W, Calls Tryz.prog 54 #[.agg #[.int .u8 ft.kind, .string ft.name, .slice p7 n7 q7]] W fun e w' => e = .returned (.bool (zT ft)) ∧ Below W.heap.size W w') := Lib.hid fun W => refZeroT_calls ft p7 n7 q7 W hftl
      have CR : Hid (∀ W, Below wr.heap.size wr W → Calls Tryz.prog 55 #[.agg #[.int .u8 ft.kind, .string ft.name, .slice p7 n7 q7], .int .i64 38] W fun e w' => e = .returned (.bool (rT 38 ft)) ∧ Below W.heap.size W w') := Lib.hid fun W h => refWT_calls 38 (by decide) B ft _ W (Nat.le_trans hBr h.size) (PT.In.below (h.mono hBr) hft)
      have hok : okField kd ⟨fn, ft⟩ = (if kd = 2 then tyB fn && (zT ft || rT 38 ft) else nmB fn && rT 38 ft) := rfl
      have Ha := Lib.hid ha
      generalize tyB fn = qt at *
      generalize nmB fn = qn at *
      generalize zT ft = qz at *
      generalize rT 38 ft = qr at *
      have Hok := Lib.hid hok
      clear ha hin cf hft hftl hok zfn
      go_upto_region 7 with (fail)
      obtain ⟨wz, hwz⟩ : ∃ wz, wz = wr.alloc (.cells #[.string fn, .int .u8 ft.kind, .string ft.name, .slice p7 n7 q7] 68) := ⟨_, rfl⟩
      rw [← hwz]
      obtain ⟨S, hS⟩ : ∃ S, S = wr.heap.size := ⟨_, rfl⟩
      have d0 : wz.cell? ⟨S, 0, none⟩ = some (.string fn) := by rw [hwz, hS]; go_simp
      have d1 : wz.cell? ⟨S, 1, none⟩ = some (.int .u8 ft.kind) := by rw [hwz, hS]; go_simp
      have d2 : wz.cell? ⟨S, 2, none⟩ = some (.string ft.name) := by rw [hwz, hS]; go_simp
      have d3 : wz.cell? ⟨S, 3, none⟩ = some (.slice p7 n7 q7) := by rw [hwz, hS]; go_simp
      have hzS : S < wz.heap.size := by rw [hwz, hS]; simp
      have bz : Below wr.heap.size wr wz := by rw [hwz]; exact (Below.refl _ wr).alloc (Nat.le_refl _) _
      have Bz := Lib.hid bz
      have Zw := Lib.hid (Hw.out.trans (bz.mono hsw))
      have Zb := Lib.hid (BR.out.trans (bz.mono BR.out.size))
      have w0 := (bz.cell (p := ⟨G, 0, none⟩) hzr).trans x0
      have hzG : G < wz.heap.size := Nat.lt_of_lt_of_le hzr bz.size
      rw [← hS]
      clear hS hwz bz c0 c1 c2 c3 x0 x2
      have HK2 : okField kd ⟨fn, ft⟩ = true → Hid (∀ (j : Nat) x, j < k + 1 → fs[j]? = some x → okField kd x = true) := fun h => Lib.hid fun j x hj hx => by
        by_cases e : j = k
        · subst e
          rw [Ha.out] at hx
          cases hx
          exact h
        · exact HK.out j x (by omega) hx
      have HNO : okField kd ⟨fn, ft⟩ = false → Hid (rI ⟨kd, nm, fs, rt, bo, rx, ps⟩ = false) := fun h => Lib.hid (by rw [HR2.out, all_not2 (p := okField kd) Ha.out h]; rfl)
      by_cases h2 : kd = 2
      · subst h2
        have hok : okField 2 ⟨fn, ft⟩ = (qt && (qz || qr)) := Hok.out
        rcases field_cases qt qz qr with rfl | ⟨rfl, rfl⟩ | ⟨rfl, rfl, rfl⟩ | ⟨rfl, rfl, rfl⟩
        · have F := HNO hok
          clear HK2 HNO hok Hok HR2
          go_wp2_with fail
          refine (CT.out _).mono ?_; rintro e u1 ⟨rfl, c1⟩
          have BU := Lib.hid (Zb.out.trans (c1.mono Zb.out.size))
          clear c1
          go_wp2_with fail
          go_ret
          exact ⟨ret_bool F.out.symm, BU.out⟩
        · have F := HK2 hok
          clear HK2 HNO hok Hok HR2
          go_wp2_with fail
          refine (CT.out _).mono ?_; rintro e u1 ⟨rfl, c1⟩
          have e1 := (c1.cell (p := ⟨S, 1, none⟩) hzS).trans d1
          have e2 := (c1.cell (p := ⟨S, 2, none⟩) hzS).trans d2
          have e3 := (c1.cell (p := ⟨S, 3, none⟩) hzS).trans d3
          have hzU := Nat.lt_of_lt_of_le hzS c1.size
          have ZU := Lib.hid (Zw.out.trans (c1.mono Zw.out.size))
          clear c1 d0 d1 d2 d3 w0
          go_wp2_with fail
          refine (CZ.out _).mono ?_; rintro e u2 ⟨rfl, c2⟩
          have ZV := Lib.hid (ZU.out.trans (c2.mono ZU.out.size))
          clear c2 e1 e2 e3
          go_wp2_with fail
          go_roundw
          case rel => exact ⟨k + 1, by omega, by go_num, ZV, F⟩
          case measure => simp [intOf]; omega
        · have F := HK2 hok
          clear HK2 HNO hok Hok HR2
          go_wp2_with fail
          refine (CT.out _).mono ?_; rintro e u1 ⟨rfl, c1⟩
          have e1 := (c1.cell (p := ⟨S, 1, none⟩) hzS).trans d1
          have e2 := (c1.cell (p := ⟨S, 2, none⟩) hzS).trans d2
          have e3 := (c1.cell (p := ⟨S, 3, none⟩) hzS).trans d3
          have hzU := Nat.lt_of_lt_of_le hzS c1.size
          have ZU := Lib.hid (Zw.out.trans (c1.mono Zw.out.size))
          have BB := Lib.hid (Bz.out.trans (c1.mono Bz.out.size))
          clear c1 d0 d1 d2 d3 w0
          go_wp2_with fail
          refine (CZ.out _).mono ?_; rintro e u2 ⟨rfl, c2⟩
          have f1 := (c2.cell (p := ⟨S, 1, none⟩) hzU).trans e1
          have f2 := (c2.cell (p := ⟨S, 2, none⟩) hzU).trans e2
          have f3 := (c2.cell (p := ⟨S, 3, none⟩) hzU).trans e3
          have ZV := Lib.hid (ZU.out.trans (c2.mono ZU.out.size))
          have hzV := Nat.lt_of_lt_of_le hzU c2.size
          have CR2 := Lib.hid (CR.out u2 (BB.out.trans (c2.mono BB.out.size)))
          clear c2 e1 e2 e3
          go_wp2_with fail
          refine (CR2.out).mono ?_; rintro e u3 ⟨rfl, c3⟩
          have ZX := Lib.hid (ZV.out.trans (c3.mono ZV.out.size))
          clear c3
          go_wp2_with fail
          go_roundw
          case rel => exact ⟨k + 1, by omega, by go_num, ZX, F⟩
          case measure => simp [intOf]; omega
        · have F := HNO hok
          clear HK2 HNO hok Hok HR2
          go_wp2_with fail
          refine (CT.out _).mono ?_; rintro e u1 ⟨rfl, c1⟩
          have e1 := (c1.cell (p := ⟨S, 1, none⟩) hzS).trans d1
          have e2 := (c1.cell (p := ⟨S, 2, none⟩) hzS).trans d2
          have e3 := (c1.cell (p := ⟨S, 3, none⟩) hzS).trans d3
          have hzU := Nat.lt_of_lt_of_le hzS c1.size
          have BU := Lib.hid (Zb.out.trans (c1.mono Zb.out.size))
          have BB := Lib.hid (Bz.out.trans (c1.mono Bz.out.size))
          clear c1 d0 d1 d2 d3 w0
          go_wp2_with fail
          refine (CZ.out _).mono ?_; rintro e u2 ⟨rfl, c2⟩
          have f1 := (c2.cell (p := ⟨S, 1, none⟩) hzU).trans e1
          have f2 := (c2.cell (p := ⟨S, 2, none⟩) hzU).trans e2
          have f3 := (c2.cell (p := ⟨S, 3, none⟩) hzU).trans e3
          have BV := Lib.hid (BU.out.trans (c2.mono BU.out.size))
          have hzV := Nat.lt_of_lt_of_le hzU c2.size
          have CR2 := Lib.hid (CR.out u2 (BB.out.trans (c2.mono BB.out.size)))
          clear c2 e1 e2 e3
          go_wp2_with fail
          refine (CR2.out).mono ?_; rintro e u3 ⟨rfl, c3⟩
          have BX := Lib.hid (BV.out.trans (c3.mono BV.out.size))
          clear c3
          go_wp2_with fail
          go_ret
          exact ⟨ret_bool F.out.symm, BX.out⟩
      · have hok : okField kd ⟨fn, ft⟩ = (qn && qr) := by rw [Hok.out, if_neg h2]
        have e2' : (kd == 2) = false := is_no' h2
        clear h2
        rcases two_cases qn qr with rfl | ⟨rfl, rfl⟩ | ⟨rfl, rfl⟩
        · have F := HNO hok
          clear HK2 HNO hok Hok HR2
          go_wp2_with fail
          refine (CN.out _).mono ?_; rintro e u1 ⟨rfl, c1⟩
          have BU := Lib.hid (Zb.out.trans (c1.mono Zb.out.size))
          clear c1
          go_wp2_with fail
          go_ret
          exact ⟨ret_bool F.out.symm, BU.out⟩
        · have F := HK2 hok
          clear HK2 HNO hok Hok HR2
          go_wp2_with fail
          refine (CN.out _).mono ?_; rintro e u1 ⟨rfl, c1⟩
          have e1 := (c1.cell (p := ⟨S, 1, none⟩) hzS).trans d1
          have e2 := (c1.cell (p := ⟨S, 2, none⟩) hzS).trans d2
          have e3 := (c1.cell (p := ⟨S, 3, none⟩) hzS).trans d3
          have hzU := Nat.lt_of_lt_of_le hzS c1.size
          have ZU := Lib.hid (Zw.out.trans (c1.mono Zw.out.size))
          have CR2 := Lib.hid (CR.out u1 (Bz.out.trans (c1.mono Bz.out.size)))
          clear c1 d0 d1 d2 d3 w0
          go_wp2_with fail
          refine (CR2.out).mono ?_; rintro e u3 ⟨rfl, c3⟩
          have ZX := Lib.hid (ZU.out.trans (c3.mono ZU.out.size))
          clear c3
          go_wp2_with fail
          go_roundw
          case rel => exact ⟨k + 1, by omega, by go_num, ZX, F⟩
          case measure => simp [intOf]; omega
        · have F := HNO hok
          clear HK2 HNO hok Hok HR2
          go_wp2_with fail
          refine (CN.out _).mono ?_; rintro e u1 ⟨rfl, c1⟩
          have e1 := (c1.cell (p := ⟨S, 1, none⟩) hzS).trans d1
          have e2 := (c1.cell (p := ⟨S, 2, none⟩) hzS).trans d2
          have e3 := (c1.cell (p := ⟨S, 3, none⟩) hzS).trans d3
          have hzU := Nat.lt_of_lt_of_le hzS c1.size
          have BU := Lib.hid (Zb.out.trans (c1.mono Zb.out.size))
          have CR2 := Lib.hid (CR.out u1 (Bz.out.trans (c1.mono Bz.out.size)))
          clear c1 d0 d1 d2 d3 w0
          go_wp2_with fail
          refine (CR2.out).mono ?_; rintro e u3 ⟨rfl, c3⟩
          have BX := Lib.hid (BU.out.trans (c3.mono BU.out.size))
          clear c3
          go_wp2_with fail
          go_ret
          exact ⟨ret_bool F.out.symm, BX.out⟩
    · obtain rfl : k = na0 := by omega
      have hall := all_yes2 (p := okField kd) (l := fs) fun j x hx => HK.out j x (by rw [HN0.out]; exact (List.getElem?_eq_some_iff.1 hx).1) hx
      have HR3 : Hid (rI ⟨kd, nm, fs, rt, bo, rx, ps⟩ = (if kd = 3 then nmB nm && (rT 38 rt && (!lentB rx && (rE 38 rx && bo.all (rS 38)))) else tyB nm && (zT rt && (decide (na2 = 0) && zE rx)))) := Lib.hid (by rw [HR2.out, hall]; rfl)
      clear hall HR2 HK Kf Rf
      by_cases h3 : kd = 3
      · subst h3
        have HR4 : Hid (rI ⟨3, nm, fs, rt, bo, rx, ps⟩ = (nmB nm && (rT 38 rt && (!lentB rx && (rE 38 rx && bo.all (rS 38)))))) := Lib.hid HR3.out
        clear HR3 CTn CZT CZE
        generalize hq0 : nmB nm = q0 at CNn
        have Q0 := Lib.hid hq0
        clear hq0
        go_wp2_with fail
        refine (CNn.out _).mono ?_; rintro e t0 ⟨rfl, r0⟩
        replace x3 := (r0.cell (p := ⟨G, 3, none⟩) hzr).trans x3
        replace x4 := (r0.cell (p := ⟨G, 4, none⟩) hzr).trans x4
        replace x5 := (r0.cell (p := ⟨G, 5, none⟩) hzr).trans x5
        replace x6 := (r0.cell (p := ⟨G, 6, none⟩) hzr).trans x6
        replace x7 := (r0.cell (p := ⟨G, 7, none⟩) hzr).trans x7
        replace x8 := (r0.cell (p := ⟨G, 8, none⟩) hzr).trans x8
        replace x9 := (r0.cell (p := ⟨G, 9, none⟩) hzr).trans x9
        replace x10 := (r0.cell (p := ⟨G, 10, none⟩) hzr).trans x10
        replace x11 := (r0.cell (p := ⟨G, 11, none⟩) hzr).trans x11
        replace x12 := (r0.cell (p := ⟨G, 12, none⟩) hzr).trans x12
        replace x13 := (r0.cell (p := ⟨G, 13, none⟩) hzr).trans x13
        replace x14 := (r0.cell (p := ⟨G, 14, none⟩) hzr).trans x14
        have hz0' := Nat.lt_of_lt_of_le hzr r0.size
        have BT0 := Lib.hid (BR.out.trans (r0.mono BR.out.size))
        clear r0
        cases q0
        · go_wp2_with fail
          go_ret
          exact ⟨ret_bool (by rw [HR4.out, Q0.out]; rfl), BT0.out⟩
        · skip
          generalize hq1 : rT 38 rt = q1 at CRT
          have Q1 := Lib.hid hq1
          clear hq1
          go_wp2_with fail
          refine (CRT.out _ BT0.out).mono ?_; rintro e t1 ⟨rfl, r1⟩
          replace x3 := (r1.cell (p := ⟨G, 3, none⟩) hz0').trans x3
          replace x4 := (r1.cell (p := ⟨G, 4, none⟩) hz0').trans x4
          replace x5 := (r1.cell (p := ⟨G, 5, none⟩) hz0').trans x5
          replace x6 := (r1.cell (p := ⟨G, 6, none⟩) hz0').trans x6
          replace x7 := (r1.cell (p := ⟨G, 7, none⟩) hz0').trans x7
          replace x8 := (r1.cell (p := ⟨G, 8, none⟩) hz0').trans x8
          replace x9 := (r1.cell (p := ⟨G, 9, none⟩) hz0').trans x9
          replace x10 := (r1.cell (p := ⟨G, 10, none⟩) hz0').trans x10
          replace x11 := (r1.cell (p := ⟨G, 11, none⟩) hz0').trans x11
          replace x12 := (r1.cell (p := ⟨G, 12, none⟩) hz0').trans x12
          replace x13 := (r1.cell (p := ⟨G, 13, none⟩) hz0').trans x13
          replace x14 := (r1.cell (p := ⟨G, 14, none⟩) hz0').trans x14
          have hz1' := Nat.lt_of_lt_of_le hz0' r1.size
          have BT1 := Lib.hid (BT0.out.trans (r1.mono BT0.out.size))
          clear r1
          cases q1
          · go_wp2_with fail
            go_ret
            exact ⟨ret_bool (by rw [HR4.out, Q0.out, Q1.out]; rfl), BT1.out⟩
          · skip
            generalize hq2 : lentB rx = q2 at CLE
            have Q2 := Lib.hid hq2
            clear hq2
            go_wp2_with fail
            refine (CLE.out _).mono ?_; rintro e t2 ⟨rfl, r2⟩
            replace x3 := (r2.cell (p := ⟨G, 3, none⟩) hz1').trans x3
            replace x4 := (r2.cell (p := ⟨G, 4, none⟩) hz1').trans x4
            replace x5 := (r2.cell (p := ⟨G, 5, none⟩) hz1').trans x5
            replace x6 := (r2.cell (p := ⟨G, 6, none⟩) hz1').trans x6
            replace x7 := (r2.cell (p := ⟨G, 7, none⟩) hz1').trans x7
            replace x8 := (r2.cell (p := ⟨G, 8, none⟩) hz1').trans x8
            replace x9 := (r2.cell (p := ⟨G, 9, none⟩) hz1').trans x9
            replace x10 := (r2.cell (p := ⟨G, 10, none⟩) hz1').trans x10
            replace x11 := (r2.cell (p := ⟨G, 11, none⟩) hz1').trans x11
            replace x12 := (r2.cell (p := ⟨G, 12, none⟩) hz1').trans x12
            replace x13 := (r2.cell (p := ⟨G, 13, none⟩) hz1').trans x13
            replace x14 := (r2.cell (p := ⟨G, 14, none⟩) hz1').trans x14
            have hz2' := Nat.lt_of_lt_of_le hz1' r2.size
            have BT2 := Lib.hid (BT1.out.trans (r2.mono BT1.out.size))
            clear r2
            cases q2
            · skip
              generalize hq3 : rE 38 rx = q3 at CRE
              have Q3 := Lib.hid hq3
              clear hq3
              go_wp2_with fail
              refine (CRE.out _ BT2.out).mono ?_; rintro e t3 ⟨rfl, r3⟩
              replace x3 := (r3.cell (p := ⟨G, 3, none⟩) hz2').trans x3
              replace x4 := (r3.cell (p := ⟨G, 4, none⟩) hz2').trans x4
              replace x5 := (r3.cell (p := ⟨G, 5, none⟩) hz2').trans x5
              replace x6 := (r3.cell (p := ⟨G, 6, none⟩) hz2').trans x6
              replace x7 := (r3.cell (p := ⟨G, 7, none⟩) hz2').trans x7
              replace x8 := (r3.cell (p := ⟨G, 8, none⟩) hz2').trans x8
              replace x9 := (r3.cell (p := ⟨G, 9, none⟩) hz2').trans x9
              replace x10 := (r3.cell (p := ⟨G, 10, none⟩) hz2').trans x10
              replace x11 := (r3.cell (p := ⟨G, 11, none⟩) hz2').trans x11
              replace x12 := (r3.cell (p := ⟨G, 12, none⟩) hz2').trans x12
              replace x13 := (r3.cell (p := ⟨G, 13, none⟩) hz2').trans x13
              replace x14 := (r3.cell (p := ⟨G, 14, none⟩) hz2').trans x14
              have hz3' := Nat.lt_of_lt_of_le hz2' r3.size
              have BT3 := Lib.hid (BT2.out.trans (r3.mono BT2.out.size))
              clear r3
              cases q3
              · go_wp2_with fail
                go_ret
                exact ⟨ret_bool (by rw [HR4.out, Q0.out, Q1.out, Q2.out, Q3.out]; rfl), BT3.out⟩
              · skip
                generalize hq4 : bo.all (rS 38) = q4 at CRL
                have Q4 := Lib.hid hq4
                clear hq4
                go_wp2_with fail
                refine (CRL.out _ BT3.out).mono ?_; rintro e t4 ⟨rfl, r4⟩
                replace x3 := (r4.cell (p := ⟨G, 3, none⟩) hz3').trans x3
                replace x4 := (r4.cell (p := ⟨G, 4, none⟩) hz3').trans x4
                replace x5 := (r4.cell (p := ⟨G, 5, none⟩) hz3').trans x5
                replace x6 := (r4.cell (p := ⟨G, 6, none⟩) hz3').trans x6
                replace x7 := (r4.cell (p := ⟨G, 7, none⟩) hz3').trans x7
                replace x8 := (r4.cell (p := ⟨G, 8, none⟩) hz3').trans x8
                replace x9 := (r4.cell (p := ⟨G, 9, none⟩) hz3').trans x9
                replace x10 := (r4.cell (p := ⟨G, 10, none⟩) hz3').trans x10
                replace x11 := (r4.cell (p := ⟨G, 11, none⟩) hz3').trans x11
                replace x12 := (r4.cell (p := ⟨G, 12, none⟩) hz3').trans x12
                replace x13 := (r4.cell (p := ⟨G, 13, none⟩) hz3').trans x13
                replace x14 := (r4.cell (p := ⟨G, 14, none⟩) hz3').trans x14
                have hz4' := Nat.lt_of_lt_of_le hz3' r4.size
                have BT4 := Lib.hid (BT3.out.trans (r4.mono BT3.out.size))
                clear r4
                go_wp2_with fail
                go_ret
                exact ⟨ret_bool (by rw [HR4.out, Q0.out, Q1.out, Q2.out, Q3.out, Q4.out]; simp), BT4.out⟩
            · go_wp2_with fail
              go_ret
              exact ⟨ret_bool (by rw [HR4.out, Q0.out, Q1.out, Q2.out]; rfl), BT2.out⟩
      · have HR4 : Hid (rI ⟨kd, nm, fs, rt, bo, rx, ps⟩ = (tyB nm && (zT rt && (decide (na2 = 0) && zE rx)))) := Lib.hid (by rw [HR3.out, if_neg h3])
        have e3 : (kd == 3) = false := is_no' h3
        have e3' : (kd != 3) = true := by rw [bne, e3]; rfl
        clear HR3 CNn CRT CLE CRE CRL h3
        generalize hq0 : tyB nm = q0 at CTn
        have Q0 := Lib.hid hq0
        clear hq0
        go_wp2_with fail
        refine (CTn.out _).mono ?_; rintro e t0 ⟨rfl, r0⟩
        replace x3 := (r0.cell (p := ⟨G, 3, none⟩) hzr).trans x3
        replace x4 := (r0.cell (p := ⟨G, 4, none⟩) hzr).trans x4
        replace x5 := (r0.cell (p := ⟨G, 5, none⟩) hzr).trans x5
        replace x6 := (r0.cell (p := ⟨G, 6, none⟩) hzr).trans x6
        replace x7 := (r0.cell (p := ⟨G, 7, none⟩) hzr).trans x7
        replace x8 := (r0.cell (p := ⟨G, 8, none⟩) hzr).trans x8
        replace x9 := (r0.cell (p := ⟨G, 9, none⟩) hzr).trans x9
        replace x10 := (r0.cell (p := ⟨G, 10, none⟩) hzr).trans x10
        replace x11 := (r0.cell (p := ⟨G, 11, none⟩) hzr).trans x11
        replace x12 := (r0.cell (p := ⟨G, 12, none⟩) hzr).trans x12
        replace x13 := (r0.cell (p := ⟨G, 13, none⟩) hzr).trans x13
        replace x14 := (r0.cell (p := ⟨G, 14, none⟩) hzr).trans x14
        have hz0' := Nat.lt_of_lt_of_le hzr r0.size
        have BT0 := Lib.hid (BR.out.trans (r0.mono BR.out.size))
        clear r0
        cases q0
        · go_wp2_with fail
          go_ret
          exact ⟨ret_bool (by rw [HR4.out, Q0.out]; rfl), BT0.out⟩
        · skip
          generalize hq1 : zT rt = q1 at CZT
          have Q1 := Lib.hid hq1
          clear hq1
          go_wp2_with fail
          refine (CZT.out _).mono ?_; rintro e t1 ⟨rfl, r1⟩
          replace x3 := (r1.cell (p := ⟨G, 3, none⟩) hz0').trans x3
          replace x4 := (r1.cell (p := ⟨G, 4, none⟩) hz0').trans x4
          replace x5 := (r1.cell (p := ⟨G, 5, none⟩) hz0').trans x5
          replace x6 := (r1.cell (p := ⟨G, 6, none⟩) hz0').trans x6
          replace x7 := (r1.cell (p := ⟨G, 7, none⟩) hz0').trans x7
          replace x8 := (r1.cell (p := ⟨G, 8, none⟩) hz0').trans x8
          replace x9 := (r1.cell (p := ⟨G, 9, none⟩) hz0').trans x9
          replace x10 := (r1.cell (p := ⟨G, 10, none⟩) hz0').trans x10
          replace x11 := (r1.cell (p := ⟨G, 11, none⟩) hz0').trans x11
          replace x12 := (r1.cell (p := ⟨G, 12, none⟩) hz0').trans x12
          replace x13 := (r1.cell (p := ⟨G, 13, none⟩) hz0').trans x13
          replace x14 := (r1.cell (p := ⟨G, 14, none⟩) hz0').trans x14
          have hz1' := Nat.lt_of_lt_of_le hz0' r1.size
          have BT1 := Lib.hid (BT0.out.trans (r1.mono BT0.out.size))
          clear r1
          cases q1
          · go_wp2_with fail
            go_ret
            exact ⟨ret_bool (by rw [HR4.out, Q0.out, Q1.out]; rfl), BT1.out⟩
          · skip
            by_cases hb0 : na2 = 0
            · subst hb0
              generalize hq3 : zE rx = q3 at CZE
              have Q3 := Lib.hid hq3
              clear hq3
              go_wp2_with fail
              refine (CZE.out _).mono ?_; rintro e t3 ⟨rfl, r3⟩
              replace x3 := (r3.cell (p := ⟨G, 3, none⟩) hz1').trans x3
              replace x4 := (r3.cell (p := ⟨G, 4, none⟩) hz1').trans x4
              replace x5 := (r3.cell (p := ⟨G, 5, none⟩) hz1').trans x5
              replace x6 := (r3.cell (p := ⟨G, 6, none⟩) hz1').trans x6
              replace x7 := (r3.cell (p := ⟨G, 7, none⟩) hz1').trans x7
              replace x8 := (r3.cell (p := ⟨G, 8, none⟩) hz1').trans x8
              replace x9 := (r3.cell (p := ⟨G, 9, none⟩) hz1').trans x9
              replace x10 := (r3.cell (p := ⟨G, 10, none⟩) hz1').trans x10
              replace x11 := (r3.cell (p := ⟨G, 11, none⟩) hz1').trans x11
              replace x12 := (r3.cell (p := ⟨G, 12, none⟩) hz1').trans x12
              replace x13 := (r3.cell (p := ⟨G, 13, none⟩) hz1').trans x13
              replace x14 := (r3.cell (p := ⟨G, 14, none⟩) hz1').trans x14
              have hz3' := Nat.lt_of_lt_of_le hz1' r3.size
              have BT3 := Lib.hid (BT1.out.trans (r3.mono BT1.out.size))
              clear r3
              go_wp2_with fail
              go_ret
              exact ⟨ret_bool (by rw [HR4.out, Q0.out, Q1.out, Q3.out]; simp), BT3.out⟩
            · have D := Lib.hid (decide_eq_false hb0)
              have eb : ((na2 : Int) == 0) = false := is_no' (by omega)
              clear hb0
              go_wp2_with fail
              go_ret
              exact ⟨ret_bool (by rw [HR4.out, Q0.out, Q1.out, D.out]; rfl), BT1.out⟩
set_option maxRecDepth 100000 in
set_option maxHeartbeats 4000000 in
theorem refWhole_calls (B : Nat) (l : List PI) (v : Value) (w : World) (hB : B ≤ w.heap.size) (hp : ProgIn B w l v) :
    Calls Tryz.prog 8 #[.agg #[v]] w fun e w' => e = .returned (.bool (decide (l.length ≤ 30) && l.all rI)) ∧ Below w.heap.size w w' := by
  obtain ⟨b, o, ⟨hn, ao, cap, rfl, k1⟩, rw1⟩ := hp
  unfold maxLen at hn
  obtain ⟨n, hx⟩ : ∃ n, n = l.length := ⟨_, rfl⟩
  rw [← hx] at hn k1 ⊢
  have Hx := Lib.hid hx
  have Hr := Lib.hid rw1
  have H1 := Lib.hid k1
  clear hx rw1 k1
  by_cases h30 : 30 < n
  · have F := Lib.hid (decide_eq_false (show ¬ n ≤ 30 by omega))
    have e1 : (30 : Int) < (n : Int) := by omega
    clear h30
    go_enter Tryz.func8, Tryz.ntmps8
    go_wp2_with fail
    go_ret
    exact ⟨ret_bool (by rw [F.out]; rfl), box1 _ _⟩
  have F := Lib.hid (decide_eq_true (show n ≤ 30 by omega))
  have e1 : ¬ (30 : Int) < (n : Int) := by omega
  clear h30
  go_enter Tryz.func8, Tryz.ntmps8
  go_wp2_with fail
  go_loopw [3] (fun i wr => ∃ k : Nat, k ≤ n ∧ i = .int .i64 k ∧ w.heap.size < wr.heap.size ∧ wr.cell? ⟨w.heap.size, 0, none⟩ = some (.slice ao n cap) ∧ Hid (Below w.heap.size w wr) ∧ Hid (∀ (j : Nat) x, j < k → l[j]? = some x → rI x = true))
    (fun i _ => n - (intOf i).toNat)
  case atStart => exact ⟨0, by omega, rfl, by simp, by go_simp, Lib.hid (box1 _ _), Lib.hid fun j x hj => by omega⟩
  case round =>
    obtain ⟨k, hk, rfl, hz, hc, Hw, HK⟩ := hrel
    have hsz := Hw.out.size
    by_cases hlt : k < n
    · obtain ⟨a, ha, hin⟩ := get_at (l := l) (k := k) (by rw [← Hx.out]; exact hlt)
      obtain ⟨rfl, hb⟩ := H1.out.resolve_left (by omega)
      have hg : b < wr.heap.size := by omega
      obtain ⟨va, ca, ia⟩ := PI.Row.get (PI.Row.below (Hw.out.mono hB) hb Hr.out) ha
      obtain ⟨pa0, na0, qa0, pa1, na1, qa1, pa2, na2, qa2, pa3, na3, qa3, pa4, na4, qa4, rfl⟩ := ia.shape
      obtain ⟨kd, nm, fs, rt, bo, rx, ps⟩ := a
      have c0 : wr.cell? ⟨b, o + k * 16, none⟩ = some (.int .u8 kd) := ca 0 _ rfl
      have c1 : wr.cell? ⟨b, o + k * 16 + 1, none⟩ = some (.string nm) := ca 1 _ rfl
      have c2 : wr.cell? ⟨b, o + k * 16 + 2, none⟩ = some (.slice pa0 na0 qa0) := ca 2 _ rfl
      have c3 : wr.cell? ⟨b, o + k * 16 + 3, none⟩ = some (.int .u8 rt.kind) := ca 3 _ rfl
      have c4 : wr.cell? ⟨b, o + k * 16 + 4, none⟩ = some (.string rt.name) := ca 4 _ rfl
      have c5 : wr.cell? ⟨b, o + k * 16 + 5, none⟩ = some (.slice pa1 na1 qa1) := ca 5 _ rfl
      have c6 : wr.cell? ⟨b, o + k * 16 + 6, none⟩ = some (.slice pa2 na2 qa2) := ca 6 _ rfl
      have c7 : wr.cell? ⟨b, o + k * 16 + 7, none⟩ = some (.int .u8 rx.op) := ca 7 _ rfl
      have c8 : wr.cell? ⟨b, o + k * 16 + 8, none⟩ = some (.int .i64 rx.int) := ca 8 _ rfl
      have c9 : wr.cell? ⟨b, o + k * 16 + 9, none⟩ = some (.string rx.name) := ca 9 _ rfl
      have c10 : wr.cell? ⟨b, o + k * 16 + 10, none⟩ = some (.string rx.second) := ca 10 _ rfl
      have c11 : wr.cell? ⟨b, o + k * 16 + 11, none⟩ = some (.string rx.place.name) := ca 11 _ rfl
      have c12 : wr.cell? ⟨b, o + k * 16 + 12, none⟩ = some (.slice pa3 na3 qa3) := ca 12 _ rfl
      have c13 : wr.cell? ⟨b, o + k * 16 + 13, none⟩ = some (.slice pa4 na4 qa4) := ca 13 _ rfl
      have c14 : wr.cell? ⟨b, o + k * 16 + 14, none⟩ = some (.int .i64 rx.pos) := ca 14 _ rfl
      have c15 : wr.cell? ⟨b, o + k * 16 + 15, none⟩ = some (.int .i64 ps) := ca 15 _ rfl
      have C := Lib.hid (refItem_calls B kd nm fs rt bo rx ps pa0 na0 qa0 pa1 na1 qa1 pa2 na2 qa2 pa3 na3 qa3 pa4 na4 qa4 wr (by omega) ia)
      have Ha := Lib.hid ha
      generalize hq : rI ⟨kd, nm, fs, rt, bo, rx, ps⟩ = q at C
      have Hq := Lib.hid hq
      clear ha hin ca ia hq
      go_wp2_with fail
      refine C.out.mono ?_; rintro e w2 ⟨rfl, b2⟩
      have hc2 := (b2.cell (p := ⟨w.heap.size, 0, none⟩) hz).trans hc
      have hz2 := Nat.lt_of_lt_of_le hz b2.size
      have B2 := Lib.hid (Hw.out.trans (b2.mono (by omega)))
      clear b2 C hc c0 c1 c2 c3 c4 c5 c6 c7 c8 c9 c10 c11 c12 c13 c14 c15
      cases q
      · have hres := Lib.hid (all_not2 (p := rI) Ha.out Hq.out)
        go_wp2_with fail
        go_ret
        exact ⟨ret_bool (by rw [hres.out, Bool.and_false]), B2.out⟩
      · have HK2 : Hid (∀ (j : Nat) x, j < k + 1 → l[j]? = some x → rI x = true) := Lib.hid fun j x hj hx => by
          by_cases e : j = k
          · subst e
            rw [Ha.out] at hx
            cases hx
            exact Hq.out
          · exact HK.out j x (by omega) hx
        go_wp2_with fail
        go_roundw
        case rel => exact ⟨k + 1, by omega, by go_num, hz2, hc2, B2, HK2⟩
        case measure => simp [intOf]; omega
    · obtain rfl : k = n := by omega
      have hres := Lib.hid (all_yes2 (p := rI) (l := l) fun j x hx => HK.out j x (by rw [Hx.out]; exact (List.getElem?_eq_some_iff.1 hx).1) hx)
      go_wp2_with fail
      go_ret
      exact ⟨ret_bool (by rw [hres.out, F.out]; rfl), Hw.out⟩
end Go.Proofs.YtojeijeimpffgaaGreat

