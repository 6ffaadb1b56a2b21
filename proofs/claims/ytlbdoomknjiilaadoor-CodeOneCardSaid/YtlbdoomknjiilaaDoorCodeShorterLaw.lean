/- CodeShorter: the last instruction may be taken away (made by gen_codeshorter.py). -/
import Derived.Test.YtlbdoomknjiilaaDoorCodeSlotsLaw
namespace Go.Proofs.YtlbdoomknjiilaaDoor
open Go.RowKit
set_option linter.unusedVariables false

theorem at_code {w : World} {Z : List (FF × Value)} {g k : Nat} {f : FF} {vc : Value} {fnm : ByteArray} {pa sl : Int} {co : List JJ} (hC : ∀ (j : Nat) p, Z[j]? = some p → At w g (j * 4) (p.1.cells p.2)) (hf : Z[k]? = some (f, vc)) (hff : f.name = fnm ∧ f.params = pa ∧ f.slots = sl) (vd : Value) :
    ∀ (j : Nat) p, (Z.set k ({ f with code := co }, vd))[j]? = some p → At ((((w.setCell ⟨g, k * 4, none⟩ (.string fnm)).setCell ⟨g, k * 4 + 1, none⟩ (.int .i64 pa)).setCell ⟨g, k * 4 + 2, none⟩ (.int .i64 sl)).setCell ⟨g, k * 4 + 3, none⟩ vd) g (j * 4) (p.1.cells p.2) := by
  obtain ⟨rfl, rfl, rfl⟩ := hff
  intro j p hp i v hi
  have hi4 : i < 4 := some_lt hi
  have hk := hC k _ hf
  by_cases hjk : k = j
  · subst hjk
    rw [List.getElem?_set_self (some_lt hf)] at hp
    cases hp
    match i, hi4, hi with
    | 0, _, hi =>
      cases hi
      rw [cell_set_neS _ _ _ _ _ (by omega), cell_set_neS _ _ _ _ _ (by omega), cell_set_neS _ _ _ _ _ (by omega)]
      exact World.cell?_setCell_same _ _ _ (hk 0 _ rfl)
    | 1, _, hi =>
      cases hi
      rw [cell_set_neS _ _ _ _ _ (by omega), cell_set_neS _ _ _ _ _ (by omega)]
      exact World.cell?_setCell_same _ _ _ ((cell_set_neS _ _ _ _ _ (by omega)).trans (hk 1 _ rfl))
    | 2, _, hi =>
      cases hi
      rw [cell_set_neS _ _ _ _ _ (by omega)]
      exact World.cell?_setCell_same _ _ _ ((cell_set_neS _ _ _ _ _ (by omega)).trans ((cell_set_neS _ _ _ _ _ (by omega)).trans (hk 2 _ rfl)))
    | 3, _, hi =>
      cases hi
      exact World.cell?_setCell_same _ _ _ ((cell_set_neS _ _ _ _ _ (by omega)).trans ((cell_set_neS _ _ _ _ _ (by omega)).trans ((cell_set_neS _ _ _ _ _ (by omega)).trans (hk 3 _ rfl))))
  · rw [List.getElem?_set_ne hjk] at hp
    rw [cell_set_neS _ _ _ _ _ (by omega), cell_set_neS _ _ _ _ _ (by omega), cell_set_neS _ _ _ _ _ (by omega), cell_set_neS _ _ _ _ _ (by omega)]
    exact hC j p hp i v hi
theorem cells_lie {w W : World} {Z : List (FF × Value)} {b1 o1 : Nat} (hZ : ∀ (j : Nat) p, Z[j]? = some p → At w b1 (o1 + j * 4) (p.1.cells p.2)) (h : Below w.heap.size w W) (ob : Obj) :
    ∀ ad, some (⟨b1, o1, none⟩ : Addr) = some ad → ∀ j u, (cellsF Z)[j]? = some u → (W.alloc ob).cell? (ad.add j) = some u := fun ad ha j u hu => by
  cases ha
  have hj := some_lt hu
  rw [cellsF_len] at hj
  obtain ⟨p, hp, _⟩ := get_at (l := Z) (k := j / 4) (by omega)
  have hi : ∃ v, (p.1.cells p.2)[j % 4]? = some v := by
    have : j % 4 < (p.1.cells p.2).length := Nat.mod_lt _ (by decide)
    exact ⟨_, List.getElem?_eq_getElem this⟩
  obtain ⟨v, hv⟩ := hi
  have h1 := cellsF_at hp _ _ hv
  rw [show j / 4 * 4 + j % 4 = j by omega, hu] at h1
  cases h1
  have h2 := hZ _ _ hp _ _ hv
  rw [Addr.add_mid]
  have h3 := cell_over (cell_over h2 h) (box1 W ob)
  rwa [show o1 + j / 4 * 4 + j % 4 = o1 + j by omega] at h3

set_option maxRecDepth 100000 in
set_option maxHeartbeats 16000000 in
theorem codeShorter0_no (a1 a2 : Option Addr) (n1 n2 c1 c2 : Nat) (mn fn r : Int) (w : World) (hn : n1 = 0 ∨ r ≠ 0)
    (K0 : Hid (∀ W, Hid (Below w.heap.size w W) → Calls Tryd.prog 10 #[.agg #[.slice a1 n1 c1, .int .i64 mn, .slice a2 n2 c2]] W fun e w' => ∃ r, e = .returned (.bool r) ∧ (r = false → n1 ≤ 30) ∧ Below W.heap.size W w'))
    (K1 : Hid (∀ W, Hid (Below w.heap.size w W) → Calls Tryd.prog 11 #[.agg #[.slice a1 n1 c1, .int .i64 mn, .slice a2 n2 c2]] W fun e w' => e = .returned (.int .i64 r) ∧ Below W.heap.size W w'))
    (K3 : Hid (∀ W, Hid (Below w.heap.size w W) → Calls Tryd.prog 13 #[] W fun e w' => e = .returned (.bool true) ∧ Below W.heap.size W w')) :
    Calls Tryd.prog 7 #[.agg #[.slice a1 n1 c1, .int .i64 mn, .slice a2 n2 c2], .int .i64 fn] w fun e w' => e = .returned (.bool true) ∧ Below w.heap.size w w' := by
  obtain ⟨W0, hW⟩ : ∃ W, W = w.alloc (.cells #[.slice a1 n1 c1, .int .i64 mn, .slice a2 n2 c2] 25) := ⟨_, rfl⟩
  have mB : Hid (Below w.heap.size w W0) := by rw [hW]; exact Lib.hid (box1 w _)
  have f0 : W0.cell? ⟨w.heap.size, 0, none⟩ = some (.slice a1 n1 c1) := by rw [hW]; go_simp
  have f1 : W0.cell? ⟨w.heap.size, 1, none⟩ = some (.int .i64 mn) := by rw [hW]; go_simp
  have f2 : W0.cell? ⟨w.heap.size, 2, none⟩ = some (.slice a2 n2 c2) := by rw [hW]; go_simp
  go_enter Tryd.func7, Tryd.ntmps7
  go_upto_region 1 with (fail)
  rw [← hW]
  clear hW
  go_wp2_with fail
  (with_reducible refine (K0.out _ mB).mono ?_)
  rintro e w1 ⟨q0, rfl, hq0, b1'⟩
  have H1 := hid_upC mB b1'
  have f0 := cell_over f0 b1'
  have f1 := cell_over f1 b1'
  have f2 := cell_over f2 b1'
  clear b1' mB K0
  cases q0 with
  | true =>
    clear hq0
    go_wp2_with fail
    (with_reducible refine (K3.out _ H1).mono ?_)
    rintro e w9 ⟨rfl, b9⟩
    have HZ9 := hid_upC H1 b9
    clear b9
    go_wp2_with fail
    go_ret
    exact ⟨rfl, HZ9.out⟩
  | false =>
  have h30 := hq0 rfl
  clear hq0
  by_cases h0 : n1 = 0
  case pos =>
    have e1 : ((n1 : Int) == 0) = true := by simpa using h0
    clear h0 hn
    go_wp2_with fail
    (with_reducible refine (K3.out _ H1).mono ?_)
    rintro e w9 ⟨rfl, b9⟩
    have HZ9 := hid_upC H1 b9
    clear b9
    go_wp2_with fail
    go_ret
    exact ⟨rfl, HZ9.out⟩
  case neg =>
  have hr := hn.resolve_left h0
  have e1 : ((n1 : Int) == 0) = false := by simpa using h0
  have e0 : (r != 0) = true := by simpa using hr
  clear h0 hr hn
  go_wp2_with fail
  (with_reducible refine (K1.out _ H1).mono ?_)
  rintro e w2 ⟨rfl, b2⟩
  have H2 := hid_upC H1 b2
  have f0 := cell_over f0 b2
  have f1 := cell_over f1 b2
  have f2 := cell_over f2 b2
  clear b2 H1 K1
  go_wp2_with fail
  (with_reducible refine (K3.out _ H2).mono ?_)
  rintro e w9 ⟨rfl, b9⟩
  have HZ9 := hid_upC H2 b9
  clear b9
  go_wp2_with fail
  go_ret
  exact ⟨rfl, HZ9.out⟩

set_option maxRecDepth 100000 in
set_option maxHeartbeats 16000000 in
theorem codeShorter0_nil (a2 a3 : Option Addr) (n1 n2 c1 c2 c3 cn m k b1 o1 : Nat) (mn fn q pa sl : Int) (fnm : ByteArray) (Z : List (FF × Value)) (f : FF) (w : World)
    (K0 : Hid (∀ W, Hid (Below w.heap.size w W) → Calls Tryd.prog 10 #[.agg #[.slice (some ⟨b1, o1, none⟩) n1 c1, .int .i64 mn, .slice a2 n2 c2]] W fun e w' => ∃ r, e = .returned (.bool r) ∧ (r = false → n1 ≤ 30) ∧ Below W.heap.size W w'))
    (K1 : Hid (∀ W, Hid (Below w.heap.size w W) → Calls Tryd.prog 11 #[.agg #[.slice (some ⟨b1, o1, none⟩) n1 c1, .int .i64 mn, .slice a2 n2 c2]] W fun e w' => e = .returned (.int .i64 0) ∧ Below W.heap.size W w'))
    (hn0 : ¬ (n1 : Int) = 0) (hq : IntKind.u64.wrap fn = q) (hN : IntKind.u64.wrap (n1 : Int) = n1) (hr : q.tmod n1 = k) (hr2 : IntKind.i64.wrap (k : Int) = k) (hk : k < n1)
    (hf : Hid (Z[k]? = some (f, .slice a3 cn c3))) (HZa : Hid (∀ (j : Nat) p, Z[j]? = some p → At w b1 (o1 + j * 4) (p.1.cells p.2))) (hff : Hid (f.name = fnm ∧ f.params = pa ∧ f.slots = sl))
    (hcn : cn = 0)
    (K3 : Hid (∀ W, Hid (Below w.heap.size w W) → Calls Tryd.prog 13 #[] W fun e w' => e = .returned (.bool true) ∧ Below W.heap.size W w')) :
    Calls Tryd.prog 7 #[.agg #[.slice (some ⟨b1, o1, none⟩) n1 c1, .int .i64 mn, .slice a2 n2 c2], .int .i64 fn] w fun e w' => e = .returned (.bool true) ∧ Below w.heap.size w w' := by
  obtain ⟨W0, hW⟩ : ∃ W, W = w.alloc (.cells #[.slice (some ⟨b1, o1, none⟩) n1 c1, .int .i64 mn, .slice a2 n2 c2] 25) := ⟨_, rfl⟩
  have mB : Hid (Below w.heap.size w W0) := by rw [hW]; exact Lib.hid (box1 w _)
  have f0 : W0.cell? ⟨w.heap.size, 0, none⟩ = some (.slice (some ⟨b1, o1, none⟩) n1 c1) := by rw [hW]; go_simp
  have f1 : W0.cell? ⟨w.heap.size, 1, none⟩ = some (.int .i64 mn) := by rw [hW]; go_simp
  have f2 : W0.cell? ⟨w.heap.size, 2, none⟩ = some (.slice a2 n2 c2) := by rw [hW]; go_simp
  have e1 : ((n1 : Int) == 0) = false := by simpa using hn0
  have hk0 : 0 ≤ (k : Int) := by omega
  have hk1 : (k : Int) < (n1 : Int) := by omega
  go_enter Tryd.func7, Tryd.ntmps7
  go_upto_region 1 with (fail)
  rw [← hW]
  clear hW
  go_wp2_with fail
  (with_reducible refine (K0.out _ mB).mono ?_)
  rintro e w1 ⟨q0, rfl, hq0, b1'⟩
  have H1 := hid_upC mB b1'
  have f0 := cell_over f0 b1'
  have f1 := cell_over f1 b1'
  have f2 := cell_over f2 b1'
  clear b1' mB K0
  cases q0 with
  | true =>
    clear hq0
    go_wp2_with fail
    (with_reducible refine (K3.out _ H1).mono ?_)
    rintro e w9 ⟨rfl, b9⟩
    have HZ9 := hid_upC H1 b9
    clear b9
    go_wp2_with fail
    go_ret
    exact ⟨rfl, HZ9.out⟩
  | false =>
  have h30 := hq0 rfl
  clear hq0
  go_wp2_with fail
  (with_reducible refine (K1.out _ H1).mono ?_)
  rintro e w2 ⟨rfl, b2⟩
  have H2 := hid_upC H1 b2
  have f0 := cell_over f0 b2
  have f1 := cell_over f1 b2
  have f2 := cell_over f2 b2
  clear b2 H1 K1
  have r0 : w2.cell? ⟨b1, o1 + k * 4, none⟩ = some (.string fnm) := cell_over (by have := HZa.out k _ hf.out 0 _ rfl; rw [hff.out.1] at this; exact this) H2.out
  have r1 : w2.cell? ⟨b1, o1 + k * 4 + 1, none⟩ = some (.int .i64 pa) := cell_over (by have := HZa.out k _ hf.out 1 _ rfl; rw [hff.out.2.1] at this; exact this) H2.out
  have r2 : w2.cell? ⟨b1, o1 + k * 4 + 2, none⟩ = some (.int .i64 sl) := cell_over (by have := HZa.out k _ hf.out 2 _ rfl; rw [hff.out.2.2] at this; exact this) H2.out
  have r3 : w2.cell? ⟨b1, o1 + k * 4 + 3, none⟩ = some (.slice a3 cn c3) := cell_over (by have := HZa.out k _ hf.out 3 _ rfl; exact this) H2.out
  have e2 : ((cn : Int) == 0) = true := by simpa using hcn
  clear hcn
  go_upto_region 5 with (fail)
  obtain ⟨W5, hW⟩ : ∃ W, W = w2.alloc (.cells #[.string fnm, .int .i64 pa, .int .i64 sl, .slice a3 cn c3] 45) := ⟨_, rfl⟩
  have y3 : W5.cell? ⟨w2.heap.size, 3, none⟩ = some (.slice a3 cn c3) := by rw [hW]; go_simp
  have H5 : Hid (Below w.heap.size w W5) := by rw [hW]; exact hid_upC H2 (box1 _ _)
  rw [← hW]
  clear hW H2
  go_wp2_with fail
  (with_reducible refine (K3.out _ H5).mono ?_)
  rintro e w9 ⟨rfl, b9⟩
  have HZ9 := hid_upC H5 b9
  clear b9
  go_wp2_with fail
  go_ret
  exact ⟨rfl, HZ9.out⟩

set_option maxRecDepth 100000 in
set_option maxHeartbeats 16000000 in
theorem codeShorter0_yes (a2 : Option Addr) (n1 n2 c1 c2 c3 cn m k b1 o1 b3 o3 : Nat) (mn fn q pa sl : Int) (fnm : ByteArray) (Z : List (FF × Value)) (f : FF) (w : World)
    (K0 : Hid (∀ W, Hid (Below w.heap.size w W) → Calls Tryd.prog 10 #[.agg #[.slice (some ⟨b1, o1, none⟩) n1 c1, .int .i64 mn, .slice a2 n2 c2]] W fun e w' => ∃ r, e = .returned (.bool r) ∧ (r = false → n1 ≤ 30) ∧ Below W.heap.size W w'))
    (K1 : Hid (∀ W, Hid (Below w.heap.size w W) → Calls Tryd.prog 11 #[.agg #[.slice (some ⟨b1, o1, none⟩) n1 c1, .int .i64 mn, .slice a2 n2 c2]] W fun e w' => e = .returned (.int .i64 0) ∧ Below W.heap.size W w'))
    (KJ : Hid (∀ (i : Nat) (x : JJ), f.code[i]? = some x → ∃ (a4 a5 a6 : Option Addr) (n4 n5 n6 c4 c5 c6 nl : Nat) (l : List Int), l = jumpsB x ∧ nl = l.length ∧ nl ≤ 1000 ∧ At w b3 (o3 + i * 9) [.int .u8 x.op, .int .i64 x.a, .int .i64 x.b, .int .i64 x.c, .slice a4 n4 c4, .slice a5 n5 c5, .int .i64 x.int, .string x.name, .slice a6 n6 c6] ∧
      Hid (∀ W, Hid (Below w.heap.size w W) → Calls Tryd.prog 19 #[.agg #[.int .u8 x.op, .int .i64 x.a, .int .i64 x.b, .int .i64 x.c, .slice a4 n4 c4, .slice a5 n5 c5, .int .i64 x.int, .string x.name, .slice a6 n6 c6]] W fun e w' => ∃ r, e = .returned r ∧ w'.ownsRow W.heap.size 3 1 r nl (ints l) ∧ Below W.heap.size W w')))
    (KW : Hid ((∀ (i : Nat) x, f.code[i]? = some x → ∀ z ∈ jumpsB x, z ≠ (cn : Int)) → ∀ W (g gc : Nat), n1 ≤ gc → g < W.heap.size → (∀ (j : Nat) p, (Z.set k ({ f with code := f.code.take m }, .slice (some ⟨b3, o3, none⟩) m c3))[j]? = some p → At W g (j * 4) (p.1.cells p.2)) → Hid (Below w.heap.size w W) →
      Calls Tryd.prog 11 #[.agg #[.slice (some ⟨g, 0, none⟩) n1 gc, .int .i64 mn, .slice a2 n2 c2]] W fun e w' => e = .returned (.int .i64 0) ∧ Below W.heap.size W w'))
    (hcl : Hid (f.code.length = cn)) (hcn : cn = m + 1) (hcm : cn ≤ maxLen) (hm : m ≤ c3) (HZ : Hid (n1 = Z.length)) (HZi : Hid (∀ u ∈ cellsF Z, u.oneCell' = true))
    (hn0 : ¬ (n1 : Int) = 0) (hq : IntKind.u64.wrap fn = q) (hN : IntKind.u64.wrap (n1 : Int) = n1) (hr : q.tmod n1 = k) (hr2 : IntKind.i64.wrap (k : Int) = k) (hk : k < n1)
    (hf : Hid (Z[k]? = some (f, .slice (some ⟨b3, o3, none⟩) cn c3))) (HZa : Hid (∀ (j : Nat) p, Z[j]? = some p → At w b1 (o1 + j * 4) (p.1.cells p.2))) (hff : Hid (f.name = fnm ∧ f.params = pa ∧ f.slots = sl))
    (K3 : Hid (∀ W, Hid (Below w.heap.size w W) → Calls Tryd.prog 13 #[] W fun e w' => e = .returned (.bool true) ∧ Below W.heap.size W w')) :
    Calls Tryd.prog 7 #[.agg #[.slice (some ⟨b1, o1, none⟩) n1 c1, .int .i64 mn, .slice a2 n2 c2], .int .i64 fn] w fun e w' => e = .returned (.bool true) ∧ Below w.heap.size w w' := by
  obtain ⟨W0, hW⟩ : ∃ W, W = w.alloc (.cells #[.slice (some ⟨b1, o1, none⟩) n1 c1, .int .i64 mn, .slice a2 n2 c2] 25) := ⟨_, rfl⟩
  have mB : Hid (Below w.heap.size w W0) := by rw [hW]; exact Lib.hid (box1 w _)
  have f0 : W0.cell? ⟨w.heap.size, 0, none⟩ = some (.slice (some ⟨b1, o1, none⟩) n1 c1) := by rw [hW]; go_simp
  have f1 : W0.cell? ⟨w.heap.size, 1, none⟩ = some (.int .i64 mn) := by rw [hW]; go_simp
  have f2 : W0.cell? ⟨w.heap.size, 2, none⟩ = some (.slice a2 n2 c2) := by rw [hW]; go_simp
  have e1 : ((n1 : Int) == 0) = false := by simpa using hn0
  have hk0 : 0 ≤ (k : Int) := by omega
  have hk1 : (k : Int) < (n1 : Int) := by omega
  go_enter Tryd.func7, Tryd.ntmps7
  go_upto_region 1 with (fail)
  rw [← hW]
  clear hW
  go_wp2_with fail
  (with_reducible refine (K0.out _ mB).mono ?_)
  rintro e w1 ⟨q0, rfl, hq0, b1'⟩
  have H1 := hid_upC mB b1'
  have f0 := cell_over f0 b1'
  have f1 := cell_over f1 b1'
  have f2 := cell_over f2 b1'
  clear b1' mB K0
  cases q0 with
  | true =>
    clear hq0
    go_wp2_with fail
    (with_reducible refine (K3.out _ H1).mono ?_)
    rintro e w9 ⟨rfl, b9⟩
    have HZ9 := hid_upC H1 b9
    clear b9
    go_wp2_with fail
    go_ret
    exact ⟨rfl, HZ9.out⟩
  | false =>
  have h30 := hq0 rfl
  clear hq0
  go_wp2_with fail
  (with_reducible refine (K1.out _ H1).mono ?_)
  rintro e w2 ⟨rfl, b2⟩
  have H2 := hid_upC H1 b2
  have f0 := cell_over f0 b2
  have f1 := cell_over f1 b2
  have f2 := cell_over f2 b2
  clear b2 H1 K1
  have r0 : w2.cell? ⟨b1, o1 + k * 4, none⟩ = some (.string fnm) := cell_over (by have := HZa.out k _ hf.out 0 _ rfl; rw [hff.out.1] at this; exact this) H2.out
  have r1 : w2.cell? ⟨b1, o1 + k * 4 + 1, none⟩ = some (.int .i64 pa) := cell_over (by have := HZa.out k _ hf.out 1 _ rfl; rw [hff.out.2.1] at this; exact this) H2.out
  have r2 : w2.cell? ⟨b1, o1 + k * 4 + 2, none⟩ = some (.int .i64 sl) := cell_over (by have := HZa.out k _ hf.out 2 _ rfl; rw [hff.out.2.2] at this; exact this) H2.out
  have r3 : w2.cell? ⟨b1, o1 + k * 4 + 3, none⟩ = some (.slice (some ⟨b3, o3, none⟩) cn c3) := cell_over (by have := HZa.out k _ hf.out 3 _ rfl; exact this) H2.out
  have e2 : ((cn : Int) == 0) = false := by rw [hcn]; simp; omega
  obtain ⟨j0, hi, hz0, hz1, hz2⟩ := info_parts infoFunc
  have hm1 : (cn : Int) - 1 = (m : Int) := by omega
  have HCN := Lib.hid hcn
  have hcm' := hcm
  unfold maxLen at hcm'
  clear hcn
  have zf := World.block_lt_of_cell? w2 _ f0
  dsimp only at zf
  go_upto_region 5 with (fail)
  obtain ⟨W5, hW⟩ : ∃ W, W = w2.alloc (.cells #[.string fnm, .int .i64 pa, .int .i64 sl, .slice (some ⟨b3, o3, none⟩) cn c3] 45) := ⟨_, rfl⟩
  have B5 : Below w2.heap.size w2 W5 := by rw [hW]; exact box1 _ _
  have H5 : Hid (Below w.heap.size w W5) := hid_upC H2 B5
  have y0 : W5.cell? ⟨w2.heap.size, 0, none⟩ = some (.string fnm) := by rw [hW]; go_simp
  have y1 : W5.cell? ⟨w2.heap.size, 1, none⟩ = some (.int .i64 pa) := by rw [hW]; go_simp
  have y2 : W5.cell? ⟨w2.heap.size, 2, none⟩ = some (.int .i64 sl) := by rw [hW]; go_simp
  have y3 : W5.cell? ⟨w2.heap.size, 3, none⟩ = some (.slice (some ⟨b3, o3, none⟩) cn c3) := by rw [hW]; go_simp
  have yf : W5.frozen? ⟨w2.heap.size, 3, none⟩ = false := by rw [hW]; go_simp
  have z5 := World.block_lt_of_cell? W5 _ y3
  dsimp only at z5
  have HS2 := Lib.hid H2.out.size
  have f0 := cell_over f0 B5
  have f1 := cell_over f1 B5
  have f2 := cell_over f2 B5
  rw [← hW]
  clear hW B5 H2 r0 r1 r2 r3
  go_wp2_with fail
  go_loopw [7] (fun i wr => ∃ n : Nat, n ≤ cn ∧ i = .int .i64 n ∧ Hid (Below W5.heap.size W5 wr) ∧ Hid (∀ (j : Nat) x, j < n → f.code[j]? = some x → ∀ z ∈ jumpsB x, z ≠ (cn : Int))) (fun i _ => cn - (intOf i).toNat)
  case atStart => exact ⟨0, by omega, rfl, Lib.hid (Below.refl _ _), Lib.hid fun j x hj => by omega⟩
  case round =>
    obtain ⟨n, hn, rfl, HB, HD⟩ := hrel
    have hn00 : 0 ≤ (n : Int) := by omega
    have H6 := Lib.hid (H5.out.trans (HB.out.mono H5.out.size))
    have f0 := cell_over f0 HB.out
    have f1 := cell_over f1 HB.out
    have f2 := cell_over f2 HB.out
    have y0 := cell_over y0 HB.out
    have y1 := cell_over y1 HB.out
    have y2 := cell_over y2 HB.out
    have y3 := cell_over y3 HB.out
    by_cases hlt : n < cn
    · have hn1 : (n : Int) < (cn : Int) := by omega
      obtain ⟨x, hx, _⟩ := get_at (l := f.code) (k := n) (by rw [hcl.out]; exact hlt)
      obtain ⟨a4, a5, a6, n4, n5, n6, c4, c5, c6, nl, l, hlx, hnl, hnl2, hat, KJx⟩ := KJ.out n x hx
      have x0 : wr.cell? ⟨b3, o3 + n * 9, none⟩ = some (.int .u8 x.op) := cell_over (hat 0 _ rfl) H6.out
      have x1 : wr.cell? ⟨b3, o3 + n * 9 + 1, none⟩ = some (.int .i64 x.a) := cell_over (hat 1 _ rfl) H6.out
      have x2 : wr.cell? ⟨b3, o3 + n * 9 + 2, none⟩ = some (.int .i64 x.b) := cell_over (hat 2 _ rfl) H6.out
      have x3 : wr.cell? ⟨b3, o3 + n * 9 + 3, none⟩ = some (.int .i64 x.c) := cell_over (hat 3 _ rfl) H6.out
      have x4 : wr.cell? ⟨b3, o3 + n * 9 + 4, none⟩ = some (.slice a4 n4 c4) := cell_over (hat 4 _ rfl) H6.out
      have x5 : wr.cell? ⟨b3, o3 + n * 9 + 5, none⟩ = some (.slice a5 n5 c5) := cell_over (hat 5 _ rfl) H6.out
      have x6 : wr.cell? ⟨b3, o3 + n * 9 + 6, none⟩ = some (.int .i64 x.int) := cell_over (hat 6 _ rfl) H6.out
      have x7 : wr.cell? ⟨b3, o3 + n * 9 + 7, none⟩ = some (.string x.name) := cell_over (hat 7 _ rfl) H6.out
      have x8 : wr.cell? ⟨b3, o3 + n * 9 + 8, none⟩ = some (.slice a6 n6 c6) := cell_over (hat 8 _ rfl) H6.out
      have HX := Lib.hid hx
      have HLX := Lib.hid hlx
      have HNL := Lib.hid hnl
      clear hx hlx hnl hat
      generalize x.op = op at *
      generalize x.a = xa at *
      generalize x.b = xb at *
      generalize x.c = xc at *
      generalize x.int = xi at *
      generalize x.name = xn at *
      go_wp2_with fail
      (with_reducible refine (KJx.out _ H6).mono ?_)
      rintro e w6 ⟨rr, rfl, ho, b6⟩
      have HB6 := hid_upC HB b6
      have H7 := hid_upC H6 b6
      clear b6
      obtain ⟨h, ja, jc, rfl, hj1, hj2⟩ := own_rowS ho (by unfold maxLen; omega)
      have HJ1 := Lib.hid hj1
      have HJ2 := Lib.hid hj2
      clear ho hj1 hj2 x0 x1 x2 x3 x4 x5 x6 x7 x8 KJx f0 f1 f2 y0 y1 y2 y3
      as_aux_lemma =>
        go_wp2_with fail
        go_loopw [9] (fun i wr => ∃ j : Nat, j ≤ nl ∧ i = .int .i64 j ∧ Hid (Below w6.heap.size w6 wr) ∧ Hid (∀ (t : Nat) z, t < j → l[t]? = some z → z ≠ (cn : Int))) (fun i _ => nl - (intOf i).toNat)
        case atStart => exact ⟨0, by omega, rfl, Lib.hid (Below.refl _ _), Lib.hid fun j x hj => by omega⟩
        case round =>
          obtain ⟨j, hj, rfl, HE, HQ⟩ := hrel
          have hj0 : 0 ≤ (j : Int) := by omega
          by_cases hjt : j < nl
          · have hj1 : (j : Int) < (nl : Int) := by omega
            obtain ⟨z, hz, _⟩ := get_at (l := l) (k := j) (by rw [← HNL.out]; exact hjt)
            obtain ⟨rfl, hl1, hl2⟩ := HJ1.out (by omega)
            have q3 := cell_over (HJ2.out j z hz) HE.out
            by_cases hzc : z = (cn : Int)
            · have e3 : (z == (cn : Int)) = true := by simpa using hzc
              have H8 := Lib.hid (H7.out.trans (HE.out.mono H7.out.size))
              clear hzc
              as_aux_lemma =>
                go_wp2_with fail
                (with_reducible refine (K3.out _ H8).mono ?_)
                rintro e w9 ⟨rfl, b9⟩
                have HZ9 := hid_upC H8 b9
                clear b9
                go_wp2_with fail
                go_ret
                exact ⟨rfl, HZ9.out⟩
            · have e3 : (z == (cn : Int)) = false := by simpa using hzc
              have HQ2 : Hid (∀ (t : Nat) z, t < j + 1 → l[t]? = some z → z ≠ (cn : Int)) := Lib.hid fun t z' ht hz' => by
                by_cases htj : t = j
                · subst htj
                  rw [hz] at hz'
                  cases hz'
                  exact hzc
                · exact HQ.out t z' (by omega) hz'
              clear hzc
              as_aux_lemma =>
                go_wp2_with fail
                go_roundw
                case rel => exact ⟨j + 1, by omega, by go_num, HE, HQ2⟩
                case measure => simp [intOf]; omega
          · obtain rfl : j = nl := by omega
            have HB7 := Lib.hid (HB6.out.trans (HE.out.mono HB6.out.size))
            have HD2 : Hid (∀ (t : Nat) x, t < n + 1 → f.code[t]? = some x → ∀ z ∈ jumpsB x, z ≠ (cn : Int)) := Lib.hid fun t x' ht hx' => by
              by_cases htn : t = n
              · subst htn
                rw [HX.out] at hx'
                cases hx'
                rw [← HLX.out]
                intro z hz
                obtain ⟨i, hi⟩ := List.getElem?_of_mem hz
                exact HQ.out i z (by rw [HNL.out]; exact some_lt hi) hi
              · exact HD.out t x' (by omega) hx'
            as_aux_lemma =>
              go_wp2_with fail
              go_roundw
              case rel => exact ⟨n + 1, by omega, by go_num, HB7, HD2⟩
              case measure => simp [intOf]; omega
    · obtain rfl : n = cn := by omega
      have HNo : Hid (∀ (i : Nat) x, f.code[i]? = some x → ∀ z ∈ jumpsB x, z ≠ (n : Int)) := Lib.hid fun i x hx => HD.out i x (by have := some_lt hx; have := hcl.out; omega) hx
      have KW := Lib.hid (KW.out HNo.out)
      have yf := (HB.out.frozen (p := ⟨w2.heap.size, 3, none⟩) z5).trans yf
      have zy := World.block_lt_of_cell? wr _ y3
      have zf := World.block_lt_of_cell? wr _ f0
      dsimp only at zy zf
      have HS6 : Hid (w.heap.size ≤ w2.heap.size ∧ w2.heap.size ≤ wr.heap.size) := Lib.hid ⟨HS2.out, by omega⟩
      clear HB HD HNo KJ H5 z5
      go_upto_region 18 with (fail)
      obtain ⟨W7, hW⟩ : ∃ W, W = wr.alloc (.cells #[.slice (some ⟨b1, o1, none⟩) n1 c1, .int .i64 mn, .slice a2 n2 c2] 25) := ⟨_, rfl⟩
      have B7 : Below wr.heap.size wr W7 := by rw [hW]; exact box1 _ _
      have l0 : W7.cell? ⟨wr.heap.size, 0, none⟩ = some (.slice (some ⟨b1, o1, none⟩) n1 c1) := by rw [hW]; go_simp
      have l1 : W7.cell? ⟨wr.heap.size, 1, none⟩ = some (.int .i64 mn) := by rw [hW]; go_simp
      have l2 : W7.cell? ⟨wr.heap.size, 2, none⟩ = some (.slice a2 n2 c2) := by rw [hW]; go_simp
      have lf : W7.frozen? ⟨wr.heap.size, 0, none⟩ = false := by rw [hW]; go_simp
      have H7 := hid_upC H6 B7
      have s7 := World.block_lt_of_cell? W7 _ l0
      dsimp only at s7
      have yf := (B7.frozen (p := ⟨w2.heap.size, 3, none⟩) zy).trans yf
      have f0 := cell_over f0 B7
      have f1 := cell_over f1 B7
      have f2 := cell_over f2 B7
      have y0 := cell_over y0 B7
      have y1 := cell_over y1 B7
      have y2 := cell_over y2 B7
      have y3 := cell_over y3 B7
      have zf7 := Nat.lt_of_lt_of_le zf B7.size
      have zy7 := Nat.lt_of_lt_of_le zy B7.size
      rw [← hW]
      clear hW H6
      have HL7 : Hid ((cellsF Z).length = n1 * 4) := Lib.hid (by rw [cellsF_len, HZ.out])
      have HN7 : Hid (∀ ad, some (⟨b1, o1, none⟩ : Addr) = some ad → ∀ j u, (cellsF Z)[j]? = some u → (W7.alloc (.cells #[] 45)).cell? (ad.add j) = some u) := Lib.hid (cells_lie HZa.out H7.out _)
      have HE7 : Hid ((W7.alloc (.cells #[] 45)).ownsRow W7.heap.size 45 4 (.slice (some ⟨W7.heap.size, 0, none⟩) 0 0) 0 []) := Lib.hid (World.ownsRow_lit W7 #[] 0 (Nat.le_refl _) (by decide) rfl)
      go_wp2_with (first
        | (at_builtin; refine wpList_append_anyC rfl _ _ 22 rfl W7.heap.size 45 j0 (.agg #[.string ⟨#[]⟩, .int .i64 0, .int .i64 0, .slice none 0 0]) 4 56 Tryd.underlying22 hi hz0 hz1 hz2 rfl (by decide) (.slice (some ⟨W7.heap.size, 0, none⟩) 0 0) 0 [] rfl HE7.out (some ⟨b1, o1, none⟩) n1 c1 (cellsF Z) rfl (fun h => by cases h) HL7.out HN7.out HZi.out ?c3 ?c4 ?c5 ?_)
        | fail)
      case c3 => unfold maxLen; omega
      case c4 => omega
      case c5 => simp
      intro v' v hown hgrow
      have BV : Below W7.heap.size W7 v := (box1 W7 _).grown hgrow (by simp) (fun k hk => by simp [Value.ownBlock] at hk; omega)
      have hown : v.ownsRow W7.heap.size 45 4 v' n1 (cellsF Z) := by simpa using hown
      obtain ⟨-, g, gao, gcap, rfl, hgc, hg0, hgC, hgF⟩ := own_F hown (by unfold maxLen; omega)
      obtain ⟨rfl, hgl, hgb⟩ := hg0 (by omega)
      clear hown hgrow hg0 HL7 HN7 HE7 hi hz0 hz1 hz2
      have HC := Lib.hid hgC
      have HF := Lib.hid hgF
      clear hgC hgF
      have H8 := hid_upC H7 BV
      have y0 := cell_over y0 BV
      have y1 := cell_over y1 BV
      have y2 := cell_over y2 BV
      have y3 := cell_over y3 BV
      have l0 := cell_over l0 BV
      have l1 := cell_over l1 BV
      have l2 := cell_over l2 BV
      have yf := (BV.frozen (p := ⟨w2.heap.size, 3, none⟩) zy7).trans yf
      have lf := (BV.frozen (p := ⟨wr.heap.size, 0, none⟩) s7).trans lf
      clear BV B7 H7 f0 f1 f2
      go_upto_region 19 with (fail)
      obtain ⟨W8, hW⟩ : ∃ W, W = v.setCell ⟨wr.heap.size, 0, none⟩ (.slice (some ⟨g, 0, none⟩) n1 gcap) := ⟨_, rfl⟩
      have nrg : wr.heap.size ≠ g := by omega
      have nwg : w2.heap.size ≠ g := by omega
      have nrw : wr.heap.size ≠ w2.heap.size := by omega
      have hwr : w.heap.size ≤ wr.heap.size := Nat.le_trans HS6.out.1 HS6.out.2
      have H9 : Hid (Below w.heap.size w W8) := by rw [hW]; exact Lib.hid (H8.out.setCell (by exact hwr) _)
      have HC9 : Hid (∀ (j : Nat) p, Z[j]? = some p → At W8 g (j * 4) (p.1.cells p.2)) := Lib.hid fun j p hp i u hi => by
        rw [hW, cell_set_blk _ _ _ _ _ _ nrg]
        exact HC.out j p hp i u hi
      have HF9 : Hid (∀ i, i < n1 * 4 → W8.frozen? ⟨g, i, none⟩ = false) := Lib.hid fun i hi => by
        rw [hW, World.frozen?_setCell]
        exact HF.out i hi
      have hg9 : g < W8.heap.size := by rw [hW]; simpa using hgl
      have yf : W8.frozen? ⟨w2.heap.size, 3, none⟩ = false := by rw [hW, World.frozen?_setCell]; exact yf
      have l0 : W8.cell? ⟨wr.heap.size, 0, none⟩ = some (.slice (some ⟨g, 0, none⟩) n1 gcap) := by rw [hW]; exact World.cell?_setCell_same _ _ _ l0
      have l1 : W8.cell? ⟨wr.heap.size, 1, none⟩ = some (.int .i64 mn) := by rw [hW, cell_set_neS _ _ _ _ _ (by decide)]; exact l1
      have l2 : W8.cell? ⟨wr.heap.size, 2, none⟩ = some (.slice a2 n2 c2) := by rw [hW, cell_set_neS _ _ _ _ _ (by decide)]; exact l2
      have y0 : W8.cell? ⟨w2.heap.size, 0, none⟩ = some (.string fnm) := by rw [hW, cell_set_blk _ _ _ _ _ _ nrw]; exact y0
      have y1 : W8.cell? ⟨w2.heap.size, 1, none⟩ = some (.int .i64 pa) := by rw [hW, cell_set_blk _ _ _ _ _ _ nrw]; exact y1
      have y2 : W8.cell? ⟨w2.heap.size, 2, none⟩ = some (.int .i64 sl) := by rw [hW, cell_set_blk _ _ _ _ _ _ nrw]; exact y2
      have y3 : W8.cell? ⟨w2.heap.size, 3, none⟩ = some (.slice (some ⟨b3, o3, none⟩) n c3) := by rw [hW, cell_set_blk _ _ _ _ _ _ nrw]; exact y3
      rw [← hW]
      clear hW H8 HC HF lf hgl
      go_upto_region 20 with (fail)
      obtain ⟨Wa, hW⟩ : ∃ W, W = W8.setCell ⟨w2.heap.size, 3, none⟩ (.slice (some ⟨b3, o3, none⟩) m c3) := ⟨_, rfl⟩
      have Ha : Hid (Below w.heap.size w Wa) := by rw [hW]; exact Lib.hid (H9.out.setCell (by exact HS6.out.1) _)
      have HCa : Hid (∀ (j : Nat) p, Z[j]? = some p → At Wa g (j * 4) (p.1.cells p.2)) := Lib.hid fun j p hp i u hi => by
        rw [hW, cell_set_blk _ _ _ _ _ _ nwg]
        exact HC9.out j p hp i u hi
      have HFa : Hid (∀ i, i < n1 * 4 → Wa.frozen? ⟨g, i, none⟩ = false) := Lib.hid fun i hi => by
        rw [hW, World.frozen?_setCell]
        exact HF9.out i hi
      have hga : g < Wa.heap.size := by rw [hW]; simpa using hg9
      have y3 : Wa.cell? ⟨w2.heap.size, 3, none⟩ = some (.slice (some ⟨b3, o3, none⟩) m c3) := by rw [hW]; exact World.cell?_setCell_same _ _ _ y3
      have y0 : Wa.cell? ⟨w2.heap.size, 0, none⟩ = some (.string fnm) := by rw [hW, cell_set_neS _ _ _ _ _ (by decide)]; exact y0
      have y1 : Wa.cell? ⟨w2.heap.size, 1, none⟩ = some (.int .i64 pa) := by rw [hW, cell_set_neS _ _ _ _ _ (by decide)]; exact y1
      have y2 : Wa.cell? ⟨w2.heap.size, 2, none⟩ = some (.int .i64 sl) := by rw [hW, cell_set_neS _ _ _ _ _ (by decide)]; exact y2
      have l0 : Wa.cell? ⟨wr.heap.size, 0, none⟩ = some (.slice (some ⟨g, 0, none⟩) n1 gcap) := by rw [hW, cell_set_blk _ _ _ _ _ _ nrw.symm]; exact l0
      have l1 : Wa.cell? ⟨wr.heap.size, 1, none⟩ = some (.int .i64 mn) := by rw [hW, cell_set_blk _ _ _ _ _ _ nrw.symm]; exact l1
      have l2 : Wa.cell? ⟨wr.heap.size, 2, none⟩ = some (.slice a2 n2 c2) := by rw [hW, cell_set_blk _ _ _ _ _ _ nrw.symm]; exact l2
      have q0 : Wa.cell? ⟨g, k * 4, none⟩ = some (.string fnm) := by have := HCa.out k _ hf.out 0 _ rfl; rw [hff.out.1] at this; exact this
      have qf0 : Wa.frozen? ⟨g, k * 4, none⟩ = false := HFa.out _ (by omega)
      have q1 : Wa.cell? ⟨g, k * 4 + 1, none⟩ = some (.int .i64 pa) := by have := HCa.out k _ hf.out 1 _ rfl; rw [hff.out.2.1] at this; exact this
      have qf1 : Wa.frozen? ⟨g, k * 4 + 1, none⟩ = false := HFa.out _ (by omega)
      have q2 : Wa.cell? ⟨g, k * 4 + 2, none⟩ = some (.int .i64 sl) := by have := HCa.out k _ hf.out 2 _ rfl; rw [hff.out.2.2] at this; exact this
      have qf2 : Wa.frozen? ⟨g, k * 4 + 2, none⟩ = false := HFa.out _ (by omega)
      have q3 : Wa.cell? ⟨g, k * 4 + 3, none⟩ = some (.slice (some ⟨b3, o3, none⟩) n c3) := by have := HCa.out k _ hf.out 3 _ rfl; exact this
      have qf3 : Wa.frozen? ⟨g, k * 4 + 3, none⟩ = false := HFa.out _ (by omega)
      rw [← hW]
      clear hW H9 HC9 HF9 hg9 yf
      go_upto_region 21 with (fail)
      obtain ⟨Wb, hW⟩ : ∃ W, W = (((Wa.setCell ⟨g, k * 4, none⟩ (.string fnm)).setCell ⟨g, k * 4 + 1, none⟩ (.int .i64 pa)).setCell ⟨g, k * 4 + 2, none⟩ (.int .i64 sl)).setCell ⟨g, k * 4 + 3, none⟩ (.slice (some ⟨b3, o3, none⟩) m c3) := ⟨_, rfl⟩
      have hwg : w.heap.size ≤ g := by omega
      have Hb : Hid (Below w.heap.size w Wb) := by rw [hW]; exact Lib.hid ((((Ha.out.setCell (by exact hwg) _).setCell (by exact hwg) _).setCell (by exact hwg) _).setCell (by exact hwg) _)
      have HCb : Hid (∀ (j : Nat) p, (Z.set k ({ f with code := f.code.take m }, .slice (some ⟨b3, o3, none⟩) m c3))[j]? = some p → At Wb g (j * 4) (p.1.cells p.2)) := by rw [hW]; exact Lib.hid (at_code HCa.out hf.out hff.out _)
      have hgb2 : g < Wb.heap.size := by rw [hW]; simpa using hga
      have l0 : Wb.cell? ⟨wr.heap.size, 0, none⟩ = some (.slice (some ⟨g, 0, none⟩) n1 gcap) := by rw [hW, cell_set_blk _ _ _ _ _ _ nrg.symm, cell_set_blk _ _ _ _ _ _ nrg.symm, cell_set_blk _ _ _ _ _ _ nrg.symm, cell_set_blk _ _ _ _ _ _ nrg.symm]; exact l0
      have l1 : Wb.cell? ⟨wr.heap.size, 1, none⟩ = some (.int .i64 mn) := by rw [hW, cell_set_blk _ _ _ _ _ _ nrg.symm, cell_set_blk _ _ _ _ _ _ nrg.symm, cell_set_blk _ _ _ _ _ _ nrg.symm, cell_set_blk _ _ _ _ _ _ nrg.symm]; exact l1
      have l2 : Wb.cell? ⟨wr.heap.size, 2, none⟩ = some (.slice a2 n2 c2) := by rw [hW, cell_set_blk _ _ _ _ _ _ nrg.symm, cell_set_blk _ _ _ _ _ _ nrg.symm, cell_set_blk _ _ _ _ _ _ nrg.symm, cell_set_blk _ _ _ _ _ _ nrg.symm]; exact l2
      rw [← hW]
      clear hW Ha HCa HFa hga q0 q1 q2 q3 qf0 qf1 qf2 qf3
      go_wp2_with fail
      (with_reducible refine (KW.out _ g gcap hgc hgb2 HCb.out Hb).mono ?_)
      rintro e w11 ⟨rfl, b11⟩
      have Hc := hid_upC Hb b11
      clear b11 Hb HCb
      go_wp2_with fail
      (with_reducible refine (K3.out _ Hc).mono ?_)
      rintro e w9 ⟨rfl, b9⟩
      have HZ9 := hid_upC Hc b9
      clear b9
      go_wp2_with fail
      go_ret
      exact ⟨rfl, HZ9.out⟩

/-! ### what may be stays so -/
theorem rows_a2 : ∀ k : Nat, k < 35 → ((codeRows[k]?).getD noRow).a = 2 → k = 14 ∨ k = 15 := by decide +kernel
theorem rows_b2 : ∀ k : Nat, k < 35 → ((codeRows[k]?).getD noRow).b ≠ 2 ∧ ((codeRows[k]?).getD noRow).i ≠ 2 := by decide +kernel
theorem rows_s16 : ∀ k : Nat, k < 35 → ((codeRows[k]?).getD noRow).s = true → k = 16 := by decide +kernel
theorem rowR_2 {op : Int} (h : 0 ≤ op) : ((rowR op).a = 2 → op = 14 ∨ op = 15) ∧ (rowR op).b ≠ 2 ∧ (rowR op).i ≠ 2 ∧ ((rowR op).s = true → op = 16) := by
  unfold rowR
  by_cases hk : op.toNat < 35
  · refine ⟨fun ha => ?_, (rows_b2 _ hk).1, (rows_b2 _ hk).2, fun hs => ?_⟩
    · have := rows_a2 _ hk ha
      omega
    · have := rows_s16 _ hk hs
      omega
  · rw [List.getElem?_eq_none (by show 35 ≤ op.toNat; omega)]
    exact ⟨fun h => absurd h (by decide), (by decide), (by decide), fun h => absurd h (by decide)⟩
theorem fits_u {u : UU} {k : Nat} {f g : FF} (hf : u.funcs[k]? = some f) (hp : g.params = f.params) (h : FF) (a : Nat) (n xa : Int) :
    fitsB { u with funcs := u.funcs.set k g } h a n xa = fitsB u h a n xa := by
  unfold fitsB
  simp only [List.length_set, paramsAt_set hf hp]
theorem mayJ_u {u : UU} {k : Nat} {f g : FF} (hf : u.funcs[k]? = some f) (hp : g.params = f.params) (h : FF) (x : JJ) :
    mayJ { u with funcs := u.funcs.set k g } h x = mayJ u h x := by
  unfold mayJ
  simp only [fits_u hf hp]
theorem fits_shorter {u : UU} {f : FF} {m : Nat} (hl : f.code.length = m + 1) (a : Nat) (n xa : Int) (ha : a = 2 → n ≠ ((m + 1 : Nat) : Int)) (h : fitsB u f a n xa = true) :
    fitsB u { f with code := f.code.take m } a n xa = true := by
  by_cases h2 : a = 2
  · have ha := ha h2
    subst h2
    have h : withinB n 0 f.code.length = true := h
    show withinB n 0 ((f.code.take m).length) = true
    unfold withinB at *
    rw [Bool.and_eq_true, decide_eq_true_iff, decide_eq_true_iff] at *
    rw [List.length_take]
    omega
  · rw [← h]
    unfold fitsB
    split <;> first | rfl | exact absurd rfl h2 | (split <;> simp_all)
theorem mayJ_shorter {u : UU} {f : FF} {x : JJ} {m : Nat} (hl : f.code.length = m + 1) (hx : 0 ≤ x.op) (hj : ∀ z ∈ jumpsB x, z ≠ ((m + 1 : Nat) : Int)) (h : mayJ u f x = true) :
    mayJ u { f with code := f.code.take m } x = true := by
  obtain ⟨ra, rb, ri, rs⟩ := rowR_2 hx
  unfold mayJ at *
  simp only [Bool.and_eq_true] at *
  obtain ⟨h1, h2, h3, h4, h5, h6, h7, h8, h9⟩ := h
  refine ⟨h1, fits_shorter hl _ _ _ (fun ha => hj _ ?_) h2, fits_shorter hl _ _ _ (fun hb => absurd hb rb) h3, fits_shorter hl _ _ _ (fun hb => absurd hb ri) h4, h5, h6, h7, ?_, h9⟩
  · unfold jumpsB
    rw [if_pos (ra ha)]
    exact List.mem_singleton.2 rfl
  · cases hs : (rowR x.op).s with
    | false => rw [hs] at h8; exact h8
    | true =>
      rw [hs] at h8
      have h16 := rs hs
      have hjs : jumpsB x = x.slots := by unfold jumpsB; rw [if_neg (by omega), if_pos h16]
      have h8 : slotsB x.slots f.code.length = true := h8
      show slotsB x.slots (f.code.take m).length = true
      unfold slotsB at *
      rw [Bool.and_eq_true, List.all_eq_true] at *
      refine ⟨h8.1, fun z hz => ?_⟩
      have h := h8.2 z hz
      have hn := hj z (by rw [hjs]; exact hz)
      unfold withinB at *
      rw [Bool.and_eq_true, decide_eq_true_iff, decide_eq_true_iff] at *
      rw [List.length_take]
      omega
theorem code_of_may {u : UU} {f : FF} (h : mayF u f = true) : ∀ x ∈ f.code, mayJ u f x = true := by
  unfold mayF at h
  simp only [Bool.and_eq_true] at h
  exact fun x hx => List.all_eq_true.1 h.2.2.2.2.2 x hx
theorem funcs_of_may {u : UU} (h : mayU u = true) : ∀ f ∈ u.funcs, mayF u f = true := by
  unfold mayU at h
  simp only [Bool.and_eq_true] at h
  exact fun x hx => List.all_eq_true.1 h.2.2.2 x hx
theorem mayU_shorter {u : UU} {k m : Nat} {f : FF} (hU : mayU u = true) (hf : u.funcs[k]? = some f) (hl : f.code.length = m + 1) (ho : ∀ x ∈ f.code, 0 ≤ x.op) (hj : ∀ x ∈ f.code, ∀ z ∈ jumpsB x, z ≠ ((m + 1 : Nat) : Int)) :
    mayU { u with funcs := u.funcs.set k { f with code := f.code.take m } } = true := by
  have hF := funcs_of_may hU
  unfold mayU at *
  simp only [Bool.and_eq_true] at *
  obtain ⟨h1, h2, h3, h4⟩ := hU
  refine ⟨h1, by rw [List.length_set]; exact h2, ?_, ?_⟩
  · unfold mainB at *
    rw [paramsAt_set (g := { f with code := f.code.take m }) hf rfl, List.length_set]
    exact h3
  · rw [List.all_eq_true]
    intro g hg
    rcases List.mem_or_eq_of_mem_set hg with hg | rfl
    · have := hF g hg
      unfold mayF at *
      simp only [Bool.and_eq_true] at *
      obtain ⟨g1, g2, g3, g4, g5, g6⟩ := this
      refine ⟨g1, g2, g3, g4, g5, ?_⟩
      rw [List.all_eq_true] at *
      intro x hx
      rw [mayJ_u (g := { f with code := f.code.take m }) hf rfl]
      exact g6 x hx
    · have := hF f (List.mem_of_getElem? hf)
      unfold mayF at *
      simp only [Bool.and_eq_true] at *
      obtain ⟨g1, g2, g3, g4, g5, g6⟩ := this
      refine ⟨g1, g2, g3, g4, ?_, ?_⟩
      · rw [decide_eq_true_iff] at *
        rw [List.length_take]
        omega
      · rw [List.all_eq_true] at *
        intro x hx
        have hx := List.mem_of_mem_take hx
        rw [mayJ_u (g := { f with code := f.code.take m }) hf rfl]
        exact mayJ_shorter hl (ho x hx) (hj x hx) (g6 x hx)
theorem codeShorter_walk (w : World) (u : UU) (vu : VU) (hu : u.In w.heap.size w vu) (fn : Int) (hfn : -9223372036854775808 ≤ fn ∧ fn ≤ 9223372036854775807) (hT : RTab w.heap.size w) :
    Calls Tryd.prog 7 #[u.val vu, .int .i64 fn] w fun e w' => e = .returned (.bool true) ∧ Below w.heap.size w w' := by
  have K0 := fun W (h : Hid (Below w.heap.size w W)) => large_calls w.heap.size u vu W h.out.size (hu.below h.out)
  have K1 := fun W (h : Hid (Below w.heap.size w W)) => may_calls w.heap.size u vu W h.out.size (hu.below h.out) (hT.up h.out)
  have K3 := fun W (h : Hid (Below w.heap.size w W)) => awake_calls W (hT.up h.out)
  by_cases hno : u.funcs.length = 0 ∨ mayU u = false
  · obtain ⟨a1, c1, a2, c2, rfl⟩ := hu.shape
    exact codeShorter0_no a1 a2 _ _ c1 c2 _ fn (errB (mayU u)) w (hno.imp id fun h => by rw [h]; decide) (Lib.hid K0) (Lib.hid K1) (Lib.hid K3)
  · have hU : mayU u = true := by
      cases h : mayU u
      · exact absurd (.inr h) hno
      · rfl
    have hn0 : u.funcs.length ≠ 0 := fun h => hno (.inl h)
    rw [hU] at K1
    obtain ⟨b1, o1, ⟨hmx, ao, cap, hv, hc, h4⟩, hr⟩ := hu.1
    obtain ⟨hao, hb1⟩ := h4.resolve_left hn0
    have hmx' := hmx
    unfold maxLen at hmx'
    have hN : IntKind.u64.wrap (u.funcs.length : Int) = (u.funcs.length : Int) := by
      simp only [IntKind.wrap, IntKind.bits, IntKind.signed]
      simp
      omega
    have hq0 : 0 ≤ IntKind.u64.wrap fn := by
      simp only [IntKind.wrap, IntKind.bits, IntKind.signed]
      simp
      omega
    obtain ⟨k, hk, hkr, hk2⟩ : ∃ k : Nat, k < u.funcs.length ∧ (IntKind.u64.wrap fn).tmod (u.funcs.length : Int) = k ∧ IntKind.i64.wrap (k : Int) = k := by
      rw [Int.tmod_eq_emod_of_nonneg hq0]
      have h1 := Int.emod_nonneg (IntKind.u64.wrap fn) (show (u.funcs.length : Int) ≠ 0 by omega)
      have h2 := Int.emod_lt_of_pos (IntKind.u64.wrap fn) (show 0 < (u.funcs.length : Int) by omega)
      refine ⟨((IntKind.u64.wrap fn) % (u.funcs.length : Int)).toNat, by omega, by omega, ?_⟩
      rw [IntKind.wrap_i64]
      omega
    obtain ⟨f, hf, hfm⟩ := get_at (l := u.funcs) (k := k) hk
    obtain ⟨Z, hZ, hZa⟩ := frow_pairs hr
    have hZk : ∃ vc, Z[k]? = some (f, vc) := by
      rw [← hZ, List.getElem?_map, Option.map_eq_some_iff] at hf
      obtain ⟨⟨f', vc⟩, h1, rfl⟩ := hf
      exact ⟨vc, h1⟩
    obtain ⟨vc, hZk⟩ := hZk
    have hZl : u.funcs.length = Z.length := by rw [← hZ, List.length_map]
    have hZi : ∀ p, p ∈ Z → p.1.In w.heap.size w p.2 := fun p hp => by
      obtain ⟨j, hj⟩ := List.getElem?_of_mem hp
      exact (hZa j p hj).2
    have hfi : f.In w.heap.size w vc := (hZa k _ hZk).2
    have HZc := cellsF_one hZi
    by_cases hc0 : f.code.length = 0
    · obtain ⟨a3, c3, rfl⟩ := GIn.shape hfi.2
      obtain ⟨a1, c1, a2, c2, rfl⟩ := hu.shape
      obtain ⟨rfl, _, rfl⟩ := Value.slice.inj hv
      subst hao
      exact codeShorter0_nil a2 a3 _ _ _ c2 c3 _ 0 k b1 o1 _ fn _ _ _ _ Z f w (Lib.hid K0) (Lib.hid K1) (by omega) rfl hN hkr hk2 hk (Lib.hid hZk) (Lib.hid fun j p hp => (hZa j p hp).1) (Lib.hid ⟨rfl, rfl, rfl⟩) hc0 (Lib.hid K3)
    · obtain ⟨m, hcl⟩ : ∃ m, f.code.length = m + 1 := ⟨f.code.length - 1, by omega⟩
      have hmj := code_of_may (funcs_of_may hU f hfm)
      obtain ⟨b3, o3, ⟨hm3, a3, c3, hv3, hc3, h43⟩, hr3⟩ := hfi.2
      obtain ⟨rfl, hb3⟩ := h43.resolve_left hc0
      subst hv3
      have ho : ∀ x ∈ f.code, 0 ≤ x.op := fun x hx => by
        obtain ⟨j, hj⟩ := List.getElem?_of_mem hx
        obtain ⟨v, _, hx⟩ := hr3 j x hj
        exact hx.1.1
      have KJ : ∀ (i : Nat) (x : JJ), f.code[i]? = some x → ∃ (a4 a5 a6 : Option Addr) (n4 n5 n6 c4 c5 c6 nl : Nat) (l : List Int), l = jumpsB x ∧ nl = l.length ∧ nl ≤ 1000 ∧ At w b3 (o3 + i * 9) [.int .u8 x.op, .int .i64 x.a, .int .i64 x.b, .int .i64 x.c, .slice a4 n4 c4, .slice a5 n5 c5, .int .i64 x.int, .string x.name, .slice a6 n6 c6] ∧
          Hid (∀ W, Hid (Below w.heap.size w W) → Calls Tryd.prog 19 #[.agg #[.int .u8 x.op, .int .i64 x.a, .int .i64 x.b, .int .i64 x.c, .slice a4 n4 c4, .slice a5 n5 c5, .int .i64 x.int, .string x.name, .slice a6 n6 c6]] W fun e w' => ∃ r, e = .returned r ∧ w'.ownsRow W.heap.size 3 1 r nl (ints l) ∧ Below W.heap.size W w') := by
        intro i x hi
        obtain ⟨v, hat, hx⟩ := hr3 i x hi
        have hm := hmj x (List.mem_of_getElem? hi)
        have hnl : (jumpsB x).length ≤ 1000 := by
          unfold jumpsB
          split
          · simp
          · split
            · rename_i h16; exact slots_of_may hm h16
            · simp
        have KJ := fun W (h : Hid (Below w.heap.size w W)) => jumps_calls w.heap.size x v W h.out.size (hx.below h.out) (slots_of_may hm)
        obtain ⟨a4, c4, a5, c5, a6, c6, rfl⟩ := hx.shape
        exact ⟨a4, a5, a6, _, _, _, c4, c5, c6, _, _, rfl, rfl, hnl, hat, Lib.hid KJ⟩
      have KW : (∀ (i : Nat) x, f.code[i]? = some x → ∀ z ∈ jumpsB x, z ≠ ((f.code.length : Nat) : Int)) → ∀ W (g gc : Nat), u.funcs.length ≤ gc → g < W.heap.size → (∀ (j : Nat) p, (Z.set k ({ f with code := f.code.take m }, .slice (some ⟨b3, o3, none⟩) m c3))[j]? = some p → At W g (j * 4) (p.1.cells p.2)) → Hid (Below w.heap.size w W) →
          Calls Tryd.prog 11 #[({ u with funcs := u.funcs.set k { f with code := f.code.take m } } : UU).val ⟨.slice (some ⟨g, 0, none⟩) u.funcs.length gc, vu.t⟩] W fun e w' => e = .returned (.int .i64 0) ∧ Below W.heap.size W w' := by
        intro hjm W g gc hgc hg hC hW
        have hF : FsIn W.heap.size W ((Z.set k ({ f with code := f.code.take m }, .slice (some ⟨b3, o3, none⟩) m c3)).map Prod.fst) (.slice (some ⟨g, 0, none⟩) u.funcs.length gc) :=
          mk_F (B := w.heap.size) (by rw [List.length_set]; exact hZl) hmx hgc (fun _ => ⟨rfl, hg⟩) hC (fun p hp => by
            rcases List.mem_or_eq_of_mem_set hp with hp | rfl
            · exact (hZi p hp).below hW.out
            · exact FF.In.below (x := { f with code := f.code.take m }) ⟨hfi.1, GIn.take (m := f.code.length) hfi.2 m (by omega)⟩ hW.out) hW.out.size
        rw [List.map_set, hZ] at hF
        have h1 := may_calls W.heap.size { u with funcs := u.funcs.set k { f with code := f.code.take m } } ⟨.slice (some ⟨g, 0, none⟩) u.funcs.length gc, vu.t⟩ W (Nat.le_refl _) ⟨hF, (hu.2.below hW.out).mono hW.out.size⟩ (hT.up hW.out)
        rw [mayU_shorter hU hf hcl ho (fun x hx z hz => by
          obtain ⟨i, hi⟩ := List.getElem?_of_mem hx
          rw [← hcl]
          exact hjm i x hi z hz)] at h1
        exact h1
      obtain ⟨a1, c1, a2, c2, rfl⟩ := hu.shape
      obtain ⟨rfl, _, rfl⟩ := Value.slice.inj hv
      subst hao
      exact codeShorter0_yes a2 _ _ _ c2 c3 _ m k b1 o1 b3 o3 _ fn _ _ _ _ Z f w (Lib.hid K0) (Lib.hid K1) (Lib.hid KJ) (Lib.hid KW) (Lib.hid rfl) hcl hm3 (by omega) (Lib.hid hZl) (Lib.hid HZc) (by omega) rfl hN hkr hk2 hk (Lib.hid hZk) (Lib.hid fun j p hp => (hZa j p hp).1) (Lib.hid ⟨rfl, rfl, rfl⟩) (Lib.hid K3)

end Go.Proofs.YtlbdoomknjiilaaDoor
