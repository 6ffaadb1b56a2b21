/- CodeOne: a unit may be just if each instruction may be there and the rest may be (made by gen_codeone.py). -/
import Derived.Test.YtlbdoomknjiilaaDoorCodeShorterLaw
import Derived.Test.YtlbdoomknjiilaaDoorCodeLarge2
import Derived.Test.YtlbdoomknjiilaaDoorCodeRefF
namespace Go.Proofs.YtlbdoomknjiilaaDoor
open Go.RowKit
set_option linter.unusedVariables false

def bareF (f : FF) : FF := { f with code := [] }
def bareZ (L : List FF) : List (FF × Value) := L.map fun f => (bareF f, .slice none 0 0)
theorem bareZ_take {L : List FF} {k : Nat} {f : FF} (h : L[k]? = some f) : cellsF (bareZ (L.take (k + 1))) = cellsF (bareZ (L.take k)) ++ [.string f.name, .int .i64 f.params, .int .i64 f.slots, .slice none 0 0] := by
  unfold bareZ
  rw [List.take_add_one, h, List.map_append]
  exact cellsF_snoc _ (bareF f, .slice none 0 0)
theorem four_at (w : World) (a b c d : Value) (t : TypeId) : ∀ j u, ([a, b, c, d] : List Value)[j]? = some u → (w.alloc (.cells #[a, b, c, d] t)).cell? ((⟨w.heap.size, 0, none⟩ : Addr).add j) = some u := fun j u hj => by
  rw [Addr.add_mid, Nat.zero_add, World.cell?_alloc_new]
  simpa using hj
theorem four_one (s : ByteArray) (a b : Int) : ∀ u ∈ ([.string s, .int .i64 a, .int .i64 b, .slice none 0 0] : List Value), u.oneCell' = true := by
  intro u hu
  simp only [List.mem_cons, List.not_mem_nil, or_false] at hu
  rcases hu with rfl | rfl | rfl | rfl <;> rfl

set_option maxRecDepth 100000 in
set_option maxHeartbeats 16000000 in
theorem codeOne0_walk (a1 a2 : Option Addr) (n1 n2 c1 c2 b1 o1 : Nat) (mn r1 r2 : Int) (mU mB : Bool) (u : UU) (w : World)
    (K0 : Hid (∀ W, Hid (Below w.heap.size w W) → Calls Tryd.prog 10 #[.agg #[.slice a1 n1 c1, .int .i64 mn, .slice a2 n2 c2]] W fun e w' => ∃ r, e = .returned (.bool r) ∧ (r = false → n1 ≤ 30 ∧ Hid (∀ f ∈ u.funcs, f.code.length ≤ 300)) ∧ Below W.heap.size W w'))
    (K1 : Hid (∀ W, Hid (Below w.heap.size w W) → Calls Tryd.prog 11 #[.agg #[.slice a1 n1 c1, .int .i64 mn, .slice a2 n2 c2]] W fun e w' => e = .returned (.int .i64 r1) ∧ Below W.heap.size W w'))
    (KB : Hid (∀ W (vb : Value), W.ownsRow (w.heap.size) 45 4 vb n1 (cellsF (bareZ u.funcs)) → Hid (Below w.heap.size w W) → Calls Tryd.prog 11 #[.agg #[vb, .int .i64 mn, .slice a2 n2 c2]] W fun e w' => e = .returned (.int .i64 r2) ∧ Below W.heap.size W w'))
    (KI : Hid (∀ (i : Nat) (f : FF) (x : JJ) (v : VJ), u.funcs[i]? = some f → x.In w.heap.size w v → ∀ W, Below w.heap.size w W → Calls Tryd.prog 15 #[.agg #[.slice a1 n1 c1, .int .i64 mn, .slice a2 n2 c2], .int .i64 i, x.val v] W fun e w' => e = .returned (.int .i64 (errB (mayJ u f x))) ∧ Below W.heap.size W w'))
    (hn1 : Hid (n1 = u.funcs.length)) (HA : Hid (n1 ≠ 0 → a1 = some ⟨b1, o1, none⟩))
    (HZ : Hid (∀ (k : Nat) f, u.funcs[k]? = some f → ∃ (a3 : Option Addr) (n3 c3 b3 o3 : Nat), n3 = f.code.length ∧ n3 ≤ maxLen ∧ At w b1 (o1 + k * 4) [.string f.name, .int .i64 f.params, .int .i64 f.slots, .slice a3 n3 c3] ∧ (n3 ≠ 0 → a3 = some ⟨b3, o3, none⟩) ∧
      ∀ (j : Nat) x, f.code[j]? = some x → ∃ v, At w b3 (o3 + j * 9) (x.cells v) ∧ x.In w.heap.size w v))
    (e1 : (r1 == 0) = mU) (e2 : (r2 == 0) = mB) (HM : Hid ((∀ f ∈ u.funcs, f.code.length ≤ 300) → mU = ((u.funcs.all fun f => f.code.all (mayJ u f)) && mB)))
    (K3 : Hid (∀ W, Hid (Below w.heap.size w W) → Calls Tryd.prog 13 #[] W fun e w' => e = .returned (.bool true) ∧ Below W.heap.size W w')) :
    Calls Tryd.prog 6 #[.agg #[.slice a1 n1 c1, .int .i64 mn, .slice a2 n2 c2]] w fun e w' => e = .returned (.bool true) ∧ Below w.heap.size w w' := by
  obtain ⟨j0, hi, hz0, hz1, hz2⟩ := info_parts infoFunc
  obtain ⟨W0, hW⟩ : ∃ W, W = w.alloc (.cells #[.slice a1 n1 c1, .int .i64 mn, .slice a2 n2 c2] 25) := ⟨_, rfl⟩
  have mW : Hid (Below w.heap.size w W0) := by rw [hW]; exact Lib.hid (box1 w _)
  have f0 : W0.cell? ⟨w.heap.size, 0, none⟩ = some (.slice a1 n1 c1) := by rw [hW]; go_simp
  have f1 : W0.cell? ⟨w.heap.size, 1, none⟩ = some (.int .i64 mn) := by rw [hW]; go_simp
  have f2 : W0.cell? ⟨w.heap.size, 2, none⟩ = some (.slice a2 n2 c2) := by rw [hW]; go_simp
  go_enter Tryd.func6, Tryd.ntmps6
  go_upto_region 1 with (fail)
  rw [← hW]
  clear hW
  go_wp2_with fail
  (with_reducible refine (K0.out _ mW).mono ?_)
  rintro e w1 ⟨q0, rfl, hq0, b1'⟩
  have H1 := hid_upC mW b1'
  have f0 := cell_over f0 b1'
  have f1 := cell_over f1 b1'
  have f2 := cell_over f2 b1'
  clear b1' mW K0
  cases q0 with
  | true =>
    clear hq0
    go_wp2_with fail
    (with_reducible refine (K3.out _ H1).mono ?_)
    rintro e w9 ⟨rfl, b9⟩
    have HZ9 := hid_upC H1 b9
    clear b9
    go_wp2_with fail
    go_ret
    exact ⟨rfl, HZ9.out⟩
  | false =>
  obtain ⟨h30, HC3⟩ := hq0 rfl
  have HM := Lib.hid (HM.out HC3.out)
  clear hq0 HC3
  go_upto_region 5 with (fail)
  obtain ⟨W3, hW⟩ : ∃ W, W = w1.alloc (.cells #[.slice none 0 0, .int .i64 mn, .slice a2 n2 c2] 25) := ⟨_, rfl⟩
  have B3 : Below w1.heap.size w1 W3 := by rw [hW]; exact box1 _ _
  have g0 : W3.cell? ⟨w1.heap.size, 0, none⟩ = some (.slice none 0 0) := by rw [hW]; go_simp
  have g1 : W3.cell? ⟨w1.heap.size, 1, none⟩ = some (.int .i64 mn) := by rw [hW]; go_simp
  have g2 : W3.cell? ⟨w1.heap.size, 2, none⟩ = some (.slice a2 n2 c2) := by rw [hW]; go_simp
  have gf : W3.frozen? ⟨w1.heap.size, 0, none⟩ = false := by rw [hW]; go_simp
  have OW : Hid (W3.ownsRow (w1.heap.size + 1) 45 4 (.slice none 0 0) 0 (cellsF (bareZ (u.funcs.take 0)))) := Lib.hid (World.ownsRow_nil _ _ _ _)
  have HB3 := Lib.hid B3
  have HS1 := Lib.hid H1.out.size
  have zf := World.block_lt_of_cell? w1 _ f0
  dsimp only at zf
  rw [← hW]
  clear hW B3
  go_wp2_with fail
  go_loopw [4, 5] (fun a i wr => ∃ (k : Nat) (b : Bool) (ao : Option Addr) (cap : Nat), k ≤ n1 ∧ i = .int .i64 k ∧ a = .bool b ∧ Hid (b = ((u.funcs.take k).all fun f => f.code.all (mayJ u f))) ∧ wr.cell? ⟨w1.heap.size, 0, none⟩ = some (.slice ao k cap) ∧ wr.cell? ⟨w1.heap.size, 1, none⟩ = some (.int .i64 mn) ∧ wr.cell? ⟨w1.heap.size, 2, none⟩ = some (.slice a2 n2 c2) ∧ wr.frozen? ⟨w1.heap.size, 0, none⟩ = false ∧ Hid (wr.ownsRow (w1.heap.size + 1) 45 4 (.slice ao k cap) k (cellsF (bareZ (u.funcs.take k)))) ∧ Hid (Below w1.heap.size w1 wr)) (fun _ i _ => n1 - (intOf i).toNat)
  case atStart => exact ⟨0, true, none, 0, by omega, rfl, rfl, Lib.hid rfl, g0, g1, g2, gf, OW, HB3⟩
  case round =>
    clear g0 g1 g2 gf OW HB3
    obtain ⟨k, b, ao, cap, hk, rfl, rfl, HQ, g0, g1, g2, gf, OW, HB⟩ := hrel
    have hk0 : 0 ≤ (k : Int) := by omega
    have f0 := cell_over f0 HB.out
    have f1 := cell_over f1 HB.out
    have f2 := cell_over f2 HB.out
    have H4 := Lib.hid (H1.out.trans (HB.out.mono H1.out.size))
    have z0 := World.block_lt_of_cell? wr _ g0
    dsimp only at z0
    by_cases hlt : k < n1
    · have hk1 : (k : Int) < (n1 : Int) := by omega
      obtain rfl := HA.out (by omega)
      obtain ⟨f, hf, hfm⟩ := get_at (l := u.funcs) (k := k) (by rw [← hn1.out]; exact hlt)
      obtain ⟨a3, n3, c3, b3, o3, hn3, hm3, hat, ha3, hco⟩ := HZ.out k f hf
      have r0 : wr.cell? ⟨b1, o1 + k * 4, none⟩ = some (.string f.name) := cell_over (hat 0 _ rfl) H4.out
      have r1' : wr.cell? ⟨b1, o1 + k * 4 + 1, none⟩ = some (.int .i64 f.params) := cell_over (hat 1 _ rfl) H4.out
      have r2' : wr.cell? ⟨b1, o1 + k * 4 + 2, none⟩ = some (.int .i64 f.slots) := cell_over (hat 2 _ rfl) H4.out
      have r3 : wr.cell? ⟨b1, o1 + k * 4 + 3, none⟩ = some (.slice a3 n3 c3) := cell_over (hat 3 _ rfl) H4.out
      have HCK := Lib.hid (bareZ_take hf)
      have HQK := Lib.hid (all_takeG (q := fun f => f.code.all (mayJ u f)) hf)
      have HFX := Lib.hid hf
      have HN3 := Lib.hid hn3
      have HA3 := Lib.hid ha3
      have HCO := Lib.hid hco
      unfold maxLen at hm3
      generalize f.name = fnm at *
      generalize f.params = pa at *
      generalize f.slots = sl at *
      clear hf hfm hn3 hat ha3 hco
      go_upto_region 10 with (fail)
      obtain ⟨W5, hW⟩ : ∃ W, W = wr.alloc (.cells #[.string fnm, .int .i64 pa, .int .i64 sl, .slice a3 n3 c3] 45) := ⟨_, rfl⟩
      obtain ⟨fb, hfb⟩ : ∃ n, n = wr.heap.size := ⟨_, rfl⟩
      have B5 : Below wr.heap.size wr W5 := by rw [hW]; exact box1 _ _
      have h0 : W5.cell? ⟨fb, 0, none⟩ = some (.string fnm) := by rw [hW, hfb]; go_simp
      have h1 : W5.cell? ⟨fb, 1, none⟩ = some (.int .i64 pa) := by rw [hW, hfb]; go_simp
      have h2 : W5.cell? ⟨fb, 2, none⟩ = some (.int .i64 sl) := by rw [hW, hfb]; go_simp
      have h3 : W5.cell? ⟨fb, 3, none⟩ = some (.slice a3 n3 c3) := by rw [hW, hfb]; go_simp
      have hff : W5.frozen? ⟨fb, 3, none⟩ = false := by rw [hW, hfb]; go_simp
      have nfb : Hid (some fb ≠ (Value.slice ao k cap).ownBlock) := Lib.hid (own_ne' OW.out (by omega))
      have OW5 := Lib.hid (own_below OW.out B5)
      have H5 := hid_upC H4 B5
      have HB5 := hid_upC HB B5
      have gf5 := (B5.frozen (p := ⟨w1.heap.size, 0, none⟩) z0).trans gf
      have f0 := cell_over f0 B5
      have f1 := cell_over f1 B5
      have f2 := cell_over f2 B5
      have g0 := cell_over g0 B5
      have g1 := cell_over g1 B5
      have g2 := cell_over g2 B5
      have z5 := World.block_lt_of_cell? W5 _ h3
      dsimp only at z5
      rw [← hfb] at z0 ⊢
      rw [← hW]
      clear hW hfb B5 r0 r1' r2' r3 gf OW HB H4
      go_wp2_with fail
      go_loopw [4, 7] (fun a i w7 => ∃ (j : Nat) (c : Bool), j ≤ n3 ∧ i = .int .i64 j ∧ a = .bool c ∧ Hid (c = (b && (f.code.take j).all (mayJ u f))) ∧ Hid (Below W5.heap.size W5 w7)) (fun _ i _ => n3 - (intOf i).toNat)
      case atStart => exact ⟨0, b, by omega, rfl, rfl, Lib.hid (by simp), Lib.hid (Below.refl _ _)⟩
      case round =>
        obtain ⟨j, c, hj, rfl, rfl, HQJ, HE⟩ := hrel
        have hj0 : 0 ≤ (j : Int) := by omega
        have f0 := cell_over f0 HE.out
        have f1 := cell_over f1 HE.out
        have f2 := cell_over f2 HE.out
        have h3 := cell_over h3 HE.out
        by_cases hlt2 : j < n3
        · have hj1 : (j : Int) < (n3 : Int) := by omega
          obtain rfl := HA3.out (by omega)
          obtain ⟨x, hx, _⟩ := get_at (l := f.code) (k := j) (by rw [← HN3.out]; exact hlt2)
          have HX := Lib.hid (all_takeG (q := mayJ u f) hx)
          obtain ⟨v, hcs, hxi⟩ := HCO.out j x hx
          have HD := Lib.hid (H5.out.trans (HE.out.mono H5.out.size))
          have K := Lib.hid fun m : Over wr => over_calls (n := m) (KI.out k f x v HFX.out hxi m.w (HD.out.trans (m.h.mono HD.out.size)))
          have xc := fun (i : Nat) u (hi : (x.cells v)[i]? = some u) => cell_over (hcs i u hi) HD.out
          obtain ⟨s1, s2, s3, s4, s5, s6, rfl⟩ := hxi.shape
          unfold JJ.val at K
          dsimp only at K
          have x0 : ∀ m : Over wr, m.w.cell? ⟨b3, o3 + j * 9, none⟩ = some (.int .u8 x.op) := fun m => cell_over (xc 0 _ rfl) m.h
          have x1 : ∀ m : Over wr, m.w.cell? ⟨b3, o3 + j * 9 + 1, none⟩ = some (.int .i64 x.a) := fun m => cell_over (xc 1 _ rfl) m.h
          have x2 : ∀ m : Over wr, m.w.cell? ⟨b3, o3 + j * 9 + 2, none⟩ = some (.int .i64 x.b) := fun m => cell_over (xc 2 _ rfl) m.h
          have x3 : ∀ m : Over wr, m.w.cell? ⟨b3, o3 + j * 9 + 3, none⟩ = some (.int .i64 x.c) := fun m => cell_over (xc 3 _ rfl) m.h
          have x4 : ∀ m : Over wr, m.w.cell? ⟨b3, o3 + j * 9 + 4, none⟩ = some (.slice s1 x.slots.length s2) := fun m => cell_over (xc 4 _ rfl) m.h
          have x5 : ∀ m : Over wr, m.w.cell? ⟨b3, o3 + j * 9 + 5, none⟩ = some (.slice s3 x.path.length s4) := fun m => cell_over (xc 5 _ rfl) m.h
          have x6 : ∀ m : Over wr, m.w.cell? ⟨b3, o3 + j * 9 + 6, none⟩ = some (.int .i64 x.int) := fun m => cell_over (xc 6 _ rfl) m.h
          have x7 : ∀ m : Over wr, m.w.cell? ⟨b3, o3 + j * 9 + 7, none⟩ = some (.string x.name) := fun m => cell_over (xc 7 _ rfl) m.h
          have x8 : ∀ m : Over wr, m.w.cell? ⟨b3, o3 + j * 9 + 8, none⟩ = some (.slice s5 x.names s6) := fun m => cell_over (xc 8 _ rfl) m.h
          have pf0 := fun m : Over wr => cell_over f0 m.h
          have pf1 := fun m : Over wr => cell_over f1 m.h
          have pf2 := fun m : Over wr => cell_over f2 m.h
          have ph3 := fun m : Over wr => cell_over h3 m.h
          generalize mayJ u f x = tt at *
          generalize x.op = xo at *
          generalize x.a = xa at *
          generalize x.b = xb at *
          generalize x.c = xxc at *
          generalize x.int = xi at *
          generalize x.name = xn at *
          generalize x.slots.length = l1 at *
          generalize x.path.length = l2 at *
          generalize x.names = l3 at *
          clear hx hcs hxi xc
          cases c with
          | false =>
            have HQ2 : Hid (false = (b && (f.code.take (j + 1)).all (mayJ u f))) := Lib.hid (by rw [HX.out, ← Bool.and_assoc, ← HQJ.out]; rfl)
            as_aux_lemma =>
              go_wp2_with fail
              refine wp_region_over (by kernel_rfl) (by kernel_rfl) ?_
              repeat (go_big_quiet_step ((go_at_call 15; with_reducible exact K.out _)))
              refine wpQuiet_nil ?_
              rintro _ ⟨m, rfl⟩
              have HT := hid_upC HE m.h
              generalize m.w = v1 at *
              clear pf0 pf1 pf2 ph3 x0 x1 x2 x3 x4 x5 x6 x7 x8 K
              go_wp2_with fail
              go_roundw
              case rel => exact ⟨j + 1, false, by omega, by go_num, rfl, HQ2, HT⟩
              case measure => simp [intOf]; omega
          | true =>
            cases tt with
            | false =>
              have HQ2 : Hid (false = (b && (f.code.take (j + 1)).all (mayJ u f))) := Lib.hid (by rw [HX.out, Bool.and_false, Bool.and_false])
              as_aux_lemma =>
                go_wp2_with fail
                refine wp_region_over (by kernel_rfl) (by kernel_rfl) ?_
                repeat (go_big_quiet_step ((go_at_call 15; with_reducible exact K.out _)))
                refine wpQuiet_nil ?_
                rintro _ ⟨m, rfl⟩
                have HT := hid_upC HE m.h
                generalize m.w = v1 at *
                clear pf0 pf1 pf2 ph3 x0 x1 x2 x3 x4 x5 x6 x7 x8 K
                go_wp2_with fail
                go_roundw
                case rel => exact ⟨j + 1, false, by omega, by go_num, rfl, HQ2, HT⟩
                case measure => simp [intOf]; omega
            | true =>
              have HQ2 : Hid (true = (b && (f.code.take (j + 1)).all (mayJ u f))) := Lib.hid (by rw [HX.out, ← Bool.and_assoc, ← HQJ.out]; rfl)
              as_aux_lemma =>
                go_wp2_with fail
                refine wp_region_over (by kernel_rfl) (by kernel_rfl) ?_
                repeat (go_big_quiet_step ((go_at_call 15; with_reducible exact K.out _)))
                refine wpQuiet_nil ?_
                rintro _ ⟨m, rfl⟩
                have HT := hid_upC HE m.h
                generalize m.w = v1 at *
                clear pf0 pf1 pf2 ph3 x0 x1 x2 x3 x4 x5 x6 x7 x8 K
                go_wp2_with fail
                go_roundw
                case rel => exact ⟨j + 1, true, by omega, by go_num, rfl, HQ2, HT⟩
                case measure => simp [intOf]; omega
        · obtain rfl : j = n3 := by omega
          have HQ2 : Hid (c = ((u.funcs.take (k + 1)).all fun f => f.code.all (mayJ u f))) := Lib.hid (by
            rw [HQK.out, ← HQ.out, HQJ.out, List.take_of_length_le (by rw [← HN3.out]; exact Nat.le_refl _)])
          have OW6 := Lib.hid (own_below OW5.out HE.out)
          have gf6 := (HE.out.frozen (p := ⟨w1.heap.size, 0, none⟩) (Nat.lt_trans z0 z5)).trans gf5
          have hf6 := (HE.out.frozen (p := ⟨fb, 3, none⟩) z5).trans hff
          have HB6 := Lib.hid (HB5.out.trans (HE.out.mono HB5.out.size))
          have H6 := Lib.hid (H5.out.trans (HE.out.mono H5.out.size))
          have h0 := cell_over h0 HE.out
          have h1 := cell_over h1 HE.out
          have h2 := cell_over h2 HE.out
          have g0 := cell_over g0 HE.out
          have g1 := cell_over g1 HE.out
          have g2 := cell_over g2 HE.out
          have z6 := Nat.lt_of_lt_of_le z5 HE.out.size
          clear KI K1 KB HE HQJ HQ HCO HFX H5 HB5 OW5 gf5 hff f0 f1 f2
          go_upto_region 15 with (fail)
          obtain ⟨W8, hW⟩ : ∃ W, W = wr.setCell ⟨fb, 3, none⟩ (.slice none 0 0) := ⟨_, rfl⟩
          have nfw : fb ≠ w1.heap.size := by omega
          have h3 : W8.cell? ⟨fb, 3, none⟩ = some (.slice none 0 0) := by rw [hW]; exact World.cell?_setCell_same _ _ _ h3
          have h0 : W8.cell? ⟨fb, 0, none⟩ = some (.string fnm) := by rw [hW, cell_set_neS _ _ _ _ _ (by decide)]; exact h0
          have h1 : W8.cell? ⟨fb, 1, none⟩ = some (.int .i64 pa) := by rw [hW, cell_set_neS _ _ _ _ _ (by decide)]; exact h1
          have h2 : W8.cell? ⟨fb, 2, none⟩ = some (.int .i64 sl) := by rw [hW, cell_set_neS _ _ _ _ _ (by decide)]; exact h2
          have g0 : W8.cell? ⟨w1.heap.size, 0, none⟩ = some (.slice ao k cap) := by rw [hW, cell_set_blk _ _ _ _ _ _ nfw]; exact g0
          have g1 : W8.cell? ⟨w1.heap.size, 1, none⟩ = some (.int .i64 mn) := by rw [hW, cell_set_blk _ _ _ _ _ _ nfw]; exact g1
          have g2 : W8.cell? ⟨w1.heap.size, 2, none⟩ = some (.slice a2 n2 c2) := by rw [hW, cell_set_blk _ _ _ _ _ _ nfw]; exact g2
          have gf8 : W8.frozen? ⟨w1.heap.size, 0, none⟩ = false := by rw [hW, World.frozen?_setCell]; exact gf6
          have OW8 : Hid (W8.ownsRow (w1.heap.size + 1) 45 4 (.slice ao k cap) k (cellsF (bareZ (u.funcs.take k)))) := by
            rw [hW]
            exact Lib.hid (ownsRow_setCell_other OW6.out (a := ⟨fb, 3, none⟩) nfb.out.symm _)
          have HB8 : Hid (Below w1.heap.size w1 W8) := by rw [hW]; exact Lib.hid (HB6.out.setCell (by show w1.heap.size ≤ fb; omega) _)
          have z8 : fb < W8.heap.size := by rw [hW]; simpa using z6
          rw [← hW]
          clear hW OW6 HB6 H6 gf6 hf6 z6
          obtain ⟨WA, hWA⟩ : ∃ W, W = W8.alloc (.cells #[.string fnm, .int .i64 pa, .int .i64 sl, .slice none 0 0] 45) := ⟨_, rfl⟩
          have BA : Below W8.heap.size W8 WA := by rw [hWA]; exact box1 _ _
          have OA := Lib.hid (own_below OW8.out BA)
          have HNA : Hid (∀ j u, ([.string fnm, .int .i64 pa, .int .i64 sl, .slice none 0 0] : List Value)[j]? = some u → WA.cell? ((⟨W8.heap.size, 0, none⟩ : Addr).add j) = some u) := by rw [hWA]; exact Lib.hid (four_at _ _ _ _ _ _)
          have HSA : w1.heap.size + 1 ≤ WA.heap.size := by have := BA.size; omega
          rw [hWA] at OA HNA HSA
          go_wp2_with (first
            | (at_builtin; refine wpList_append_own _ rfl _ _ 22 rfl (w1.heap.size + 1) 45 j0 (.agg #[.string ⟨#[]⟩, .int .i64 0, .int .i64 0, .slice none 0 0]) 4 56 Tryd.underlying22 hi hz0 hz1 hz2 rfl (by decide) (.slice ao k cap) k (cellsF (bareZ (u.funcs.take k))) rfl OA.out ⟨W8.heap.size, 0, none⟩ 1 1 [.string fnm, .int .i64 pa, .int .i64 sl, .slice none 0 0] rfl rfl HNA.out (four_one _ _ _) ?c3 ?c4 HSA ?_)
            | fail)
          case c3 => unfold maxLen; omega
          case c4 => omega
          intro v' wv hown hgrow _
          have hown : wv.ownsRow (w1.heap.size + 1) 45 4 v' (k + 1) (cellsF (bareZ (u.funcs.take (k + 1)))) := by rw [HCK.out]; exact hown
          rw [← hWA] at hgrow
          obtain ⟨ao', cap', rfl⟩ := own_shape hown
          have nbb := own_ne OA.out (b := w1.heap.size) (by omega)
          have BA1 : Hid (Below w1.heap.size w1 WA) := hid_upC HB8 BA
          have HBv : Below w1.heap.size w1 wv := BA1.out.grown hgrow (by have := BA.size; omega) (fun g hg => by have := (OA.out.lt g hg).1; omega)
          have g0 := hgrow.cell (cell_over g0 BA) nbb
          have g1 := hgrow.cell (cell_over g1 BA) nbb
          have g2 := hgrow.cell (cell_over g2 BA) nbb
          rw [hWA] at hgrow
          have gfv : wv.frozen? ⟨w1.heap.size, 0, none⟩ = false := grown_frozen hgrow gf8 (by show w1.heap.size < _; omega) nbb
          have c0 : (wv.setCell ⟨w1.heap.size, 0, none⟩ (.slice ao' (k + 1) cap')).cell? ⟨w1.heap.size, 0, none⟩ = some (.slice ao' (k + 1) cap') := World.cell?_setCell_same _ _ _ g0
          have c1' : (wv.setCell ⟨w1.heap.size, 0, none⟩ (.slice ao' (k + 1) cap')).cell? ⟨w1.heap.size, 1, none⟩ = some (.int .i64 mn) := (cell_set_neS _ _ _ _ _ (by decide)).trans g1
          have c2' : (wv.setCell ⟨w1.heap.size, 0, none⟩ (.slice ao' (k + 1) cap')).cell? ⟨w1.heap.size, 2, none⟩ = some (.slice a2 n2 c2) := (cell_set_neS _ _ _ _ _ (by decide)).trans g2
          have cf : (wv.setCell ⟨w1.heap.size, 0, none⟩ (.slice ao' (k + 1) cap')).frozen? ⟨w1.heap.size, 0, none⟩ = false := by rw [World.frozen?_setCell]; exact gfv
          have OC : Hid ((wv.setCell ⟨w1.heap.size, 0, none⟩ (.slice ao' (k + 1) cap')).ownsRow (w1.heap.size + 1) 45 4 (.slice ao' (k + 1) cap') (k + 1) (cellsF (bareZ (u.funcs.take (k + 1))))) := Lib.hid (ownsRow_setCell_below hown (by show w1.heap.size < _; omega) _)
          have HC : Hid (Below w1.heap.size w1 (wv.setCell ⟨w1.heap.size, 0, none⟩ (.slice ao' (k + 1) cap'))) := Lib.hid (HBv.setCell (Nat.le_refl _) _)
          clear hown hgrow HBv BA1 OA HNA HSA nbb hWA BA OW8 HB8 h0 h1 h2 h3
          go_wp2_with fail
          go_roundw
          case rel => exact ⟨k + 1, c, ao', cap', by omega, by go_num, rfl, HQ2, c0, c1', c2', cf, OC, HC⟩
          case measure => simp [intOf]; omega
    · obtain rfl : k = n1 := by omega
      have HBB : Hid (b = (u.funcs.all fun f => f.code.all (mayJ u f))) := Lib.hid (by rw [HQ.out, List.take_of_length_le (by rw [← hn1.out]; exact Nat.le_refl _)])
      have OWW : Hid (wr.ownsRow w.heap.size 45 4 (.slice ao k cap) k (cellsF (bareZ u.funcs))) := Lib.hid (by
        have h := own_mono OW.out (show w.heap.size ≤ w1.heap.size + 1 by omega)
        rwa [List.take_of_length_le (by rw [← hn1.out]; exact Nat.le_refl _)] at h)
      have HMM : Hid (mU = (b && mB)) := Lib.hid (by rw [HM.out, HBB.out])
      clear HQ HBB OW KI HB HZ HM hn1 HA
      cases mU with
      | false =>
        cases b with
        | false =>
          as_aux_lemma =>
            go_wp2_with fail
            (with_reducible refine (K1.out _ H4).mono ?_)
            rintro e w6 ⟨rfl, b6⟩
            have H6 := hid_upC H4 b6
            have OW6 := Lib.hid (own_below OWW.out b6)
            have g0 := cell_over g0 b6
            have g1 := cell_over g1 b6
            have g2 := cell_over g2 b6
            clear b6 H4 OWW K1
            go_wp2_with fail
            (with_reducible refine (K3.out _ H6).mono ?_)
            rintro e w9 ⟨rfl, b9⟩
            have HZ9 := hid_upC H6 b9
            clear b9
            go_wp2_with fail
            go_ret
            exact ⟨rfl, HZ9.out⟩
        | true =>
          cases mB with
          | true => exact absurd HMM.out (by decide)
          | false =>
            as_aux_lemma =>
              go_wp2_with fail
              (with_reducible refine (K1.out _ H4).mono ?_)
              rintro e w6 ⟨rfl, b6⟩
              have H6 := hid_upC H4 b6
              have OW6 := Lib.hid (own_below OWW.out b6)
              have g0 := cell_over g0 b6
              have g1 := cell_over g1 b6
              have g2 := cell_over g2 b6
              clear b6 H4 OWW K1
              go_wp2_with fail
              (with_reducible refine (KB.out _ _ OW6.out H6).mono ?_)
              rintro e w7 ⟨rfl, b7⟩
              have H7 := hid_upC H6 b7
              clear b7 H6 OW6 KB
              go_wp2_with fail
              (with_reducible refine (K3.out _ H7).mono ?_)
              rintro e w9 ⟨rfl, b9⟩
              have HZ9 := hid_upC H7 b9
              clear b9
              go_wp2_with fail
              go_ret
              exact ⟨rfl, HZ9.out⟩
      | true =>
        cases b with
        | false => exact absurd HMM.out (by simp)
        | true =>
          cases mB with
          | false => exact absurd HMM.out (by decide)
          | true =>
            as_aux_lemma =>
              go_wp2_with fail
              (with_reducible refine (K1.out _ H4).mono ?_)
              rintro e w6 ⟨rfl, b6⟩
              have H6 := hid_upC H4 b6
              have OW6 := Lib.hid (own_below OWW.out b6)
              have g0 := cell_over g0 b6
              have g1 := cell_over g1 b6
              have g2 := cell_over g2 b6
              clear b6 H4 OWW K1
              go_wp2_with fail
              (with_reducible refine (KB.out _ _ OW6.out H6).mono ?_)
              rintro e w7 ⟨rfl, b7⟩
              have H7 := hid_upC H6 b7
              clear b7 H6 OW6 KB
              go_wp2_with fail
              (with_reducible refine (K3.out _ H7).mono ?_)
              rintro e w9 ⟨rfl, b9⟩
              have HZ9 := hid_upC H7 b9
              clear b9
              go_wp2_with fail
              go_ret
              exact ⟨rfl, HZ9.out⟩

/-! ### a unit without its instructions -/
theorem paramsAt_bare (u : UU) (a : Int) : paramsAt { u with funcs := u.funcs.map bareF } a = paramsAt u a := by
  unfold paramsAt
  simp only [List.getElem?_map]
  cases u.funcs[a.toNat]? <;> rfl
theorem mayU_bare (u : UU) (h : ∀ f ∈ u.funcs, f.code.length ≤ 300) : mayU u = ((u.funcs.all fun f => f.code.all (mayJ u f)) && mayU { u with funcs := u.funcs.map bareF }) := by
  have hF : u.funcs.all (mayF u) = ((u.funcs.all fun f => f.code.all (mayJ u f)) && (u.funcs.map bareF).all (mayF { u with funcs := u.funcs.map bareF })) := by
    have h1 : ∀ f ∈ u.funcs, mayF u f = (f.code.all (mayJ u f) && mayF { u with funcs := u.funcs.map bareF } (bareF f)) := fun f hf => by
      have h4 : decide (f.code.length ≤ 4000) = true := decide_eq_true (by have := h f hf; omega)
      have h0 : decide ((bareF f).code.length ≤ 4000) = true := rfl
      have ha : (bareF f).code.all (mayJ { u with funcs := u.funcs.map bareF } (bareF f)) = true := rfl
      unfold mayF
      rw [h4, h0, ha]
      show (nameB f.name && (decide (0 ≤ f.params) && (decide (f.params ≤ f.slots) && (decide (f.slots ≤ 60) && (true && _))))) = (_ && (nameB f.name && (decide (0 ≤ f.params) && (decide (f.params ≤ f.slots) && (decide (f.slots ≤ 60) && (true && true))))))
      cases nameB f.name <;> cases decide (0 ≤ f.params) <;> cases decide (f.params ≤ f.slots) <;> cases decide (f.slots ≤ 60) <;> simp
    generalize ({ u with funcs := u.funcs.map bareF } : UU) = b at *
    rw [List.all_map]
    generalize u.funcs = l at *
    clear h
    induction l with
    | nil => rfl
    | cons f l ih =>
      rw [List.all_cons, List.all_cons, List.all_cons, h1 f (List.mem_cons_self ..), ih fun g hg => h1 g (List.mem_cons_of_mem _ hg)]
      show _ = _
      cases f.code.all (mayJ u f) <;> cases (l.all fun f => f.code.all (mayJ u f)) <;> simp
  unfold mayU
  rw [hF]
  have hM : mainB { u with funcs := u.funcs.map bareF } = mainB u := by
    unfold mainB
    rw [paramsAt_bare]
    simp only [List.length_map]
  rw [hM]
  simp only [List.length_map]
  cases typesB u.types <;> cases decide (u.funcs.length ≤ 200) <;> cases mainB u <;> simp
theorem codeOne_walk (w : World) (u : UU) (vu : VU) (hu : u.In w.heap.size w vu) (hT : RTab w.heap.size w) :
    Calls Tryd.prog 6 #[u.val vu] w fun e w' => e = .returned (.bool true) ∧ Below w.heap.size w w' := by
  have K0 := fun W (h : Hid (Below w.heap.size w W)) => large2_calls w.heap.size u vu W h.out.size (hu.below h.out)
  have K1 := fun W (h : Hid (Below w.heap.size w W)) => may_calls w.heap.size u vu W h.out.size (hu.below h.out) (hT.up h.out)
  have K3 := fun W (h : Hid (Below w.heap.size w W)) => awake_calls W (hT.up h.out)
  obtain ⟨b1, o1, ⟨hmx, ao, cap, hv, hc, h4⟩, hr⟩ := hu.1
  have HZ : ∀ (k : Nat) f, u.funcs[k]? = some f → ∃ (a3 : Option Addr) (n3 c3 b3 o3 : Nat), n3 = f.code.length ∧ n3 ≤ maxLen ∧ At w b1 (o1 + k * 4) [.string f.name, .int .i64 f.params, .int .i64 f.slots, .slice a3 n3 c3] ∧ (n3 ≠ 0 → a3 = some ⟨b3, o3, none⟩) ∧
      ∀ (j : Nat) x, f.code[j]? = some x → ∃ v, At w b3 (o3 + j * 9) (x.cells v) ∧ x.In w.heap.size w v := by
    intro k f hf
    obtain ⟨vc, hat, hfi⟩ := hr k f hf
    obtain ⟨b3, o3, ⟨hm3, a3, c3, hv3, hc3, h43⟩, hr3⟩ := hfi.2
    subst hv3
    exact ⟨a3, _, c3, b3, o3, rfl, hm3, hat, fun h0 => (h43.resolve_left h0).1, hr3⟩
  have KI : ∀ (i : Nat) (f : FF) (x : JJ) (v : VJ), u.funcs[i]? = some f → x.In w.heap.size w v → ∀ W, Below w.heap.size w W → Calls Tryd.prog 15 #[u.val vu, .int .i64 i, x.val v] W fun e w' => e = .returned (.int .i64 (errB (mayJ u f x))) ∧ Below W.heap.size W w' := by
    intro i f x v hf hx W hW
    have h1 := instr_calls w.heap.size u vu i x v W hW.size (hu.below hW) (hx.below hW) (hT.up hW)
    rw [instrB_in hf] at h1
    exact h1
  have KB : ∀ W (vb : Value), W.ownsRow w.heap.size 45 4 vb u.funcs.length (cellsF (bareZ u.funcs)) → Hid (Below w.heap.size w W) → Calls Tryd.prog 11 #[({ u with funcs := u.funcs.map bareF } : UU).val ⟨vb, vu.t⟩] W fun e w' => e = .returned (.int .i64 (errB (mayU { u with funcs := u.funcs.map bareF }))) ∧ Below W.heap.size W w' := by
    intro W vb hown hW
    obtain ⟨hn, g, gao, gcap, rfl, hgc, hg0, hgC, -⟩ := own_F hown hmx
    have hF : FsIn W.heap.size W ((bareZ u.funcs).map Prod.fst) (.slice gao u.funcs.length gcap) :=
      mk_F (B := w.heap.size) hn hmx hgc (fun h0 => ⟨(hg0 h0).1, (hg0 h0).2.1⟩) hgC (fun p hp => by
        obtain ⟨f, hf, rfl⟩ := List.mem_map.1 hp
        obtain ⟨k, hk⟩ := List.getElem?_of_mem hf
        obtain ⟨vc, _, hfi⟩ := hr k f hk
        exact ⟨hfi.1, GIn.nil _ _ _ _⟩) hW.out.size
    have he : (bareZ u.funcs).map Prod.fst = u.funcs.map bareF := by unfold bareZ; rw [List.map_map]; rfl
    rw [he] at hF
    exact may_calls W.heap.size { u with funcs := u.funcs.map bareF } ⟨.slice gao u.funcs.length gcap, vu.t⟩ W (Nat.le_refl _) ⟨hF, (hu.2.below hW.out).mono hW.out.size⟩ (hT.up hW.out)
  have e0 : ∀ b, (errB b == 0) = b := fun b => by cases b <;> rfl
  have HM := mayU_bare u
  have HA : u.funcs.length ≠ 0 → ao = some ⟨b1, o1, none⟩ := fun h0 => (h4.resolve_left h0).1
  obtain ⟨a1, c1, a2, c2, rfl⟩ := hu.shape
  obtain ⟨rfl, _, rfl⟩ := Value.slice.inj hv
  exact codeOne0_walk _ a2 _ _ _ c2 b1 o1 _ (errB (mayU u)) (errB (mayU { u with funcs := u.funcs.map bareF })) (mayU u) (mayU { u with funcs := u.funcs.map bareF }) u w (Lib.hid fun W h => (K0 W h).mono fun e w' ⟨r, h1, h2, h3⟩ => ⟨r, h1, fun hr => ⟨(h2 hr).1, Lib.hid (h2 hr).2⟩, h3⟩) (Lib.hid K1) (Lib.hid KB) (Lib.hid KI) (Lib.hid rfl) (Lib.hid HA) (Lib.hid HZ) (e0 _) (e0 _) (Lib.hid HM) (Lib.hid K3)

end Go.Proofs.YtlbdoomknjiilaaDoor
