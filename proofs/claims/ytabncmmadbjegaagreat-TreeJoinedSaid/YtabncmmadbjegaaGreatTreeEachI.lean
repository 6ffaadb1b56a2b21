/- The code's copyEach: weftway/api.Item (made by gen_each.py). -/
import Derived.Test.YtabncmmadbjegaaGreatJoinA
import Derived.Test.YtabncmmadbjegaaGreatTreeCopyI
import Derived.Lib.SliceRun
namespace Go.Proofs.YtabncmmadbjegaaGreat
open Go.RowKit
set_option linter.unusedVariables false

attribute [local go_sem ↓] Go.wp_at_zero Go.wp_at_succ
set_option maxRecDepth 100000 in
set_option maxHeartbeats 3200000 in
theorem eachI_calls {B : Nat} {g0 : FuncId} {lb : Array Value} (cp : PI → PI) (l : List PI) (v : Value) (b1 o1 : Nat) (w : World) (hE : ∀ args w, (callFunc g0 args).run Tryz.prog w = .ok (.enter g0 args) w)
    (hf : ∀ t, t ∈ l → ∀ W (x : VI), Below w.heap.size w W → t.In B W x → Calls Tryz.prog g0 (#[.agg (srtI.cells t x).toArray] ++ lb) W fun e W' => ∃ x' : VI, e = .returned (.agg (srtI.cells (cp t) x').toArray) ∧ Hid ((cp t).In W'.heap.size (Fr W.heap.size W') x') ∧ Below W.heap.size W W')
    (hB : B ≤ w.heap.size) (hv : SlV B v l.length b1 o1) (hr : PI.Row B w b1 o1 l) (hl : l.length ≤ 1000000) :
    Calls Tryz.prog 85 #[v, .func (.func g0) #[] lb] w fun e w' => ∃ ua uc, e = .returned (.slice ua l.length uc) ∧ Hid (∃ b o, SlV w'.heap.size (.slice ua l.length uc) l.length b o ∧ PI.Row w'.heap.size (Fr w.heap.size w') b o (l.map cp)) ∧ Below w.heap.size w w' := by
  obtain ⟨m1, ao, cap, rfl, h1⟩ := hv
  obtain ⟨i0, hi, hz0, hz1, hz2⟩ := info_parts infoItem
  unfold maxLen at m1
  obtain ⟨n, hn⟩ : ∃ n, n = l.length := ⟨_, rfl⟩
  rw [← hn] at m1 h1 hl ⊢
  have Hn := Lib.hid hn
  have H1 := Lib.hid h1
  have Hr := Lib.hid hr
  have Hf := Lib.hid hf
  cases ao with
  | none =>
    have h0 : n = 0 := h1.resolve_right (by simp)
    subst h0
    have hnil : l = [] := List.eq_nil_of_length_eq_zero hn.symm
    clear hn h1 hr hf
    have HQ : ∀ W : World, (binOp .eql 22 (.slice none 0 cap) (.slice none 0 0)).run Tryz.prog W = .ok (.bool true) W := fun W => Lib.run_eql_slice_nil W 22 46 none 0 cap 0 0 Tryz.underlying22
    go_enter Tryz.func85, Tryz.ntmps85
    go_wp2_with fail
    (try simp only [Exit.inBlock, Exit.then])
    go_ret
    subst hnil
    exact ⟨none, 0, rfl, Lib.hid ⟨0, 0, ⟨Nat.zero_le _, none, 0, rfl, .inl rfl⟩, trivial⟩, Below.refl _ _⟩
  | some ad =>
    obtain ⟨cur, hcur, HM⟩ : ∃ cur : Array Value, cur.size = n * 16 ∧ (Instr.makeSlice 22 (.int .i64 n) (.int .i64 n)).run Tryz.prog w = .ok (.slice (some ⟨w.heap.size, 0, none⟩) n n) (w.alloc (.cells cur 46)) := by
      have h := run_make (P := Tryz.prog) w 22 46 i0 _ Tryz.underlying22 hi hz0 .i64 .i64 n n (by omega) (by omega) (by rw [hz2]; omega) (by omega)
      rw [Int.toNat_natCast] at h
      exact ⟨_, by rw [size_madeCells, hz1], h⟩
    clear hn h1 hr hf
    have HQ : ∀ W : World, (binOp .eql 22 (.slice (some ad) n cap) (.slice none 0 0)).run Tryz.prog W = .ok (.bool false) W := fun W => Lib.run_eql_slice_nil W 22 46 (some ad) n cap 0 0 Tryz.underlying22
    go_enter Tryz.func85, Tryz.ntmps85
    go_wp2_with fail
    go_loopw [15] (fun i wr => ∃ (k : Nat), k ≤ n ∧ i = .int .i64 k ∧ w.heap.size < wr.heap.size ∧ Hid (srtI.Made w.heap.size w.heap.size 46 (l.map cp) k n wr ∧ Below w.heap.size w wr))
      (fun i _ => n - (intOf i).toNat)
    case atStart => exact ⟨0, Nat.zero_le _, rfl, by simp, Lib.hid ⟨Srt.Made.start _ (heap_alloc_new w _) hcur, (Below.refl _ w).alloc (Nat.le_refl _) _⟩⟩
    case round =>
      obtain ⟨k, hk, rfl, hz, HH⟩ := hrel
      have hk0 : (0 : Int) ≤ (k : Int) := Int.natCast_nonneg _
      by_cases hlt : k < n
      · have hk1 : (k : Int) < (n : Int) := by omega
        obtain ⟨t, ht, hin⟩ := get_at (l := l) (k := k) (by rw [← Hn.out]; exact hlt)
        obtain ⟨had, hb1⟩ := H1.out.resolve_left (by omega)
        obtain rfl := Option.some.inj had
        obtain ⟨hM, hbel⟩ := HH.out
        obtain ⟨vt, ct, it⟩ := PI.Row.get (PI.Row.below (hbel.mono hB) hb1 Hr.out) ht
        obtain ⟨ya1, yn1, yc1, ya2, yn2, yc2, ya3, yn3, yc3, ya4, yn4, yc4, ya5, yn5, yc5, rfl⟩ := it.shape
        have g1 : b1 < wr.heap.size := by omega
        have ht2 : (l.map cp)[k]? = some (cp t) := by rw [List.getElem?_map, ht]; rfl
        have e0 : wr.cell? ⟨b1, o1 + k * 16, none⟩ = some (.int .u8 t.kind) := ct 0 _ rfl
        have e1 : wr.cell? ⟨b1, o1 + k * 16 + 1, none⟩ = some (.string t.name) := ct 1 _ rfl
        have e2 : wr.cell? ⟨b1, o1 + k * 16 + 2, none⟩ = some (.slice ya1 yn1 yc1) := ct 2 _ rfl
        have e3 : wr.cell? ⟨b1, o1 + k * 16 + 3, none⟩ = some (.int .u8 t.result.kind) := ct 3 _ rfl
        have e4 : wr.cell? ⟨b1, o1 + k * 16 + 4, none⟩ = some (.string t.result.name) := ct 4 _ rfl
        have e5 : wr.cell? ⟨b1, o1 + k * 16 + 5, none⟩ = some (.slice ya2 yn2 yc2) := ct 5 _ rfl
        have e6 : wr.cell? ⟨b1, o1 + k * 16 + 6, none⟩ = some (.slice ya3 yn3 yc3) := ct 6 _ rfl
        have e7 : wr.cell? ⟨b1, o1 + k * 16 + 7, none⟩ = some (.int .u8 t.ret.op) := ct 7 _ rfl
        have e8 : wr.cell? ⟨b1, o1 + k * 16 + 8, none⟩ = some (.int .i64 t.ret.int) := ct 8 _ rfl
        have e9 : wr.cell? ⟨b1, o1 + k * 16 + 9, none⟩ = some (.string t.ret.name) := ct 9 _ rfl
        have e10 : wr.cell? ⟨b1, o1 + k * 16 + 10, none⟩ = some (.string t.ret.second) := ct 10 _ rfl
        have e11 : wr.cell? ⟨b1, o1 + k * 16 + 11, none⟩ = some (.string t.ret.place.name) := ct 11 _ rfl
        have e12 : wr.cell? ⟨b1, o1 + k * 16 + 12, none⟩ = some (.slice ya4 yn4 yc4) := ct 12 _ rfl
        have e13 : wr.cell? ⟨b1, o1 + k * 16 + 13, none⟩ = some (.slice ya5 yn5 yc5) := ct 13 _ rfl
        have e14 : wr.cell? ⟨b1, o1 + k * 16 + 14, none⟩ = some (.int .i64 t.ret.pos) := ct 14 _ rfl
        have e15 : wr.cell? ⟨b1, o1 + k * 16 + 15, none⟩ = some (.int .i64 t.pos) := ct 15 _ rfl
        have HC : Hid (Calls Tryz.prog g0 (#[.agg #[.int .u8 t.kind, .string t.name, .slice ya1 yn1 yc1, .int .u8 t.result.kind, .string t.result.name, .slice ya2 yn2 yc2, .slice ya3 yn3 yc3, .int .u8 t.ret.op, .int .i64 t.ret.int, .string t.ret.name, .string t.ret.second, .string t.ret.place.name, .slice ya4 yn4 yc4, .slice ya5 yn5 yc5, .int .i64 t.ret.pos, .int .i64 t.pos]] ++ lb) (wr.alloc (Obj.cells #[.int .u8 t.kind, .string t.name, .slice ya1 yn1 yc1, .int .u8 t.result.kind, .string t.result.name, .slice ya2 yn2 yc2, .slice ya3 yn3 yc3, .int .u8 t.ret.op, .int .i64 t.ret.int, .string t.ret.name, .string t.ret.second, .string t.ret.place.name, .slice ya4 yn4 yc4, .slice ya5 yn5 yc5, .int .i64 t.ret.pos, .int .i64 t.pos] 46)) fun e W' => ∃ x' : VI, e = .returned (.agg (srtI.cells (cp t) x').toArray) ∧ Hid ((cp t).In W'.heap.size (Fr (wr.alloc (Obj.cells #[.int .u8 t.kind, .string t.name, .slice ya1 yn1 yc1, .int .u8 t.result.kind, .string t.result.name, .slice ya2 yn2 yc2, .slice ya3 yn3 yc3, .int .u8 t.ret.op, .int .i64 t.ret.int, .string t.ret.name, .string t.ret.second, .string t.ret.place.name, .slice ya4 yn4 yc4, .slice ya5 yn5 yc5, .int .i64 t.ret.pos, .int .i64 t.pos] 46)).heap.size W') x') ∧ Below (wr.alloc (Obj.cells #[.int .u8 t.kind, .string t.name, .slice ya1 yn1 yc1, .int .u8 t.result.kind, .string t.result.name, .slice ya2 yn2 yc2, .slice ya3 yn3 yc3, .int .u8 t.ret.op, .int .i64 t.ret.int, .string t.ret.name, .string t.ret.second, .string t.ret.place.name, .slice ya4 yn4 yc4, .slice ya5 yn5 yc5, .int .i64 t.ret.pos, .int .i64 t.pos] 46)).heap.size (wr.alloc (Obj.cells #[.int .u8 t.kind, .string t.name, .slice ya1 yn1 yc1, .int .u8 t.result.kind, .string t.result.name, .slice ya2 yn2 yc2, .slice ya3 yn3 yc3, .int .u8 t.ret.op, .int .i64 t.ret.int, .string t.ret.name, .string t.ret.second, .string t.ret.place.name, .slice ya4 yn4 yc4, .slice ya5 yn5 yc5, .int .i64 t.ret.pos, .int .i64 t.pos] 46)) W') := by
          exact Lib.hid (Hf.out _ hin (wr.alloc (Obj.cells #[.int .u8 t.kind, .string t.name, .slice ya1 yn1 yc1, .int .u8 t.result.kind, .string t.result.name, .slice ya2 yn2 yc2, .slice ya3 yn3 yc3, .int .u8 t.ret.op, .int .i64 t.ret.int, .string t.ret.name, .string t.ret.second, .string t.ret.place.name, .slice ya4 yn4 yc4, .slice ya5 yn5 yc5, .int .i64 t.ret.pos, .int .i64 t.pos] 46)) ⟨.slice ya1 yn1 yc1, .slice ya2 yn2 yc2, .slice ya3 yn3 yc3, ⟨.slice ya4 yn4 yc4, .slice ya5 yn5 yc5⟩⟩ (hbel.trans ((Below.refl _ wr).alloc (by omega) _)) (it.below ((Below.refl B wr).alloc (by omega) _)))
        generalize cp t = t' at HC ht2
        have Ht := Lib.hid ht2
        have HM2 := Lib.hid hM
        have Hbel := Lib.hid hbel
        clear ht hin hM hbel it ct ht2
        go_wp2_with fail
        (with_reducible refine HC.out.mono ?_)
        rintro e W2 ⟨x', he, hf2, b2⟩
        obtain ⟨xa1, xn1, xc1, xa2, xn2, xc2, xa3, xn3, xc3, xa4, xn4, xc4, xa5, xn5, xc5, rfl⟩ := hf2.out.shape
        obtain rfl : e = .returned (.agg #[.int .u8 t'.kind, .string t'.name, .slice xa1 xn1 xc1, .int .u8 t'.result.kind, .string t'.result.name, .slice xa2 xn2 xc2, .slice xa3 xn3 xc3, .int .u8 t'.ret.op, .int .i64 t'.ret.int, .string t'.ret.name, .string t'.ret.second, .string t'.ret.place.name, .slice xa4 xn4 xc4, .slice xa5 xn5 xc5, .int .i64 t'.ret.pos, .int .i64 t'.pos]) := he
        have b3 : Below wr.heap.size wr W2 := ((Below.refl _ wr).alloc (Nat.le_refl _) _).trans (b2.mono (by simp))
        have hM3 := HM2.out.below b3
        obtain ⟨z0, y0⟩ := hM3.there (i := 0) hlt (by decide)
        obtain ⟨z1, y1⟩ := hM3.there (i := 1) hlt (by decide)
        obtain ⟨z2, y2⟩ := hM3.there (i := 2) hlt (by decide)
        obtain ⟨z3, y3⟩ := hM3.there (i := 3) hlt (by decide)
        obtain ⟨z4, y4⟩ := hM3.there (i := 4) hlt (by decide)
        obtain ⟨z5, y5⟩ := hM3.there (i := 5) hlt (by decide)
        obtain ⟨z6, y6⟩ := hM3.there (i := 6) hlt (by decide)
        obtain ⟨z7, y7⟩ := hM3.there (i := 7) hlt (by decide)
        obtain ⟨z8, y8⟩ := hM3.there (i := 8) hlt (by decide)
        obtain ⟨z9, y9⟩ := hM3.there (i := 9) hlt (by decide)
        obtain ⟨z10, y10⟩ := hM3.there (i := 10) hlt (by decide)
        obtain ⟨z11, y11⟩ := hM3.there (i := 11) hlt (by decide)
        obtain ⟨z12, y12⟩ := hM3.there (i := 12) hlt (by decide)
        obtain ⟨z13, y13⟩ := hM3.there (i := 13) hlt (by decide)
        obtain ⟨z14, y14⟩ := hM3.there (i := 14) hlt (by decide)
        obtain ⟨z15, y15⟩ := hM3.there (i := 15) hlt (by decide)
        have y0 : W2.cell? ⟨w.heap.size, k * 16, none⟩ = some z0 := y0
        have y1 : W2.cell? ⟨w.heap.size, k * 16 + 1, none⟩ = some z1 := y1
        have y2 : W2.cell? ⟨w.heap.size, k * 16 + 2, none⟩ = some z2 := y2
        have y3 : W2.cell? ⟨w.heap.size, k * 16 + 3, none⟩ = some z3 := y3
        have y4 : W2.cell? ⟨w.heap.size, k * 16 + 4, none⟩ = some z4 := y4
        have y5 : W2.cell? ⟨w.heap.size, k * 16 + 5, none⟩ = some z5 := y5
        have y6 : W2.cell? ⟨w.heap.size, k * 16 + 6, none⟩ = some z6 := y6
        have y7 : W2.cell? ⟨w.heap.size, k * 16 + 7, none⟩ = some z7 := y7
        have y8 : W2.cell? ⟨w.heap.size, k * 16 + 8, none⟩ = some z8 := y8
        have y9 : W2.cell? ⟨w.heap.size, k * 16 + 9, none⟩ = some z9 := y9
        have y10 : W2.cell? ⟨w.heap.size, k * 16 + 10, none⟩ = some z10 := y10
        have y11 : W2.cell? ⟨w.heap.size, k * 16 + 11, none⟩ = some z11 := y11
        have y12 : W2.cell? ⟨w.heap.size, k * 16 + 12, none⟩ = some z12 := y12
        have y13 : W2.cell? ⟨w.heap.size, k * 16 + 13, none⟩ = some z13 := y13
        have y14 : W2.cell? ⟨w.heap.size, k * 16 + 14, none⟩ = some z14 := y14
        have y15 : W2.cell? ⟨w.heap.size, k * 16 + 15, none⟩ = some z15 := y15
        have f0 : W2.frozen? ⟨w.heap.size, k * 16, none⟩ = false := hM3.fz _
        have f1 : W2.frozen? ⟨w.heap.size, k * 16 + 1, none⟩ = false := hM3.fz _
        have f2 : W2.frozen? ⟨w.heap.size, k * 16 + 2, none⟩ = false := hM3.fz _
        have f3 : W2.frozen? ⟨w.heap.size, k * 16 + 3, none⟩ = false := hM3.fz _
        have f4 : W2.frozen? ⟨w.heap.size, k * 16 + 4, none⟩ = false := hM3.fz _
        have f5 : W2.frozen? ⟨w.heap.size, k * 16 + 5, none⟩ = false := hM3.fz _
        have f6 : W2.frozen? ⟨w.heap.size, k * 16 + 6, none⟩ = false := hM3.fz _
        have f7 : W2.frozen? ⟨w.heap.size, k * 16 + 7, none⟩ = false := hM3.fz _
        have f8 : W2.frozen? ⟨w.heap.size, k * 16 + 8, none⟩ = false := hM3.fz _
        have f9 : W2.frozen? ⟨w.heap.size, k * 16 + 9, none⟩ = false := hM3.fz _
        have f10 : W2.frozen? ⟨w.heap.size, k * 16 + 10, none⟩ = false := hM3.fz _
        have f11 : W2.frozen? ⟨w.heap.size, k * 16 + 11, none⟩ = false := hM3.fz _
        have f12 : W2.frozen? ⟨w.heap.size, k * 16 + 12, none⟩ = false := hM3.fz _
        have f13 : W2.frozen? ⟨w.heap.size, k * 16 + 13, none⟩ = false := hM3.fz _
        have f14 : W2.frozen? ⟨w.heap.size, k * 16 + 14, none⟩ = false := hM3.fz _
        have f15 : W2.frozen? ⟨w.heap.size, k * 16 + 15, none⟩ = false := hM3.fz _
        have B2 := Lib.hid b3
        have HF : Hid (PI.In W2.heap.size (Fr wr.heap.size W2) t' ⟨.slice xa1 xn1 xc1, .slice xa2 xn2 xc2, .slice xa3 xn3 xc3, ⟨.slice xa4 xn4 xc4, .slice xa5 xn5 xc5⟩⟩) := Lib.hid (PI.In.reads (Nat.le_refl _) (Fr.reads (by simp) (fun i _ _ => rfl)) hf2.out)
        clear hM3 HC b2 b3 hf2
        go_wp2_with fail
        go_round
        case rel =>
          have z2 := B2.out.size
          refine ⟨k + 1, by omega, by go_num, by simp; omega, Lib.hid ⟨Srt.made_next (S := srtI) (x := ⟨.slice xa1 xn1 xc1, .slice xa2 xn2 xc2, .slice xa3 xn3 xc3, ⟨.slice xa4 xn4 xc4, .slice xa5 xn5 xc5⟩⟩) HM2.out hlt Ht.out hz (by omega) B2.out HF.out (by simp) (fun i hi => ?_) (fun cur h => ?_), ((((((((((((((((Hbel.out.trans (B2.out.mono (by omega))).setCell (Nat.le_refl _) _).setCell (Nat.le_refl _) _).setCell (Nat.le_refl _) _).setCell (Nat.le_refl _) _).setCell (Nat.le_refl _) _).setCell (Nat.le_refl _) _).setCell (Nat.le_refl _) _).setCell (Nat.le_refl _) _).setCell (Nat.le_refl _) _).setCell (Nat.le_refl _) _).setCell (Nat.le_refl _) _).setCell (Nat.le_refl _) _).setCell (Nat.le_refl _) _).setCell (Nat.le_refl _) _).setCell (Nat.le_refl _) _).setCell (Nat.le_refl _) _⟩⟩
          · iterate 16 refine (Below.heap_setCell _ _ _ i (by simpa using hi)).trans ?_
            rfl
          · show _ = some (Obj.cells (putAt cur (k * 16) [.int .u8 t'.kind, .string t'.name, .slice xa1 xn1 xc1, .int .u8 t'.result.kind, .string t'.result.name, .slice xa2 xn2 xc2, .slice xa3 xn3 xc3, .int .u8 t'.ret.op, .int .i64 t'.ret.int, .string t'.ret.name, .string t'.ret.second, .string t'.ret.place.name, .slice xa4 xn4 xc4, .slice xa5 xn5 xc5, .int .i64 t'.ret.pos, .int .i64 t'.pos]) _ _)
            simp only [putAt, Nat.add_assoc, Nat.reduceAdd]
            exact box_set (i := k * 16 + 15) (box_set (i := k * 16 + 14) (box_set (i := k * 16 + 13) (box_set (i := k * 16 + 12) (box_set (i := k * 16 + 11) (box_set (i := k * 16 + 10) (box_set (i := k * 16 + 9) (box_set (i := k * 16 + 8) (box_set (i := k * 16 + 7) (box_set (i := k * 16 + 6) (box_set (i := k * 16 + 5) (box_set (i := k * 16 + 4) (box_set (i := k * 16 + 3) (box_set (i := k * 16 + 2) (box_set (i := k * 16 + 1) (box_set (i := k * 16) (h) (.int .u8 t'.kind)) (.string t'.name)) (.slice xa1 xn1 xc1)) (.int .u8 t'.result.kind)) (.string t'.result.name)) (.slice xa2 xn2 xc2)) (.slice xa3 xn3 xc3)) (.int .u8 t'.ret.op)) (.int .i64 t'.ret.int)) (.string t'.ret.name)) (.string t'.ret.second)) (.string t'.ret.place.name)) (.slice xa4 xn4 xc4)) (.slice xa5 xn5 xc5)) (.int .i64 t'.ret.pos)) (.int .i64 t'.pos)
        case measure => simp [intOf]; omega
      · obtain rfl : k = n := by omega
        go_wp2_with fail
        (try simp only [Exit.inBlock, Exit.then])
        go_ret
        obtain ⟨hM, hbel⟩ := HH.out
        exact ⟨some ⟨w.heap.size, 0, none⟩, k, rfl, Lib.hid ⟨w.heap.size, 0, ⟨by unfold maxLen; omega, some ⟨w.heap.size, 0, none⟩, k, rfl, .inr ⟨rfl, hM.lt⟩⟩, rowI_all (hM.all (by rw [List.length_map]; exact Hn.out) (Nat.le_refl _))⟩, hbel⟩
end Go.Proofs.YtabncmmadbjegaaGreat
