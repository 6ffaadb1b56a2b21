/- The code's copyEach: weftway/api.Arm (made by gen_each.py). -/
import Derived.Test.YtabncmmadbjegaaGreatJoinA
import Derived.Test.YtabncmmadbjegaaGreatTreeCopyI
import Derived.Lib.SliceRun
namespace Go.Proofs.YtabncmmadbjegaaGreat
open Go.RowKit
set_option linter.unusedVariables false

attribute [local go_sem ↓] Go.wp_at_zero Go.wp_at_succ
set_option maxRecDepth 100000 in
set_option maxHeartbeats 3200000 in
theorem eachA_calls {B : Nat} {g0 : FuncId} {lb : Array Value} (cp : PA → PA) (l : List PA) (v : Value) (b1 o1 : Nat) (w : World) (hE : ∀ args w, (callFunc g0 args).run Tryz.prog w = .ok (.enter g0 args) w)
    (hf : ∀ t, t ∈ l → ∀ W (x : Value), Below w.heap.size w W → t.In B W x → Calls Tryz.prog g0 (#[.agg (srtA.cells t x).toArray] ++ lb) W fun e W' => ∃ x' : Value, e = .returned (.agg (srtA.cells (cp t) x').toArray) ∧ Hid ((cp t).In W'.heap.size (Fr W.heap.size W') x') ∧ Below W.heap.size W W')
    (hB : B ≤ w.heap.size) (hv : SlV B v l.length b1 o1) (hr : PA.Row B w b1 o1 l) (hl : l.length ≤ 1000000) :
    Calls Tryz.prog 80 #[v, .func (.func g0) #[] lb] w fun e w' => ∃ ua uc, e = .returned (.slice ua l.length uc) ∧ Hid (∃ b o, SlV w'.heap.size (.slice ua l.length uc) l.length b o ∧ PA.Row w'.heap.size (Fr w.heap.size w') b o (l.map cp)) ∧ Below w.heap.size w w' := by
  obtain ⟨m1, ao, cap, rfl, h1⟩ := hv
  obtain ⟨i0, hi, hz0, hz1, hz2⟩ := info_parts infoArm
  unfold maxLen at m1
  obtain ⟨n, hn⟩ : ∃ n, n = l.length := ⟨_, rfl⟩
  rw [← hn] at m1 h1 hl ⊢
  have Hn := Lib.hid hn
  have H1 := Lib.hid h1
  have Hr := Lib.hid hr
  have Hf := Lib.hid hf
  cases ao with
  | none =>
    have h0 : n = 0 := h1.resolve_right (by simp)
    subst h0
    have hnil : l = [] := List.eq_nil_of_length_eq_zero hn.symm
    clear hn h1 hr hf
    have HQ : ∀ W : World, (binOp .eql 49 (.slice none 0 cap) (.slice none 0 0)).run Tryz.prog W = .ok (.bool true) W := fun W => Lib.run_eql_slice_nil W 49 105 none 0 cap 0 0 Tryz.underlying49
    go_enter Tryz.func80, Tryz.ntmps80
    go_wp2_with fail
    (try simp only [Exit.inBlock, Exit.then])
    go_ret
    subst hnil
    exact ⟨none, 0, rfl, Lib.hid ⟨0, 0, ⟨Nat.zero_le _, none, 0, rfl, .inl rfl⟩, trivial⟩, Below.refl _ _⟩
  | some ad =>
    obtain ⟨cur, hcur, HM⟩ : ∃ cur : Array Value, cur.size = n * 3 ∧ (Instr.makeSlice 49 (.int .i64 n) (.int .i64 n)).run Tryz.prog w = .ok (.slice (some ⟨w.heap.size, 0, none⟩) n n) (w.alloc (.cells cur 105)) := by
      have h := run_make (P := Tryz.prog) w 49 105 i0 _ Tryz.underlying49 hi hz0 .i64 .i64 n n (by omega) (by omega) (by rw [hz2]; omega) (by omega)
      rw [Int.toNat_natCast] at h
      exact ⟨_, by rw [size_madeCells, hz1], h⟩
    clear hn h1 hr hf
    have HQ : ∀ W : World, (binOp .eql 49 (.slice (some ad) n cap) (.slice none 0 0)).run Tryz.prog W = .ok (.bool false) W := fun W => Lib.run_eql_slice_nil W 49 105 (some ad) n cap 0 0 Tryz.underlying49
    go_enter Tryz.func80, Tryz.ntmps80
    go_wp2_with fail
    go_loopw [15] (fun i wr => ∃ (k : Nat), k ≤ n ∧ i = .int .i64 k ∧ w.heap.size < wr.heap.size ∧ Hid (srtA.Made w.heap.size w.heap.size 105 (l.map cp) k n wr ∧ Below w.heap.size w wr))
      (fun i _ => n - (intOf i).toNat)
    case atStart => exact ⟨0, Nat.zero_le _, rfl, by simp, Lib.hid ⟨Srt.Made.start _ (heap_alloc_new w _) hcur, (Below.refl _ w).alloc (Nat.le_refl _) _⟩⟩
    case round =>
      obtain ⟨k, hk, rfl, hz, HH⟩ := hrel
      have hk0 : (0 : Int) ≤ (k : Int) := Int.natCast_nonneg _
      by_cases hlt : k < n
      · have hk1 : (k : Int) < (n : Int) := by omega
        obtain ⟨t, ht, hin⟩ := get_at (l := l) (k := k) (by rw [← Hn.out]; exact hlt)
        obtain ⟨had, hb1⟩ := H1.out.resolve_left (by omega)
        obtain rfl := Option.some.inj had
        obtain ⟨hM, hbel⟩ := HH.out
        obtain ⟨vt, ct, it⟩ := PA.Row.get (PA.Row.below (hbel.mono hB) (fun _ => hb1) Hr.out) ht
        obtain ⟨ya1, yn1, yc1, rfl⟩ := it.shape
        have g1 : b1 < wr.heap.size := by omega
        have ht2 : (l.map cp)[k]? = some (cp t) := by rw [List.getElem?_map, ht]; rfl
        obtain ⟨t0, ht0⟩ : ∃ t0, t0 = t := ⟨_, rfl⟩
        obtain ⟨tv, tn, tbo⟩ := t
        have e0 : wr.cell? ⟨b1, o1 + k * 3, none⟩ = some (.string tv) := ct 0 _ rfl
        have e1 : wr.cell? ⟨b1, o1 + k * 3 + 1, none⟩ = some (.string tn) := ct 1 _ rfl
        have e2 : wr.cell? ⟨b1, o1 + k * 3 + 2, none⟩ = some (.slice ya1 yn1 yc1) := ct 2 _ rfl
        have HC : Hid (Calls Tryz.prog g0 (#[.agg #[.string tv, .string tn, .slice ya1 yn1 yc1]] ++ lb) (wr.alloc (Obj.cells #[.string tv, .string tn, .slice ya1 yn1 yc1] 105)) fun e W' => ∃ x' : Value, e = .returned (.agg (srtA.cells (cp t0) x').toArray) ∧ Hid ((cp t0).In W'.heap.size (Fr (wr.alloc (Obj.cells #[.string tv, .string tn, .slice ya1 yn1 yc1] 105)).heap.size W') x') ∧ Below (wr.alloc (Obj.cells #[.string tv, .string tn, .slice ya1 yn1 yc1] 105)).heap.size (wr.alloc (Obj.cells #[.string tv, .string tn, .slice ya1 yn1 yc1] 105)) W') := by
          rw [ht0]
          exact Lib.hid (Hf.out _ hin (wr.alloc (Obj.cells #[.string tv, .string tn, .slice ya1 yn1 yc1] 105)) (.slice ya1 yn1 yc1) (hbel.trans ((Below.refl _ wr).alloc (by omega) _)) (it.below ((Below.refl B wr).alloc (by omega) _)))
        rw [← ht0] at ht2
        generalize cp t0 = t' at HC ht2
        have Ht := Lib.hid ht2
        have HM2 := Lib.hid hM
        have Hbel := Lib.hid hbel
        clear ht hin hM hbel it ct ht2
        go_wp2_with fail
        (with_reducible refine HC.out.mono ?_)
        rintro e W2 ⟨x', he, hf2, b2⟩
        obtain ⟨t'v, t'n, t'bo⟩ := t'
        obtain ⟨xa1, xn1, xc1, rfl⟩ := hf2.out.shape
        obtain rfl : e = .returned (.agg #[.string t'v, .string t'n, .slice xa1 xn1 xc1]) := he
        have b3 : Below wr.heap.size wr W2 := ((Below.refl _ wr).alloc (Nat.le_refl _) _).trans (b2.mono (by simp))
        have hM3 := HM2.out.below b3
        obtain ⟨z0, y0⟩ := hM3.there (i := 0) hlt (by decide)
        obtain ⟨z1, y1⟩ := hM3.there (i := 1) hlt (by decide)
        obtain ⟨z2, y2⟩ := hM3.there (i := 2) hlt (by decide)
        have y0 : W2.cell? ⟨w.heap.size, k * 3, none⟩ = some z0 := y0
        have y1 : W2.cell? ⟨w.heap.size, k * 3 + 1, none⟩ = some z1 := y1
        have y2 : W2.cell? ⟨w.heap.size, k * 3 + 2, none⟩ = some z2 := y2
        have f0 : W2.frozen? ⟨w.heap.size, k * 3, none⟩ = false := hM3.fz _
        have f1 : W2.frozen? ⟨w.heap.size, k * 3 + 1, none⟩ = false := hM3.fz _
        have f2 : W2.frozen? ⟨w.heap.size, k * 3 + 2, none⟩ = false := hM3.fz _
        have B2 := Lib.hid b3
        have HF : Hid (PA.In W2.heap.size (Fr wr.heap.size W2) (.mk t'v t'n t'bo) (.slice xa1 xn1 xc1)) := Lib.hid (PA.In.reads (Nat.le_refl _) (Fr.reads (by simp) (fun i _ _ => rfl)) hf2.out)
        clear hM3 HC b2 b3 hf2
        go_wp2_with fail
        go_round
        case rel =>
          have z2 := B2.out.size
          refine ⟨k + 1, by omega, by go_num, by simp; omega, Lib.hid ⟨Srt.made_next (S := srtA) (x := (.slice xa1 xn1 xc1)) HM2.out hlt Ht.out hz (by omega) B2.out HF.out (by simp) (fun i hi => ?_) (fun cur h => ?_), (((Hbel.out.trans (B2.out.mono (by omega))).setCell (Nat.le_refl _) _).setCell (Nat.le_refl _) _).setCell (Nat.le_refl _) _⟩⟩
          · iterate 3 refine (Below.heap_setCell _ _ _ i (by simpa using hi)).trans ?_
            rfl
          · show _ = some (Obj.cells (putAt cur (k * 3) [.string t'v, .string t'n, .slice xa1 xn1 xc1]) _ _)
            simp only [putAt, Nat.add_assoc, Nat.reduceAdd]
            exact box_set (i := k * 3 + 2) (box_set (i := k * 3 + 1) (box_set (i := k * 3) (h) (.string t'v)) (.string t'n)) (.slice xa1 xn1 xc1)
        case measure => simp [intOf]; omega
      · obtain rfl : k = n := by omega
        go_wp2_with fail
        (try simp only [Exit.inBlock, Exit.then])
        go_ret
        obtain ⟨hM, hbel⟩ := HH.out
        exact ⟨some ⟨w.heap.size, 0, none⟩, k, rfl, Lib.hid ⟨w.heap.size, 0, ⟨by unfold maxLen; omega, some ⟨w.heap.size, 0, none⟩, k, rfl, .inr ⟨rfl, hM.lt⟩⟩, rowA_all (hM.all (by rw [List.length_map]; exact Hn.out) (Nat.le_refl _))⟩, hbel⟩
end Go.Proofs.YtabncmmadbjegaaGreat
