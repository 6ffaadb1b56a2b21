/- The code's copyEach: string (made by gen_each.py). -/
import Derived.Test.YtojeijeimpffgaaGreatQJoinA
import Derived.Test.YtojeijeimpffgaaGreatQTreeCopyI
import Derived.Lib.SliceRun
namespace Go.Proofs.YtojeijeimpffgaaGreat
open Go.RowKit
set_option linter.unusedVariables false

attribute [local go_sem ↓] Go.wp_at_zero Go.wp_at_succ
set_option maxRecDepth 100000 in
set_option maxHeartbeats 3200000 in
theorem eachN_calls {B : Nat} {g0 : FuncId} {lb : Array Value} (l : List ByteArray) (v : Value) (b1 o1 : Nat) (w : World) (hE : ∀ args w, (callFunc g0 args).run Tryz.prog w = .ok (.enter g0 args) w)
    (hf : ∀ (s : ByteArray), s ∈ l → ∀ W, Calls Tryz.prog g0 (#[.string s] ++ lb) W fun e W' => e = .returned (.string s) ∧ Below W.heap.size W W')
    (hB : B ≤ w.heap.size) (hv : SlV B v l.length b1 o1) (hr : NRow w b1 o1 l) (hl : l.length ≤ 1000000) :
    Calls Tryz.prog 67 #[v, .func (.func g0) #[] lb] w fun e w' => ∃ ua uc, e = .returned (.slice ua l.length uc) ∧ Hid (NIn w'.heap.size (Fr w.heap.size w') l (.slice ua l.length uc)) ∧ Below w.heap.size w w' := by
  obtain ⟨m1, ao, cap, rfl, h1⟩ := hv
  obtain ⟨i0, hi, hz0, hz1, hz2⟩ := info_parts infoName
  unfold maxLen at m1
  obtain ⟨n, hn⟩ : ∃ n, n = l.length := ⟨_, rfl⟩
  rw [← hn] at m1 h1 hl ⊢
  have Hn := Lib.hid hn
  have H1 := Lib.hid h1
  have Hr := Lib.hid hr
  have Hf := Lib.hid hf
  cases ao with
  | none =>
    have h0 : n = 0 := h1.resolve_right (by simp)
    subst h0
    have hnil : l = [] := List.eq_nil_of_length_eq_zero hn.symm
    clear hn h1 hr hf
    have HQ : ∀ W : World, (binOp .eql 40 (.slice none 0 cap) (.slice none 0 0)).run Tryz.prog W = .ok (.bool true) W := fun W => Lib.run_eql_slice_nil W 40 9 none 0 cap 0 0 Tryz.underlying40
    go_enter Tryz.func67, Tryz.ntmps67
    go_wp2_with fail
    (try simp only [Exit.inBlock, Exit.then])
    go_ret
    subst hnil
    exact ⟨none, 0, rfl, Lib.hid ⟨0, 0, ⟨Nat.zero_le _, none, 0, rfl, .inl rfl⟩, trivial⟩, Below.refl _ _⟩
  | some ad =>
    obtain ⟨cur, hcur, HM⟩ : ∃ cur : Array Value, cur.size = n * 1 ∧ (Instr.makeSlice 40 (.int .i64 n) (.int .i64 n)).run Tryz.prog w = .ok (.slice (some ⟨w.heap.size, 0, none⟩) n n) (w.alloc (.cells cur 9)) := by
      have h := run_make (P := Tryz.prog) w 40 9 i0 _ Tryz.underlying40 hi hz0 .i64 .i64 n n (by omega) (by omega) (by rw [hz2]; omega) (by omega)
      rw [Int.toNat_natCast] at h
      exact ⟨_, by rw [size_madeCells, hz1], h⟩
    clear hn h1 hr hf
    have HQ : ∀ W : World, (binOp .eql 40 (.slice (some ad) n cap) (.slice none 0 0)).run Tryz.prog W = .ok (.bool false) W := fun W => Lib.run_eql_slice_nil W 40 9 (some ad) n cap 0 0 Tryz.underlying40
    go_enter Tryz.func67, Tryz.ntmps67
    go_wp2_with fail
    go_loopw [15] (fun i wr => ∃ (k : Nat), k ≤ n ∧ i = .int .i64 k ∧ w.heap.size < wr.heap.size ∧ Hid (srtN.Made w.heap.size w.heap.size 9 l k n wr ∧ Below w.heap.size w wr))
      (fun i _ => n - (intOf i).toNat)
    case atStart => exact ⟨0, Nat.zero_le _, rfl, by simp, Lib.hid ⟨Srt.Made.start _ (heap_alloc_new w _) hcur, (Below.refl _ w).alloc (Nat.le_refl _) _⟩⟩
    case round =>
      obtain ⟨k, hk, rfl, hz, HH⟩ := hrel
      have hk0 : (0 : Int) ≤ (k : Int) := Int.natCast_nonneg _
      by_cases hlt : k < n
      · have hk1 : (k : Int) < (n : Int) := by omega
        obtain ⟨t, ht, hin⟩ := get_at (l := l) (k := k) (by rw [← Hn.out]; exact hlt)
        obtain ⟨had, hb1⟩ := H1.out.resolve_left (by omega)
        obtain rfl := Option.some.inj had
        obtain ⟨hM, hbel⟩ := HH.out
        have hsm := NRow.small Hr.out t hin
        have e0 : wr.cell? ⟨b1, o1 + k, none⟩ = some (.string t) := (hbel.cell (p := ⟨b1, o1 + k, none⟩) (show b1 < w.heap.size by omega)).trans (NRow.cellsAt Hr.out k _ (by rw [List.getElem?_map, ht]; rfl))
        have HC := Lib.hid (Hf.out t hin wr)
        have Ht := Lib.hid ht
        have HM2 := Lib.hid hM
        have Hbel := Lib.hid hbel
        clear ht hin hM hbel
        go_wp2_with fail
        (with_reducible refine HC.out.mono ?_)
        rintro e W2 ⟨rfl, b2⟩
        have hM3 := HM2.out.below b2
        obtain ⟨z0, hz0'⟩ := hM3.there (i := 0) hlt (by decide)
        have y0 : W2.cell? ⟨w.heap.size, k, none⟩ = some z0 := by simpa [srtN] using hz0'
        have f0 : W2.frozen? ⟨w.heap.size, k, none⟩ = false := hM3.fz _
        have B2 := Lib.hid b2
        clear hM3 hz0' HC b2
        go_wp2_with fail
        go_round
        case rel =>
          have z2 := B2.out.size
          refine ⟨k + 1, by omega, by go_num, by simp; omega, Lib.hid ⟨Srt.made_next (S := srtN) (x := ()) HM2.out hlt Ht.out hz (by omega) B2.out hsm (by simp) (fun i hi => Below.heap_setCell _ _ _ i (by simpa using hi)) (fun cur h => ?_), (Hbel.out.trans (B2.out.mono (by omega))).setCell (Nat.le_refl _) _⟩⟩
          simpa [srtN, putAt] using box_set (i := k) h (.string t)
        case measure => simp [intOf]; omega
      · obtain rfl : k = n := by omega
        go_wp2_with fail
        (try simp only [Exit.inBlock, Exit.then])
        go_ret
        obtain ⟨hM, hbel⟩ := HH.out
        exact ⟨some ⟨w.heap.size, 0, none⟩, k, rfl, Lib.hid ⟨w.heap.size, 0, ⟨by rw [← Hn.out]; unfold maxLen; omega, some ⟨w.heap.size, 0, none⟩, k, by rw [← Hn.out], .inr ⟨rfl, hM.lt⟩⟩, rowN_all (hM.all Hn.out (Nat.le_refl _))⟩, hbel⟩
end Go.Proofs.YtojeijeimpffgaaGreat
