/- The code's copyEach: weftway/api.Type (made by gen_each.py). -/
import Derived.Test.YtojeijeimpffgaaGreatQJoinA
import Derived.Test.YtojeijeimpffgaaGreatQTreeCopyI
import Derived.Lib.SliceRun
namespace Go.Proofs.YtojeijeimpffgaaGreat
open Go.RowKit
set_option linter.unusedVariables false

attribute [local go_sem ↓] Go.wp_at_zero Go.wp_at_succ
set_option maxRecDepth 100000 in
set_option maxHeartbeats 3200000 in
theorem eachT_calls {B : Nat} {g0 : FuncId} {lb : Array Value} (cp : PT → PT) (l : List PT) (v : Value) (b1 o1 : Nat) (w : World) (hE : ∀ args w, (callFunc g0 args).run Tryz.prog w = .ok (.enter g0 args) w)
    (hf : ∀ t, t ∈ l → ∀ W (x : Value), Below w.heap.size w W → t.In B W x → Calls Tryz.prog g0 (#[.agg (srtT.cells t x).toArray] ++ lb) W fun e W' => ∃ x' : Value, e = .returned (.agg (srtT.cells (cp t) x').toArray) ∧ Hid ((cp t).In W'.heap.size (Fr W.heap.size W') x') ∧ Below W.heap.size W W')
    (hB : B ≤ w.heap.size) (hv : SlV B v l.length b1 o1) (hr : PT.Row B w b1 o1 l) (hl : l.length ≤ 1000000) :
    Calls Tryz.prog 69 #[v, .func (.func g0) #[] lb] w fun e w' => ∃ ua uc, e = .returned (.slice ua l.length uc) ∧ Hid (∃ b o, SlV w'.heap.size (.slice ua l.length uc) l.length b o ∧ PT.Row w'.heap.size (Fr w.heap.size w') b o (l.map cp)) ∧ Below w.heap.size w w' := by
  obtain ⟨m1, ao, cap, rfl, h1⟩ := hv
  obtain ⟨i0, hi, hz0, hz1, hz2⟩ := info_parts infoType
  unfold maxLen at m1
  obtain ⟨n, hn⟩ : ∃ n, n = l.length := ⟨_, rfl⟩
  rw [← hn] at m1 h1 hl ⊢
  have Hn := Lib.hid hn
  have H1 := Lib.hid h1
  have Hr := Lib.hid hr
  have Hf := Lib.hid hf
  cases ao with
  | none =>
    have h0 : n = 0 := h1.resolve_right (by simp)
    subst h0
    have hnil : l = [] := List.eq_nil_of_length_eq_zero hn.symm
    clear hn h1 hr hf
    have HQ : ∀ W : World, (binOp .eql 36 (.slice none 0 cap) (.slice none 0 0)).run Tryz.prog W = .ok (.bool true) W := fun W => Lib.run_eql_slice_nil W 36 38 none 0 cap 0 0 Tryz.underlying36
    go_enter Tryz.func69, Tryz.ntmps69
    go_wp2_with fail
    (try simp only [Exit.inBlock, Exit.then])
    go_ret
    subst hnil
    exact ⟨none, 0, rfl, Lib.hid ⟨0, 0, ⟨Nat.zero_le _, none, 0, rfl, .inl rfl⟩, trivial⟩, Below.refl _ _⟩
  | some ad =>
    obtain ⟨cur, hcur, HM⟩ : ∃ cur : Array Value, cur.size = n * 3 ∧ (Instr.makeSlice 36 (.int .i64 n) (.int .i64 n)).run Tryz.prog w = .ok (.slice (some ⟨w.heap.size, 0, none⟩) n n) (w.alloc (.cells cur 38)) := by
      have h := run_make (P := Tryz.prog) w 36 38 i0 _ Tryz.underlying36 hi hz0 .i64 .i64 n n (by omega) (by omega) (by rw [hz2]; omega) (by omega)
      rw [Int.toNat_natCast] at h
      exact ⟨_, by rw [size_madeCells, hz1], h⟩
    clear hn h1 hr hf
    have HQ : ∀ W : World, (binOp .eql 36 (.slice (some ad) n cap) (.slice none 0 0)).run Tryz.prog W = .ok (.bool false) W := fun W => Lib.run_eql_slice_nil W 36 38 (some ad) n cap 0 0 Tryz.underlying36
    go_enter Tryz.func69, Tryz.ntmps69
    go_wp2_with fail
    go_loopw [15] (fun i wr => ∃ (k : Nat), k ≤ n ∧ i = .int .i64 k ∧ w.heap.size < wr.heap.size ∧ Hid (srtT.Made w.heap.size w.heap.size 38 (l.map cp) k n wr ∧ Below w.heap.size w wr))
      (fun i _ => n - (intOf i).toNat)
    case atStart => exact ⟨0, Nat.zero_le _, rfl, by simp, Lib.hid ⟨Srt.Made.start _ (heap_alloc_new w _) hcur, (Below.refl _ w).alloc (Nat.le_refl _) _⟩⟩
    case round =>
      obtain ⟨k, hk, rfl, hz, HH⟩ := hrel
      have hk0 : (0 : Int) ≤ (k : Int) := Int.natCast_nonneg _
      by_cases hlt : k < n
      · have hk1 : (k : Int) < (n : Int) := by omega
        obtain ⟨t, ht, hin⟩ := get_at (l := l) (k := k) (by rw [← Hn.out]; exact hlt)
        obtain ⟨had, hb1⟩ := H1.out.resolve_left (by omega)
        obtain rfl := Option.some.inj had
        obtain ⟨hM, hbel⟩ := HH.out
        obtain ⟨vt, ct, it⟩ := PT.Row.get (PT.Row.below (hbel.mono hB) hb1 Hr.out) ht
        obtain ⟨ya1, yn1, yc1, rfl⟩ := it.shape
        have g1 : b1 < wr.heap.size := by omega
        have ht2 : (l.map cp)[k]? = some (cp t) := by rw [List.getElem?_map, ht]; rfl
        have e0 : wr.cell? ⟨b1, o1 + k * 3, none⟩ = some (.int .u8 t.kind) := ct 0 _ rfl
        have e1 : wr.cell? ⟨b1, o1 + k * 3 + 1, none⟩ = some (.string t.name) := ct 1 _ rfl
        have e2 : wr.cell? ⟨b1, o1 + k * 3 + 2, none⟩ = some (.slice ya1 yn1 yc1) := ct 2 _ rfl
        have HC : Hid (Calls Tryz.prog g0 (#[.agg #[.int .u8 t.kind, .string t.name, .slice ya1 yn1 yc1]] ++ lb) (wr.alloc (Obj.cells #[.int .u8 t.kind, .string t.name, .slice ya1 yn1 yc1] 38)) fun e W' => ∃ x' : Value, e = .returned (.agg (srtT.cells (cp t) x').toArray) ∧ Hid ((cp t).In W'.heap.size (Fr (wr.alloc (Obj.cells #[.int .u8 t.kind, .string t.name, .slice ya1 yn1 yc1] 38)).heap.size W') x') ∧ Below (wr.alloc (Obj.cells #[.int .u8 t.kind, .string t.name, .slice ya1 yn1 yc1] 38)).heap.size (wr.alloc (Obj.cells #[.int .u8 t.kind, .string t.name, .slice ya1 yn1 yc1] 38)) W') := by
          exact Lib.hid (Hf.out _ hin (wr.alloc (Obj.cells #[.int .u8 t.kind, .string t.name, .slice ya1 yn1 yc1] 38)) (.slice ya1 yn1 yc1) (hbel.trans ((Below.refl _ wr).alloc (by omega) _)) (it.below ((Below.refl B wr).alloc (by omega) _)))
        generalize cp t = t' at HC ht2
        have Ht := Lib.hid ht2
        have HM2 := Lib.hid hM
        have Hbel := Lib.hid hbel
        clear ht hin hM hbel it ct ht2
        go_wp2_with fail
        (with_reducible refine HC.out.mono ?_)
        rintro e W2 ⟨x', he, hf2, b2⟩
        obtain ⟨xa1, xn1, xc1, rfl⟩ := hf2.out.shape
        obtain rfl : e = .returned (.agg #[.int .u8 t'.kind, .string t'.name, .slice xa1 xn1 xc1]) := he
        have b3 : Below wr.heap.size wr W2 := ((Below.refl _ wr).alloc (Nat.le_refl _) _).trans (b2.mono (by simp))
        have hM3 := HM2.out.below b3
        obtain ⟨z0, y0⟩ := hM3.there (i := 0) hlt (by decide)
        obtain ⟨z1, y1⟩ := hM3.there (i := 1) hlt (by decide)
        obtain ⟨z2, y2⟩ := hM3.there (i := 2) hlt (by decide)
        have y0 : W2.cell? ⟨w.heap.size, k * 3, none⟩ = some z0 := y0
        have y1 : W2.cell? ⟨w.heap.size, k * 3 + 1, none⟩ = some z1 := y1
        have y2 : W2.cell? ⟨w.heap.size, k * 3 + 2, none⟩ = some z2 := y2
        have f0 : W2.frozen? ⟨w.heap.size, k * 3, none⟩ = false := hM3.fz _
        have f1 : W2.frozen? ⟨w.heap.size, k * 3 + 1, none⟩ = false := hM3.fz _
        have f2 : W2.frozen? ⟨w.heap.size, k * 3 + 2, none⟩ = false := hM3.fz _
        have B2 := Lib.hid b3
        have HF : Hid (PT.In W2.heap.size (Fr wr.heap.size W2) t' (.slice xa1 xn1 xc1)) := Lib.hid (PT.In.reads (Nat.le_refl _) (Fr.reads (by simp) (fun i _ _ => rfl)) hf2.out)
        clear hM3 HC b2 b3 hf2
        go_wp2_with fail
        go_round
        case rel =>
          have z2 := B2.out.size
          refine ⟨k + 1, by omega, by go_num, by simp; omega, Lib.hid ⟨Srt.made_next (S := srtT) (x := (.slice xa1 xn1 xc1)) HM2.out hlt Ht.out hz (by omega) B2.out HF.out (by simp) (fun i hi => ?_) (fun cur h => ?_), (((Hbel.out.trans (B2.out.mono (by omega))).setCell (Nat.le_refl _) _).setCell (Nat.le_refl _) _).setCell (Nat.le_refl _) _⟩⟩
          · iterate 3 refine (Below.heap_setCell _ _ _ i (by simpa using hi)).trans ?_
            rfl
          · show _ = some (Obj.cells (putAt cur (k * 3) [.int .u8 t'.kind, .string t'.name, .slice xa1 xn1 xc1]) _ _)
            simp only [putAt, Nat.add_assoc, Nat.reduceAdd]
            exact box_set (i := k * 3 + 2) (box_set (i := k * 3 + 1) (box_set (i := k * 3) (h) (.int .u8 t'.kind)) (.string t'.name)) (.slice xa1 xn1 xc1)
        case measure => simp [intOf]; omega
      · obtain rfl : k = n := by omega
        go_wp2_with fail
        (try simp only [Exit.inBlock, Exit.then])
        go_ret
        obtain ⟨hM, hbel⟩ := HH.out
        exact ⟨some ⟨w.heap.size, 0, none⟩, k, rfl, Lib.hid ⟨w.heap.size, 0, ⟨by unfold maxLen; omega, some ⟨w.heap.size, 0, none⟩, k, rfl, .inr ⟨rfl, hM.lt⟩⟩, rowT_all (hM.all (by rw [List.length_map]; exact Hn.out) (Nat.le_refl _))⟩, hbel⟩
end Go.Proofs.YtojeijeimpffgaaGreat
/- The code's copyEach: weftway/api.Expr (made by gen_each.py). -/
namespace Go.Proofs.YtojeijeimpffgaaGreat
open Go.RowKit
set_option linter.unusedVariables false

attribute [local go_sem ↓] Go.wp_at_zero Go.wp_at_succ
set_option maxRecDepth 100000 in
set_option maxHeartbeats 3200000 in
theorem eachE_calls {B : Nat} {g0 : FuncId} {lb : Array Value} (cp : PE → PE) (l : List PE) (v : Value) (b1 o1 : Nat) (w : World) (hE : ∀ args w, (callFunc g0 args).run Tryz.prog w = .ok (.enter g0 args) w)
    (hf : ∀ t, t ∈ l → ∀ W (x : VE), Below w.heap.size w W → t.In B W x → Calls Tryz.prog g0 (#[.agg (srtE.cells t x).toArray] ++ lb) W fun e W' => ∃ x' : VE, e = .returned (.agg (srtE.cells (cp t) x').toArray) ∧ Hid ((cp t).In W'.heap.size (Fr W.heap.size W') x') ∧ Below W.heap.size W W')
    (hB : B ≤ w.heap.size) (hv : SlV B v l.length b1 o1) (hr : PE.Row B w b1 o1 l) (hl : l.length ≤ 1000000) :
    Calls Tryz.prog 71 #[v, .func (.func g0) #[] lb] w fun e w' => ∃ ua uc, e = .returned (.slice ua l.length uc) ∧ Hid (∃ b o, SlV w'.heap.size (.slice ua l.length uc) l.length b o ∧ PE.Row w'.heap.size (Fr w.heap.size w') b o (l.map cp)) ∧ Below w.heap.size w w' := by
  obtain ⟨m1, ao, cap, rfl, h1⟩ := hv
  obtain ⟨i0, hi, hz0, hz1, hz2⟩ := info_parts infoExpr
  unfold maxLen at m1
  obtain ⟨n, hn⟩ : ∃ n, n = l.length := ⟨_, rfl⟩
  rw [← hn] at m1 h1 hl ⊢
  have Hn := Lib.hid hn
  have H1 := Lib.hid h1
  have Hr := Lib.hid hr
  have Hf := Lib.hid hf
  cases ao with
  | none =>
    have h0 : n = 0 := h1.resolve_right (by simp)
    subst h0
    have hnil : l = [] := List.eq_nil_of_length_eq_zero hn.symm
    clear hn h1 hr hf
    have HQ : ∀ W : World, (binOp .eql 43 (.slice none 0 cap) (.slice none 0 0)).run Tryz.prog W = .ok (.bool true) W := fun W => Lib.run_eql_slice_nil W 43 45 none 0 cap 0 0 Tryz.underlying43
    go_enter Tryz.func71, Tryz.ntmps71
    go_wp2_with fail
    (try simp only [Exit.inBlock, Exit.then])
    go_ret
    subst hnil
    exact ⟨none, 0, rfl, Lib.hid ⟨0, 0, ⟨Nat.zero_le _, none, 0, rfl, .inl rfl⟩, trivial⟩, Below.refl _ _⟩
  | some ad =>
    obtain ⟨cur, hcur, HM⟩ : ∃ cur : Array Value, cur.size = n * 8 ∧ (Instr.makeSlice 43 (.int .i64 n) (.int .i64 n)).run Tryz.prog w = .ok (.slice (some ⟨w.heap.size, 0, none⟩) n n) (w.alloc (.cells cur 45)) := by
      have h := run_make (P := Tryz.prog) w 43 45 i0 _ Tryz.underlying43 hi hz0 .i64 .i64 n n (by omega) (by omega) (by rw [hz2]; omega) (by omega)
      rw [Int.toNat_natCast] at h
      exact ⟨_, by rw [size_madeCells, hz1], h⟩
    clear hn h1 hr hf
    have HQ : ∀ W : World, (binOp .eql 43 (.slice (some ad) n cap) (.slice none 0 0)).run Tryz.prog W = .ok (.bool false) W := fun W => Lib.run_eql_slice_nil W 43 45 (some ad) n cap 0 0 Tryz.underlying43
    go_enter Tryz.func71, Tryz.ntmps71
    go_wp2_with fail
    go_loopw [15] (fun i wr => ∃ (k : Nat), k ≤ n ∧ i = .int .i64 k ∧ w.heap.size < wr.heap.size ∧ Hid (srtE.Made w.heap.size w.heap.size 45 (l.map cp) k n wr ∧ Below w.heap.size w wr))
      (fun i _ => n - (intOf i).toNat)
    case atStart => exact ⟨0, Nat.zero_le _, rfl, by simp, Lib.hid ⟨Srt.Made.start _ (heap_alloc_new w _) hcur, (Below.refl _ w).alloc (Nat.le_refl _) _⟩⟩
    case round =>
      obtain ⟨k, hk, rfl, hz, HH⟩ := hrel
      have hk0 : (0 : Int) ≤ (k : Int) := Int.natCast_nonneg _
      by_cases hlt : k < n
      · have hk1 : (k : Int) < (n : Int) := by omega
        obtain ⟨t, ht, hin⟩ := get_at (l := l) (k := k) (by rw [← Hn.out]; exact hlt)
        obtain ⟨had, hb1⟩ := H1.out.resolve_left (by omega)
        obtain rfl := Option.some.inj had
        obtain ⟨hM, hbel⟩ := HH.out
        obtain ⟨vt, ct, it⟩ := PE.Row.get (PE.Row.below (hbel.mono hB) hb1 Hr.out) ht
        obtain ⟨ya1, yn1, yc1, ya2, yn2, yc2, rfl⟩ := it.shape
        have g1 : b1 < wr.heap.size := by omega
        have ht2 : (l.map cp)[k]? = some (cp t) := by rw [List.getElem?_map, ht]; rfl
        have e0 : wr.cell? ⟨b1, o1 + k * 8, none⟩ = some (.int .u8 t.op) := ct 0 _ rfl
        have e1 : wr.cell? ⟨b1, o1 + k * 8 + 1, none⟩ = some (.int .i64 t.int) := ct 1 _ rfl
        have e2 : wr.cell? ⟨b1, o1 + k * 8 + 2, none⟩ = some (.string t.name) := ct 2 _ rfl
        have e3 : wr.cell? ⟨b1, o1 + k * 8 + 3, none⟩ = some (.string t.second) := ct 3 _ rfl
        have e4 : wr.cell? ⟨b1, o1 + k * 8 + 4, none⟩ = some (.string t.place.name) := ct 4 _ rfl
        have e5 : wr.cell? ⟨b1, o1 + k * 8 + 5, none⟩ = some (.slice ya1 yn1 yc1) := ct 5 _ rfl
        have e6 : wr.cell? ⟨b1, o1 + k * 8 + 6, none⟩ = some (.slice ya2 yn2 yc2) := ct 6 _ rfl
        have e7 : wr.cell? ⟨b1, o1 + k * 8 + 7, none⟩ = some (.int .i64 t.pos) := ct 7 _ rfl
        have HC : Hid (Calls Tryz.prog g0 (#[.agg #[.int .u8 t.op, .int .i64 t.int, .string t.name, .string t.second, .string t.place.name, .slice ya1 yn1 yc1, .slice ya2 yn2 yc2, .int .i64 t.pos]] ++ lb) (wr.alloc (Obj.cells #[.int .u8 t.op, .int .i64 t.int, .string t.name, .string t.second, .string t.place.name, .slice ya1 yn1 yc1, .slice ya2 yn2 yc2, .int .i64 t.pos] 45)) fun e W' => ∃ x' : VE, e = .returned (.agg (srtE.cells (cp t) x').toArray) ∧ Hid ((cp t).In W'.heap.size (Fr (wr.alloc (Obj.cells #[.int .u8 t.op, .int .i64 t.int, .string t.name, .string t.second, .string t.place.name, .slice ya1 yn1 yc1, .slice ya2 yn2 yc2, .int .i64 t.pos] 45)).heap.size W') x') ∧ Below (wr.alloc (Obj.cells #[.int .u8 t.op, .int .i64 t.int, .string t.name, .string t.second, .string t.place.name, .slice ya1 yn1 yc1, .slice ya2 yn2 yc2, .int .i64 t.pos] 45)).heap.size (wr.alloc (Obj.cells #[.int .u8 t.op, .int .i64 t.int, .string t.name, .string t.second, .string t.place.name, .slice ya1 yn1 yc1, .slice ya2 yn2 yc2, .int .i64 t.pos] 45)) W') := by
          exact Lib.hid (Hf.out _ hin (wr.alloc (Obj.cells #[.int .u8 t.op, .int .i64 t.int, .string t.name, .string t.second, .string t.place.name, .slice ya1 yn1 yc1, .slice ya2 yn2 yc2, .int .i64 t.pos] 45)) ⟨.slice ya1 yn1 yc1, .slice ya2 yn2 yc2⟩ (hbel.trans ((Below.refl _ wr).alloc (by omega) _)) (it.below ((Below.refl B wr).alloc (by omega) _)))
        generalize cp t = t' at HC ht2
        have Ht := Lib.hid ht2
        have HM2 := Lib.hid hM
        have Hbel := Lib.hid hbel
        clear ht hin hM hbel it ct ht2
        go_wp2_with fail
        (with_reducible refine HC.out.mono ?_)
        rintro e W2 ⟨x', he, hf2, b2⟩
        obtain ⟨xa1, xn1, xc1, xa2, xn2, xc2, rfl⟩ := hf2.out.shape
        obtain rfl : e = .returned (.agg #[.int .u8 t'.op, .int .i64 t'.int, .string t'.name, .string t'.second, .string t'.place.name, .slice xa1 xn1 xc1, .slice xa2 xn2 xc2, .int .i64 t'.pos]) := he
        have b3 : Below wr.heap.size wr W2 := ((Below.refl _ wr).alloc (Nat.le_refl _) _).trans (b2.mono (by simp))
        have hM3 := HM2.out.below b3
        obtain ⟨z0, y0⟩ := hM3.there (i := 0) hlt (by decide)
        obtain ⟨z1, y1⟩ := hM3.there (i := 1) hlt (by decide)
        obtain ⟨z2, y2⟩ := hM3.there (i := 2) hlt (by decide)
        obtain ⟨z3, y3⟩ := hM3.there (i := 3) hlt (by decide)
        obtain ⟨z4, y4⟩ := hM3.there (i := 4) hlt (by decide)
        obtain ⟨z5, y5⟩ := hM3.there (i := 5) hlt (by decide)
        obtain ⟨z6, y6⟩ := hM3.there (i := 6) hlt (by decide)
        obtain ⟨z7, y7⟩ := hM3.there (i := 7) hlt (by decide)
        have y0 : W2.cell? ⟨w.heap.size, k * 8, none⟩ = some z0 := y0
        have y1 : W2.cell? ⟨w.heap.size, k * 8 + 1, none⟩ = some z1 := y1
        have y2 : W2.cell? ⟨w.heap.size, k * 8 + 2, none⟩ = some z2 := y2
        have y3 : W2.cell? ⟨w.heap.size, k * 8 + 3, none⟩ = some z3 := y3
        have y4 : W2.cell? ⟨w.heap.size, k * 8 + 4, none⟩ = some z4 := y4
        have y5 : W2.cell? ⟨w.heap.size, k * 8 + 5, none⟩ = some z5 := y5
        have y6 : W2.cell? ⟨w.heap.size, k * 8 + 6, none⟩ = some z6 := y6
        have y7 : W2.cell? ⟨w.heap.size, k * 8 + 7, none⟩ = some z7 := y7
        have f0 : W2.frozen? ⟨w.heap.size, k * 8, none⟩ = false := hM3.fz _
        have f1 : W2.frozen? ⟨w.heap.size, k * 8 + 1, none⟩ = false := hM3.fz _
        have f2 : W2.frozen? ⟨w.heap.size, k * 8 + 2, none⟩ = false := hM3.fz _
        have f3 : W2.frozen? ⟨w.heap.size, k * 8 + 3, none⟩ = false := hM3.fz _
        have f4 : W2.frozen? ⟨w.heap.size, k * 8 + 4, none⟩ = false := hM3.fz _
        have f5 : W2.frozen? ⟨w.heap.size, k * 8 + 5, none⟩ = false := hM3.fz _
        have f6 : W2.frozen? ⟨w.heap.size, k * 8 + 6, none⟩ = false := hM3.fz _
        have f7 : W2.frozen? ⟨w.heap.size, k * 8 + 7, none⟩ = false := hM3.fz _
        have B2 := Lib.hid b3
        have HF : Hid (PE.In W2.heap.size (Fr wr.heap.size W2) t' ⟨.slice xa1 xn1 xc1, .slice xa2 xn2 xc2⟩) := Lib.hid (PE.In.reads (Nat.le_refl _) (Fr.reads (by simp) (fun i _ _ => rfl)) hf2.out)
        clear hM3 HC b2 b3 hf2
        go_wp2_with fail
        go_round
        case rel =>
          have z2 := B2.out.size
          refine ⟨k + 1, by omega, by go_num, by simp; omega, Lib.hid ⟨Srt.made_next (S := srtE) (x := ⟨.slice xa1 xn1 xc1, .slice xa2 xn2 xc2⟩) HM2.out hlt Ht.out hz (by omega) B2.out HF.out (by simp) (fun i hi => ?_) (fun cur h => ?_), ((((((((Hbel.out.trans (B2.out.mono (by omega))).setCell (Nat.le_refl _) _).setCell (Nat.le_refl _) _).setCell (Nat.le_refl _) _).setCell (Nat.le_refl _) _).setCell (Nat.le_refl _) _).setCell (Nat.le_refl _) _).setCell (Nat.le_refl _) _).setCell (Nat.le_refl _) _⟩⟩
          · iterate 8 refine (Below.heap_setCell _ _ _ i (by simpa using hi)).trans ?_
            rfl
          · show _ = some (Obj.cells (putAt cur (k * 8) [.int .u8 t'.op, .int .i64 t'.int, .string t'.name, .string t'.second, .string t'.place.name, .slice xa1 xn1 xc1, .slice xa2 xn2 xc2, .int .i64 t'.pos]) _ _)
            simp only [putAt, Nat.add_assoc, Nat.reduceAdd]
            exact box_set (i := k * 8 + 7) (box_set (i := k * 8 + 6) (box_set (i := k * 8 + 5) (box_set (i := k * 8 + 4) (box_set (i := k * 8 + 3) (box_set (i := k * 8 + 2) (box_set (i := k * 8 + 1) (box_set (i := k * 8) (h) (.int .u8 t'.op)) (.int .i64 t'.int)) (.string t'.name)) (.string t'.second)) (.string t'.place.name)) (.slice xa1 xn1 xc1)) (.slice xa2 xn2 xc2)) (.int .i64 t'.pos)
        case measure => simp [intOf]; omega
      · obtain rfl : k = n := by omega
        go_wp2_with fail
        (try simp only [Exit.inBlock, Exit.then])
        go_ret
        obtain ⟨hM, hbel⟩ := HH.out
        exact ⟨some ⟨w.heap.size, 0, none⟩, k, rfl, Lib.hid ⟨w.heap.size, 0, ⟨by unfold maxLen; omega, some ⟨w.heap.size, 0, none⟩, k, rfl, .inr ⟨rfl, hM.lt⟩⟩, rowE_all (hM.all (by rw [List.length_map]; exact Hn.out) (Nat.le_refl _))⟩, hbel⟩
end Go.Proofs.YtojeijeimpffgaaGreat
/- The code's copyEach: weftway/api.Stmt (made by gen_each.py). -/
namespace Go.Proofs.YtojeijeimpffgaaGreat
open Go.RowKit
set_option linter.unusedVariables false

attribute [local go_sem ↓] Go.wp_at_zero Go.wp_at_succ
set_option maxRecDepth 100000 in
set_option maxHeartbeats 3200000 in
theorem eachS_calls {B : Nat} {g0 : FuncId} {lb : Array Value} (cp : PS → PS) (l : List PS) (v : Value) (b1 o1 : Nat) (w : World) (hE : ∀ args w, (callFunc g0 args).run Tryz.prog w = .ok (.enter g0 args) w)
    (hf : ∀ t, t ∈ l → ∀ W (x : VS), Below w.heap.size w W → t.In B W x → Calls Tryz.prog g0 (#[.agg (srtS.cells t x).toArray] ++ lb) W fun e W' => ∃ x' : VS, e = .returned (.agg (srtS.cells (cp t) x').toArray) ∧ Hid ((cp t).In W'.heap.size (Fr W.heap.size W') x') ∧ Below W.heap.size W W')
    (hB : B ≤ w.heap.size) (hv : SlV B v l.length b1 o1) (hr : PS.Row B w b1 o1 l) (hl : l.length ≤ 1000000) :
    Calls Tryz.prog 73 #[v, .func (.func g0) #[] lb] w fun e w' => ∃ ua uc, e = .returned (.slice ua l.length uc) ∧ Hid (∃ b o, SlV w'.heap.size (.slice ua l.length uc) l.length b o ∧ PS.Row w'.heap.size (Fr w.heap.size w') b o (l.map cp)) ∧ Below w.heap.size w w' := by
  obtain ⟨m1, ao, cap, rfl, h1⟩ := hv
  obtain ⟨i0, hi, hz0, hz1, hz2⟩ := info_parts infoStmt
  unfold maxLen at m1
  obtain ⟨n, hn⟩ : ∃ n, n = l.length := ⟨_, rfl⟩
  rw [← hn] at m1 h1 hl ⊢
  have Hn := Lib.hid hn
  have H1 := Lib.hid h1
  have Hr := Lib.hid hr
  have Hf := Lib.hid hf
  cases ao with
  | none =>
    have h0 : n = 0 := h1.resolve_right (by simp)
    subst h0
    have hnil : l = [] := List.eq_nil_of_length_eq_zero hn.symm
    clear hn h1 hr hf
    have HQ : ∀ W : World, (binOp .eql 39 (.slice none 0 cap) (.slice none 0 0)).run Tryz.prog W = .ok (.bool true) W := fun W => Lib.run_eql_slice_nil W 39 92 none 0 cap 0 0 Tryz.underlying39
    go_enter Tryz.func73, Tryz.ntmps73
    go_wp2_with fail
    (try simp only [Exit.inBlock, Exit.then])
    go_ret
    subst hnil
    exact ⟨none, 0, rfl, Lib.hid ⟨0, 0, ⟨Nat.zero_le _, none, 0, rfl, .inl rfl⟩, trivial⟩, Below.refl _ _⟩
  | some ad =>
    obtain ⟨cur, hcur, HM⟩ : ∃ cur : Array Value, cur.size = n * 15 ∧ (Instr.makeSlice 39 (.int .i64 n) (.int .i64 n)).run Tryz.prog w = .ok (.slice (some ⟨w.heap.size, 0, none⟩) n n) (w.alloc (.cells cur 92)) := by
      have h := run_make (P := Tryz.prog) w 39 92 i0 _ Tryz.underlying39 hi hz0 .i64 .i64 n n (by omega) (by omega) (by rw [hz2]; omega) (by omega)
      rw [Int.toNat_natCast] at h
      exact ⟨_, by rw [size_madeCells, hz1], h⟩
    clear hn h1 hr hf
    have HQ : ∀ W : World, (binOp .eql 39 (.slice (some ad) n cap) (.slice none 0 0)).run Tryz.prog W = .ok (.bool false) W := fun W => Lib.run_eql_slice_nil W 39 92 (some ad) n cap 0 0 Tryz.underlying39
    go_enter Tryz.func73, Tryz.ntmps73
    go_wp2_with fail
    go_loopw [15] (fun i wr => ∃ (k : Nat), k ≤ n ∧ i = .int .i64 k ∧ w.heap.size < wr.heap.size ∧ Hid (srtS.Made w.heap.size w.heap.size 92 (l.map cp) k n wr ∧ Below w.heap.size w wr))
      (fun i _ => n - (intOf i).toNat)
    case atStart => exact ⟨0, Nat.zero_le _, rfl, by simp, Lib.hid ⟨Srt.Made.start _ (heap_alloc_new w _) hcur, (Below.refl _ w).alloc (Nat.le_refl _) _⟩⟩
    case round =>
      obtain ⟨k, hk, rfl, hz, HH⟩ := hrel
      have hk0 : (0 : Int) ≤ (k : Int) := Int.natCast_nonneg _
      by_cases hlt : k < n
      · have hk1 : (k : Int) < (n : Int) := by omega
        obtain ⟨t, ht, hin⟩ := get_at (l := l) (k := k) (by rw [← Hn.out]; exact hlt)
        obtain ⟨had, hb1⟩ := H1.out.resolve_left (by omega)
        obtain rfl := Option.some.inj had
        obtain ⟨hM, hbel⟩ := HH.out
        obtain ⟨vt, ct, it⟩ := PS.Row.get (PS.Row.below (hbel.mono hB) (fun _ => hb1) Hr.out) ht
        obtain ⟨ya1, yn1, yc1, ya2, yn2, yc2, ya3, yn3, yc3, ya4, yn4, yc4, ya5, yn5, yc5, ya6, yn6, yc6, ya7, yn7, yc7, rfl⟩ := it.shape
        have g1 : b1 < wr.heap.size := by omega
        have ht2 : (l.map cp)[k]? = some (cp t) := by rw [List.getElem?_map, ht]; rfl
        obtain ⟨t0, ht0⟩ : ∃ t0, t0 = t := ⟨_, rfl⟩
        obtain ⟨top, tnm, tsc, tns, tty, tint, tpl, tes, tbo, tel, tar, tpos⟩ := t
        have e0 : wr.cell? ⟨b1, o1 + k * 15, none⟩ = some (.int .u8 top) := ct 0 _ rfl
        have e1 : wr.cell? ⟨b1, o1 + k * 15 + 1, none⟩ = some (.string tnm) := ct 1 _ rfl
        have e2 : wr.cell? ⟨b1, o1 + k * 15 + 2, none⟩ = some (.string tsc) := ct 2 _ rfl
        have e3 : wr.cell? ⟨b1, o1 + k * 15 + 3, none⟩ = some (.slice ya1 yn1 yc1) := ct 3 _ rfl
        have e4 : wr.cell? ⟨b1, o1 + k * 15 + 4, none⟩ = some (.int .u8 tty.kind) := ct 4 _ rfl
        have e5 : wr.cell? ⟨b1, o1 + k * 15 + 5, none⟩ = some (.string tty.name) := ct 5 _ rfl
        have e6 : wr.cell? ⟨b1, o1 + k * 15 + 6, none⟩ = some (.slice ya2 yn2 yc2) := ct 6 _ rfl
        have e7 : wr.cell? ⟨b1, o1 + k * 15 + 7, none⟩ = some (.int .i64 tint) := ct 7 _ rfl
        have e8 : wr.cell? ⟨b1, o1 + k * 15 + 8, none⟩ = some (.string tpl.name) := ct 8 _ rfl
        have e9 : wr.cell? ⟨b1, o1 + k * 15 + 9, none⟩ = some (.slice ya3 yn3 yc3) := ct 9 _ rfl
        have e10 : wr.cell? ⟨b1, o1 + k * 15 + 10, none⟩ = some (.slice ya4 yn4 yc4) := ct 10 _ rfl
        have e11 : wr.cell? ⟨b1, o1 + k * 15 + 11, none⟩ = some (.slice ya5 yn5 yc5) := ct 11 _ rfl
        have e12 : wr.cell? ⟨b1, o1 + k * 15 + 12, none⟩ = some (.slice ya6 yn6 yc6) := ct 12 _ rfl
        have e13 : wr.cell? ⟨b1, o1 + k * 15 + 13, none⟩ = some (.slice ya7 yn7 yc7) := ct 13 _ rfl
        have e14 : wr.cell? ⟨b1, o1 + k * 15 + 14, none⟩ = some (.int .i64 tpos) := ct 14 _ rfl
        have HC : Hid (Calls Tryz.prog g0 (#[.agg #[.int .u8 top, .string tnm, .string tsc, .slice ya1 yn1 yc1, .int .u8 tty.kind, .string tty.name, .slice ya2 yn2 yc2, .int .i64 tint, .string tpl.name, .slice ya3 yn3 yc3, .slice ya4 yn4 yc4, .slice ya5 yn5 yc5, .slice ya6 yn6 yc6, .slice ya7 yn7 yc7, .int .i64 tpos]] ++ lb) (wr.alloc (Obj.cells #[.int .u8 top, .string tnm, .string tsc, .slice ya1 yn1 yc1, .int .u8 tty.kind, .string tty.name, .slice ya2 yn2 yc2, .int .i64 tint, .string tpl.name, .slice ya3 yn3 yc3, .slice ya4 yn4 yc4, .slice ya5 yn5 yc5, .slice ya6 yn6 yc6, .slice ya7 yn7 yc7, .int .i64 tpos] 92)) fun e W' => ∃ x' : VS, e = .returned (.agg (srtS.cells (cp t0) x').toArray) ∧ Hid ((cp t0).In W'.heap.size (Fr (wr.alloc (Obj.cells #[.int .u8 top, .string tnm, .string tsc, .slice ya1 yn1 yc1, .int .u8 tty.kind, .string tty.name, .slice ya2 yn2 yc2, .int .i64 tint, .string tpl.name, .slice ya3 yn3 yc3, .slice ya4 yn4 yc4, .slice ya5 yn5 yc5, .slice ya6 yn6 yc6, .slice ya7 yn7 yc7, .int .i64 tpos] 92)).heap.size W') x') ∧ Below (wr.alloc (Obj.cells #[.int .u8 top, .string tnm, .string tsc, .slice ya1 yn1 yc1, .int .u8 tty.kind, .string tty.name, .slice ya2 yn2 yc2, .int .i64 tint, .string tpl.name, .slice ya3 yn3 yc3, .slice ya4 yn4 yc4, .slice ya5 yn5 yc5, .slice ya6 yn6 yc6, .slice ya7 yn7 yc7, .int .i64 tpos] 92)).heap.size (wr.alloc (Obj.cells #[.int .u8 top, .string tnm, .string tsc, .slice ya1 yn1 yc1, .int .u8 tty.kind, .string tty.name, .slice ya2 yn2 yc2, .int .i64 tint, .string tpl.name, .slice ya3 yn3 yc3, .slice ya4 yn4 yc4, .slice ya5 yn5 yc5, .slice ya6 yn6 yc6, .slice ya7 yn7 yc7, .int .i64 tpos] 92)) W') := by
          rw [ht0]
          exact Lib.hid (Hf.out _ hin (wr.alloc (Obj.cells #[.int .u8 top, .string tnm, .string tsc, .slice ya1 yn1 yc1, .int .u8 tty.kind, .string tty.name, .slice ya2 yn2 yc2, .int .i64 tint, .string tpl.name, .slice ya3 yn3 yc3, .slice ya4 yn4 yc4, .slice ya5 yn5 yc5, .slice ya6 yn6 yc6, .slice ya7 yn7 yc7, .int .i64 tpos] 92)) ⟨.slice ya1 yn1 yc1, .slice ya2 yn2 yc2, .slice ya3 yn3 yc3, .slice ya4 yn4 yc4, .slice ya5 yn5 yc5, .slice ya6 yn6 yc6, .slice ya7 yn7 yc7⟩ (hbel.trans ((Below.refl _ wr).alloc (by omega) _)) (it.below ((Below.refl B wr).alloc (by omega) _)))
        rw [← ht0] at ht2
        generalize cp t0 = t' at HC ht2
        have Ht := Lib.hid ht2
        have HM2 := Lib.hid hM
        have Hbel := Lib.hid hbel
        clear ht hin hM hbel it ct ht2
        go_wp2_with fail
        (with_reducible refine HC.out.mono ?_)
        rintro e W2 ⟨x', he, hf2, b2⟩
        obtain ⟨t'op, t'nm, t'sc, t'ns, t'ty, t'int, t'pl, t'es, t'bo, t'el, t'ar, t'pos⟩ := t'
        obtain ⟨xa1, xn1, xc1, xa2, xn2, xc2, xa3, xn3, xc3, xa4, xn4, xc4, xa5, xn5, xc5, xa6, xn6, xc6, xa7, xn7, xc7, rfl⟩ := hf2.out.shape
        obtain rfl : e = .returned (.agg #[.int .u8 t'op, .string t'nm, .string t'sc, .slice xa1 xn1 xc1, .int .u8 t'ty.kind, .string t'ty.name, .slice xa2 xn2 xc2, .int .i64 t'int, .string t'pl.name, .slice xa3 xn3 xc3, .slice xa4 xn4 xc4, .slice xa5 xn5 xc5, .slice xa6 xn6 xc6, .slice xa7 xn7 xc7, .int .i64 t'pos]) := he
        have b3 : Below wr.heap.size wr W2 := ((Below.refl _ wr).alloc (Nat.le_refl _) _).trans (b2.mono (by simp))
        have hM3 := HM2.out.below b3
        obtain ⟨z0, y0⟩ := hM3.there (i := 0) hlt (by decide)
        obtain ⟨z1, y1⟩ := hM3.there (i := 1) hlt (by decide)
        obtain ⟨z2, y2⟩ := hM3.there (i := 2) hlt (by decide)
        obtain ⟨z3, y3⟩ := hM3.there (i := 3) hlt (by decide)
        obtain ⟨z4, y4⟩ := hM3.there (i := 4) hlt (by decide)
        obtain ⟨z5, y5⟩ := hM3.there (i := 5) hlt (by decide)
        obtain ⟨z6, y6⟩ := hM3.there (i := 6) hlt (by decide)
        obtain ⟨z7, y7⟩ := hM3.there (i := 7) hlt (by decide)
        obtain ⟨z8, y8⟩ := hM3.there (i := 8) hlt (by decide)
        obtain ⟨z9, y9⟩ := hM3.there (i := 9) hlt (by decide)
        obtain ⟨z10, y10⟩ := hM3.there (i := 10) hlt (by decide)
        obtain ⟨z11, y11⟩ := hM3.there (i := 11) hlt (by decide)
        obtain ⟨z12, y12⟩ := hM3.there (i := 12) hlt (by decide)
        obtain ⟨z13, y13⟩ := hM3.there (i := 13) hlt (by decide)
        obtain ⟨z14, y14⟩ := hM3.there (i := 14) hlt (by decide)
        have y0 : W2.cell? ⟨w.heap.size, k * 15, none⟩ = some z0 := y0
        have y1 : W2.cell? ⟨w.heap.size, k * 15 + 1, none⟩ = some z1 := y1
        have y2 : W2.cell? ⟨w.heap.size, k * 15 + 2, none⟩ = some z2 := y2
        have y3 : W2.cell? ⟨w.heap.size, k * 15 + 3, none⟩ = some z3 := y3
        have y4 : W2.cell? ⟨w.heap.size, k * 15 + 4, none⟩ = some z4 := y4
        have y5 : W2.cell? ⟨w.heap.size, k * 15 + 5, none⟩ = some z5 := y5
        have y6 : W2.cell? ⟨w.heap.size, k * 15 + 6, none⟩ = some z6 := y6
        have y7 : W2.cell? ⟨w.heap.size, k * 15 + 7, none⟩ = some z7 := y7
        have y8 : W2.cell? ⟨w.heap.size, k * 15 + 8, none⟩ = some z8 := y8
        have y9 : W2.cell? ⟨w.heap.size, k * 15 + 9, none⟩ = some z9 := y9
        have y10 : W2.cell? ⟨w.heap.size, k * 15 + 10, none⟩ = some z10 := y10
        have y11 : W2.cell? ⟨w.heap.size, k * 15 + 11, none⟩ = some z11 := y11
        have y12 : W2.cell? ⟨w.heap.size, k * 15 + 12, none⟩ = some z12 := y12
        have y13 : W2.cell? ⟨w.heap.size, k * 15 + 13, none⟩ = some z13 := y13
        have y14 : W2.cell? ⟨w.heap.size, k * 15 + 14, none⟩ = some z14 := y14
        have f0 : W2.frozen? ⟨w.heap.size, k * 15, none⟩ = false := hM3.fz _
        have f1 : W2.frozen? ⟨w.heap.size, k * 15 + 1, none⟩ = false := hM3.fz _
        have f2 : W2.frozen? ⟨w.heap.size, k * 15 + 2, none⟩ = false := hM3.fz _
        have f3 : W2.frozen? ⟨w.heap.size, k * 15 + 3, none⟩ = false := hM3.fz _
        have f4 : W2.frozen? ⟨w.heap.size, k * 15 + 4, none⟩ = false := hM3.fz _
        have f5 : W2.frozen? ⟨w.heap.size, k * 15 + 5, none⟩ = false := hM3.fz _
        have f6 : W2.frozen? ⟨w.heap.size, k * 15 + 6, none⟩ = false := hM3.fz _
        have f7 : W2.frozen? ⟨w.heap.size, k * 15 + 7, none⟩ = false := hM3.fz _
        have f8 : W2.frozen? ⟨w.heap.size, k * 15 + 8, none⟩ = false := hM3.fz _
        have f9 : W2.frozen? ⟨w.heap.size, k * 15 + 9, none⟩ = false := hM3.fz _
        have f10 : W2.frozen? ⟨w.heap.size, k * 15 + 10, none⟩ = false := hM3.fz _
        have f11 : W2.frozen? ⟨w.heap.size, k * 15 + 11, none⟩ = false := hM3.fz _
        have f12 : W2.frozen? ⟨w.heap.size, k * 15 + 12, none⟩ = false := hM3.fz _
        have f13 : W2.frozen? ⟨w.heap.size, k * 15 + 13, none⟩ = false := hM3.fz _
        have f14 : W2.frozen? ⟨w.heap.size, k * 15 + 14, none⟩ = false := hM3.fz _
        have B2 := Lib.hid b3
        have HF : Hid (PS.In W2.heap.size (Fr wr.heap.size W2) (.mk t'op t'nm t'sc t'ns t'ty t'int t'pl t'es t'bo t'el t'ar t'pos) ⟨.slice xa1 xn1 xc1, .slice xa2 xn2 xc2, .slice xa3 xn3 xc3, .slice xa4 xn4 xc4, .slice xa5 xn5 xc5, .slice xa6 xn6 xc6, .slice xa7 xn7 xc7⟩) := Lib.hid (PS.In.reads (Nat.le_refl _) (Fr.reads (by simp) (fun i _ _ => rfl)) hf2.out)
        clear hM3 HC b2 b3 hf2
        go_wp2_with fail
        go_round
        case rel =>
          have z2 := B2.out.size
          refine ⟨k + 1, by omega, by go_num, by simp; omega, Lib.hid ⟨Srt.made_next (S := srtS) (x := ⟨.slice xa1 xn1 xc1, .slice xa2 xn2 xc2, .slice xa3 xn3 xc3, .slice xa4 xn4 xc4, .slice xa5 xn5 xc5, .slice xa6 xn6 xc6, .slice xa7 xn7 xc7⟩) HM2.out hlt Ht.out hz (by omega) B2.out HF.out (by simp) (fun i hi => ?_) (fun cur h => ?_), (((((((((((((((Hbel.out.trans (B2.out.mono (by omega))).setCell (Nat.le_refl _) _).setCell (Nat.le_refl _) _).setCell (Nat.le_refl _) _).setCell (Nat.le_refl _) _).setCell (Nat.le_refl _) _).setCell (Nat.le_refl _) _).setCell (Nat.le_refl _) _).setCell (Nat.le_refl _) _).setCell (Nat.le_refl _) _).setCell (Nat.le_refl _) _).setCell (Nat.le_refl _) _).setCell (Nat.le_refl _) _).setCell (Nat.le_refl _) _).setCell (Nat.le_refl _) _).setCell (Nat.le_refl _) _⟩⟩
          · iterate 15 refine (Below.heap_setCell _ _ _ i (by simpa using hi)).trans ?_
            rfl
          · show _ = some (Obj.cells (putAt cur (k * 15) [.int .u8 t'op, .string t'nm, .string t'sc, .slice xa1 xn1 xc1, .int .u8 t'ty.kind, .string t'ty.name, .slice xa2 xn2 xc2, .int .i64 t'int, .string t'pl.name, .slice xa3 xn3 xc3, .slice xa4 xn4 xc4, .slice xa5 xn5 xc5, .slice xa6 xn6 xc6, .slice xa7 xn7 xc7, .int .i64 t'pos]) _ _)
            simp only [putAt, Nat.add_assoc, Nat.reduceAdd]
            exact box_set (i := k * 15 + 14) (box_set (i := k * 15 + 13) (box_set (i := k * 15 + 12) (box_set (i := k * 15 + 11) (box_set (i := k * 15 + 10) (box_set (i := k * 15 + 9) (box_set (i := k * 15 + 8) (box_set (i := k * 15 + 7) (box_set (i := k * 15 + 6) (box_set (i := k * 15 + 5) (box_set (i := k * 15 + 4) (box_set (i := k * 15 + 3) (box_set (i := k * 15 + 2) (box_set (i := k * 15 + 1) (box_set (i := k * 15) (h) (.int .u8 t'op)) (.string t'nm)) (.string t'sc)) (.slice xa1 xn1 xc1)) (.int .u8 t'ty.kind)) (.string t'ty.name)) (.slice xa2 xn2 xc2)) (.int .i64 t'int)) (.string t'pl.name)) (.slice xa3 xn3 xc3)) (.slice xa4 xn4 xc4)) (.slice xa5 xn5 xc5)) (.slice xa6 xn6 xc6)) (.slice xa7 xn7 xc7)) (.int .i64 t'pos)
        case measure => simp [intOf]; omega
      · obtain rfl : k = n := by omega
        go_wp2_with fail
        (try simp only [Exit.inBlock, Exit.then])
        go_ret
        obtain ⟨hM, hbel⟩ := HH.out
        exact ⟨some ⟨w.heap.size, 0, none⟩, k, rfl, Lib.hid ⟨w.heap.size, 0, ⟨by unfold maxLen; omega, some ⟨w.heap.size, 0, none⟩, k, rfl, .inr ⟨rfl, hM.lt⟩⟩, rowS_all (hM.all (by rw [List.length_map]; exact Hn.out) (Nat.le_refl _))⟩, hbel⟩
end Go.Proofs.YtojeijeimpffgaaGreat
/- The code's copyEach: weftway/api.Arm (made by gen_each.py). -/
namespace Go.Proofs.YtojeijeimpffgaaGreat
open Go.RowKit
set_option linter.unusedVariables false

attribute [local go_sem ↓] Go.wp_at_zero Go.wp_at_succ
set_option maxRecDepth 100000 in
set_option maxHeartbeats 3200000 in
theorem eachA_calls {B : Nat} {g0 : FuncId} {lb : Array Value} (cp : PA → PA) (l : List PA) (v : Value) (b1 o1 : Nat) (w : World) (hE : ∀ args w, (callFunc g0 args).run Tryz.prog w = .ok (.enter g0 args) w)
    (hf : ∀ t, t ∈ l → ∀ W (x : Value), Below w.heap.size w W → t.In B W x → Calls Tryz.prog g0 (#[.agg (srtA.cells t x).toArray] ++ lb) W fun e W' => ∃ x' : Value, e = .returned (.agg (srtA.cells (cp t) x').toArray) ∧ Hid ((cp t).In W'.heap.size (Fr W.heap.size W') x') ∧ Below W.heap.size W W')
    (hB : B ≤ w.heap.size) (hv : SlV B v l.length b1 o1) (hr : PA.Row B w b1 o1 l) (hl : l.length ≤ 1000000) :
    Calls Tryz.prog 75 #[v, .func (.func g0) #[] lb] w fun e w' => ∃ ua uc, e = .returned (.slice ua l.length uc) ∧ Hid (∃ b o, SlV w'.heap.size (.slice ua l.length uc) l.length b o ∧ PA.Row w'.heap.size (Fr w.heap.size w') b o (l.map cp)) ∧ Below w.heap.size w w' := by
  obtain ⟨m1, ao, cap, rfl, h1⟩ := hv
  obtain ⟨i0, hi, hz0, hz1, hz2⟩ := info_parts infoArm
  unfold maxLen at m1
  obtain ⟨n, hn⟩ : ∃ n, n = l.length := ⟨_, rfl⟩
  rw [← hn] at m1 h1 hl ⊢
  have Hn := Lib.hid hn
  have H1 := Lib.hid h1
  have Hr := Lib.hid hr
  have Hf := Lib.hid hf
  cases ao with
  | none =>
    have h0 : n = 0 := h1.resolve_right (by simp)
    subst h0
    have hnil : l = [] := List.eq_nil_of_length_eq_zero hn.symm
    clear hn h1 hr hf
    have HQ : ∀ W : World, (binOp .eql 90 (.slice none 0 cap) (.slice none 0 0)).run Tryz.prog W = .ok (.bool true) W := fun W => Lib.run_eql_slice_nil W 90 96 none 0 cap 0 0 Tryz.underlying90
    go_enter Tryz.func75, Tryz.ntmps75
    go_wp2_with fail
    (try simp only [Exit.inBlock, Exit.then])
    go_ret
    subst hnil
    exact ⟨none, 0, rfl, Lib.hid ⟨0, 0, ⟨Nat.zero_le _, none, 0, rfl, .inl rfl⟩, trivial⟩, Below.refl _ _⟩
  | some ad =>
    obtain ⟨cur, hcur, HM⟩ : ∃ cur : Array Value, cur.size = n * 3 ∧ (Instr.makeSlice 90 (.int .i64 n) (.int .i64 n)).run Tryz.prog w = .ok (.slice (some ⟨w.heap.size, 0, none⟩) n n) (w.alloc (.cells cur 96)) := by
      have h := run_make (P := Tryz.prog) w 90 96 i0 _ Tryz.underlying90 hi hz0 .i64 .i64 n n (by omega) (by omega) (by rw [hz2]; omega) (by omega)
      rw [Int.toNat_natCast] at h
      exact ⟨_, by rw [size_madeCells, hz1], h⟩
    clear hn h1 hr hf
    have HQ : ∀ W : World, (binOp .eql 90 (.slice (some ad) n cap) (.slice none 0 0)).run Tryz.prog W = .ok (.bool false) W := fun W => Lib.run_eql_slice_nil W 90 96 (some ad) n cap 0 0 Tryz.underlying90
    go_enter Tryz.func75, Tryz.ntmps75
    go_wp2_with fail
    go_loopw [15] (fun i wr => ∃ (k : Nat), k ≤ n ∧ i = .int .i64 k ∧ w.heap.size < wr.heap.size ∧ Hid (srtA.Made w.heap.size w.heap.size 96 (l.map cp) k n wr ∧ Below w.heap.size w wr))
      (fun i _ => n - (intOf i).toNat)
    case atStart => exact ⟨0, Nat.zero_le _, rfl, by simp, Lib.hid ⟨Srt.Made.start _ (heap_alloc_new w _) hcur, (Below.refl _ w).alloc (Nat.le_refl _) _⟩⟩
    case round =>
      obtain ⟨k, hk, rfl, hz, HH⟩ := hrel
      have hk0 : (0 : Int) ≤ (k : Int) := Int.natCast_nonneg _
      by_cases hlt : k < n
      · have hk1 : (k : Int) < (n : Int) := by omega
        obtain ⟨t, ht, hin⟩ := get_at (l := l) (k := k) (by rw [← Hn.out]; exact hlt)
        obtain ⟨had, hb1⟩ := H1.out.resolve_left (by omega)
        obtain rfl := Option.some.inj had
        obtain ⟨hM, hbel⟩ := HH.out
        obtain ⟨vt, ct, it⟩ := PA.Row.get (PA.Row.below (hbel.mono hB) (fun _ => hb1) Hr.out) ht
        obtain ⟨ya1, yn1, yc1, rfl⟩ := it.shape
        have g1 : b1 < wr.heap.size := by omega
        have ht2 : (l.map cp)[k]? = some (cp t) := by rw [List.getElem?_map, ht]; rfl
        obtain ⟨t0, ht0⟩ : ∃ t0, t0 = t := ⟨_, rfl⟩
        obtain ⟨tv, tn, tbo⟩ := t
        have e0 : wr.cell? ⟨b1, o1 + k * 3, none⟩ = some (.string tv) := ct 0 _ rfl
        have e1 : wr.cell? ⟨b1, o1 + k * 3 + 1, none⟩ = some (.string tn) := ct 1 _ rfl
        have e2 : wr.cell? ⟨b1, o1 + k * 3 + 2, none⟩ = some (.slice ya1 yn1 yc1) := ct 2 _ rfl
        have HC : Hid (Calls Tryz.prog g0 (#[.agg #[.string tv, .string tn, .slice ya1 yn1 yc1]] ++ lb) (wr.alloc (Obj.cells #[.string tv, .string tn, .slice ya1 yn1 yc1] 96)) fun e W' => ∃ x' : Value, e = .returned (.agg (srtA.cells (cp t0) x').toArray) ∧ Hid ((cp t0).In W'.heap.size (Fr (wr.alloc (Obj.cells #[.string tv, .string tn, .slice ya1 yn1 yc1] 96)).heap.size W') x') ∧ Below (wr.alloc (Obj.cells #[.string tv, .string tn, .slice ya1 yn1 yc1] 96)).heap.size (wr.alloc (Obj.cells #[.string tv, .string tn, .slice ya1 yn1 yc1] 96)) W') := by
          rw [ht0]
          exact Lib.hid (Hf.out _ hin (wr.alloc (Obj.cells #[.string tv, .string tn, .slice ya1 yn1 yc1] 96)) (.slice ya1 yn1 yc1) (hbel.trans ((Below.refl _ wr).alloc (by omega) _)) (it.below ((Below.refl B wr).alloc (by omega) _)))
        rw [← ht0] at ht2
        generalize cp t0 = t' at HC ht2
        have Ht := Lib.hid ht2
        have HM2 := Lib.hid hM
        have Hbel := Lib.hid hbel
        clear ht hin hM hbel it ct ht2
        go_wp2_with fail
        (with_reducible refine HC.out.mono ?_)
        rintro e W2 ⟨x', he, hf2, b2⟩
        obtain ⟨t'v, t'n, t'bo⟩ := t'
        obtain ⟨xa1, xn1, xc1, rfl⟩ := hf2.out.shape
        obtain rfl : e = .returned (.agg #[.string t'v, .string t'n, .slice xa1 xn1 xc1]) := he
        have b3 : Below wr.heap.size wr W2 := ((Below.refl _ wr).alloc (Nat.le_refl _) _).trans (b2.mono (by simp))
        have hM3 := HM2.out.below b3
        obtain ⟨z0, y0⟩ := hM3.there (i := 0) hlt (by decide)
        obtain ⟨z1, y1⟩ := hM3.there (i := 1) hlt (by decide)
        obtain ⟨z2, y2⟩ := hM3.there (i := 2) hlt (by decide)
        have y0 : W2.cell? ⟨w.heap.size, k * 3, none⟩ = some z0 := y0
        have y1 : W2.cell? ⟨w.heap.size, k * 3 + 1, none⟩ = some z1 := y1
        have y2 : W2.cell? ⟨w.heap.size, k * 3 + 2, none⟩ = some z2 := y2
        have f0 : W2.frozen? ⟨w.heap.size, k * 3, none⟩ = false := hM3.fz _
        have f1 : W2.frozen? ⟨w.heap.size, k * 3 + 1, none⟩ = false := hM3.fz _
        have f2 : W2.frozen? ⟨w.heap.size, k * 3 + 2, none⟩ = false := hM3.fz _
        have B2 := Lib.hid b3
        have HF : Hid (PA.In W2.heap.size (Fr wr.heap.size W2) (.mk t'v t'n t'bo) (.slice xa1 xn1 xc1)) := Lib.hid (PA.In.reads (Nat.le_refl _) (Fr.reads (by simp) (fun i _ _ => rfl)) hf2.out)
        clear hM3 HC b2 b3 hf2
        go_wp2_with fail
        go_round
        case rel =>
          have z2 := B2.out.size
          refine ⟨k + 1, by omega, by go_num, by simp; omega, Lib.hid ⟨Srt.made_next (S := srtA) (x := (.slice xa1 xn1 xc1)) HM2.out hlt Ht.out hz (by omega) B2.out HF.out (by simp) (fun i hi => ?_) (fun cur h => ?_), (((Hbel.out.trans (B2.out.mono (by omega))).setCell (Nat.le_refl _) _).setCell (Nat.le_refl _) _).setCell (Nat.le_refl _) _⟩⟩
          · iterate 3 refine (Below.heap_setCell _ _ _ i (by simpa using hi)).trans ?_
            rfl
          · show _ = some (Obj.cells (putAt cur (k * 3) [.string t'v, .string t'n, .slice xa1 xn1 xc1]) _ _)
            simp only [putAt, Nat.add_assoc, Nat.reduceAdd]
            exact box_set (i := k * 3 + 2) (box_set (i := k * 3 + 1) (box_set (i := k * 3) (h) (.string t'v)) (.string t'n)) (.slice xa1 xn1 xc1)
        case measure => simp [intOf]; omega
      · obtain rfl : k = n := by omega
        go_wp2_with fail
        (try simp only [Exit.inBlock, Exit.then])
        go_ret
        obtain ⟨hM, hbel⟩ := HH.out
        exact ⟨some ⟨w.heap.size, 0, none⟩, k, rfl, Lib.hid ⟨w.heap.size, 0, ⟨by unfold maxLen; omega, some ⟨w.heap.size, 0, none⟩, k, rfl, .inr ⟨rfl, hM.lt⟩⟩, rowA_all (hM.all (by rw [List.length_map]; exact Hn.out) (Nat.le_refl _))⟩, hbel⟩
end Go.Proofs.YtojeijeimpffgaaGreat
/- The code's copyEach: weftway/api.Field (made by gen_each.py). -/
namespace Go.Proofs.YtojeijeimpffgaaGreat
open Go.RowKit
set_option linter.unusedVariables false

attribute [local go_sem ↓] Go.wp_at_zero Go.wp_at_succ
set_option maxRecDepth 100000 in
set_option maxHeartbeats 3200000 in
theorem eachF_calls {B : Nat} {g0 : FuncId} {lb : Array Value} (cp : PF → PF) (l : List PF) (v : Value) (b1 o1 : Nat) (w : World) (hE : ∀ args w, (callFunc g0 args).run Tryz.prog w = .ok (.enter g0 args) w)
    (hf : ∀ t, t ∈ l → ∀ W (x : Value), Below w.heap.size w W → t.In B W x → Calls Tryz.prog g0 (#[.agg (srtF.cells t x).toArray] ++ lb) W fun e W' => ∃ x' : Value, e = .returned (.agg (srtF.cells (cp t) x').toArray) ∧ Hid ((cp t).In W'.heap.size (Fr W.heap.size W') x') ∧ Below W.heap.size W W')
    (hB : B ≤ w.heap.size) (hv : SlV B v l.length b1 o1) (hr : PF.Row B w b1 o1 l) (hl : l.length ≤ 1000000) :
    Calls Tryz.prog 78 #[v, .func (.func g0) #[] lb] w fun e w' => ∃ ua uc, e = .returned (.slice ua l.length uc) ∧ Hid (∃ b o, SlV w'.heap.size (.slice ua l.length uc) l.length b o ∧ PF.Row w'.heap.size (Fr w.heap.size w') b o (l.map cp)) ∧ Below w.heap.size w w' := by
  obtain ⟨m1, ao, cap, rfl, h1⟩ := hv
  obtain ⟨i0, hi, hz0, hz1, hz2⟩ := info_parts infoField
  unfold maxLen at m1
  obtain ⟨n, hn⟩ : ∃ n, n = l.length := ⟨_, rfl⟩
  rw [← hn] at m1 h1 hl ⊢
  have Hn := Lib.hid hn
  have H1 := Lib.hid h1
  have Hr := Lib.hid hr
  have Hf := Lib.hid hf
  cases ao with
  | none =>
    have h0 : n = 0 := h1.resolve_right (by simp)
    subst h0
    have hnil : l = [] := List.eq_nil_of_length_eq_zero hn.symm
    clear hn h1 hr hf
    have HQ : ∀ W : World, (binOp .eql 35 (.slice none 0 cap) (.slice none 0 0)).run Tryz.prog W = .ok (.bool true) W := fun W => Lib.run_eql_slice_nil W 35 68 none 0 cap 0 0 Tryz.underlying35
    go_enter Tryz.func78, Tryz.ntmps78
    go_wp2_with fail
    (try simp only [Exit.inBlock, Exit.then])
    go_ret
    subst hnil
    exact ⟨none, 0, rfl, Lib.hid ⟨0, 0, ⟨Nat.zero_le _, none, 0, rfl, .inl rfl⟩, trivial⟩, Below.refl _ _⟩
  | some ad =>
    obtain ⟨cur, hcur, HM⟩ : ∃ cur : Array Value, cur.size = n * 4 ∧ (Instr.makeSlice 35 (.int .i64 n) (.int .i64 n)).run Tryz.prog w = .ok (.slice (some ⟨w.heap.size, 0, none⟩) n n) (w.alloc (.cells cur 68)) := by
      have h := run_make (P := Tryz.prog) w 35 68 i0 _ Tryz.underlying35 hi hz0 .i64 .i64 n n (by omega) (by omega) (by rw [hz2]; omega) (by omega)
      rw [Int.toNat_natCast] at h
      exact ⟨_, by rw [size_madeCells, hz1], h⟩
    clear hn h1 hr hf
    have HQ : ∀ W : World, (binOp .eql 35 (.slice (some ad) n cap) (.slice none 0 0)).run Tryz.prog W = .ok (.bool false) W := fun W => Lib.run_eql_slice_nil W 35 68 (some ad) n cap 0 0 Tryz.underlying35
    go_enter Tryz.func78, Tryz.ntmps78
    go_wp2_with fail
    go_loopw [15] (fun i wr => ∃ (k : Nat), k ≤ n ∧ i = .int .i64 k ∧ w.heap.size < wr.heap.size ∧ Hid (srtF.Made w.heap.size w.heap.size 68 (l.map cp) k n wr ∧ Below w.heap.size w wr))
      (fun i _ => n - (intOf i).toNat)
    case atStart => exact ⟨0, Nat.zero_le _, rfl, by simp, Lib.hid ⟨Srt.Made.start _ (heap_alloc_new w _) hcur, (Below.refl _ w).alloc (Nat.le_refl _) _⟩⟩
    case round =>
      obtain ⟨k, hk, rfl, hz, HH⟩ := hrel
      have hk0 : (0 : Int) ≤ (k : Int) := Int.natCast_nonneg _
      by_cases hlt : k < n
      · have hk1 : (k : Int) < (n : Int) := by omega
        obtain ⟨t, ht, hin⟩ := get_at (l := l) (k := k) (by rw [← Hn.out]; exact hlt)
        obtain ⟨had, hb1⟩ := H1.out.resolve_left (by omega)
        obtain rfl := Option.some.inj had
        obtain ⟨hM, hbel⟩ := HH.out
        obtain ⟨vt, ct, it⟩ := PF.Row.get (PF.Row.below (hbel.mono hB) hb1 Hr.out) ht
        obtain ⟨ya1, yn1, yc1, rfl⟩ := it.shape
        have g1 : b1 < wr.heap.size := by omega
        have ht2 : (l.map cp)[k]? = some (cp t) := by rw [List.getElem?_map, ht]; rfl
        have e0 : wr.cell? ⟨b1, o1 + k * 4, none⟩ = some (.string t.name) := ct 0 _ rfl
        have e1 : wr.cell? ⟨b1, o1 + k * 4 + 1, none⟩ = some (.int .u8 t.type.kind) := ct 1 _ rfl
        have e2 : wr.cell? ⟨b1, o1 + k * 4 + 2, none⟩ = some (.string t.type.name) := ct 2 _ rfl
        have e3 : wr.cell? ⟨b1, o1 + k * 4 + 3, none⟩ = some (.slice ya1 yn1 yc1) := ct 3 _ rfl
        have HC : Hid (Calls Tryz.prog g0 (#[.agg #[.string t.name, .int .u8 t.type.kind, .string t.type.name, .slice ya1 yn1 yc1]] ++ lb) (wr.alloc (Obj.cells #[.string t.name, .int .u8 t.type.kind, .string t.type.name, .slice ya1 yn1 yc1] 68)) fun e W' => ∃ x' : Value, e = .returned (.agg (srtF.cells (cp t) x').toArray) ∧ Hid ((cp t).In W'.heap.size (Fr (wr.alloc (Obj.cells #[.string t.name, .int .u8 t.type.kind, .string t.type.name, .slice ya1 yn1 yc1] 68)).heap.size W') x') ∧ Below (wr.alloc (Obj.cells #[.string t.name, .int .u8 t.type.kind, .string t.type.name, .slice ya1 yn1 yc1] 68)).heap.size (wr.alloc (Obj.cells #[.string t.name, .int .u8 t.type.kind, .string t.type.name, .slice ya1 yn1 yc1] 68)) W') := by
          exact Lib.hid (Hf.out _ hin (wr.alloc (Obj.cells #[.string t.name, .int .u8 t.type.kind, .string t.type.name, .slice ya1 yn1 yc1] 68)) (.slice ya1 yn1 yc1) (hbel.trans ((Below.refl _ wr).alloc (by omega) _)) (it.below ((Below.refl B wr).alloc (by omega) _)))
        generalize cp t = t' at HC ht2
        have Ht := Lib.hid ht2
        have HM2 := Lib.hid hM
        have Hbel := Lib.hid hbel
        clear ht hin hM hbel it ct ht2
        go_wp2_with fail
        (with_reducible refine HC.out.mono ?_)
        rintro e W2 ⟨x', he, hf2, b2⟩
        obtain ⟨xa1, xn1, xc1, rfl⟩ := hf2.out.shape
        obtain rfl : e = .returned (.agg #[.string t'.name, .int .u8 t'.type.kind, .string t'.type.name, .slice xa1 xn1 xc1]) := he
        have b3 : Below wr.heap.size wr W2 := ((Below.refl _ wr).alloc (Nat.le_refl _) _).trans (b2.mono (by simp))
        have hM3 := HM2.out.below b3
        obtain ⟨z0, y0⟩ := hM3.there (i := 0) hlt (by decide)
        obtain ⟨z1, y1⟩ := hM3.there (i := 1) hlt (by decide)
        obtain ⟨z2, y2⟩ := hM3.there (i := 2) hlt (by decide)
        obtain ⟨z3, y3⟩ := hM3.there (i := 3) hlt (by decide)
        have y0 : W2.cell? ⟨w.heap.size, k * 4, none⟩ = some z0 := y0
        have y1 : W2.cell? ⟨w.heap.size, k * 4 + 1, none⟩ = some z1 := y1
        have y2 : W2.cell? ⟨w.heap.size, k * 4 + 2, none⟩ = some z2 := y2
        have y3 : W2.cell? ⟨w.heap.size, k * 4 + 3, none⟩ = some z3 := y3
        have f0 : W2.frozen? ⟨w.heap.size, k * 4, none⟩ = false := hM3.fz _
        have f1 : W2.frozen? ⟨w.heap.size, k * 4 + 1, none⟩ = false := hM3.fz _
        have f2 : W2.frozen? ⟨w.heap.size, k * 4 + 2, none⟩ = false := hM3.fz _
        have f3 : W2.frozen? ⟨w.heap.size, k * 4 + 3, none⟩ = false := hM3.fz _
        have B2 := Lib.hid b3
        have HF : Hid (PF.In W2.heap.size (Fr wr.heap.size W2) t' (.slice xa1 xn1 xc1)) := Lib.hid (PF.In.reads (Nat.le_refl _) (Fr.reads (by simp) (fun i _ _ => rfl)) hf2.out)
        clear hM3 HC b2 b3 hf2
        go_wp2_with fail
        go_round
        case rel =>
          have z2 := B2.out.size
          refine ⟨k + 1, by omega, by go_num, by simp; omega, Lib.hid ⟨Srt.made_next (S := srtF) (x := (.slice xa1 xn1 xc1)) HM2.out hlt Ht.out hz (by omega) B2.out HF.out (by simp) (fun i hi => ?_) (fun cur h => ?_), ((((Hbel.out.trans (B2.out.mono (by omega))).setCell (Nat.le_refl _) _).setCell (Nat.le_refl _) _).setCell (Nat.le_refl _) _).setCell (Nat.le_refl _) _⟩⟩
          · iterate 4 refine (Below.heap_setCell _ _ _ i (by simpa using hi)).trans ?_
            rfl
          · show _ = some (Obj.cells (putAt cur (k * 4) [.string t'.name, .int .u8 t'.type.kind, .string t'.type.name, .slice xa1 xn1 xc1]) _ _)
            simp only [putAt, Nat.add_assoc, Nat.reduceAdd]
            exact box_set (i := k * 4 + 3) (box_set (i := k * 4 + 2) (box_set (i := k * 4 + 1) (box_set (i := k * 4) (h) (.string t'.name)) (.int .u8 t'.type.kind)) (.string t'.type.name)) (.slice xa1 xn1 xc1)
        case measure => simp [intOf]; omega
      · obtain rfl : k = n := by omega
        go_wp2_with fail
        (try simp only [Exit.inBlock, Exit.then])
        go_ret
        obtain ⟨hM, hbel⟩ := HH.out
        exact ⟨some ⟨w.heap.size, 0, none⟩, k, rfl, Lib.hid ⟨w.heap.size, 0, ⟨by unfold maxLen; omega, some ⟨w.heap.size, 0, none⟩, k, rfl, .inr ⟨rfl, hM.lt⟩⟩, rowF_all (hM.all (by rw [List.length_map]; exact Hn.out) (Nat.le_refl _))⟩, hbel⟩
end Go.Proofs.YtojeijeimpffgaaGreat
/- The code's copyEach: weftway/api.Item (made by gen_each.py). -/
namespace Go.Proofs.YtojeijeimpffgaaGreat
open Go.RowKit
set_option linter.unusedVariables false

attribute [local go_sem ↓] Go.wp_at_zero Go.wp_at_succ
set_option maxRecDepth 100000 in
set_option maxHeartbeats 3200000 in
theorem eachI_calls {B : Nat} {g0 : FuncId} {lb : Array Value} (cp : PI → PI) (l : List PI) (v : Value) (b1 o1 : Nat) (w : World) (hE : ∀ args w, (callFunc g0 args).run Tryz.prog w = .ok (.enter g0 args) w)
    (hf : ∀ t, t ∈ l → ∀ W (x : VI), Below w.heap.size w W → t.In B W x → Calls Tryz.prog g0 (#[.agg (srtI.cells t x).toArray] ++ lb) W fun e W' => ∃ x' : VI, e = .returned (.agg (srtI.cells (cp t) x').toArray) ∧ Hid ((cp t).In W'.heap.size (Fr W.heap.size W') x') ∧ Below W.heap.size W W')
    (hB : B ≤ w.heap.size) (hv : SlV B v l.length b1 o1) (hr : PI.Row B w b1 o1 l) (hl : l.length ≤ 1000000) :
    Calls Tryz.prog 80 #[v, .func (.func g0) #[] lb] w fun e w' => ∃ ua uc, e = .returned (.slice ua l.length uc) ∧ Hid (∃ b o, SlV w'.heap.size (.slice ua l.length uc) l.length b o ∧ PI.Row w'.heap.size (Fr w.heap.size w') b o (l.map cp)) ∧ Below w.heap.size w w' := by
  obtain ⟨m1, ao, cap, rfl, h1⟩ := hv
  obtain ⟨i0, hi, hz0, hz1, hz2⟩ := info_parts infoItem
  unfold maxLen at m1
  obtain ⟨n, hn⟩ : ∃ n, n = l.length := ⟨_, rfl⟩
  rw [← hn] at m1 h1 hl ⊢
  have Hn := Lib.hid hn
  have H1 := Lib.hid h1
  have Hr := Lib.hid hr
  have Hf := Lib.hid hf
  cases ao with
  | none =>
    have h0 : n = 0 := h1.resolve_right (by simp)
    subst h0
    have hnil : l = [] := List.eq_nil_of_length_eq_zero hn.symm
    clear hn h1 hr hf
    have HQ : ∀ W : World, (binOp .eql 22 (.slice none 0 cap) (.slice none 0 0)).run Tryz.prog W = .ok (.bool true) W := fun W => Lib.run_eql_slice_nil W 22 47 none 0 cap 0 0 Tryz.underlying22
    go_enter Tryz.func80, Tryz.ntmps80
    go_wp2_with fail
    (try simp only [Exit.inBlock, Exit.then])
    go_ret
    subst hnil
    exact ⟨none, 0, rfl, Lib.hid ⟨0, 0, ⟨Nat.zero_le _, none, 0, rfl, .inl rfl⟩, trivial⟩, Below.refl _ _⟩
  | some ad =>
    obtain ⟨cur, hcur, HM⟩ : ∃ cur : Array Value, cur.size = n * 16 ∧ (Instr.makeSlice 22 (.int .i64 n) (.int .i64 n)).run Tryz.prog w = .ok (.slice (some ⟨w.heap.size, 0, none⟩) n n) (w.alloc (.cells cur 47)) := by
      have h := run_make (P := Tryz.prog) w 22 47 i0 _ Tryz.underlying22 hi hz0 .i64 .i64 n n (by omega) (by omega) (by rw [hz2]; omega) (by omega)
      rw [Int.toNat_natCast] at h
      exact ⟨_, by rw [size_madeCells, hz1], h⟩
    clear hn h1 hr hf
    have HQ : ∀ W : World, (binOp .eql 22 (.slice (some ad) n cap) (.slice none 0 0)).run Tryz.prog W = .ok (.bool false) W := fun W => Lib.run_eql_slice_nil W 22 47 (some ad) n cap 0 0 Tryz.underlying22
    go_enter Tryz.func80, Tryz.ntmps80
    go_wp2_with fail
    go_loopw [15] (fun i wr => ∃ (k : Nat), k ≤ n ∧ i = .int .i64 k ∧ w.heap.size < wr.heap.size ∧ Hid (srtI.Made w.heap.size w.heap.size 47 (l.map cp) k n wr ∧ Below w.heap.size w wr))
      (fun i _ => n - (intOf i).toNat)
    case atStart => exact ⟨0, Nat.zero_le _, rfl, by simp, Lib.hid ⟨Srt.Made.start _ (heap_alloc_new w _) hcur, (Below.refl _ w).alloc (Nat.le_refl _) _⟩⟩
    case round =>
      obtain ⟨k, hk, rfl, hz, HH⟩ := hrel
      have hk0 : (0 : Int) ≤ (k : Int) := Int.natCast_nonneg _
      by_cases hlt : k < n
      · have hk1 : (k : Int) < (n : Int) := by omega
        obtain ⟨t, ht, hin⟩ := get_at (l := l) (k := k) (by rw [← Hn.out]; exact hlt)
        obtain ⟨had, hb1⟩ := H1.out.resolve_left (by omega)
        obtain rfl := Option.some.inj had
        obtain ⟨hM, hbel⟩ := HH.out
        obtain ⟨vt, ct, it⟩ := PI.Row.get (PI.Row.below (hbel.mono hB) hb1 Hr.out) ht
        obtain ⟨ya1, yn1, yc1, ya2, yn2, yc2, ya3, yn3, yc3, ya4, yn4, yc4, ya5, yn5, yc5, rfl⟩ := it.shape
        have g1 : b1 < wr.heap.size := by omega
        have ht2 : (l.map cp)[k]? = some (cp t) := by rw [List.getElem?_map, ht]; rfl
        have e0 : wr.cell? ⟨b1, o1 + k * 16, none⟩ = some (.int .u8 t.kind) := ct 0 _ rfl
        have e1 : wr.cell? ⟨b1, o1 + k * 16 + 1, none⟩ = some (.string t.name) := ct 1 _ rfl
        have e2 : wr.cell? ⟨b1, o1 + k * 16 + 2, none⟩ = some (.slice ya1 yn1 yc1) := ct 2 _ rfl
        have e3 : wr.cell? ⟨b1, o1 + k * 16 + 3, none⟩ = some (.int .u8 t.result.kind) := ct 3 _ rfl
        have e4 : wr.cell? ⟨b1, o1 + k * 16 + 4, none⟩ = some (.string t.result.name) := ct 4 _ rfl
        have e5 : wr.cell? ⟨b1, o1 + k * 16 + 5, none⟩ = some (.slice ya2 yn2 yc2) := ct 5 _ rfl
        have e6 : wr.cell? ⟨b1, o1 + k * 16 + 6, none⟩ = some (.slice ya3 yn3 yc3) := ct 6 _ rfl
        have e7 : wr.cell? ⟨b1, o1 + k * 16 + 7, none⟩ = some (.int .u8 t.ret.op) := ct 7 _ rfl
        have e8 : wr.cell? ⟨b1, o1 + k * 16 + 8, none⟩ = some (.int .i64 t.ret.int) := ct 8 _ rfl
        have e9 : wr.cell? ⟨b1, o1 + k * 16 + 9, none⟩ = some (.string t.ret.name) := ct 9 _ rfl
        have e10 : wr.cell? ⟨b1, o1 + k * 16 + 10, none⟩ = some (.string t.ret.second) := ct 10 _ rfl
        have e11 : wr.cell? ⟨b1, o1 + k * 16 + 11, none⟩ = some (.string t.ret.place.name) := ct 11 _ rfl
        have e12 : wr.cell? ⟨b1, o1 + k * 16 + 12, none⟩ = some (.slice ya4 yn4 yc4) := ct 12 _ rfl
        have e13 : wr.cell? ⟨b1, o1 + k * 16 + 13, none⟩ = some (.slice ya5 yn5 yc5) := ct 13 _ rfl
        have e14 : wr.cell? ⟨b1, o1 + k * 16 + 14, none⟩ = some (.int .i64 t.ret.pos) := ct 14 _ rfl
        have e15 : wr.cell? ⟨b1, o1 + k * 16 + 15, none⟩ = some (.int .i64 t.pos) := ct 15 _ rfl
        have HC : Hid (Calls Tryz.prog g0 (#[.agg #[.int .u8 t.kind, .string t.name, .slice ya1 yn1 yc1, .int .u8 t.result.kind, .string t.result.name, .slice ya2 yn2 yc2, .slice ya3 yn3 yc3, .int .u8 t.ret.op, .int .i64 t.ret.int, .string t.ret.name, .string t.ret.second, .string t.ret.place.name, .slice ya4 yn4 yc4, .slice ya5 yn5 yc5, .int .i64 t.ret.pos, .int .i64 t.pos]] ++ lb) (wr.alloc (Obj.cells #[.int .u8 t.kind, .string t.name, .slice ya1 yn1 yc1, .int .u8 t.result.kind, .string t.result.name, .slice ya2 yn2 yc2, .slice ya3 yn3 yc3, .int .u8 t.ret.op, .int .i64 t.ret.int, .string t.ret.name, .string t.ret.second, .string t.ret.place.name, .slice ya4 yn4 yc4, .slice ya5 yn5 yc5, .int .i64 t.ret.pos, .int .i64 t.pos] 47)) fun e W' => ∃ x' : VI, e = .returned (.agg (srtI.cells (cp t) x').toArray) ∧ Hid ((cp t).In W'.heap.size (Fr (wr.alloc (Obj.cells #[.int .u8 t.kind, .string t.name, .slice ya1 yn1 yc1, .int .u8 t.result.kind, .string t.result.name, .slice ya2 yn2 yc2, .slice ya3 yn3 yc3, .int .u8 t.ret.op, .int .i64 t.ret.int, .string t.ret.name, .string t.ret.second, .string t.ret.place.name, .slice ya4 yn4 yc4, .slice ya5 yn5 yc5, .int .i64 t.ret.pos, .int .i64 t.pos] 47)).heap.size W') x') ∧ Below (wr.alloc (Obj.cells #[.int .u8 t.kind, .string t.name, .slice ya1 yn1 yc1, .int .u8 t.result.kind, .string t.result.name, .slice ya2 yn2 yc2, .slice ya3 yn3 yc3, .int .u8 t.ret.op, .int .i64 t.ret.int, .string t.ret.name, .string t.ret.second, .string t.ret.place.name, .slice ya4 yn4 yc4, .slice ya5 yn5 yc5, .int .i64 t.ret.pos, .int .i64 t.pos] 47)).heap.size (wr.alloc (Obj.cells #[.int .u8 t.kind, .string t.name, .slice ya1 yn1 yc1, .int .u8 t.result.kind, .string t.result.name, .slice ya2 yn2 yc2, .slice ya3 yn3 yc3, .int .u8 t.ret.op, .int .i64 t.ret.int, .string t.ret.name, .string t.ret.second, .string t.ret.place.name, .slice ya4 yn4 yc4, .slice ya5 yn5 yc5, .int .i64 t.ret.pos, .int .i64 t.pos] 47)) W') := by
          exact Lib.hid (Hf.out _ hin (wr.alloc (Obj.cells #[.int .u8 t.kind, .string t.name, .slice ya1 yn1 yc1, .int .u8 t.result.kind, .string t.result.name, .slice ya2 yn2 yc2, .slice ya3 yn3 yc3, .int .u8 t.ret.op, .int .i64 t.ret.int, .string t.ret.name, .string t.ret.second, .string t.ret.place.name, .slice ya4 yn4 yc4, .slice ya5 yn5 yc5, .int .i64 t.ret.pos, .int .i64 t.pos] 47)) ⟨.slice ya1 yn1 yc1, .slice ya2 yn2 yc2, .slice ya3 yn3 yc3, ⟨.slice ya4 yn4 yc4, .slice ya5 yn5 yc5⟩⟩ (hbel.trans ((Below.refl _ wr).alloc (by omega) _)) (it.below ((Below.refl B wr).alloc (by omega) _)))
        generalize cp t = t' at HC ht2
        have Ht := Lib.hid ht2
        have HM2 := Lib.hid hM
        have Hbel := Lib.hid hbel
        clear ht hin hM hbel it ct ht2
        go_wp2_with fail
        (with_reducible refine HC.out.mono ?_)
        rintro e W2 ⟨x', he, hf2, b2⟩
        obtain ⟨xa1, xn1, xc1, xa2, xn2, xc2, xa3, xn3, xc3, xa4, xn4, xc4, xa5, xn5, xc5, rfl⟩ := hf2.out.shape
        obtain rfl : e = .returned (.agg #[.int .u8 t'.kind, .string t'.name, .slice xa1 xn1 xc1, .int .u8 t'.result.kind, .string t'.result.name, .slice xa2 xn2 xc2, .slice xa3 xn3 xc3, .int .u8 t'.ret.op, .int .i64 t'.ret.int, .string t'.ret.name, .string t'.ret.second, .string t'.ret.place.name, .slice xa4 xn4 xc4, .slice xa5 xn5 xc5, .int .i64 t'.ret.pos, .int .i64 t'.pos]) := he
        have b3 : Below wr.heap.size wr W2 := ((Below.refl _ wr).alloc (Nat.le_refl _) _).trans (b2.mono (by simp))
        have hM3 := HM2.out.below b3
        obtain ⟨z0, y0⟩ := hM3.there (i := 0) hlt (by decide)
        obtain ⟨z1, y1⟩ := hM3.there (i := 1) hlt (by decide)
        obtain ⟨z2, y2⟩ := hM3.there (i := 2) hlt (by decide)
        obtain ⟨z3, y3⟩ := hM3.there (i := 3) hlt (by decide)
        obtain ⟨z4, y4⟩ := hM3.there (i := 4) hlt (by decide)
        obtain ⟨z5, y5⟩ := hM3.there (i := 5) hlt (by decide)
        obtain ⟨z6, y6⟩ := hM3.there (i := 6) hlt (by decide)
        obtain ⟨z7, y7⟩ := hM3.there (i := 7) hlt (by decide)
        obtain ⟨z8, y8⟩ := hM3.there (i := 8) hlt (by decide)
        obtain ⟨z9, y9⟩ := hM3.there (i := 9) hlt (by decide)
        obtain ⟨z10, y10⟩ := hM3.there (i := 10) hlt (by decide)
        obtain ⟨z11, y11⟩ := hM3.there (i := 11) hlt (by decide)
        obtain ⟨z12, y12⟩ := hM3.there (i := 12) hlt (by decide)
        obtain ⟨z13, y13⟩ := hM3.there (i := 13) hlt (by decide)
        obtain ⟨z14, y14⟩ := hM3.there (i := 14) hlt (by decide)
        obtain ⟨z15, y15⟩ := hM3.there (i := 15) hlt (by decide)
        have y0 : W2.cell? ⟨w.heap.size, k * 16, none⟩ = some z0 := y0
        have y1 : W2.cell? ⟨w.heap.size, k * 16 + 1, none⟩ = some z1 := y1
        have y2 : W2.cell? ⟨w.heap.size, k * 16 + 2, none⟩ = some z2 := y2
        have y3 : W2.cell? ⟨w.heap.size, k * 16 + 3, none⟩ = some z3 := y3
        have y4 : W2.cell? ⟨w.heap.size, k * 16 + 4, none⟩ = some z4 := y4
        have y5 : W2.cell? ⟨w.heap.size, k * 16 + 5, none⟩ = some z5 := y5
        have y6 : W2.cell? ⟨w.heap.size, k * 16 + 6, none⟩ = some z6 := y6
        have y7 : W2.cell? ⟨w.heap.size, k * 16 + 7, none⟩ = some z7 := y7
        have y8 : W2.cell? ⟨w.heap.size, k * 16 + 8, none⟩ = some z8 := y8
        have y9 : W2.cell? ⟨w.heap.size, k * 16 + 9, none⟩ = some z9 := y9
        have y10 : W2.cell? ⟨w.heap.size, k * 16 + 10, none⟩ = some z10 := y10
        have y11 : W2.cell? ⟨w.heap.size, k * 16 + 11, none⟩ = some z11 := y11
        have y12 : W2.cell? ⟨w.heap.size, k * 16 + 12, none⟩ = some z12 := y12
        have y13 : W2.cell? ⟨w.heap.size, k * 16 + 13, none⟩ = some z13 := y13
        have y14 : W2.cell? ⟨w.heap.size, k * 16 + 14, none⟩ = some z14 := y14
        have y15 : W2.cell? ⟨w.heap.size, k * 16 + 15, none⟩ = some z15 := y15
        have f0 : W2.frozen? ⟨w.heap.size, k * 16, none⟩ = false := hM3.fz _
        have f1 : W2.frozen? ⟨w.heap.size, k * 16 + 1, none⟩ = false := hM3.fz _
        have f2 : W2.frozen? ⟨w.heap.size, k * 16 + 2, none⟩ = false := hM3.fz _
        have f3 : W2.frozen? ⟨w.heap.size, k * 16 + 3, none⟩ = false := hM3.fz _
        have f4 : W2.frozen? ⟨w.heap.size, k * 16 + 4, none⟩ = false := hM3.fz _
        have f5 : W2.frozen? ⟨w.heap.size, k * 16 + 5, none⟩ = false := hM3.fz _
        have f6 : W2.frozen? ⟨w.heap.size, k * 16 + 6, none⟩ = false := hM3.fz _
        have f7 : W2.frozen? ⟨w.heap.size, k * 16 + 7, none⟩ = false := hM3.fz _
        have f8 : W2.frozen? ⟨w.heap.size, k * 16 + 8, none⟩ = false := hM3.fz _
        have f9 : W2.frozen? ⟨w.heap.size, k * 16 + 9, none⟩ = false := hM3.fz _
        have f10 : W2.frozen? ⟨w.heap.size, k * 16 + 10, none⟩ = false := hM3.fz _
        have f11 : W2.frozen? ⟨w.heap.size, k * 16 + 11, none⟩ = false := hM3.fz _
        have f12 : W2.frozen? ⟨w.heap.size, k * 16 + 12, none⟩ = false := hM3.fz _
        have f13 : W2.frozen? ⟨w.heap.size, k * 16 + 13, none⟩ = false := hM3.fz _
        have f14 : W2.frozen? ⟨w.heap.size, k * 16 + 14, none⟩ = false := hM3.fz _
        have f15 : W2.frozen? ⟨w.heap.size, k * 16 + 15, none⟩ = false := hM3.fz _
        have B2 := Lib.hid b3
        have HF : Hid (PI.In W2.heap.size (Fr wr.heap.size W2) t' ⟨.slice xa1 xn1 xc1, .slice xa2 xn2 xc2, .slice xa3 xn3 xc3, ⟨.slice xa4 xn4 xc4, .slice xa5 xn5 xc5⟩⟩) := Lib.hid (PI.In.reads (Nat.le_refl _) (Fr.reads (by simp) (fun i _ _ => rfl)) hf2.out)
        clear hM3 HC b2 b3 hf2
        go_wp2_with fail
        go_round
        case rel =>
          have z2 := B2.out.size
          refine ⟨k + 1, by omega, by go_num, by simp; omega, Lib.hid ⟨Srt.made_next (S := srtI) (x := ⟨.slice xa1 xn1 xc1, .slice xa2 xn2 xc2, .slice xa3 xn3 xc3, ⟨.slice xa4 xn4 xc4, .slice xa5 xn5 xc5⟩⟩) HM2.out hlt Ht.out hz (by omega) B2.out HF.out (by simp) (fun i hi => ?_) (fun cur h => ?_), ((((((((((((((((Hbel.out.trans (B2.out.mono (by omega))).setCell (Nat.le_refl _) _).setCell (Nat.le_refl _) _).setCell (Nat.le_refl _) _).setCell (Nat.le_refl _) _).setCell (Nat.le_refl _) _).setCell (Nat.le_refl _) _).setCell (Nat.le_refl _) _).setCell (Nat.le_refl _) _).setCell (Nat.le_refl _) _).setCell (Nat.le_refl _) _).setCell (Nat.le_refl _) _).setCell (Nat.le_refl _) _).setCell (Nat.le_refl _) _).setCell (Nat.le_refl _) _).setCell (Nat.le_refl _) _).setCell (Nat.le_refl _) _⟩⟩
          · iterate 16 refine (Below.heap_setCell _ _ _ i (by simpa using hi)).trans ?_
            rfl
          · show _ = some (Obj.cells (putAt cur (k * 16) [.int .u8 t'.kind, .string t'.name, .slice xa1 xn1 xc1, .int .u8 t'.result.kind, .string t'.result.name, .slice xa2 xn2 xc2, .slice xa3 xn3 xc3, .int .u8 t'.ret.op, .int .i64 t'.ret.int, .string t'.ret.name, .string t'.ret.second, .string t'.ret.place.name, .slice xa4 xn4 xc4, .slice xa5 xn5 xc5, .int .i64 t'.ret.pos, .int .i64 t'.pos]) _ _)
            simp only [putAt, Nat.add_assoc, Nat.reduceAdd]
            exact box_set (i := k * 16 + 15) (box_set (i := k * 16 + 14) (box_set (i := k * 16 + 13) (box_set (i := k * 16 + 12) (box_set (i := k * 16 + 11) (box_set (i := k * 16 + 10) (box_set (i := k * 16 + 9) (box_set (i := k * 16 + 8) (box_set (i := k * 16 + 7) (box_set (i := k * 16 + 6) (box_set (i := k * 16 + 5) (box_set (i := k * 16 + 4) (box_set (i := k * 16 + 3) (box_set (i := k * 16 + 2) (box_set (i := k * 16 + 1) (box_set (i := k * 16) (h) (.int .u8 t'.kind)) (.string t'.name)) (.slice xa1 xn1 xc1)) (.int .u8 t'.result.kind)) (.string t'.result.name)) (.slice xa2 xn2 xc2)) (.slice xa3 xn3 xc3)) (.int .u8 t'.ret.op)) (.int .i64 t'.ret.int)) (.string t'.ret.name)) (.string t'.ret.second)) (.string t'.ret.place.name)) (.slice xa4 xn4 xc4)) (.slice xa5 xn5 xc5)) (.int .i64 t'.ret.pos)) (.int .i64 t'.pos)
        case measure => simp [intOf]; omega
      · obtain rfl : k = n := by omega
        go_wp2_with fail
        (try simp only [Exit.inBlock, Exit.then])
        go_ret
        obtain ⟨hM, hbel⟩ := HH.out
        exact ⟨some ⟨w.heap.size, 0, none⟩, k, rfl, Lib.hid ⟨w.heap.size, 0, ⟨by unfold maxLen; omega, some ⟨w.heap.size, 0, none⟩, k, rfl, .inr ⟨rfl, hM.lt⟩⟩, rowI_all (hM.all (by rw [List.length_map]; exact Hn.out) (Nat.le_refl _))⟩, hbel⟩
end Go.Proofs.YtojeijeimpffgaaGreat
