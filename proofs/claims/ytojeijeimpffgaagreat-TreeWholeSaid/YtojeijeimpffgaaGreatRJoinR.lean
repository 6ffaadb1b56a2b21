/- Two blocks made one behind the other: what is read there. -/
import Derived.Test.YtojeijeimpffgaaGreatRJoinA
import Derived.Laws.Rows
import Derived.Test.YtojeijeimpffgaaGreatRJoinC
import Derived.StillTailTactics
namespace Go.Proofs.YtojeijeimpffgaaGreat
open Go.RowKit
set_option linter.unusedVariables false

end Go.Proofs.YtojeijeimpffgaaGreat
/- The document's own answer, sameness: names, places, types. -/
namespace Go.Proofs.YtojeijeimpffgaaGreat
open Go.RowKit
set_option linter.unusedVariables false

set_option maxHeartbeats 1000000 in
theorem refN_calls (B : Nat) (xs ys : List ByteArray) (v1 v2 : Value) (w : World) (hB : B ≤ w.heap.size) (h1 : NIn B w xs v1) (h2 : NIn B w ys v2) :
    Calls Tryz.prog 61 #[v1, v2] w fun e w' => e = .returned (.bool (allW sameW xs ys)) ∧ Below w.heap.size w w' := by
  obtain ⟨b1, o1, ⟨m1, ao1, cap1, rfl, h1⟩, r1⟩ := h1
  obtain ⟨b2, o2, ⟨m2, ao2, cap2, rfl, h2⟩, r2⟩ := h2
  unfold maxLen at m1 m2
  by_cases hn : xs.length = ys.length
  · have hyes := fun h => allW_yes (f := sameW) hn h
    obtain ⟨n, hx⟩ : ∃ n, n = xs.length := ⟨_, rfl⟩
    have hy : n = ys.length := hx.trans hn
    rw [← hx] at m1 h1 ⊢
    rw [← hy] at m2 h2 ⊢
    have Hyes := Lib.hid hyes
    have Hx := Lib.hid hx
    have Hy := Lib.hid hy
    have Hr := Lib.hid r1
    have Hs := Lib.hid r2
    have H1 := Lib.hid h1
    have H2 := Lib.hid h2
    clear hyes hn hx hy r1 r2 h1 h2
    go_enter Tryz.func61, Tryz.ntmps61
    go_wp2_with fail
    go_loopw [5] (fun i wr => ∃ k : Nat, k ≤ n ∧ i = .int .i64 k ∧ Below w.heap.size w wr ∧ Hid (∀ (j : Nat) x y, j < k → xs[j]? = some x → ys[j]? = some y → sameW x y = true))
      (fun i _ => n - (intOf i).toNat)
    case atStart => exact ⟨0, by omega, rfl, Below.refl _ _, Lib.hid fun j x y hj => by omega⟩
    case round =>
      obtain ⟨k, hk, rfl, hbel, HK⟩ := hrel
      have hbB := hbel.mono hB
      by_cases hlt : k < n
      · obtain ⟨a, ha, _⟩ := get_at (l := xs) (k := k) (by rw [← Hx.out]; exact hlt)
        obtain ⟨b, hb, _⟩ := get_at (l := ys) (k := k) (by rw [← Hy.out]; exact hlt)
        obtain ⟨rfl, hb1⟩ := H1.out.resolve_left (by omega)
        obtain ⟨rfl, hb2⟩ := H2.out.resolve_left (by omega)
        obtain ⟨za, ca⟩ := NRow.get (NRow.below hb1 hbB Hr.out) ha
        obtain ⟨zb, cb⟩ := NRow.get (NRow.below hb2 hbB Hs.out) hb
        have c0 : wr.cell? ⟨b1, o1 + k, none⟩ = some (.string a) := by have := ca 0 _ rfl; simpa using this
        have d0 : wr.cell? ⟨b2, o2 + k, none⟩ = some (.string b) := by have := cb 0 _ rfl; simpa using this
        have Ha := Lib.hid ha
        have Hb := Lib.hid hb
        have hk1 : (k : Int) < (n : Int) := by omega
        have hk0 : 0 ≤ (k : Int) := by omega
        clear ha hb ca cb
        cases hs : sameW a b
        · have hres := Lib.hid (allW_no Ha.out Hb.out hs)
          have e1 : ¬ a.toList = b.toList := fun e => by rw [toList_same e] at hs; cases hs
          have e2 : (!a.toList == b.toList) = true := by rw [Bool.not_eq_true', beq_eq_false_iff_ne]; exact e1
          clear hs
          go_wp2_with fail
          go_quiet (fail)
          go_wp2
          go_ret
          exact ⟨ret_bool hres.out.symm, hbel.trans (below_drewN _ _ |>.mono (hbel.size))⟩
        · have HK2 := Lib.hid (allW_step HK.out Ha.out Hb.out hs)
          have e1 : a.toList = b.toList := by rw [sameW_toList] at hs; simpa using hs
          have e2 : (!a.toList == b.toList) = false := by rw [e1]; simp
          have E1 := Lib.hid e1
          clear hs e1
          go_wp2_with fail
          go_quiet (fail)
          go_wp2
          go_roundw
          case rel => exact ⟨k + 1, by omega, by go_num, hbel.trans (below_drewN _ _ |>.mono (hbel.size)), HK2⟩
          case measure => simp [intOf]; omega
      · obtain rfl : k = n := by omega
        have hres := Lib.hid (Hyes.out fun j x y hx hy => HK.out j x y (by rw [Hx.out]; exact (List.getElem?_eq_some_iff.1 hx).1) hx hy)
        go_wp2
        go_ret
        exact ⟨ret_bool hres.out.symm, hbel⟩
  · have e1 : ((xs.length : Int) != (ys.length : Int)) = true := by rw [bne_iff_ne]; omega
    rw [allW_len hn]
    clear hn
    go_enter Tryz.func61, Tryz.ntmps61
    go_wp2
    go_ret
    exact ⟨rfl, Below.refl _ _⟩
set_option maxHeartbeats 1000000 in
theorem refP_calls (B : Nat) (a b : PP) (va vb : Value) (w : World) (hB : B ≤ w.heap.size) (ha : a.In B w va) (hb : b.In B w vb) :
    Calls Tryz.prog 62 #[.agg #[.string a.name, va], .agg #[.string b.name, vb]] w fun e w' => e = .returned (.bool (samePl a b)) ∧ Below w.heap.size w w' := by
  obtain ⟨p1, n1, q1, rfl⟩ := ha.2.shape
  obtain ⟨p2, n2, q2, rfl⟩ := hb.2.shape
  go_enter Tryz.func62, Tryz.ntmps62
  go_wp2_with fail
  · have e2 : a.name.toList = b.name.toList := by assumption
    refine (refN_calls B a.path b.path _ _ _ (by simp; omega) (ha.2.below (box2B _ hB _ _)) (hb.2.below (box2B _ hB _ _))).mono ?_
    rintro e w' ⟨rfl, b3⟩
    go_wp2
    go_ret
    exact ⟨ret_bool (by rw [samePl, toList_same e2]; simp), up_tr (box2 _ _ _) b3⟩
  · have e2 : ¬ a.name.toList = b.name.toList := by assumption
    go_ret
    exact ⟨ret_bool (by rw [samePl, toList_diff e2]; simp), box2 _ _ _⟩

def RefTAt (B : Nat) (a : PT) : Prop := ∀ (b : PT) (va vb : Value) (w : World), B ≤ w.heap.size → a.In B w va → b.In B w vb →
  Calls Tryz.prog 38 #[.agg #[.int .u8 a.kind, .string a.name, va], .agg #[.int .u8 b.kind, .string b.name, vb]] w fun e w' => e = .returned (.bool (sameT a b)) ∧ Below w.heap.size w w'
set_option maxRecDepth 100000 in
set_option maxHeartbeats 2000000 in
theorem refT_step (B : Nat) (k0 : Int) (nm : ByteArray) (xs : List PT) (H0 : ∀ a, a ∈ xs → RefTAt B a) : RefTAt B (.mk k0 nm xs) := by
  intro b va vb w hB ha hb
  obtain ⟨k2, nm2, ys⟩ := b
  obtain ⟨⟨u1, z1⟩, b1, o1, ⟨m1, p1, q1, rfl, h1⟩, r1⟩ := ha
  obtain ⟨⟨u2, z2⟩, b2, o2, ⟨m2, p2, q2, rfl, h2⟩, r2⟩ := hb
  unfold maxLen at m1 m2
  rw [sameT_mk, sameTs_all]
  show Calls Tryz.prog 38 #[.agg #[.int .u8 k0, .string nm, .slice p1 xs.length q1], .agg #[.int .u8 k2, .string nm2, .slice p2 ys.length q2]] w _
  by_cases hn : xs.length = ys.length
  · have hyes := fun h => allW_yes (f := sameT) hn h
    obtain ⟨n, hx⟩ : ∃ n, n = xs.length := ⟨_, rfl⟩
    have hy : n = ys.length := hx.trans hn
    rw [← hx] at m1 h1 ⊢
    rw [← hy] at m2 h2 ⊢
    have Hyes := Lib.hid hyes
    have Hx := Lib.hid hx
    have Hy := Lib.hid hy
    have Hr := Lib.hid r1
    have Hs := Lib.hid r2
    have H1 := Lib.hid h1
    have H2 := Lib.hid h2
    have H := Lib.hid H0
    clear hyes hn hx hy r1 r2 h1 h2 H0
    go_enter Tryz.func38, Tryz.ntmps38
    go_wp2_with fail
    all_goals try (go_ret; exact ⟨ret_bool (by simp [sameW_toList, *]), box2 _ _ _⟩)
    have e1 : k0 = k2 := by assumption
    have e2 : nm.toList = nm2.toList := by assumption
    have E1 := Lib.hid e1
    have E2 := Lib.hid e2
    clear e1 e2
    go_loopw [5] (fun i wr => ∃ k : Nat, k ≤ n ∧ i = .int .i64 k ∧ Below w.heap.size w wr ∧ w.heap.size + 1 < wr.heap.size ∧ Hid (wr.cell? ⟨w.heap.size, 2, none⟩ = some (.slice p1 n q1) ∧ wr.cell? ⟨w.heap.size + 1, 2, none⟩ = some (.slice p2 n q2)) ∧ Hid (∀ (j : Nat) x y, j < k → xs[j]? = some x → ys[j]? = some y → sameT x y = true))
      (fun i _ => n - (intOf i).toNat)
    case atStart => exact ⟨0, by omega, rfl, box2 _ _ _, by simp, Lib.hid ⟨by go_simp, by go_simp⟩, Lib.hid fun j x y hj => by omega⟩
    case round =>
      obtain ⟨k, hk, rfl, hbel, hz, HX, HK⟩ := hrel
      obtain ⟨x1, x2⟩ := HX.out
      have hbB := hbel.mono hB
      by_cases hlt : k < n
      · obtain ⟨a, ha, hin⟩ := get_at (l := xs) (k := k) (by rw [← Hx.out]; exact hlt)
        obtain ⟨b, hb, _⟩ := get_at (l := ys) (k := k) (by rw [← Hy.out]; exact hlt)
        obtain ⟨rfl, hb1⟩ := H1.out.resolve_left (by omega)
        obtain ⟨rfl, hb2⟩ := H2.out.resolve_left (by omega)
        obtain ⟨va, ca, ia⟩ := PT.Row.get (PT.Row.below hbB hb1 Hr.out) ha
        obtain ⟨vb, cb, ib⟩ := PT.Row.get (PT.Row.below hbB hb2 Hs.out) hb
        obtain ⟨pa0, na0, qa0, rfl⟩ := ia.shape
        obtain ⟨pb0, nb0, qb0, rfl⟩ := ib.shape
        have c0 : wr.cell? ⟨b1, o1 + k * 3, none⟩ = some (.int .u8 a.kind) := ca 0 _ rfl
        have c1 : wr.cell? ⟨b1, o1 + k * 3 + 1, none⟩ = some (.string a.name) := ca 1 _ rfl
        have c2 : wr.cell? ⟨b1, o1 + k * 3 + 2, none⟩ = some (.slice pa0 na0 qa0) := ca 2 _ rfl
        have d0 : wr.cell? ⟨b2, o2 + k * 3, none⟩ = some (.int .u8 b.kind) := cb 0 _ rfl
        have d1 : wr.cell? ⟨b2, o2 + k * 3 + 1, none⟩ = some (.string b.name) := cb 1 _ rfl
        have d2 : wr.cell? ⟨b2, o2 + k * 3 + 2, none⟩ = some (.slice pb0 nb0 qb0) := cb 2 _ rfl
        have C := Lib.hid (H.out a hin b (.slice pa0 na0 qa0) (.slice pb0 nb0 qb0) wr.drew (show B ≤ wr.heap.size by omega) (PT.In.below (Below.refl B wr).drew ia) (PT.In.below (Below.refl B wr).drew ib))
        have Ha := Lib.hid ha
        have Hb := Lib.hid hb
        have hk1 : (k : Int) < (n : Int) := by omega
        have hk0 : 0 ≤ (k : Int) := by omega
        clear ha hb ca cb ia ib hin
        go_wp2_with fail
        go_still_tail 10, (by kernel_rfl)
        go_wp2_with fail
        refine C.out.mono ?_
        rintro e w2 ⟨rfl, b2⟩
        have b3 : Below wr.heap.size wr w2 := (Below.refl _ wr).drew.trans b2
        have b4 := hbel.trans (b3.mono hbel.size)
        have hz2 : w.heap.size + 1 < w2.heap.size := by have := b3.size; omega
        have HX2 := Lib.hid (show w2.cell? ⟨w.heap.size, 2, none⟩ = _ ∧ w2.cell? ⟨w.heap.size + 1, 2, none⟩ = _ from ⟨(b3.cell (p := ⟨w.heap.size, 2, none⟩) (show w.heap.size < _ by omega)).trans x1, (b3.cell (p := ⟨w.heap.size + 1, 2, none⟩) (show w.heap.size + 1 < _ by omega)).trans x2⟩)
        clear b2 b3 c0 c1 c2 d0 d1 d2 x1 x2
        cases hs : sameT a b
        · have hres := Lib.hid (allW_no Ha.out Hb.out hs)
          clear hs
          go_wp2
          go_ret
          exact ⟨ret_bool (by rw [hres.out]; simp), b4⟩
        · have HK2 := Lib.hid (allW_step HK.out Ha.out Hb.out hs)
          clear hs
          go_wp2
          go_roundw
          case rel => exact ⟨k + 1, by omega, by go_num, b4, hz2, HX2, HK2⟩
          case measure => simp [intOf]; omega
      · obtain rfl : k = n := by omega
        have hres := Lib.hid (Hyes.out fun j x y hx hy => HK.out j x y (by rw [Hx.out]; exact (List.getElem?_eq_some_iff.1 hx).1) hx hy)
        go_wp2
        go_ret
        exact ⟨ret_bool (by rw [hres.out, toList_same E2.out]; simp [E1.out]), hbel⟩
  · have e1 : ((xs.length : Int) != (ys.length : Int)) = true := by rw [bne_iff_ne]; omega
    rw [allW_len hn]
    clear hn
    go_enter Tryz.func38, Tryz.ntmps38
    go_wp2
    all_goals (go_ret; exact ⟨ret_bool (by simp [sameW_toList, *]), box2 _ _ _⟩)
theorem refT_calls (B : Nat) (a : PT) : RefTAt B a :=
  PT.rec (motive_1 := RefTAt B) (motive_2 := fun l => ∀ x, x ∈ l → RefTAt B x) (fun k n xs H => refT_step B k n xs H)
    (fun x h => by cases h) (fun a l ha hl x h => by cases h with | head => exact ha | tail _ h => exact hl x h) a
end Go.Proofs.YtojeijeimpffgaaGreat
/- The document's own answer, sameness: RefE (made by gen_ref.py). -/
namespace Go.Proofs.YtojeijeimpffgaaGreat
open Go.RowKit
set_option linter.unusedVariables false

def RefEAt (B : Nat) (z : Bool) (a : PE) : Prop := ∀ (b : PE) (va vb) (w : World), B ≤ w.heap.size → a.In B w va → b.In B w vb →
  Calls Tryz.prog 40 #[.agg (a.cells va).toArray, .agg (b.cells vb).toArray, .bool z] w fun e w' => e = .returned (.bool (sameE z a b)) ∧ Below w.heap.size w w'

set_option maxRecDepth 100000 in
set_option maxHeartbeats 2000000 in
theorem refEs_calls (B : Nat) (z : Bool) (xs ys : List PE) (H : Hid (∀ a, a ∈ xs → RefEAt B z a)) (b1 o1 b2 o2 : Nat) (v1 v2 : Value) (w : World) (hB : B ≤ w.heap.size)
    (s1 : SlV B v1 xs.length b1 o1) (r1 : PE.Row B w b1 o1 xs) (s2 : SlV B v2 ys.length b2 o2) (r2 : PE.Row B w b2 o2 ys) :
    Calls Tryz.prog 63 #[v1, v2, .bool z] w fun e w' => e = .returned (.bool (sameEs z xs ys)) ∧ Below w.heap.size w w' := by
  rw [sameEs_all]
  obtain ⟨m1, ao1, cap1, rfl, h1⟩ := s1
  obtain ⟨m2, ao2, cap2, rfl, h2⟩ := s2
  unfold maxLen at m1 m2
  by_cases hn : xs.length = ys.length
  · have hyes := fun h => allW_yes (f := sameE z) hn h
    obtain ⟨n, hx⟩ : ∃ n, n = xs.length := ⟨_, rfl⟩
    have hy : n = ys.length := hx.trans hn
    rw [← hx] at m1 h1 ⊢
    rw [← hy] at m2 h2 ⊢
    have Hyes := Lib.hid hyes
    have Hx := Lib.hid hx
    have Hy := Lib.hid hy
    have Hr := Lib.hid r1
    have Hs := Lib.hid r2
    have H1 := Lib.hid h1
    have H2 := Lib.hid h2
    clear hyes hn hx hy r1 r2 h1 h2
    go_enter Tryz.func63, Tryz.ntmps63
    go_wp2_with fail
    go_loopw [7] (fun i wr => ∃ k : Nat, k ≤ n ∧ i = .int .i64 k ∧ Below w.heap.size w wr ∧ Hid (∀ (j : Nat) x y, j < k → xs[j]? = some x → ys[j]? = some y → sameE z x y = true))
      (fun i _ => n - (intOf i).toNat)
    case atStart => exact ⟨0, by omega, rfl, Below.refl _ _, Lib.hid fun j x y hj => by omega⟩
    case round =>
      obtain ⟨k, hk, rfl, hbel, HK⟩ := hrel
      have hsz := hbel.size
      have hbB := hbel.mono hB
      by_cases hlt : k < n
      · obtain ⟨a, ha, hin⟩ := get_at (l := xs) (k := k) (by rw [← Hx.out]; exact hlt)
        obtain ⟨b, hb, _⟩ := get_at (l := ys) (k := k) (by rw [← Hy.out]; exact hlt)
        obtain ⟨rfl, hb1⟩ := H1.out.resolve_left (by omega)
        obtain ⟨rfl, hb2⟩ := H2.out.resolve_left (by omega)
        obtain ⟨va, ca, ia⟩ := PE.Row.get (PE.Row.below hbB hb1 Hr.out) ha
        obtain ⟨vb, cb, ib⟩ := PE.Row.get (PE.Row.below hbB hb2 Hs.out) hb
        obtain ⟨pa0, na0, qa0, pa1, na1, qa1, rfl⟩ := ia.shape
        obtain ⟨pb0, nb0, qb0, pb1, nb1, qb1, rfl⟩ := ib.shape
        obtain ⟨opa, iva, nma, sca, pla, esa, ata⟩ := a
        obtain ⟨opb, ivb, nmb, scb, plb, esb, atb⟩ := b
        have c0 : wr.cell? ⟨b1, o1 + k * 8, none⟩ = some (.int .u8 opa) := ca 0 _ rfl
        have c1 : wr.cell? ⟨b1, o1 + k * 8 + 1, none⟩ = some (.int .i64 iva) := ca 1 _ rfl
        have c2 : wr.cell? ⟨b1, o1 + k * 8 + 2, none⟩ = some (.string nma) := ca 2 _ rfl
        have c3 : wr.cell? ⟨b1, o1 + k * 8 + 3, none⟩ = some (.string sca) := ca 3 _ rfl
        have c4 : wr.cell? ⟨b1, o1 + k * 8 + 4, none⟩ = some (.string pla.name) := ca 4 _ rfl
        have c5 : wr.cell? ⟨b1, o1 + k * 8 + 5, none⟩ = some (.slice pa0 na0 qa0) := ca 5 _ rfl
        have c6 : wr.cell? ⟨b1, o1 + k * 8 + 6, none⟩ = some (.slice pa1 na1 qa1) := ca 6 _ rfl
        have c7 : wr.cell? ⟨b1, o1 + k * 8 + 7, none⟩ = some (.int .i64 ata) := ca 7 _ rfl
        have d0 : wr.cell? ⟨b2, o2 + k * 8, none⟩ = some (.int .u8 opb) := cb 0 _ rfl
        have d1 : wr.cell? ⟨b2, o2 + k * 8 + 1, none⟩ = some (.int .i64 ivb) := cb 1 _ rfl
        have d2 : wr.cell? ⟨b2, o2 + k * 8 + 2, none⟩ = some (.string nmb) := cb 2 _ rfl
        have d3 : wr.cell? ⟨b2, o2 + k * 8 + 3, none⟩ = some (.string scb) := cb 3 _ rfl
        have d4 : wr.cell? ⟨b2, o2 + k * 8 + 4, none⟩ = some (.string plb.name) := cb 4 _ rfl
        have d5 : wr.cell? ⟨b2, o2 + k * 8 + 5, none⟩ = some (.slice pb0 nb0 qb0) := cb 5 _ rfl
        have d6 : wr.cell? ⟨b2, o2 + k * 8 + 6, none⟩ = some (.slice pb1 nb1 qb1) := cb 6 _ rfl
        have d7 : wr.cell? ⟨b2, o2 + k * 8 + 7, none⟩ = some (.int .i64 atb) := cb 7 _ rfl
        have C : Hid (Calls Tryz.prog 40 #[.agg #[.int .u8 opa, .int .i64 iva, .string nma, .string sca, .string pla.name, .slice pa0 na0 qa0, .slice pa1 na1 qa1, .int .i64 ata], .agg #[.int .u8 opb, .int .i64 ivb, .string nmb, .string scb, .string plb.name, .slice pb0 nb0 qb0, .slice pb1 nb1 qb1, .int .i64 atb], .bool z] wr.drew fun e w'' => e = .returned (.bool (sameE z (.mk opa iva nma sca pla esa ata) (.mk opb ivb nmb scb plb esb atb))) ∧ Below wr.drew.heap.size wr.drew w'') := Lib.hid (H.out (.mk opa iva nma sca pla esa ata) hin (.mk opb ivb nmb scb plb esb atb) ⟨.slice pa0 na0 qa0, .slice pa1 na1 qa1⟩ ⟨.slice pb0 nb0 qb0, .slice pb1 nb1 qb1⟩ wr.drew (show B ≤ wr.heap.size by omega) (ia.below (Below.refl B wr).drew) (ib.below (Below.refl B wr).drew))
        have Ha := Lib.hid ha
        have Hb := Lib.hid hb
        have hk1 : (k : Int) < (n : Int) := by omega
        have hk0 : 0 ≤ (k : Int) := by omega
        clear ha hb ca cb ia ib hin
        go_wp2_with fail
        go_still_tail 9, (by kernel_rfl)
        go_wp2_with fail
        refine C.out.mono ?_
        rintro e w2 ⟨rfl, b2⟩
        have b3 : Below wr.heap.size wr w2 := (Below.refl _ wr).drew.trans b2
        have b4 := hbel.trans (b3.mono hbel.size)
        clear b2 b3 c0 d0 c1 d1 c2 d2 c3 d3 c4 d4 c5 d5 c6 d6 c7 d7
        cases hs : sameE z (.mk opa iva nma sca pla esa ata) (.mk opb ivb nmb scb plb esb atb)
        · have hres := Lib.hid (allW_no Ha.out Hb.out hs)
          clear hs
          go_wp2
          go_ret
          exact ⟨ret_bool hres.out.symm, b4⟩
        · have HK2 := Lib.hid (allW_step HK.out Ha.out Hb.out hs)
          clear hs
          go_wp2
          go_roundw
          case rel => exact ⟨k + 1, by omega, by go_num, b4, HK2⟩
          case measure => simp [intOf]; omega
      · obtain rfl : k = n := by omega
        have hres := Lib.hid (Hyes.out fun j x y hx hy => HK.out j x y (by rw [Hx.out]; exact (List.getElem?_eq_some_iff.1 hx).1) hx hy)
        go_wp2
        go_ret
        exact ⟨ret_bool hres.out.symm, hbel⟩
  · have e1 : ((xs.length : Int) != (ys.length : Int)) = true := by rw [bne_iff_ne]; omega
    rw [allW_len hn]
    clear hn
    go_enter Tryz.func63, Tryz.ntmps63
    go_wp2
    go_ret
    exact ⟨rfl, Below.refl _ _⟩

set_option maxRecDepth 100000 in
set_option maxHeartbeats 4000000 in
theorem refE_step_true (B : Nat) (opa iva : Int) (nma sca : ByteArray) (pla : PP) (esa : List PE) (ata : Int) (H : ∀ a, a ∈ esa → RefEAt B true a) : RefEAt B true (.mk opa iva nma sca pla esa ata) := by
  intro b va vb w hB ha hb
  obtain ⟨opb, ivb, nmb, scb, plb, esb, atb⟩ := b
  obtain ⟨pa0, na0, qa0, pa1, na1, qa1, rfl⟩ := ha.shape
  obtain ⟨pb0, nb0, qb0, pb1, nb1, qb1, rfl⟩ := hb.shape
  obtain ⟨_, hpa, ba, oa, sa, ra⟩ := ha
  obtain ⟨_, hpb, bb, ob, sb, rb⟩ := hb
  show Calls Tryz.prog 40 #[.agg #[.int .u8 opa, .int .i64 iva, .string nma, .string sca, .string pla.name, .slice pa0 na0 qa0, .slice pa1 na1 qa1, .int .i64 ata], .agg #[.int .u8 opb, .int .i64 ivb, .string nmb, .string scb, .string plb.name, .slice pb0 nb0 qb0, .slice pb1 nb1 qb1, .int .i64 atb], .bool true] w _
  go_enter Tryz.func40, Tryz.ntmps40
  go_wp2_with fail
  · refine (refP_calls B pla plb _ _ _ (by simp; omega) (hpa.below (box2B w hB _ _)) (hpb.below (box2B w hB _ _))).mono ?_
    rintro e w1 ⟨rfl, b1⟩
    have bel1 := b1
    have bB1 := (box2B w hB _ _).trans (bel1.mono (by simp; omega))
    have hz1 : w.heap.size + 1 < w1.heap.size := by have := b1.size; simp at this; omega
    have hc1 := old_cells bel1
    go_wp2_with fail
    · refine (refEs_calls B true esa esb (Lib.hid H) ba oa bb ob _ _ _ (by omega) sa (PE.Row.below' bB1 sa ra) sb (PE.Row.below' bB1 sb rb)).mono ?_
      rintro e w2 ⟨rfl, b2⟩
      have bel2 := up_tr bel1 b2
      go_wp2
      go_ret
      exact ⟨ret_bool (by simp [sameE_mk, sameW_toList, *]), up_tr (box2 _ _ _) bel2⟩
    all_goals (go_ret; exact ⟨ret_bool (by simp [sameE_mk, sameW_toList, *]), up_tr (box2 _ _ _) bel1⟩)
  all_goals (go_ret; exact ⟨ret_bool (by simp [sameE_mk, sameW_toList, *]), box2 _ _ _⟩)

set_option maxRecDepth 100000 in
set_option maxHeartbeats 4000000 in
theorem refE_step_false (B : Nat) (opa iva : Int) (nma sca : ByteArray) (pla : PP) (esa : List PE) (ata : Int) (H : ∀ a, a ∈ esa → RefEAt B false a) : RefEAt B false (.mk opa iva nma sca pla esa ata) := by
  intro b va vb w hB ha hb
  obtain ⟨opb, ivb, nmb, scb, plb, esb, atb⟩ := b
  obtain ⟨pa0, na0, qa0, pa1, na1, qa1, rfl⟩ := ha.shape
  obtain ⟨pb0, nb0, qb0, pb1, nb1, qb1, rfl⟩ := hb.shape
  obtain ⟨_, hpa, ba, oa, sa, ra⟩ := ha
  obtain ⟨_, hpb, bb, ob, sb, rb⟩ := hb
  show Calls Tryz.prog 40 #[.agg #[.int .u8 opa, .int .i64 iva, .string nma, .string sca, .string pla.name, .slice pa0 na0 qa0, .slice pa1 na1 qa1, .int .i64 ata], .agg #[.int .u8 opb, .int .i64 ivb, .string nmb, .string scb, .string plb.name, .slice pb0 nb0 qb0, .slice pb1 nb1 qb1, .int .i64 atb], .bool false] w _
  go_enter Tryz.func40, Tryz.ntmps40
  go_wp2_with fail
  · refine (refP_calls B pla plb _ _ _ (by simp; omega) (hpa.below (box2B w hB _ _)) (hpb.below (box2B w hB _ _))).mono ?_
    rintro e w1 ⟨rfl, b1⟩
    have bel1 := b1
    have bB1 := (box2B w hB _ _).trans (bel1.mono (by simp; omega))
    have hz1 : w.heap.size + 1 < w1.heap.size := by have := b1.size; simp at this; omega
    have hc1 := old_cells bel1
    go_wp2_with fail
    · refine (refEs_calls B false esa esb (Lib.hid H) ba oa bb ob _ _ _ (by omega) sa (PE.Row.below' bB1 sa ra) sb (PE.Row.below' bB1 sb rb)).mono ?_
      rintro e w2 ⟨rfl, b2⟩
      have bel2 := up_tr bel1 b2
      go_wp2
      go_ret
      exact ⟨ret_bool (by simp [sameE_mk, sameW_toList, *]), up_tr (box2 _ _ _) bel2⟩
    all_goals (go_ret; exact ⟨ret_bool (by simp [sameE_mk, sameW_toList, *]), up_tr (box2 _ _ _) bel1⟩)
  all_goals (go_ret; exact ⟨ret_bool (by simp [sameE_mk, sameW_toList, *]), box2 _ _ _⟩)

theorem refE_calls (B : Nat) (z : Bool) (a : PE) : RefEAt B z a :=
  PE.rec (motive_1 := RefEAt B z) (motive_2 := fun l => ∀ x, x ∈ l → RefEAt B z x) (fun op i n s p xs pos H => by cases z; exact refE_step_false B op i n s p xs pos H; exact refE_step_true B op i n s p xs pos H)
    (fun x h => by cases h) (fun a l ha hl x h => by cases h with | head => exact ha | tail _ h => exact hl x h) a
end Go.Proofs.YtojeijeimpffgaaGreat
/- The document's own answer, sameness: RefF (made by gen_ref.py). -/
namespace Go.Proofs.YtojeijeimpffgaaGreat
open Go.RowKit
set_option linter.unusedVariables false

set_option maxRecDepth 100000 in
set_option maxHeartbeats 2000000 in
theorem refFs_calls (B : Nat) (xs ys : List PF) (b1 o1 b2 o2 : Nat) (v1 v2 : Value) (w : World) (hB : B ≤ w.heap.size)
    (s1 : SlV B v1 xs.length b1 o1) (r1 : PF.Row B w b1 o1 xs) (s2 : SlV B v2 ys.length b2 o2) (r2 : PF.Row B w b2 o2 ys) :
    Calls Tryz.prog 37 #[v1, v2] w fun e w' => e = .returned (.bool (allW sameF xs ys)) ∧ Below w.heap.size w w' := by
  obtain ⟨m1, ao1, cap1, rfl, h1⟩ := s1
  obtain ⟨m2, ao2, cap2, rfl, h2⟩ := s2
  unfold maxLen at m1 m2
  by_cases hn : xs.length = ys.length
  · have hyes := fun h => allW_yes (f := sameF) hn h
    obtain ⟨n, hx⟩ : ∃ n, n = xs.length := ⟨_, rfl⟩
    have hy : n = ys.length := hx.trans hn
    rw [← hx] at m1 h1 ⊢
    rw [← hy] at m2 h2 ⊢
    have Hyes := Lib.hid hyes
    have Hx := Lib.hid hx
    have Hy := Lib.hid hy
    have Hr := Lib.hid r1
    have Hs := Lib.hid r2
    have H1 := Lib.hid h1
    have H2 := Lib.hid h2
    clear hyes hn hx hy r1 r2 h1 h2
    go_enter Tryz.func37, Tryz.ntmps37
    go_wp2_with fail
    go_loopw [5] (fun i wr => ∃ k : Nat, k ≤ n ∧ i = .int .i64 k ∧ Below w.heap.size w wr ∧ Hid (∀ (j : Nat) x y, j < k → xs[j]? = some x → ys[j]? = some y → sameF x y = true))
      (fun i _ => n - (intOf i).toNat)
    case atStart => exact ⟨0, by omega, rfl, Below.refl _ _, Lib.hid fun j x y hj => by omega⟩
    case round =>
      obtain ⟨k, hk, rfl, hbel, HK⟩ := hrel
      have hsz := hbel.size
      have hbB := hbel.mono hB
      by_cases hlt : k < n
      · obtain ⟨a, ha, hin⟩ := get_at (l := xs) (k := k) (by rw [← Hx.out]; exact hlt)
        obtain ⟨b, hb, _⟩ := get_at (l := ys) (k := k) (by rw [← Hy.out]; exact hlt)
        obtain ⟨rfl, hb1⟩ := H1.out.resolve_left (by omega)
        obtain ⟨rfl, hb2⟩ := H2.out.resolve_left (by omega)
        obtain ⟨va, ca, ia⟩ := PF.Row.get (PF.Row.below hbB hb1 Hr.out) ha
        obtain ⟨vb, cb, ib⟩ := PF.Row.get (PF.Row.below hbB hb2 Hs.out) hb
        obtain ⟨pa0, na0, qa0, rfl⟩ := ia.shape
        obtain ⟨pb0, nb0, qb0, rfl⟩ := ib.shape
        have c0 : wr.cell? ⟨b1, o1 + k * 4, none⟩ = some (.string a.name) := ca 0 _ rfl
        have c1 : wr.cell? ⟨b1, o1 + k * 4 + 1, none⟩ = some (.int .u8 a.type.kind) := ca 1 _ rfl
        have c2 : wr.cell? ⟨b1, o1 + k * 4 + 2, none⟩ = some (.string a.type.name) := ca 2 _ rfl
        have c3 : wr.cell? ⟨b1, o1 + k * 4 + 3, none⟩ = some (.slice pa0 na0 qa0) := ca 3 _ rfl
        have d0 : wr.cell? ⟨b2, o2 + k * 4, none⟩ = some (.string b.name) := cb 0 _ rfl
        have d1 : wr.cell? ⟨b2, o2 + k * 4 + 1, none⟩ = some (.int .u8 b.type.kind) := cb 1 _ rfl
        have d2 : wr.cell? ⟨b2, o2 + k * 4 + 2, none⟩ = some (.string b.type.name) := cb 2 _ rfl
        have d3 : wr.cell? ⟨b2, o2 + k * 4 + 3, none⟩ = some (.slice pb0 nb0 qb0) := cb 3 _ rfl
        have C := Lib.hid (refT_calls B a.type b.type (.slice pa0 na0 qa0) (.slice pb0 nb0 qb0) wr.drew (show B ≤ wr.heap.size by omega) (PT.In.below (Below.refl B wr).drew ia.2) (PT.In.below (Below.refl B wr).drew ib.2))
        have Ha := Lib.hid ha
        have Hb := Lib.hid hb
        have hk1 : (k : Int) < (n : Int) := by omega
        have hk0 : 0 ≤ (k : Int) := by omega
        clear ha hb ca cb ia ib hin
        by_cases e0 : a.name.toList = b.name.toList
        · have e2 : (!a.name.toList == b.name.toList) = false := by rw [e0]; simp
          have E0 := Lib.hid e0
          clear e0
          go_wp2_with fail
          go_still_tail 22, (by kernel_rfl)
          go_wp2_with fail
          refine C.out.mono ?_
          rintro e w2 ⟨rfl, b2⟩
          have b3 : Below wr.heap.size wr w2 := (Below.refl _ wr).drew.trans b2
          have b4 := hbel.trans (b3.mono hbel.size)
          have hs : sameF a b = sameT a.type b.type := by rw [sameF_mk, toList_same E0.out]; rfl
          clear b2 b3 c0 d0 c1 d1 c2 d2 c3 d3
          cases ht : sameT a.type b.type
          · have hres := Lib.hid (allW_no Ha.out Hb.out (hs.trans ht))
            clear hs ht e2
            go_wp2
            go_ret
            exact ⟨ret_bool hres.out.symm, b4⟩
          · have HK2 := Lib.hid (allW_step HK.out Ha.out Hb.out (hs.trans ht))
            clear hs ht e2
            go_wp2
            go_roundw
            case rel => exact ⟨k + 1, by omega, by go_num, b4, HK2⟩
            case measure => simp [intOf]; omega
        · have e2 : (!a.name.toList == b.name.toList) = true := by rw [Bool.not_eq_true', beq_eq_false_iff_ne]; exact e0
          have hres := Lib.hid (allW_no Ha.out Hb.out (f := sameF) (by rw [sameF_mk, toList_diff e0]; rfl))
          go_wp2_with fail
          go_quiet (fail)
          go_wp2
          go_ret
          exact ⟨ret_bool hres.out.symm, hbel.trans (below_drewN _ _ |>.mono (hbel.size))⟩
      · obtain rfl : k = n := by omega
        have hres := Lib.hid (Hyes.out fun j x y hx hy => HK.out j x y (by rw [Hx.out]; exact (List.getElem?_eq_some_iff.1 hx).1) hx hy)
        go_wp2
        go_ret
        exact ⟨ret_bool hres.out.symm, hbel⟩
  · have e1 : ((xs.length : Int) != (ys.length : Int)) = true := by rw [bne_iff_ne]; omega
    rw [allW_len hn]
    clear hn
    go_enter Tryz.func37, Tryz.ntmps37
    go_wp2
    go_ret
    exact ⟨rfl, Below.refl _ _⟩
end Go.Proofs.YtojeijeimpffgaaGreat
