/- The document's own answer, sameness: names, places, types. -/
import Derived.Test.YtabncmmadbjegaaJoinC
import Derived.StillTailTactics
namespace Go.Proofs.Ytabncmmadbjegaa
open Go.RowKit
set_option linter.unusedVariables false

set_option maxHeartbeats 1000000 in
theorem refN_calls (B : Nat) (xs ys : List ByteArray) (v1 v2 : Value) (w : World) (hB : B ≤ w.heap.size) (h1 : NIn B w xs v1) (h2 : NIn B w ys v2) :
    Calls Try.prog 45 #[v1, v2] w fun e w' => e = .returned (.bool (allW sameW xs ys)) ∧ Below w.heap.size w w' := by
  obtain ⟨b1, o1, ⟨m1, ao1, cap1, rfl, h1⟩, r1⟩ := h1
  obtain ⟨b2, o2, ⟨m2, ao2, cap2, rfl, h2⟩, r2⟩ := h2
  unfold maxLen at m1 m2
  by_cases hn : xs.length = ys.length
  · have hyes := fun h => allW_yes (f := sameW) hn h
    obtain ⟨n, hx⟩ : ∃ n, n = xs.length := ⟨_, rfl⟩
    have hy : n = ys.length := hx.trans hn
    rw [← hx] at m1 h1 ⊢
    rw [← hy] at m2 h2 ⊢
    have Hyes := Lib.hid hyes
    have Hx := Lib.hid hx
    have Hy := Lib.hid hy
    have Hr := Lib.hid r1
    have Hs := Lib.hid r2
    have H1 := Lib.hid h1
    have H2 := Lib.hid h2
    clear hyes hn hx hy r1 r2 h1 h2
    go_enter Try.func45, Try.ntmps45
    go_wp2_with fail
    go_loopw [5] (fun i wr => ∃ k : Nat, k ≤ n ∧ i = .int .i64 k ∧ Below w.heap.size w wr ∧ Hid (∀ (j : Nat) x y, j < k → xs[j]? = some x → ys[j]? = some y → sameW x y = true))
      (fun i _ => n - (intOf i).toNat)
    case atStart => exact ⟨0, by omega, rfl, Below.refl _ _, Lib.hid fun j x y hj => by omega⟩
    case round =>
      obtain ⟨k, hk, rfl, hbel, HK⟩ := hrel
      have hbB := hbel.mono hB
      by_cases hlt : k < n
      · obtain ⟨a, ha, _⟩ := get_at (l := xs) (k := k) (by rw [← Hx.out]; exact hlt)
        obtain ⟨b, hb, _⟩ := get_at (l := ys) (k := k) (by rw [← Hy.out]; exact hlt)
        obtain ⟨rfl, hb1⟩ := H1.out.resolve_left (by omega)
        obtain ⟨rfl, hb2⟩ := H2.out.resolve_left (by omega)
        obtain ⟨za, ca⟩ := NRow.get (NRow.below hb1 hbB Hr.out) ha
        obtain ⟨zb, cb⟩ := NRow.get (NRow.below hb2 hbB Hs.out) hb
        have c0 : wr.cell? ⟨b1, o1 + k, none⟩ = some (.string a) := by have := ca 0 _ rfl; simpa using this
        have d0 : wr.cell? ⟨b2, o2 + k, none⟩ = some (.string b) := by have := cb 0 _ rfl; simpa using this
        have Ha := Lib.hid ha
        have Hb := Lib.hid hb
        have hk1 : (k : Int) < (n : Int) := by omega
        have hk0 : 0 ≤ (k : Int) := by omega
        clear ha hb ca cb
        cases hs : sameW a b
        · have hres := Lib.hid (allW_no Ha.out Hb.out hs)
          have e1 : ¬ a.toList = b.toList := fun e => by rw [toList_same e] at hs; cases hs
          have e2 : (!a.toList == b.toList) = true := by rw [Bool.not_eq_true', beq_eq_false_iff_ne]; exact e1
          clear hs
          go_wp2_with fail
          go_quiet (fail)
          go_wp2
          go_ret
          exact ⟨ret_bool hres.out.symm, hbel.trans (below_drewN _ _ |>.mono (hbel.size))⟩
        · have HK2 := Lib.hid (allW_step HK.out Ha.out Hb.out hs)
          have e1 : a.toList = b.toList := by rw [sameW_toList] at hs; simpa using hs
          have e2 : (!a.toList == b.toList) = false := by rw [e1]; simp
          have E1 := Lib.hid e1
          clear hs e1
          go_wp2_with fail
          go_quiet (fail)
          go_wp2
          go_roundw
          case rel => exact ⟨k + 1, by omega, by go_num, hbel.trans (below_drewN _ _ |>.mono (hbel.size)), HK2⟩
          case measure => simp [intOf]; omega
      · obtain rfl : k = n := by omega
        have hres := Lib.hid (Hyes.out fun j x y hx hy => HK.out j x y (by rw [Hx.out]; exact (List.getElem?_eq_some_iff.1 hx).1) hx hy)
        go_wp2
        go_ret
        exact ⟨ret_bool hres.out.symm, hbel⟩
  · have e1 : ((xs.length : Int) != (ys.length : Int)) = true := by rw [bne_iff_ne]; omega
    rw [allW_len hn]
    clear hn
    go_enter Try.func45, Try.ntmps45
    go_wp2
    go_ret
    exact ⟨rfl, Below.refl _ _⟩
set_option maxHeartbeats 1000000 in
theorem refP_calls (B : Nat) (a b : PP) (va vb : Value) (w : World) (hB : B ≤ w.heap.size) (ha : a.In B w va) (hb : b.In B w vb) :
    Calls Try.prog 46 #[.agg #[.string a.name, va], .agg #[.string b.name, vb]] w fun e w' => e = .returned (.bool (samePl a b)) ∧ Below w.heap.size w w' := by
  obtain ⟨p1, n1, q1, rfl⟩ := ha.2.shape
  obtain ⟨p2, n2, q2, rfl⟩ := hb.2.shape
  go_enter Try.func46, Try.ntmps46
  go_wp2_with fail
  · have e2 : a.name.toList = b.name.toList := by assumption
    refine (refN_calls B a.path b.path _ _ _ (by simp; omega) (ha.2.below (box2B _ hB _ _)) (hb.2.below (box2B _ hB _ _))).mono ?_
    rintro e w' ⟨rfl, b3⟩
    go_wp2
    go_ret
    exact ⟨ret_bool (by rw [samePl, toList_same e2]; simp), up_tr (box2 _ _ _) b3⟩
  · have e2 : ¬ a.name.toList = b.name.toList := by assumption
    go_ret
    exact ⟨ret_bool (by rw [samePl, toList_diff e2]; simp), box2 _ _ _⟩

def RefTAt (B : Nat) (a : PT) : Prop := ∀ (b : PT) (va vb : Value) (w : World), B ≤ w.heap.size → a.In B w va → b.In B w vb →
  Calls Try.prog 23 #[.agg #[.int .u8 a.kind, .string a.name, va], .agg #[.int .u8 b.kind, .string b.name, vb]] w fun e w' => e = .returned (.bool (sameT a b)) ∧ Below w.heap.size w w'
set_option maxRecDepth 100000 in
set_option maxHeartbeats 2000000 in
theorem refT_step (B : Nat) (k0 : Int) (nm : ByteArray) (xs : List PT) (H0 : ∀ a, a ∈ xs → RefTAt B a) : RefTAt B (.mk k0 nm xs) := by
  intro b va vb w hB ha hb
  obtain ⟨k2, nm2, ys⟩ := b
  obtain ⟨⟨u1, z1⟩, b1, o1, ⟨m1, p1, q1, rfl, h1⟩, r1⟩ := ha
  obtain ⟨⟨u2, z2⟩, b2, o2, ⟨m2, p2, q2, rfl, h2⟩, r2⟩ := hb
  unfold maxLen at m1 m2
  rw [sameT_mk, sameTs_all]
  show Calls Try.prog 23 #[.agg #[.int .u8 k0, .string nm, .slice p1 xs.length q1], .agg #[.int .u8 k2, .string nm2, .slice p2 ys.length q2]] w _
  by_cases hn : xs.length = ys.length
  · have hyes := fun h => allW_yes (f := sameT) hn h
    obtain ⟨n, hx⟩ : ∃ n, n = xs.length := ⟨_, rfl⟩
    have hy : n = ys.length := hx.trans hn
    rw [← hx] at m1 h1 ⊢
    rw [← hy] at m2 h2 ⊢
    have Hyes := Lib.hid hyes
    have Hx := Lib.hid hx
    have Hy := Lib.hid hy
    have Hr := Lib.hid r1
    have Hs := Lib.hid r2
    have H1 := Lib.hid h1
    have H2 := Lib.hid h2
    have H := Lib.hid H0
    clear hyes hn hx hy r1 r2 h1 h2 H0
    go_enter Try.func23, Try.ntmps23
    go_wp2_with fail
    all_goals try (go_ret; exact ⟨ret_bool (by simp [sameW_toList, *]), box2 _ _ _⟩)
    have e1 : k0 = k2 := by assumption
    have e2 : nm.toList = nm2.toList := by assumption
    have E1 := Lib.hid e1
    have E2 := Lib.hid e2
    clear e1 e2
    go_loopw [5] (fun i wr => ∃ k : Nat, k ≤ n ∧ i = .int .i64 k ∧ Below w.heap.size w wr ∧ w.heap.size + 1 < wr.heap.size ∧ Hid (wr.cell? ⟨w.heap.size, 2, none⟩ = some (.slice p1 n q1) ∧ wr.cell? ⟨w.heap.size + 1, 2, none⟩ = some (.slice p2 n q2)) ∧ Hid (∀ (j : Nat) x y, j < k → xs[j]? = some x → ys[j]? = some y → sameT x y = true))
      (fun i _ => n - (intOf i).toNat)
    case atStart => exact ⟨0, by omega, rfl, box2 _ _ _, by simp, Lib.hid ⟨by go_simp, by go_simp⟩, Lib.hid fun j x y hj => by omega⟩
    case round =>
      obtain ⟨k, hk, rfl, hbel, hz, HX, HK⟩ := hrel
      obtain ⟨x1, x2⟩ := HX.out
      have hbB := hbel.mono hB
      by_cases hlt : k < n
      · obtain ⟨a, ha, hin⟩ := get_at (l := xs) (k := k) (by rw [← Hx.out]; exact hlt)
        obtain ⟨b, hb, _⟩ := get_at (l := ys) (k := k) (by rw [← Hy.out]; exact hlt)
        obtain ⟨rfl, hb1⟩ := H1.out.resolve_left (by omega)
        obtain ⟨rfl, hb2⟩ := H2.out.resolve_left (by omega)
        obtain ⟨va, ca, ia⟩ := PT.Row.get (PT.Row.below hbB hb1 Hr.out) ha
        obtain ⟨vb, cb, ib⟩ := PT.Row.get (PT.Row.below hbB hb2 Hs.out) hb
        obtain ⟨pa0, na0, qa0, rfl⟩ := ia.shape
        obtain ⟨pb0, nb0, qb0, rfl⟩ := ib.shape
        have c0 : wr.cell? ⟨b1, o1 + k * 3, none⟩ = some (.int .u8 a.kind) := ca 0 _ rfl
        have c1 : wr.cell? ⟨b1, o1 + k * 3 + 1, none⟩ = some (.string a.name) := ca 1 _ rfl
        have c2 : wr.cell? ⟨b1, o1 + k * 3 + 2, none⟩ = some (.slice pa0 na0 qa0) := ca 2 _ rfl
        have d0 : wr.cell? ⟨b2, o2 + k * 3, none⟩ = some (.int .u8 b.kind) := cb 0 _ rfl
        have d1 : wr.cell? ⟨b2, o2 + k * 3 + 1, none⟩ = some (.string b.name) := cb 1 _ rfl
        have d2 : wr.cell? ⟨b2, o2 + k * 3 + 2, none⟩ = some (.slice pb0 nb0 qb0) := cb 2 _ rfl
        have C := Lib.hid (H.out a hin b (.slice pa0 na0 qa0) (.slice pb0 nb0 qb0) wr.drew (show B ≤ wr.heap.size by omega) (PT.In.below (Below.refl B wr).drew ia) (PT.In.below (Below.refl B wr).drew ib))
        have Ha := Lib.hid ha
        have Hb := Lib.hid hb
        have hk1 : (k : Int) < (n : Int) := by omega
        have hk0 : 0 ≤ (k : Int) := by omega
        clear ha hb ca cb ia ib hin
        go_wp2_with fail
        go_still_tail 10, (by kernel_rfl)
        go_wp2_with fail
        refine C.out.mono ?_
        rintro e w2 ⟨rfl, b2⟩
        have b3 : Below wr.heap.size wr w2 := (Below.refl _ wr).drew.trans b2
        have b4 := hbel.trans (b3.mono hbel.size)
        have hz2 : w.heap.size + 1 < w2.heap.size := by have := b3.size; omega
        have HX2 := Lib.hid (show w2.cell? ⟨w.heap.size, 2, none⟩ = _ ∧ w2.cell? ⟨w.heap.size + 1, 2, none⟩ = _ from ⟨(b3.cell (p := ⟨w.heap.size, 2, none⟩) (show w.heap.size < _ by omega)).trans x1, (b3.cell (p := ⟨w.heap.size + 1, 2, none⟩) (show w.heap.size + 1 < _ by omega)).trans x2⟩)
        clear b2 b3 c0 c1 c2 d0 d1 d2 x1 x2
        cases hs : sameT a b
        · have hres := Lib.hid (allW_no Ha.out Hb.out hs)
          clear hs
          go_wp2
          go_ret
          exact ⟨ret_bool (by rw [hres.out]; simp), b4⟩
        · have HK2 := Lib.hid (allW_step HK.out Ha.out Hb.out hs)
          clear hs
          go_wp2
          go_roundw
          case rel => exact ⟨k + 1, by omega, by go_num, b4, hz2, HX2, HK2⟩
          case measure => simp [intOf]; omega
      · obtain rfl : k = n := by omega
        have hres := Lib.hid (Hyes.out fun j x y hx hy => HK.out j x y (by rw [Hx.out]; exact (List.getElem?_eq_some_iff.1 hx).1) hx hy)
        go_wp2
        go_ret
        exact ⟨ret_bool (by rw [hres.out, toList_same E2.out]; simp [E1.out]), hbel⟩
  · have e1 : ((xs.length : Int) != (ys.length : Int)) = true := by rw [bne_iff_ne]; omega
    rw [allW_len hn]
    clear hn
    go_enter Try.func23, Try.ntmps23
    go_wp2
    all_goals (go_ret; exact ⟨ret_bool (by simp [sameW_toList, *]), box2 _ _ _⟩)
theorem refT_calls (B : Nat) (a : PT) : RefTAt B a :=
  PT.rec (motive_1 := RefTAt B) (motive_2 := fun l => ∀ x, x ∈ l → RefTAt B x) (fun k n xs H => refT_step B k n xs H)
    (fun x h => by cases h) (fun a l ha hl x h => by cases h with | head => exact ha | tail _ h => exact hl x h) a
end Go.Proofs.Ytabncmmadbjegaa
