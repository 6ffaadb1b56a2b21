/- The document's own answer, sameness: RefF (made by gen_ref.py). -/
import Derived.Test.YtabncmmadbjegaaTreeRefT
namespace Go.Proofs.Ytabncmmadbjegaa
open Go.RowKit
set_option linter.unusedVariables false

set_option maxRecDepth 100000 in
set_option maxHeartbeats 2000000 in
theorem refFs_calls (B : Nat) (xs ys : List PF) (b1 o1 b2 o2 : Nat) (v1 v2 : Value) (w : World) (hB : B ≤ w.heap.size)
    (s1 : SlV B v1 xs.length b1 o1) (r1 : PF.Row B w b1 o1 xs) (s2 : SlV B v2 ys.length b2 o2) (r2 : PF.Row B w b2 o2 ys) :
    Calls Try.prog 22 #[v1, v2] w fun e w' => e = .returned (.bool (allW sameF xs ys)) ∧ Below w.heap.size w w' := by
  obtain ⟨m1, ao1, cap1, rfl, h1⟩ := s1
  obtain ⟨m2, ao2, cap2, rfl, h2⟩ := s2
  unfold maxLen at m1 m2
  by_cases hn : xs.length = ys.length
  · have hyes := fun h => allW_yes (f := sameF) hn h
    obtain ⟨n, hx⟩ : ∃ n, n = xs.length := ⟨_, rfl⟩
    have hy : n = ys.length := hx.trans hn
    rw [← hx] at m1 h1 ⊢
    rw [← hy] at m2 h2 ⊢
    have Hyes := Lib.hid hyes
    have Hx := Lib.hid hx
    have Hy := Lib.hid hy
    have Hr := Lib.hid r1
    have Hs := Lib.hid r2
    have H1 := Lib.hid h1
    have H2 := Lib.hid h2
    clear hyes hn hx hy r1 r2 h1 h2
    go_enter Try.func22, Try.ntmps22
    go_wp2_with fail
    go_loopw [5] (fun i wr => ∃ k : Nat, k ≤ n ∧ i = .int .i64 k ∧ Below w.heap.size w wr ∧ Hid (∀ (j : Nat) x y, j < k → xs[j]? = some x → ys[j]? = some y → sameF x y = true))
      (fun i _ => n - (intOf i).toNat)
    case atStart => exact ⟨0, by omega, rfl, Below.refl _ _, Lib.hid fun j x y hj => by omega⟩
    case round =>
      obtain ⟨k, hk, rfl, hbel, HK⟩ := hrel
      have hsz := hbel.size
      have hbB := hbel.mono hB
      by_cases hlt : k < n
      · obtain ⟨a, ha, hin⟩ := get_at (l := xs) (k := k) (by rw [← Hx.out]; exact hlt)
        obtain ⟨b, hb, _⟩ := get_at (l := ys) (k := k) (by rw [← Hy.out]; exact hlt)
        obtain ⟨rfl, hb1⟩ := H1.out.resolve_left (by omega)
        obtain ⟨rfl, hb2⟩ := H2.out.resolve_left (by omega)
        obtain ⟨va, ca, ia⟩ := PF.Row.get (PF.Row.below hbB hb1 Hr.out) ha
        obtain ⟨vb, cb, ib⟩ := PF.Row.get (PF.Row.below hbB hb2 Hs.out) hb
        obtain ⟨pa0, na0, qa0, rfl⟩ := ia.shape
        obtain ⟨pb0, nb0, qb0, rfl⟩ := ib.shape
        have c0 : wr.cell? ⟨b1, o1 + k * 4, none⟩ = some (.string a.name) := ca 0 _ rfl
        have c1 : wr.cell? ⟨b1, o1 + k * 4 + 1, none⟩ = some (.int .u8 a.type.kind) := ca 1 _ rfl
        have c2 : wr.cell? ⟨b1, o1 + k * 4 + 2, none⟩ = some (.string a.type.name) := ca 2 _ rfl
        have c3 : wr.cell? ⟨b1, o1 + k * 4 + 3, none⟩ = some (.slice pa0 na0 qa0) := ca 3 _ rfl
        have d0 : wr.cell? ⟨b2, o2 + k * 4, none⟩ = some (.string b.name) := cb 0 _ rfl
        have d1 : wr.cell? ⟨b2, o2 + k * 4 + 1, none⟩ = some (.int .u8 b.type.kind) := cb 1 _ rfl
        have d2 : wr.cell? ⟨b2, o2 + k * 4 + 2, none⟩ = some (.string b.type.name) := cb 2 _ rfl
        have d3 : wr.cell? ⟨b2, o2 + k * 4 + 3, none⟩ = some (.slice pb0 nb0 qb0) := cb 3 _ rfl
        have C := Lib.hid (refT_calls B a.type b.type (.slice pa0 na0 qa0) (.slice pb0 nb0 qb0) wr.drew (show B ≤ wr.heap.size by omega) (PT.In.below (Below.refl B wr).drew ia.2) (PT.In.below (Below.refl B wr).drew ib.2))
        have Ha := Lib.hid ha
        have Hb := Lib.hid hb
        have hk1 : (k : Int) < (n : Int) := by omega
        have hk0 : 0 ≤ (k : Int) := by omega
        clear ha hb ca cb ia ib hin
        by_cases e0 : a.name.toList = b.name.toList
        · have e2 : (!a.name.toList == b.name.toList) = false := by rw [e0]; simp
          have E0 := Lib.hid e0
          clear e0
          go_wp2_with fail
          go_still_tail 22, (by kernel_rfl)
          go_wp2_with fail
          refine C.out.mono ?_
          rintro e w2 ⟨rfl, b2⟩
          have b3 : Below wr.heap.size wr w2 := (Below.refl _ wr).drew.trans b2
          have b4 := hbel.trans (b3.mono hbel.size)
          have hs : sameF a b = sameT a.type b.type := by rw [sameF_mk, toList_same E0.out]; rfl
          clear b2 b3 c0 d0 c1 d1 c2 d2 c3 d3
          cases ht : sameT a.type b.type
          · have hres := Lib.hid (allW_no Ha.out Hb.out (hs.trans ht))
            clear hs ht e2
            go_wp2
            go_ret
            exact ⟨ret_bool hres.out.symm, b4⟩
          · have HK2 := Lib.hid (allW_step HK.out Ha.out Hb.out (hs.trans ht))
            clear hs ht e2
            go_wp2
            go_roundw
            case rel => exact ⟨k + 1, by omega, by go_num, b4, HK2⟩
            case measure => simp [intOf]; omega
        · have e2 : (!a.name.toList == b.name.toList) = true := by rw [Bool.not_eq_true', beq_eq_false_iff_ne]; exact e0
          have hres := Lib.hid (allW_no Ha.out Hb.out (f := sameF) (by rw [sameF_mk, toList_diff e0]; rfl))
          go_wp2_with fail
          go_quiet (fail)
          go_wp2
          go_ret
          exact ⟨ret_bool hres.out.symm, hbel.trans (below_drewN _ _ |>.mono (hbel.size))⟩
      · obtain rfl : k = n := by omega
        have hres := Lib.hid (Hyes.out fun j x y hx hy => HK.out j x y (by rw [Hx.out]; exact (List.getElem?_eq_some_iff.1 hx).1) hx hy)
        go_wp2
        go_ret
        exact ⟨ret_bool hres.out.symm, hbel⟩
  · have e1 : ((xs.length : Int) != (ys.length : Int)) = true := by rw [bne_iff_ne]; omega
    rw [allW_len hn]
    clear hn
    go_enter Try.func22, Try.ntmps22
    go_wp2
    go_ret
    exact ⟨rfl, Below.refl _ _⟩
end Go.Proofs.Ytabncmmadbjegaa
