/- Contracts of package tree: slices.EqualFunc at its sort A (made by gen_same.py). -/
import Derived.Test.YtojeijeimpffgaaGreatQJoinC
import Derived.Deep.Cut
namespace Go.Proofs.YtojeijeimpffgaaGreat
open Go.RowKit
set_option linter.unusedVariables false

/-- the contract of sameArm at a first one -/
def SameAAt (B : Nat) (a : PA) : Prop := ∀ (b : PA) (va vb) (w : World), B ≤ w.heap.size → a.In B w va → b.In B w vb →
  Calls Tryz.prog 103 #[.agg (a.cells va).toArray, .agg (b.cells vb).toArray] w fun e w' => e = .returned (.bool (sameA false a b)) ∧ Below w.heap.size w w'
theorem sameArm_enters : ∀ args w, (callFunc 103 args).run Tryz.prog w = .ok (.enter 103 args) w := enters_of Tryz.func103 (by kernel_rfl) rfl

set_option maxHeartbeats 2000000 in
theorem equalA_calls (B : Nat) (xs ys : List PA) (H : Hid (∀ a, a ∈ xs → SameAAt B a)) (b1 o1 b2 o2 : Nat) (v1 v2 : Value) (w : World) (hB : B ≤ w.heap.size)
    (s1 : SlV B v1 xs.length b1 o1) (r1 : PA.Row B w b1 o1 xs) (s2 : SlV B v2 ys.length b2 o2) (r2 : PA.Row B w b2 o2 ys) :
    Calls Tryz.prog 102 #[v1, v2, .func (.func 103) #[] #[]] w fun e w' => e = .returned (.bool (sameAs false xs ys)) ∧ Below w.heap.size w w' := by
  rw [sameAs_all false]
  obtain ⟨m1, ao1, cap1, rfl, h1⟩ := s1
  obtain ⟨m2, ao2, cap2, rfl, h2⟩ := s2
  unfold maxLen at m1 m2
  by_cases hn : xs.length = ys.length
  · have hyes := fun h => allW_yes (f := sameA false) hn h
    obtain ⟨n, hx⟩ : ∃ n, n = xs.length := ⟨_, rfl⟩
    have hy : n = ys.length := hx.trans hn
    rw [← hx] at m1 h1 ⊢
    rw [← hy] at m2 h2 ⊢
    have Hyes := Lib.hid hyes
    have Hx := Lib.hid hx
    have Hy := Lib.hid hy
    have Hr := Lib.hid r1
    have Hs := Lib.hid r2
    have H1 := Lib.hid h1
    have H2 := Lib.hid h2
    clear hyes hn hx hy r1 r2 h1 h2
    have hE := sameArm_enters
    go_enter Tryz.func102, Tryz.ntmps102
    go_wp2_with fail
    go_loopw [17] (fun i wr => ∃ k : Nat, k ≤ n ∧ i = .int .i64 k ∧ Below w.heap.size w wr ∧ Hid (∀ (j : Nat) x y, j < k → xs[j]? = some x → ys[j]? = some y → sameA false x y = true))
      (fun i _ => n - (intOf i).toNat)
    case atStart => exact ⟨0, by omega, rfl, Below.refl _ _, Lib.hid fun j x y hj => by omega⟩
    case round =>
      obtain ⟨k, hk, rfl, hbel, HK⟩ := hrel
      have hsz := hbel.size
      have hbB := hbel.mono hB
      by_cases hlt : k < n
      · obtain ⟨a, ha, hin⟩ := get_at (l := xs) (k := k) (by rw [← Hx.out]; exact hlt)
        obtain ⟨b, hb, _⟩ := get_at (l := ys) (k := k) (by rw [← Hy.out]; exact hlt)
        obtain ⟨rfl, hb1⟩ := H1.out.resolve_left (by omega)
        obtain ⟨rfl, hb2⟩ := H2.out.resolve_left (by omega)
        obtain ⟨va, ca, ia⟩ := PA.Row.get (PA.Row.below hbB (fun _ => hb1) Hr.out) ha
        obtain ⟨vb, cb, ib⟩ := PA.Row.get (PA.Row.below hbB (fun _ => hb2) Hs.out) hb
        have g1 : b1 < wr.heap.size := by omega
        have g2 : b2 < wr.heap.size := by omega
        obtain ⟨pa0, na0, qa0, rfl⟩ := ia.shape
        obtain ⟨pb0, nb0, qb0, rfl⟩ := ib.shape
        obtain ⟨vaa, nma, boa⟩ := a
        obtain ⟨vab, nmb, bob⟩ := b
        have c0 : wr.cell? ⟨b1, o1 + k * 3, none⟩ = some (.string vaa) := ca 0 _ rfl
        have c1 : wr.cell? ⟨b1, o1 + k * 3 + 1, none⟩ = some (.string nma) := ca 1 _ rfl
        have c2 : wr.cell? ⟨b1, o1 + k * 3 + 2, none⟩ = some (.slice pa0 na0 qa0) := ca 2 _ rfl
        have d0 : wr.cell? ⟨b2, o2 + k * 3, none⟩ = some (.string vab) := cb 0 _ rfl
        have d1 : wr.cell? ⟨b2, o2 + k * 3 + 1, none⟩ = some (.string nmb) := cb 1 _ rfl
        have d2 : wr.cell? ⟨b2, o2 + k * 3 + 2, none⟩ = some (.slice pb0 nb0 qb0) := cb 2 _ rfl
        have C : Hid (∀ w', B ≤ w'.heap.size → PA.In B w' (.mk vaa nma boa) (.slice pa0 na0 qa0) → PA.In B w' (.mk vab nmb bob) (.slice pb0 nb0 qb0) → Calls Tryz.prog 103 #[.agg #[.string vaa, .string nma, .slice pa0 na0 qa0], .agg #[.string vab, .string nmb, .slice pb0 nb0 qb0]] w' fun e w'' => e = .returned (.bool (sameA false (.mk vaa nma boa) (.mk vab nmb bob))) ∧ Below w'.heap.size w' w'') := Lib.hid (H.out _ hin _ _ _)
        have Ia := Lib.hid ia
        have Ib := Lib.hid ib
        have Ha := Lib.hid ha
        have Hb := Lib.hid hb
        clear ha hb ia ib ca cb hin
        go_wp2_with fail
        refine (C.out _ (by simp; omega) (Ia.out.below (box2B _ (by omega) _ _)) (Ib.out.below (box2B _ (by omega) _ _))).mono ?_
        rintro e w2 ⟨rfl, b2⟩
        have b3 := ((hbel.alloc (by omega) _).alloc (by simp; omega) _).trans (b2.mono (by simp; omega))
        clear b2 c0 d0 c1 d1 c2 d2
        cases hs : sameA false (.mk vaa nma boa) (.mk vab nmb bob)
        · have hres := Lib.hid (allW_no Ha.out Hb.out hs)
          clear hs
          go_wp2
          go_ret
          exact ⟨ret_bool hres.out.symm, b3⟩
        · have HK2 := Lib.hid (allW_step HK.out Ha.out Hb.out hs)
          clear hs
          go_wp2
          go_roundw
          case rel => exact ⟨k + 1, by omega, by go_num, b3, HK2⟩
          case measure => simp [intOf]; omega
      · obtain rfl : k = n := by omega
        have hres := Lib.hid (Hyes.out fun j x y hx hy => HK.out j x y (by rw [Hx.out]; exact (List.getElem?_eq_some_iff.1 hx).1) hx hy)
        go_wp2
        go_ret
        exact ⟨ret_bool hres.out.symm, hbel⟩
  · have e1 : ((xs.length : Int) != (ys.length : Int)) = true := by rw [bne_iff_ne]; omega
    rw [allW_len hn]
    clear hn
    go_enter Tryz.func102, Tryz.ntmps102
    go_wp2
    go_ret
    exact ⟨rfl, Below.refl _ _⟩
end Go.Proofs.YtojeijeimpffgaaGreat
