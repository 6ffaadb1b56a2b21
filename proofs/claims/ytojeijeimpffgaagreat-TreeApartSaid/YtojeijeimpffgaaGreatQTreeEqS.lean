/- Contracts of package tree: slices.EqualFunc at its sort S (made by gen_same.py). -/
import Derived.Test.YtojeijeimpffgaaGreatQJoinC
import Derived.Deep.Cut
namespace Go.Proofs.YtojeijeimpffgaaGreat
open Go.RowKit
set_option linter.unusedVariables false

/-- the contract of sameStmt at a first one -/
def SameSAt (B : Nat) (a : PS) : Prop := ∀ (b : PS) (va vb) (w : World), B ≤ w.heap.size → a.In B w va → b.In B w vb →
  Calls Tryz.prog 85 #[.agg (a.cells va).toArray, .agg (b.cells vb).toArray] w fun e w' => e = .returned (.bool (sameS false a b)) ∧ Below w.heap.size w w'
theorem sameStmt_enters : ∀ args w, (callFunc 85 args).run Tryz.prog w = .ok (.enter 85 args) w := enters_of Tryz.func85 (by kernel_rfl) rfl

set_option maxRecDepth 100000 in
set_option maxHeartbeats 2000000 in
theorem equalS_calls (B : Nat) (xs ys : List PS) (H : Hid (∀ a, a ∈ xs → SameSAt B a)) (b1 o1 b2 o2 : Nat) (v1 v2 : Value) (w : World) (hB : B ≤ w.heap.size)
    (s1 : SlV B v1 xs.length b1 o1) (r1 : PS.Row B w b1 o1 xs) (s2 : SlV B v2 ys.length b2 o2) (r2 : PS.Row B w b2 o2 ys) :
    Calls Tryz.prog 84 #[v1, v2, .func (.func 85) #[] #[]] w fun e w' => e = .returned (.bool (sameSs false xs ys)) ∧ Below w.heap.size w w' := by
  rw [sameSs_all false]
  obtain ⟨m1, ao1, cap1, rfl, h1⟩ := s1
  obtain ⟨m2, ao2, cap2, rfl, h2⟩ := s2
  unfold maxLen at m1 m2
  by_cases hn : xs.length = ys.length
  · have hyes := fun h => allW_yes (f := sameS false) hn h
    obtain ⟨n, hx⟩ : ∃ n, n = xs.length := ⟨_, rfl⟩
    have hy : n = ys.length := hx.trans hn
    rw [← hx] at m1 h1 ⊢
    rw [← hy] at m2 h2 ⊢
    have Hyes := Lib.hid hyes
    have Hx := Lib.hid hx
    have Hy := Lib.hid hy
    have Hr := Lib.hid r1
    have Hs := Lib.hid r2
    have H1 := Lib.hid h1
    have H2 := Lib.hid h2
    clear hyes hn hx hy r1 r2 h1 h2
    have hE := sameStmt_enters
    go_enter Tryz.func84, Tryz.ntmps84
    go_wp2_with fail
    go_loopw [17] (fun i wr => ∃ k : Nat, k ≤ n ∧ i = .int .i64 k ∧ Below w.heap.size w wr ∧ Hid (∀ (j : Nat) x y, j < k → xs[j]? = some x → ys[j]? = some y → sameS false x y = true))
      (fun i _ => n - (intOf i).toNat)
    case atStart => exact ⟨0, by omega, rfl, Below.refl _ _, Lib.hid fun j x y hj => by omega⟩
    case round =>
      obtain ⟨k, hk, rfl, hbel, HK⟩ := hrel
      have hsz := hbel.size
      have hbB := hbel.mono hB
      by_cases hlt : k < n
      · obtain ⟨a, ha, hin⟩ := get_at (l := xs) (k := k) (by rw [← Hx.out]; exact hlt)
        obtain ⟨b, hb, _⟩ := get_at (l := ys) (k := k) (by rw [← Hy.out]; exact hlt)
        obtain ⟨rfl, hb1⟩ := H1.out.resolve_left (by omega)
        obtain ⟨rfl, hb2⟩ := H2.out.resolve_left (by omega)
        obtain ⟨va, ca, ia⟩ := PS.Row.get (PS.Row.below hbB (fun _ => hb1) Hr.out) ha
        obtain ⟨vb, cb, ib⟩ := PS.Row.get (PS.Row.below hbB (fun _ => hb2) Hs.out) hb
        have g1 : b1 < wr.heap.size := by omega
        have g2 : b2 < wr.heap.size := by omega
        obtain ⟨pa0, na0, qa0, pa1, na1, qa1, pa2, na2, qa2, pa3, na3, qa3, pa4, na4, qa4, pa5, na5, qa5, pa6, na6, qa6, rfl⟩ := ia.shape
        obtain ⟨pb0, nb0, qb0, pb1, nb1, qb1, pb2, nb2, qb2, pb3, nb3, qb3, pb4, nb4, qb4, pb5, nb5, qb5, pb6, nb6, qb6, rfl⟩ := ib.shape
        obtain ⟨opa, nma, sca, nsa, tya, iva, pla, esa, boa, ela, ara, ata⟩ := a
        obtain ⟨opb, nmb, scb, nsb, tyb, ivb, plb, esb, bob, elb, arb, atb⟩ := b
        have c0 : wr.cell? ⟨b1, o1 + k * 15, none⟩ = some (.int .u8 opa) := ca 0 _ rfl
        have c1 : wr.cell? ⟨b1, o1 + k * 15 + 1, none⟩ = some (.string nma) := ca 1 _ rfl
        have c2 : wr.cell? ⟨b1, o1 + k * 15 + 2, none⟩ = some (.string sca) := ca 2 _ rfl
        have c3 : wr.cell? ⟨b1, o1 + k * 15 + 3, none⟩ = some (.slice pa0 na0 qa0) := ca 3 _ rfl
        have c4 : wr.cell? ⟨b1, o1 + k * 15 + 4, none⟩ = some (.int .u8 tya.kind) := ca 4 _ rfl
        have c5 : wr.cell? ⟨b1, o1 + k * 15 + 5, none⟩ = some (.string tya.name) := ca 5 _ rfl
        have c6 : wr.cell? ⟨b1, o1 + k * 15 + 6, none⟩ = some (.slice pa1 na1 qa1) := ca 6 _ rfl
        have c7 : wr.cell? ⟨b1, o1 + k * 15 + 7, none⟩ = some (.int .i64 iva) := ca 7 _ rfl
        have c8 : wr.cell? ⟨b1, o1 + k * 15 + 8, none⟩ = some (.string pla.name) := ca 8 _ rfl
        have c9 : wr.cell? ⟨b1, o1 + k * 15 + 9, none⟩ = some (.slice pa2 na2 qa2) := ca 9 _ rfl
        have c10 : wr.cell? ⟨b1, o1 + k * 15 + 10, none⟩ = some (.slice pa3 na3 qa3) := ca 10 _ rfl
        have c11 : wr.cell? ⟨b1, o1 + k * 15 + 11, none⟩ = some (.slice pa4 na4 qa4) := ca 11 _ rfl
        have c12 : wr.cell? ⟨b1, o1 + k * 15 + 12, none⟩ = some (.slice pa5 na5 qa5) := ca 12 _ rfl
        have c13 : wr.cell? ⟨b1, o1 + k * 15 + 13, none⟩ = some (.slice pa6 na6 qa6) := ca 13 _ rfl
        have c14 : wr.cell? ⟨b1, o1 + k * 15 + 14, none⟩ = some (.int .i64 ata) := ca 14 _ rfl
        have d0 : wr.cell? ⟨b2, o2 + k * 15, none⟩ = some (.int .u8 opb) := cb 0 _ rfl
        have d1 : wr.cell? ⟨b2, o2 + k * 15 + 1, none⟩ = some (.string nmb) := cb 1 _ rfl
        have d2 : wr.cell? ⟨b2, o2 + k * 15 + 2, none⟩ = some (.string scb) := cb 2 _ rfl
        have d3 : wr.cell? ⟨b2, o2 + k * 15 + 3, none⟩ = some (.slice pb0 nb0 qb0) := cb 3 _ rfl
        have d4 : wr.cell? ⟨b2, o2 + k * 15 + 4, none⟩ = some (.int .u8 tyb.kind) := cb 4 _ rfl
        have d5 : wr.cell? ⟨b2, o2 + k * 15 + 5, none⟩ = some (.string tyb.name) := cb 5 _ rfl
        have d6 : wr.cell? ⟨b2, o2 + k * 15 + 6, none⟩ = some (.slice pb1 nb1 qb1) := cb 6 _ rfl
        have d7 : wr.cell? ⟨b2, o2 + k * 15 + 7, none⟩ = some (.int .i64 ivb) := cb 7 _ rfl
        have d8 : wr.cell? ⟨b2, o2 + k * 15 + 8, none⟩ = some (.string plb.name) := cb 8 _ rfl
        have d9 : wr.cell? ⟨b2, o2 + k * 15 + 9, none⟩ = some (.slice pb2 nb2 qb2) := cb 9 _ rfl
        have d10 : wr.cell? ⟨b2, o2 + k * 15 + 10, none⟩ = some (.slice pb3 nb3 qb3) := cb 10 _ rfl
        have d11 : wr.cell? ⟨b2, o2 + k * 15 + 11, none⟩ = some (.slice pb4 nb4 qb4) := cb 11 _ rfl
        have d12 : wr.cell? ⟨b2, o2 + k * 15 + 12, none⟩ = some (.slice pb5 nb5 qb5) := cb 12 _ rfl
        have d13 : wr.cell? ⟨b2, o2 + k * 15 + 13, none⟩ = some (.slice pb6 nb6 qb6) := cb 13 _ rfl
        have d14 : wr.cell? ⟨b2, o2 + k * 15 + 14, none⟩ = some (.int .i64 atb) := cb 14 _ rfl
        have C : Hid (∀ w', B ≤ w'.heap.size → PS.In B w' (.mk opa nma sca nsa tya iva pla esa boa ela ara ata) ⟨.slice pa0 na0 qa0, .slice pa1 na1 qa1, .slice pa2 na2 qa2, .slice pa3 na3 qa3, .slice pa4 na4 qa4, .slice pa5 na5 qa5, .slice pa6 na6 qa6⟩ → PS.In B w' (.mk opb nmb scb nsb tyb ivb plb esb bob elb arb atb) ⟨.slice pb0 nb0 qb0, .slice pb1 nb1 qb1, .slice pb2 nb2 qb2, .slice pb3 nb3 qb3, .slice pb4 nb4 qb4, .slice pb5 nb5 qb5, .slice pb6 nb6 qb6⟩ → Calls Tryz.prog 85 #[.agg #[.int .u8 opa, .string nma, .string sca, .slice pa0 na0 qa0, .int .u8 tya.kind, .string tya.name, .slice pa1 na1 qa1, .int .i64 iva, .string pla.name, .slice pa2 na2 qa2, .slice pa3 na3 qa3, .slice pa4 na4 qa4, .slice pa5 na5 qa5, .slice pa6 na6 qa6, .int .i64 ata], .agg #[.int .u8 opb, .string nmb, .string scb, .slice pb0 nb0 qb0, .int .u8 tyb.kind, .string tyb.name, .slice pb1 nb1 qb1, .int .i64 ivb, .string plb.name, .slice pb2 nb2 qb2, .slice pb3 nb3 qb3, .slice pb4 nb4 qb4, .slice pb5 nb5 qb5, .slice pb6 nb6 qb6, .int .i64 atb]] w' fun e w'' => e = .returned (.bool (sameS false (.mk opa nma sca nsa tya iva pla esa boa ela ara ata) (.mk opb nmb scb nsb tyb ivb plb esb bob elb arb atb))) ∧ Below w'.heap.size w' w'') := Lib.hid (H.out _ hin _ _ _)
        have Ia := Lib.hid ia
        have Ib := Lib.hid ib
        have Ha := Lib.hid ha
        have Hb := Lib.hid hb
        clear ha hb ia ib ca cb hin
        go_upto_region 6 with (fail)
        as_aux_lemma =>
          go_upto_region 7 with (fail)
          as_aux_lemma =>
            go_wp2_with fail
            refine (C.out _ (by simp; omega) (Ia.out.below (box2B _ (by omega) _ _)) (Ib.out.below (box2B _ (by omega) _ _))).mono ?_
            rintro e w2 ⟨rfl, b2⟩
            have b3 := ((hbel.alloc (by omega) _).alloc (by simp; omega) _).trans (b2.mono (by simp; omega))
            clear b2 c0 d0 c1 d1 c2 d2 c3 d3 c4 d4 c5 d5 c6 d6 c7 d7 c8 d8 c9 d9 c10 d10 c11 d11 c12 d12 c13 d13 c14 d14
            cases hs : sameS false (.mk opa nma sca nsa tya iva pla esa boa ela ara ata) (.mk opb nmb scb nsb tyb ivb plb esb bob elb arb atb)
            · have hres := Lib.hid (allW_no Ha.out Hb.out hs)
              clear hs
              go_wp2
              go_ret
              exact ⟨ret_bool hres.out.symm, b3⟩
            · have HK2 := Lib.hid (allW_step HK.out Ha.out Hb.out hs)
              clear hs
              go_wp2
              go_roundw
              case rel => exact ⟨k + 1, by omega, by go_num, b3, HK2⟩
              case measure => simp [intOf]; omega
      · obtain rfl : k = n := by omega
        have hres := Lib.hid (Hyes.out fun j x y hx hy => HK.out j x y (by rw [Hx.out]; exact (List.getElem?_eq_some_iff.1 hx).1) hx hy)
        go_wp2
        go_ret
        exact ⟨ret_bool hres.out.symm, hbel⟩
  · have e1 : ((xs.length : Int) != (ys.length : Int)) = true := by rw [bne_iff_ne]; omega
    rw [allW_len hn]
    clear hn
    go_enter Tryz.func84, Tryz.ntmps84
    go_wp2
    go_ret
    exact ⟨rfl, Below.refl _ _⟩
end Go.Proofs.YtojeijeimpffgaaGreat
