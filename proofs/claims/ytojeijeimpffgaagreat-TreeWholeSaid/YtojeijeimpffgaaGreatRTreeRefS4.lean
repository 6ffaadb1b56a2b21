/- The document's own way of saying what is whole: lists of statements, all statements. -/
import Derived.Test.YtojeijeimpffgaaGreatRTreeRefS3
namespace Go.Proofs.YtojeijeimpffgaaGreat
open Go.RowKit
set_option linter.unusedVariables false

set_option maxRecDepth 100000 in
set_option maxHeartbeats 2000000 in
theorem refWL_of (n : Nat) (hn1 : n ≤ 1000) (ihS : RefWSAt n) : RefWLAt n := by
  intro B l v b o w hB hs1 rw1
  obtain ⟨hn, ao, cap, rfl, k1⟩ := hs1
  unfold maxLen at hn
  obtain ⟨N, hx⟩ : ∃ N, N = l.length := ⟨_, rfl⟩
  rw [← hx] at hn k1 ⊢
  have Hx := Lib.hid hx
  have Hr := Lib.hid rw1
  have H1 := Lib.hid k1
  obtain ⟨d, hd⟩ : ∃ d : Int, d = (n : Int) := ⟨_, rfl⟩
  rw [← hd]
  have HD := Lib.hid hd
  clear hx rw1 k1 hd
  go_enter Tryz.func60, Tryz.ntmps60
  go_wp2_with fail
  go_loopw [5] (fun i wr => ∃ k : Nat, k ≤ N ∧ i = .int .i64 k ∧ Hid (Below w.heap.size w wr) ∧ Hid (∀ (j : Nat) x, j < k → l[j]? = some x → rS n x = true))
    (fun i _ => N - (intOf i).toNat)
  case atStart => exact ⟨0, by omega, rfl, Lib.hid (Below.refl _ w), Lib.hid fun j x hj => by omega⟩
  case round =>
    obtain ⟨k, hk, rfl, Hw, HK⟩ := hrel
    have hsz := Hw.out.size
    by_cases hlt : k < N
    · obtain ⟨a, ha, hin⟩ := get_at (l := l) (k := k) (by rw [← Hx.out]; exact hlt)
      obtain ⟨rfl, hb⟩ := H1.out.resolve_left (by omega)
      have hg : b < wr.heap.size := by omega
      obtain ⟨va, ca, ia⟩ := PS.Row.get (PS.Row.below (Hw.out.mono hB) (fun _ => hb) Hr.out) ha
      obtain ⟨pa0, na0, qa0, pa1, na1, qa1, pa2, na2, qa2, pa3, na3, qa3, pa4, na4, qa4, pa5, na5, qa5, pa6, na6, qa6, rfl⟩ := ia.shape
      obtain ⟨op, nm, sc, ns, ty, iv, pl, es, bo, el, ar, ps⟩ := a
      have c0 : wr.cell? ⟨b, o + k * 15, none⟩ = some (.int .u8 op) := ca 0 _ rfl
      have c1 : wr.cell? ⟨b, o + k * 15 + 1, none⟩ = some (.string nm) := ca 1 _ rfl
      have c2 : wr.cell? ⟨b, o + k * 15 + 2, none⟩ = some (.string sc) := ca 2 _ rfl
      have c3 : wr.cell? ⟨b, o + k * 15 + 3, none⟩ = some (.slice pa0 na0 qa0) := ca 3 _ rfl
      have c4 : wr.cell? ⟨b, o + k * 15 + 4, none⟩ = some (.int .u8 ty.kind) := ca 4 _ rfl
      have c5 : wr.cell? ⟨b, o + k * 15 + 5, none⟩ = some (.string ty.name) := ca 5 _ rfl
      have c6 : wr.cell? ⟨b, o + k * 15 + 6, none⟩ = some (.slice pa1 na1 qa1) := ca 6 _ rfl
      have c7 : wr.cell? ⟨b, o + k * 15 + 7, none⟩ = some (.int .i64 iv) := ca 7 _ rfl
      have c8 : wr.cell? ⟨b, o + k * 15 + 8, none⟩ = some (.string pl.name) := ca 8 _ rfl
      have c9 : wr.cell? ⟨b, o + k * 15 + 9, none⟩ = some (.slice pa2 na2 qa2) := ca 9 _ rfl
      have c10 : wr.cell? ⟨b, o + k * 15 + 10, none⟩ = some (.slice pa3 na3 qa3) := ca 10 _ rfl
      have c11 : wr.cell? ⟨b, o + k * 15 + 11, none⟩ = some (.slice pa4 na4 qa4) := ca 11 _ rfl
      have c12 : wr.cell? ⟨b, o + k * 15 + 12, none⟩ = some (.slice pa5 na5 qa5) := ca 12 _ rfl
      have c13 : wr.cell? ⟨b, o + k * 15 + 13, none⟩ = some (.slice pa6 na6 qa6) := ca 13 _ rfl
      have c14 : wr.cell? ⟨b, o + k * 15 + 14, none⟩ = some (.int .i64 ps) := ca 14 _ rfl
      have C : Hid (Calls Tryz.prog 93 #[.agg #[.int .u8 op, .string nm, .string sc, .slice pa0 na0 qa0, .int .u8 ty.kind, .string ty.name, .slice pa1 na1 qa1, .int .i64 iv, .string pl.name, .slice pa2 na2 qa2, .slice pa3 na3 qa3, .slice pa4 na4 qa4, .slice pa5 na5 qa5, .slice pa6 na6 qa6, .int .i64 ps], .int .i64 d] wr fun r w' => r = .returned (.bool (rS n (.mk op nm sc ns ty iv pl es bo el ar ps))) ∧ Below wr.heap.size wr w') := Lib.hid (by
        have := ihS B (.mk op nm sc ns ty iv pl es bo el ar ps) _ wr (by omega) ia
        rw [← HD.out] at this
        exact this)
      have Ha := Lib.hid ha
      generalize hq : rS n (.mk op nm sc ns ty iv pl es bo el ar ps) = q at C
      have Hq := Lib.hid hq
      clear ha hin ca ia hq
      go_wp2_with fail
      refine C.out.mono ?_; rintro e w2 ⟨rfl, b2⟩
      have B2 := Lib.hid (Hw.out.trans (b2.mono (by omega)))
      clear b2 C c0 c1 c2 c3 c4 c5 c6 c7 c8 c9 c10 c11 c12 c13 c14
      cases q
      · have hres := Lib.hid (all_not2 (p := rS n) Ha.out Hq.out)
        go_wp2_with fail
        go_ret
        exact ⟨ret_bool (by rw [hres.out]), B2.out⟩
      · have HK2 : Hid (∀ (j : Nat) x, j < k + 1 → l[j]? = some x → rS n x = true) := Lib.hid fun j x hj hx => by
          by_cases e : j = k
          · subst e
            rw [Ha.out] at hx
            cases hx
            exact Hq.out
          · exact HK.out j x (by omega) hx
        go_wp2_with fail
        go_roundw
        case rel => exact ⟨k + 1, by omega, by go_num, B2, HK2⟩
        case measure => simp [intOf]; omega
    · obtain rfl : k = N := by omega
      have hres := Lib.hid (all_yes2 (p := rS n) (l := l) fun j x hx => HK.out j x (by rw [Hx.out]; exact (List.getElem?_eq_some_iff.1 hx).1) hx)
      go_wp2_with fail
      go_ret
      exact ⟨ret_bool (by rw [hres.out]), Hw.out⟩
set_option maxRecDepth 100000 in
set_option maxHeartbeats 2000000 in
theorem stmt_low (op iv : Int) (nm sc : ByteArray) (ty : PT) (pl : PP) (ps : Int) (pa0 : Option Addr) (na0 qa0 : Nat) (pa1 : Option Addr) (na1 qa1 : Nat) (pa2 : Option Addr) (na2 qa2 : Nat) (pa3 : Option Addr) (na3 qa3 : Nat) (pa4 : Option Addr) (na4 qa4 : Nat) (pa5 : Option Addr) (na5 qa5 : Nat) (pa6 : Option Addr) (na6 qa6 : Nat) (w : World) (s : ByteArray)
    (hform : Hid (∀ w, Calls Tryz.prog 106 #[.int .u8 op] w fun e w' => e = .returned (.string s) ∧ Below w.heap.size w w')) :
    Calls Tryz.prog 93 #[.agg #[.int .u8 op, .string nm, .string sc, .slice pa0 na0 qa0, .int .u8 ty.kind, .string ty.name, .slice pa1 na1 qa1, .int .i64 iv, .string pl.name, .slice pa2 na2 qa2, .slice pa3 na3 qa3, .slice pa4 na4 qa4, .slice pa5 na5 qa5, .slice pa6 na6 qa6, .int .i64 ps], .int .i64 0] w fun r w' => r = .returned (.bool false) ∧ Below w.heap.size w w' := by
  go_enter Tryz.func93, Tryz.ntmps93
  go_wp2_with fail
  refine (hform.out _).mono ?_; rintro e w1 ⟨rfl, b1⟩
  have bel1 := Lib.hid (up_tr (box1 _ _) b1)
  clear b1
  go_wp2_with fail
  go_ret
  exact ⟨rfl, bel1.out⟩
set_option maxRecDepth 100000 in
set_option maxHeartbeats 2000000 in
theorem stmt_none (m : Nat) (op iv : Int) (nm sc : ByteArray) (ty : PT) (pl : PP) (ps : Int) (pa0 : Option Addr) (na0 qa0 : Nat) (pa1 : Option Addr) (na1 qa1 : Nat) (pa2 : Option Addr) (na2 qa2 : Nat) (pa3 : Option Addr) (na3 qa3 : Nat) (pa4 : Option Addr) (na4 qa4 : Nat) (pa5 : Option Addr) (na5 qa5 : Nat) (pa6 : Option Addr) (na6 qa6 : Nat) (w : World)
    (hform : Hid (∀ w, Calls Tryz.prog 106 #[.int .u8 op] w fun e w' => e = .returned (.string ⟨#[]⟩) ∧ Below w.heap.size w w')) :
    Calls Tryz.prog 93 #[.agg #[.int .u8 op, .string nm, .string sc, .slice pa0 na0 qa0, .int .u8 ty.kind, .string ty.name, .slice pa1 na1 qa1, .int .i64 iv, .string pl.name, .slice pa2 na2 qa2, .slice pa3 na3 qa3, .slice pa4 na4 qa4, .slice pa5 na5 qa5, .slice pa6 na6 qa6, .int .i64 ps], .int .i64 ((m : Int) + 1)] w fun r w' => r = .returned (.bool false) ∧ Below w.heap.size w w' := by
  have ec : ¬ ((m : Int) + 1 < 1) := by omega
  go_enter Tryz.func93, Tryz.ntmps93
  go_wp2_with fail
  refine (hform.out _).mono ?_; rintro e w1 ⟨rfl, b1⟩
  have bel1 := Lib.hid (up_tr (box1 _ _) b1)
  clear b1
  go_wp2_with fail
  go_ret
  exact ⟨rfl, bel1.out⟩
theorem sform_len (op : Int) : (sformL op).length ≤ 3 := by
  unfold sformL
  by_cases h : op.toNat < sformTab.length
  · rw [List.getD_eq_getElem?_getD, List.getElem?_eq_getElem h]
    exact (by decide : ∀ l, l ∈ sformTab → l.length ≤ 3) _ (List.getElem_mem h)
  · rw [List.getD_eq_getElem?_getD, List.getElem?_eq_none (by omega)]
    exact Nat.zero_le _
theorem refWS_zero : RefWSAt 0 := by
  intro B s v w hB hin
  obtain ⟨pa0, na0, qa0, pa1, na1, qa1, pa2, na2, qa2, pa3, na3, qa3, pa4, na4, qa4, pa5, na5, qa5, pa6, na6, qa6, rfl⟩ := hin.shape
  obtain ⟨op, nm, sc, ns, ty, iv, pl, es, bo, el, ar, ps⟩ := s
  have hk := u8_lt hin.1.1
  rw [rS]
  exact stmt_low op iv nm sc ty pl ps pa0 na0 qa0 pa1 na1 qa1 pa2 na2 qa2 pa3 na3 qa3 pa4 na4 qa4 pa5 na5 qa5 pa6 na6 qa6 w _ (Lib.hid fun w => refSForm_calls op hk w)
set_option maxRecDepth 100000 in
set_option maxHeartbeats 2000000 in
theorem refWS_succ (m : Nat) (hm : m ≤ 1000) (ihL : RefWLAt m) : RefWSAt (m + 1) := by
  intro B s v w hB hin
  obtain ⟨pa0, na0, qa0, pa1, na1, qa1, pa2, na2, qa2, pa3, na3, qa3, pa4, na4, qa4, pa5, na5, qa5, pa6, na6, qa6, rfl⟩ := hin.shape
  obtain ⟨op, nm, sc, ns, ty, iv, pl, es, bo, el, ar, ps⟩ := s
  have hk := u8_lt hin.1.1
  have hform : Hid (∀ w, Calls Tryz.prog 106 #[.int .u8 op] w fun e w' => e = .returned (.string (bs (sformL op))) ∧ Below w.heap.size w w') := Lib.hid fun w => refSForm_calls op hk w
  have ec : ((m + 1 : Nat) : Int) = (m : Int) + 1 := by omega
  show Calls Tryz.prog 93 #[.agg #[.int .u8 op, .string nm, .string sc, .slice pa0 na0 qa0, .int .u8 ty.kind, .string ty.name, .slice pa1 na1 qa1, .int .i64 iv, .string pl.name, .slice pa2 na2 qa2, .slice pa3 na3 qa3, .slice pa4 na4 qa4, .slice pa5 na5 qa5, .slice pa6 na6 qa6, .int .i64 ps], .int .i64 (m + 1 : Nat)] w _
  rw [ec]
  cases hf : sformL op with
  | nil =>
    have h0 : rS (m + 1) (.mk op nm sc ns ty iv pl es bo el ar ps) = false := by rw [rS, hf]; rfl
    rw [h0]
    rw [hf] at hform
    exact stmt_none m op iv nm sc ty pl ps pa0 na0 qa0 pa1 na1 qa1 pa2 na2 qa2 pa3 na3 qa3 pa4 na4 qa4 pa5 na5 qa5 pa6 na6 qa6 w hform
  | cons c cs =>
    have hne : (sformL op).isEmpty = false := by rw [hf]; rfl
    have hF : ((bs (sformL op)).toList == []) = false := by
      rw [ByteArray.toList_eq, hf]; rfl
    have hsz : (bs (sformL op)).size ≤ maxLen := by
      have := sform_len op
      unfold maxLen
      show (sformL op).toArray.size ≤ _
      simp; omega
    have h1 : rS (m + 1) (.mk op nm sc ns ty iv pl es bo el ar ps) = (labsF (bs (sformL op)) m nm sc ns ty iv pl && (listsB (hasB (bs (sformL op)) 66) (hasB (bs (sformL op)) 69) (hasB (bs (sformL op)) 65) (cntB (hasB (bs (sformL op)) 101) (hasB (bs (sformL op)) 108) (hasB (bs (sformL op)) 120) ns.length) es bo el ar &&
        (es.all (okArg (hasB (bs (sformL op)) 101) m) && (ar.all (okArm m) && (bo.all (rS m) && el.all (rS m)))))) := by
      rw [rS, hne]; rfl
    rw [h1]
    have HH : ∀ c w, Calls Tryz.prog 90 #[.string (bs (sformL op)), .int .u8 c] w fun e w' => e = .returned (.bool (hasB (bs (sformL op)) c)) ∧ w = w' := fun c w => refHas_calls (bs (sformL op)) hsz c w
    generalize bs (sformL op) = F at *
    refine stmt_main F hF (hasB F 101) (hasB F 108) (hasB F 120) (hasB F 66) (hasB F 69) (hasB F 65) (labsF F m nm sc ns ty iv pl) m hm B op nm sc ns ty iv pl es bo el ar ps pa0 na0 qa0 pa1 na1 qa1 pa2 na2 qa2 pa3 na3 qa3 pa4 na4 qa4 pa5 na5 qa5 pa6 na6 qa6 w hB hin hform (Lib.hid fun W h => ?_)
      (Lib.hid (HH 101)) (Lib.hid (HH 108)) (Lib.hid (HH 120)) (Lib.hid (HH 66)) (Lib.hid (HH 69)) (Lib.hid (HH 65)) ihL
    exact labels_calls F (hasB F 110) (hasB F 116) (hasB F 115) (hasB F 121) (hasB F 78) (hasB F 84) (hasB F 112) m hm B op nm sc ns ty iv pl es bo el ar ps pa0 na0 qa0 pa1 na1 qa1 pa2 na2 qa2 pa3 na3 qa3 pa4 na4 qa4 pa5 na5 qa5 pa6 na6 qa6 W (Nat.le_trans hB h.size) (PS.In.below (h.mono hB) hin)
      (Lib.hid (HH 110)) (Lib.hid (HH 116)) (Lib.hid (HH 115)) (Lib.hid (HH 121)) (Lib.hid (HH 78)) (Lib.hid (HH 84)) (Lib.hid (HH 112))
theorem refWS_calls : ∀ n, n ≤ 1000 → RefWSAt n
  | 0, _ => refWS_zero
  | n + 1, h => refWS_succ n (by omega) (refWL_of n (by omega) (refWS_calls n (by omega)))
theorem refWL_calls (n : Nat) (h : n ≤ 1000) : RefWLAt n := refWL_of n h (refWS_calls n h)
end Go.Proofs.YtojeijeimpffgaaGreat

