/- Types that may stand: the document's own way (made by gen_tables2.py out of XTables1). -/
import Derived.Test.YtekmkepaokdbmaaTables1
namespace Go.Proofs.Ytekmkepaokdbmaa
open Go.RowKit
set_option linter.unusedVariables false

def RefOwnAt (a : PT) : Prop := ∀ (B : Nat) (v : Value) (w : World), B ≤ w.heap.size → a.In B w v →
  Calls Try.prog 36 #[.agg #[.int .u8 a.kind, .string a.name, v]] w fun e w' => e = .returned (.bool (ownB a)) ∧ Below w.heap.size w w'
set_option maxRecDepth 100000 in
set_option maxHeartbeats 2000000 in
theorem refOwn_step (kd : Int) (nm : ByteArray) (l : List PT) (ih : ∀ a, a ∈ l → RefOwnAt a) : RefOwnAt (.mk kd nm l) := by
  intro B v w hB ht
  obtain ⟨⟨hu, hs⟩, b1, o1, ⟨m1, ao, cap, rfl, h1⟩, r1⟩ := ht
  rw [ownB_mk]
  unfold maxLen at m1
  obtain ⟨n, hn⟩ : ∃ n, n = l.length := ⟨_, rfl⟩
  rw [← hn] at m1 h1 ⊢
  have Hn := Lib.hid hn
  have H1 := Lib.hid h1
  have Hr := Lib.hid r1
  have IH := Lib.hid ih
  clear hn h1 r1 ih hu hs
  show Calls Try.prog 36 #[.agg #[.int .u8 kd, .string nm, .slice ao n cap]] w _
  by_cases h13 : kd = 13
  · subst h13
    go_enter Try.func36, Try.ntmps36
    go_wp2_with fail
    go_ret
    exact ⟨ret_bool (by simp), box1 _ _⟩
  by_cases h14 : kd = 14
  · subst h14
    go_enter Try.func36, Try.ntmps36
    go_wp2_with fail
    go_ret
    exact ⟨ret_bool (by simp), box1 _ _⟩
  rw [decide_eq_false h13, decide_eq_false h14, show (l.all ownB && (!false && !false)) = l.all ownB from by simp]
  have e13 := is_no' h13
  have e14 := is_no' h14
  go_enter Try.func36, Try.ntmps36
  go_wp2_with fail
  go_loopw [3] (fun i wr => ∃ k : Nat, k ≤ n ∧ i = .int .i64 k ∧ w.heap.size < wr.heap.size ∧ wr.cell? ⟨w.heap.size, 2, none⟩ = some (.slice ao n cap) ∧ Hid (Below w.heap.size w wr) ∧ Hid (∀ (j : Nat) x, j < k → l[j]? = some x → ownB x = true))
    (fun i _ => n - (intOf i).toNat)
  case atStart => exact ⟨0, by omega, rfl, by simp, by go_simp, Lib.hid (box1 _ _), Lib.hid fun j x hj => by omega⟩
  case round =>
    obtain ⟨k, hk, rfl, hz, hc, hbel, HK⟩ := hrel
    by_cases hlt : k < n
    · obtain ⟨a, ha, hin⟩ := get_at (l := l) (k := k) (by rw [← Hn.out]; exact hlt)
      obtain ⟨rfl, hb1⟩ := H1.out.resolve_left (by omega)
      obtain ⟨va, ca, ia⟩ := PT.Row.get (PT.Row.below (hbel.out.mono hB) hb1 Hr.out) ha
      obtain ⟨aa, na, qa, rfl⟩ := ia.shape
      have c0 : wr.cell? ⟨b1, o1 + k * 3, none⟩ = some (.int .u8 a.kind) := ca 0 _ rfl
      have c1 : wr.cell? ⟨b1, o1 + k * 3 + 1, none⟩ = some (.string a.name) := ca 1 _ rfl
      have c2 : wr.cell? ⟨b1, o1 + k * 3 + 2, none⟩ = some (.slice aa na qa) := ca 2 _ rfl
      have g1 : b1 < wr.heap.size := by have := hbel.out.size; omega
      have hk1 : (k : Int) < (n : Int) := by omega
      have hk0 : 0 ≤ (k : Int) := by omega
      have hsz := hbel.out.size
      have C : Hid (∀ w', Below wr.heap.size wr w' → Calls Try.prog 36 #[.agg #[.int .u8 a.kind, .string a.name, .slice aa na qa]] w' fun e w'' => e = .returned (.bool (ownB a)) ∧ Below w'.heap.size w' w'') :=
        Lib.hid fun w' hw => IH.out a hin B _ w' (by have := hw.size; omega) (PT.In.below (hw.mono (by omega)) ia)
      have Ha := Lib.hid ha
      generalize hq : ownB a = q at *
      have Hq := Lib.hid hq
      clear ha hin ca ia hq
      go_wp2_with fail
      refine (C.out _ (Below.refl _ _)).mono ?_; rintro e w1 ⟨rfl, b1'⟩
      have bel1 := Lib.hid b1'
      have hcc := (bel1.out.cell (p := ⟨w.heap.size, 2, none⟩) hz).trans hc
      have hz1 : w.heap.size < w1.heap.size := by have := bel1.out.size; omega
      have belw := Lib.hid (hbel.out.trans (bel1.out.mono hsz))
      clear b1' C hc c0 c1 c2
      cases q
      · have hres := Lib.hid (all_not2 (p := ownB) Ha.out Hq.out)
        go_wp2_with fail
        go_ret
        exact ⟨ret_bool hres.out.symm, belw.out⟩
      · have HK2 : Hid (∀ (j : Nat) x, j < k + 1 → l[j]? = some x → ownB x = true) := Lib.hid fun j x hj hx => by
          by_cases e : j = k
          · subst e
            rw [Ha.out] at hx
            cases hx
            exact Hq.out
          · exact HK.out j x (by omega) hx
        go_wp2_with fail
        go_roundw
        case rel => exact ⟨k + 1, by omega, by go_num, hz1, hcc, belw, HK2⟩
        case measure => simp [intOf]; omega
    · obtain rfl : k = n := by omega
      have hres := Lib.hid (all_yes2 (p := ownB) (l := l) fun j x hx => HK.out j x (by rw [Hn.out]; exact (List.getElem?_eq_some_iff.1 hx).1) hx)
      go_wp2_with fail
      go_ret
      exact ⟨ret_bool hres.out.symm, hbel.out⟩
theorem refOwn_calls (a : PT) : RefOwnAt a :=
  PT.rec (motive_1 := RefOwnAt) (motive_2 := fun l => ∀ x, x ∈ l → RefOwnAt x) (fun k n xs H => refOwn_step k n xs H)
    (fun x h => by cases h) (fun a l ha hl x h => by cases h with | head => exact ha | tail _ h => exact hl x h) a


def RefStAt (a : PT) : Prop := ∀ (B : Nat) (v : Value) (w : World), B ≤ w.heap.size → a.In B w v →
  Calls Try.prog 16 #[.agg #[.int .u8 a.kind, .string a.name, v]] w fun e w' => e = .returned (.bool (stB a)) ∧ Below w.heap.size w w'
set_option maxRecDepth 100000 in
set_option maxHeartbeats 2000000 in
theorem refSt_step (kd : Int) (nm : ByteArray) (l : List PT) (ih : ∀ a, a ∈ l → RefStAt a) : RefStAt (.mk kd nm l) := by
  intro B v w hB ht
  obtain ⟨⟨hu, hs⟩, b1, o1, ⟨m1, ao, cap, rfl, h1⟩, r1⟩ := ht
  rw [stB_mk]
  unfold maxLen at m1
  obtain ⟨n, hn⟩ : ∃ n, n = l.length := ⟨_, rfl⟩
  rw [← hn] at m1 h1
  have Hn := Lib.hid hn
  have H1 := Lib.hid h1
  have Hr := Lib.hid r1
  have IH := Lib.hid ih
  rw [← hn]
  clear hn h1 r1 ih hu hs
  show Calls Try.prog 16 #[.agg #[.int .u8 kd, .string nm, .slice ao n cap]] w _
  go_enter Try.func16, Try.ntmps16
  go_wp2_with fail
  go_loopw [3] (fun i wr => ∃ k : Nat, k ≤ n ∧ i = .int .i64 k ∧ w.heap.size < wr.heap.size ∧ wr.cell? ⟨w.heap.size, 0, none⟩ = some (.int .u8 kd) ∧ wr.cell? ⟨w.heap.size, 2, none⟩ = some (.slice ao n cap) ∧ Hid (Below w.heap.size w wr) ∧ Hid (∀ (j : Nat) x, j < k → l[j]? = some x → (stB x && mayB kd x) = true))
    (fun i _ => n - (intOf i).toNat)
  case atStart => exact ⟨0, by omega, rfl, by simp, by go_simp, by go_simp, Lib.hid (box1 _ _), Lib.hid fun j x hj => by omega⟩
  case round =>
    obtain ⟨k, hk, rfl, hz, hc, hd, hbel, HK⟩ := hrel
    by_cases hlt : k < n
    · obtain ⟨a, ha, hin⟩ := get_at (l := l) (k := k) (by rw [← Hn.out]; exact hlt)
      obtain ⟨rfl, hb1⟩ := H1.out.resolve_left (by omega)
      obtain ⟨va, ca, ia⟩ := PT.Row.get (PT.Row.below (hbel.out.mono hB) hb1 Hr.out) ha
      obtain ⟨aa, na, qa, rfl⟩ := ia.shape
      have c0 : wr.cell? ⟨b1, o1 + k * 3, none⟩ = some (.int .u8 a.kind) := ca 0 _ rfl
      have c1 : wr.cell? ⟨b1, o1 + k * 3 + 1, none⟩ = some (.string a.name) := ca 1 _ rfl
      have c2 : wr.cell? ⟨b1, o1 + k * 3 + 2, none⟩ = some (.slice aa na qa) := ca 2 _ rfl
      have g1 : b1 < wr.heap.size := by have := hbel.out.size; omega
      have hk1 : (k : Int) < (n : Int) := by omega
      have hk0 : 0 ≤ (k : Int) := by omega
      have hsz := hbel.out.size
      have C : Hid (∀ w', Below wr.heap.size wr w' → Calls Try.prog 16 #[.agg #[.int .u8 a.kind, .string a.name, .slice aa na qa]] w' fun e w'' => e = .returned (.bool (stB a)) ∧ Below w'.heap.size w' w'') :=
        Lib.hid fun w' hw => IH.out a hin B _ w' (by have := hw.size; omega) (PT.In.below (hw.mono (by omega)) ia)
      have D : Hid (∀ w', Below wr.heap.size wr w' → Calls Try.prog 36 #[.agg #[.int .u8 a.kind, .string a.name, .slice aa na qa]] w' fun e w'' => e = .returned (.bool (ownB a)) ∧ Below w'.heap.size w' w'') :=
        Lib.hid fun w' hw => refOwn_calls a B _ w' (by have := hw.size; omega) (PT.In.below (hw.mono (by omega)) ia)
      have Ha := Lib.hid ha
      generalize hq : stB a = q at *
      have Hq := Lib.hid hq
      clear ha hin ca ia hq
      go_wp2_with fail
      refine (C.out _ (box1 _ _)).mono ?_; rintro e w1 ⟨rfl, b1'⟩
      have bel1 := Lib.hid (up_tr (box1 _ _) b1')
      have hcc := (bel1.out.cell (p := ⟨w.heap.size, 0, none⟩) hz).trans hc
      have hdd := (bel1.out.cell (p := ⟨w.heap.size, 2, none⟩) hz).trans hd
      have x0 : w1.cell? ⟨wr.heap.size, 0, none⟩ = some (.int .u8 a.kind) := (b1'.cell (p := ⟨wr.heap.size, 0, none⟩) (by simp)).trans (by go_simp)
      have x1 : w1.cell? ⟨wr.heap.size, 1, none⟩ = some (.string a.name) := (b1'.cell (p := ⟨wr.heap.size, 1, none⟩) (by simp)).trans (by go_simp)
      have x2 : w1.cell? ⟨wr.heap.size, 2, none⟩ = some (.slice aa na qa) := (b1'.cell (p := ⟨wr.heap.size, 2, none⟩) (by simp)).trans (by go_simp)
      have gx : wr.heap.size < w1.heap.size := by have := b1'.size; simp at this; omega
      have hz1 : w.heap.size < w1.heap.size := by have := bel1.out.size; omega
      have belw := Lib.hid (hbel.out.trans (bel1.out.mono hsz))
      clear b1' C hc hd c0 c1 c2
      cases q
      · have hres := Lib.hid (all_not2 (p := fun t => stB t && mayB kd t) Ha.out (by rw [Hq.out]; rfl))
        go_wp2_with fail
        go_ret
        exact ⟨ret_bool hres.out.symm, belw.out⟩
      · by_cases h13 : kd = 13
        · have Hp := Lib.hid (show mayB kd a = true by unfold mayB; rw [if_pos (.inl h13)])
          have HK2 : Hid (∀ (j : Nat) x, j < k + 1 → l[j]? = some x → (stB x && mayB kd x) = true) := Lib.hid fun j x hj hx => by
            by_cases e : j = k
            · subst e
              rw [Ha.out] at hx
              cases hx
              rw [Hq.out, Hp.out]; rfl
            · exact HK.out j x (by omega) hx
          have e13 : (kd == 13) = true := beq_iff_eq.2 h13
          clear h13
          go_wp2_with fail
          go_roundw
          case rel => exact ⟨k + 1, by omega, by go_num, hz1, hcc, hdd, belw, HK2⟩
          case measure => simp [intOf]; omega
        · have e13 := is_no' h13
          by_cases h14 : kd = 14
          · have Hp := Lib.hid (show mayB kd a = true by unfold mayB; rw [if_pos (.inr h14)])
            have HK2 : Hid (∀ (j : Nat) x, j < k + 1 → l[j]? = some x → (stB x && mayB kd x) = true) := Lib.hid fun j x hj hx => by
              by_cases e : j = k
              · subst e
                rw [Ha.out] at hx
                cases hx
                rw [Hq.out, Hp.out]; rfl
              · exact HK.out j x (by omega) hx
            have e14 : (kd == 14) = true := beq_iff_eq.2 h14
            clear h13 h14
            go_wp2_with fail
            go_roundw
            case rel => exact ⟨k + 1, by omega, by go_num, hz1, hcc, hdd, belw, HK2⟩
            case measure => simp [intOf]; omega
          · have e14 := is_no' h14
            by_cases h6 : kd = 6
            · have e6 : (kd == 6) = true := beq_iff_eq.2 h6
              have hm : mayB kd a = (decide (a.kind = 1) || (decide (a.kind = 2) || decide (a.kind = 3))) := by unfold mayB; rw [if_neg (by omega), if_pos h6]
              have Hm := Lib.hid hm
              clear hm h13 h14 h6
              by_cases k1 : a.kind = 1
              · have Hp := Lib.hid (show mayB kd a = true by rw [Hm.out, decide_eq_true k1]; rfl)
                have HK2 : Hid (∀ (j : Nat) x, j < k + 1 → l[j]? = some x → (stB x && mayB kd x) = true) := Lib.hid fun j x hj hx => by
                  by_cases e : j = k
                  · subst e
                    rw [Ha.out] at hx
                    cases hx
                    rw [Hq.out, Hp.out]; rfl
                  · exact HK.out j x (by omega) hx
                have f1 : (a.kind != 1) = false := by rw [k1]; rfl
                clear k1
                go_wp2_with fail
                go_roundw
                case rel => exact ⟨k + 1, by omega, by go_num, hz1, hcc, hdd, belw, HK2⟩
                case measure => simp [intOf]; omega
              · have f1 : (a.kind != 1) = true := bne_iff_ne.2 k1
                by_cases k2 : a.kind = 2
                · have Hp := Lib.hid (show mayB kd a = true by rw [Hm.out, decide_eq_true k2]; simp)
                  have HK2 : Hid (∀ (j : Nat) x, j < k + 1 → l[j]? = some x → (stB x && mayB kd x) = true) := Lib.hid fun j x hj hx => by
                    by_cases e : j = k
                    · subst e
                      rw [Ha.out] at hx
                      cases hx
                      rw [Hq.out, Hp.out]; rfl
                    · exact HK.out j x (by omega) hx
                  have f2 : (a.kind != 2) = false := by rw [k2]; rfl
                  clear k1 k2
                  go_wp2_with fail
                  go_roundw
                  case rel => exact ⟨k + 1, by omega, by go_num, hz1, hcc, hdd, belw, HK2⟩
                  case measure => simp [intOf]; omega
                · have f2 : (a.kind != 2) = true := bne_iff_ne.2 k2
                  by_cases k3 : a.kind = 3
                  · have Hp := Lib.hid (show mayB kd a = true by rw [Hm.out, decide_eq_true k3]; simp)
                    have HK2 : Hid (∀ (j : Nat) x, j < k + 1 → l[j]? = some x → (stB x && mayB kd x) = true) := Lib.hid fun j x hj hx => by
                      by_cases e : j = k
                      · subst e
                        rw [Ha.out] at hx
                        cases hx
                        rw [Hq.out, Hp.out]; rfl
                      · exact HK.out j x (by omega) hx
                    have f3 : (a.kind != 3) = false := by rw [k3]; rfl
                    clear k1 k2 k3
                    go_wp2_with fail
                    go_roundw
                    case rel => exact ⟨k + 1, by omega, by go_num, hz1, hcc, hdd, belw, HK2⟩
                    case measure => simp [intOf]; omega
                  · have f3 : (a.kind != 3) = true := bne_iff_ne.2 k3
                    have hres := Lib.hid (all_not2 (p := fun t => stB t && mayB kd t) Ha.out (by rw [Hq.out, Hm.out, decide_eq_false k1, decide_eq_false k2, decide_eq_false k3]; rfl))
                    clear k1 k2 k3
                    go_wp2_with fail
                    go_ret
                    exact ⟨ret_bool hres.out.symm, belw.out⟩
            · have e6 := is_no' h6
              have hm : mayB kd a = ownB a := by unfold mayB; rw [if_neg (by omega), if_neg h6]
              have Hm := Lib.hid hm
              clear hm h13 h14 h6
              generalize ownB a = p at *
              go_wp2_with fail
              refine (D.out _ bel1.out).mono ?_; rintro e w2 ⟨rfl, b2'⟩
              have hcc2 := (b2'.cell (p := ⟨w.heap.size, 0, none⟩) hz1).trans hcc
              have hdd2 := (b2'.cell (p := ⟨w.heap.size, 2, none⟩) hz1).trans hdd
              have hz2 : w.heap.size < w2.heap.size := by have := b2'.size; omega
              have belw2 := Lib.hid (up_tr belw.out b2')
              clear b2' D hcc hdd x0 x1 x2 hz1
              cases p
              · have hres := Lib.hid (all_not2 (p := fun t => stB t && mayB kd t) Ha.out (by rw [Hq.out, Hm.out]; rfl))
                go_wp2_with fail
                go_ret
                exact ⟨ret_bool hres.out.symm, belw2.out⟩
              · have Hp := Hm
                have HK2 : Hid (∀ (j : Nat) x, j < k + 1 → l[j]? = some x → (stB x && mayB kd x) = true) := Lib.hid fun j x hj hx => by
                  by_cases e : j = k
                  · subst e
                    rw [Ha.out] at hx
                    cases hx
                    rw [Hq.out, Hp.out]; rfl
                  · exact HK.out j x (by omega) hx
                go_wp2_with fail
                go_roundw
                case rel => exact ⟨k + 1, by omega, by go_num, hz2, hcc2, hdd2, belw2, HK2⟩
                case measure => simp [intOf]; omega
    · obtain rfl : k = n := by omega
      have hres := Lib.hid (all_yes2 (p := fun t => stB t && mayB kd t) (l := l) fun j x hx => HK.out j x (by rw [Hn.out]; exact (List.getElem?_eq_some_iff.1 hx).1) hx)
      go_wp2_with fail
      go_ret
      exact ⟨ret_bool hres.out.symm, hbel.out⟩
theorem refSt_calls (a : PT) : RefStAt a :=
  PT.rec (motive_1 := RefStAt) (motive_2 := fun l => ∀ x, x ∈ l → RefStAt x) (fun k n xs H => refSt_step k n xs H)
    (fun x h => by cases h) (fun a l ha hl x h => by cases h with | head => exact ha | tail _ h => exact hl x h) a
end Go.Proofs.Ytekmkepaokdbmaa
