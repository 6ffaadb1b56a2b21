/- Types that may stand: what is owned, what may stand within what; the code's and the document's own way. -/
import Derived.Test.YtekmkepaokdbmaaTreeRefW2
namespace Go.Proofs.Ytekmkepaokdbmaa
open Go.RowKit
set_option linter.unusedVariables false

mutual
/-- no reference is in it -/
def ownB : PT → Bool
  | .mk k _ xs => ownsB xs && (!decide (k = 13) && !decide (k = 14))
def ownsB : List PT → Bool
  | [] => true
  | t :: l => ownB t && ownsB l
end
theorem ownsB_all : ∀ l, ownsB l = l.all ownB
  | [] => by rw [ownsB]; rfl
  | t :: l => by rw [ownsB, ownsB_all l]; rfl
/-- may u stand within a type of kind k -/
def mayB (k : Int) (u : PT) : Bool := if k = 13 ∨ k = 14 then true else if k = 6 then decide (u.kind = 1) || (decide (u.kind = 2) || decide (u.kind = 3)) else ownB u
mutual
def stB : PT → Bool
  | .mk k _ xs => stsB k xs
def stsB (k : Int) : List PT → Bool
  | [] => true
  | t :: l => (stB t && mayB k t) && stsB k l
end
theorem stsB_all (k : Int) : ∀ l, stsB k l = l.all fun t => stB t && mayB k t
  | [] => by rw [stsB]; rfl
  | t :: l => by rw [stsB, stsB_all k l]; rfl
theorem stB_mk (k : Int) (nm : ByteArray) (l : List PT) : stB (.mk k nm l) = l.all fun t => stB t && mayB k t := by rw [stB, stsB_all]
theorem ownB_mk (k : Int) (nm : ByteArray) (l : List PT) : ownB (.mk k nm l) = (l.all ownB && (!decide (k = 13) && !decide (k = 14))) := by rw [ownB, ownsB_all]

/-! ### the code's -/
def OwnAt (a : PT) : Prop := ∀ (B : Nat) (v : Value) (w : World), B ≤ w.heap.size → a.In B w v →
  Calls Try.prog 63 #[.agg #[.int .u8 a.kind, .string a.name, v]] w fun e w' => e = .returned (.bool (ownB a)) ∧ Below w.heap.size w w'
set_option maxRecDepth 100000 in
set_option maxHeartbeats 2000000 in
theorem own_step (kd : Int) (nm : ByteArray) (l : List PT) (ih : ∀ a, a ∈ l → OwnAt a) : OwnAt (.mk kd nm l) := by
  intro B v w hB ht
  obtain ⟨⟨hu, hs⟩, b1, o1, ⟨m1, ao, cap, rfl, h1⟩, r1⟩ := ht
  rw [ownB_mk]
  unfold maxLen at m1
  obtain ⟨n, hn⟩ : ∃ n, n = l.length := ⟨_, rfl⟩
  rw [← hn] at m1 h1 ⊢
  have Hn := Lib.hid hn
  have H1 := Lib.hid h1
  have Hr := Lib.hid r1
  have IH := Lib.hid ih
  clear hn h1 r1 ih hu hs
  show Calls Try.prog 63 #[.agg #[.int .u8 kd, .string nm, .slice ao n cap]] w _
  go_enter Try.func63, Try.ntmps63
  go_wp2_with fail
  go_loopw [8] (fun i wr => ∃ k : Nat, k ≤ n ∧ i = .int .i64 k ∧ w.heap.size < wr.heap.size ∧ wr.cell? ⟨w.heap.size, 0, none⟩ = some (.int .u8 kd) ∧ Hid (Below w.heap.size w wr) ∧ Hid (∀ (j : Nat) x, j < k → l[j]? = some x → ownB x = true))
    (fun i _ => n - (intOf i).toNat)
  case atStart => exact ⟨0, by omega, rfl, by simp, by go_simp, Lib.hid (box1 _ _), Lib.hid fun j x hj => by omega⟩
  case round =>
    obtain ⟨k, hk, rfl, hz, hc, hbel, HK⟩ := hrel
    by_cases hlt : k < n
    · obtain ⟨a, ha, hin⟩ := get_at (l := l) (k := k) (by rw [← Hn.out]; exact hlt)
      obtain ⟨rfl, hb1⟩ := H1.out.resolve_left (by omega)
      obtain ⟨va, ca, ia⟩ := PT.Row.get (PT.Row.below (hbel.out.mono hB) hb1 Hr.out) ha
      obtain ⟨aa, na, qa, rfl⟩ := ia.shape
      have c0 : wr.cell? ⟨b1, o1 + k * 3, none⟩ = some (.int .u8 a.kind) := ca 0 _ rfl
      have c1 : wr.cell? ⟨b1, o1 + k * 3 + 1, none⟩ = some (.string a.name) := ca 1 _ rfl
      have c2 : wr.cell? ⟨b1, o1 + k * 3 + 2, none⟩ = some (.slice aa na qa) := ca 2 _ rfl
      have g1 : b1 < wr.heap.size := by have := hbel.out.size; omega
      have hk1 : (k : Int) < (n : Int) := by omega
      have hk0 : 0 ≤ (k : Int) := by omega
      have hsz := hbel.out.size
      have C : Hid (∀ w', Below wr.heap.size wr w' → Calls Try.prog 63 #[.agg #[.int .u8 a.kind, .string a.name, .slice aa na qa]] w' fun e w'' => e = .returned (.bool (ownB a)) ∧ Below w'.heap.size w' w'') :=
        Lib.hid fun w' hw => IH.out a hin B _ w' (by have := hw.size; omega) (PT.In.below (hw.mono (by omega)) ia)
      have Ha := Lib.hid ha
      generalize hq : ownB a = q at *
      have Hq := Lib.hid hq
      clear ha hin ca ia hq
      go_wp2_with fail
      refine (C.out _ (box1 _ _)).mono ?_; rintro e w1 ⟨rfl, b1'⟩
      have bel1 := Lib.hid (up_tr (box1 _ _) b1')
      have hcc := (bel1.out.cell (p := ⟨w.heap.size, 0, none⟩) hz).trans hc
      have hz1 : w.heap.size < w1.heap.size := by have := bel1.out.size; omega
      have belw := Lib.hid (hbel.out.trans (bel1.out.mono hsz))
      clear b1' C hc c0 c1 c2
      cases q
      · have hres := Lib.hid (all_not2 (p := ownB) Ha.out Hq.out)
        go_wp2_with fail
        go_ret
        exact ⟨ret_bool (by rw [hres.out]; rfl), belw.out⟩
      · have HK2 : Hid (∀ (j : Nat) x, j < k + 1 → l[j]? = some x → ownB x = true) := Lib.hid fun j x hj hx => by
          by_cases e : j = k
          · subst e
            rw [Ha.out] at hx
            cases hx
            exact Hq.out
          · exact HK.out j x (by omega) hx
        go_wp2_with fail
        go_roundw
        case rel => exact ⟨k + 1, by omega, by go_num, hz1, hcc, belw, HK2⟩
        case measure => simp [intOf]; omega
    · obtain rfl : k = n := by omega
      have hres := Lib.hid (all_yes2 (p := ownB) (l := l) fun j x hx => HK.out j x (by rw [Hn.out]; exact (List.getElem?_eq_some_iff.1 hx).1) hx)
      by_cases h13 : kd = 13
      · subst h13
        go_wp2_with fail
        go_ret
        exact ⟨ret_bool (by simp), hbel.out⟩
      · have e13 : (kd != 13) = true := bne_iff_ne.2 h13
        by_cases h14 : kd = 14
        · subst h14
          go_wp2_with fail
          go_ret
          exact ⟨ret_bool (by simp), hbel.out⟩
        · have e14 : (kd != 14) = true := bne_iff_ne.2 h14
          go_wp2_with fail
          go_ret
          exact ⟨ret_bool (by rw [hres.out, decide_eq_false h13, decide_eq_false h14]; rfl), hbel.out⟩
theorem own_calls (a : PT) : OwnAt a :=
  PT.rec (motive_1 := OwnAt) (motive_2 := fun l => ∀ x, x ∈ l → OwnAt x) (fun k n xs H => own_step k n xs H)
    (fun x h => by cases h) (fun a l ha hl x h => by cases h with | head => exact ha | tail _ h => exact hl x h) a

set_option maxHeartbeats 2000000 in
theorem mayHave_calls (B : Nat) (kd : Int) (u : PT) (v : Value) (w : World) (hB : B ≤ w.heap.size) (hu : u.In B w v) :
    Calls Try.prog 60 #[.int .u8 kd, .agg #[.int .u8 u.kind, .string u.name, v]] w fun e w' => e = .returned (.bool (mayB kd u)) ∧ Below w.heap.size w w' := by
  obtain ⟨aa, na, qa, rfl⟩ := hu.shape
  have C : Hid (∀ w', Below w.heap.size w w' → Calls Try.prog 63 #[.agg #[.int .u8 u.kind, .string u.name, .slice aa na qa]] w' fun e w'' => e = .returned (.bool (ownB u)) ∧ Below w'.heap.size w' w'') :=
    Lib.hid fun w' hw => own_calls u B _ w' (by have := hw.size; omega) (PT.In.below (hw.mono hB) hu)
  unfold mayB
  generalize ownB u = q at *
  generalize u.kind = k at *
  clear hu
  by_cases h13 : kd = 13
  · subst h13
    go_enter Try.func60, Try.ntmps60
    go_wp2_with fail
    go_ret
    exact ⟨rfl, box1 _ _⟩
  · by_cases h14 : kd = 14
    · subst h14
      go_enter Try.func60, Try.ntmps60
      go_wp2_with fail
      go_ret
      exact ⟨rfl, box1 _ _⟩
    · rw [if_neg (by omega)]
      have e13 := is_no' h13
      have e14 := is_no' h14
      by_cases h6 : kd = 6
      · subst h6
        rw [if_pos rfl]
        by_cases k1 : k = 1
        · subst k1
          go_enter Try.func60, Try.ntmps60
          go_wp2_with fail
          go_ret
          exact ⟨rfl, box1 _ _⟩
        · by_cases k2 : k = 2
          · subst k2
            go_enter Try.func60, Try.ntmps60
            go_wp2_with fail
            go_ret
            exact ⟨rfl, box1 _ _⟩
          · by_cases k3 : k = 3
            · subst k3
              go_enter Try.func60, Try.ntmps60
              go_wp2_with fail
              go_ret
              exact ⟨rfl, box1 _ _⟩
            · have f1 := is_no' k1
              have f2 := is_no' k2
              have f3 := is_no' k3
              rw [decide_eq_false k1, decide_eq_false k2, decide_eq_false k3]
              go_enter Try.func60, Try.ntmps60
              go_wp2_with fail
              go_ret
              exact ⟨rfl, box1 _ _⟩
      · rw [if_neg h6]
        have e6 := is_no' h6
        go_enter Try.func60, Try.ntmps60
        go_wp2_with fail
        refine (C.out _ (box1 _ _)).mono ?_; rintro e w1 ⟨rfl, b1'⟩
        have bel1 := Lib.hid (up_tr (box1 _ _) b1')
        clear b1'
        go_wp2_with fail
        go_ret
        exact ⟨rfl, bel1.out⟩

def StAt (a : PT) : Prop := ∀ (B : Nat) (v : Value) (w : World), B ≤ w.heap.size → a.In B w v →
  Calls Try.prog 34 #[.agg #[.int .u8 a.kind, .string a.name, v]] w fun e w' => e = .returned (.bool (stB a)) ∧ Below w.heap.size w w'
set_option maxRecDepth 100000 in
set_option maxHeartbeats 2000000 in
theorem st_step (kd : Int) (nm : ByteArray) (l : List PT) (ih : ∀ a, a ∈ l → StAt a) : StAt (.mk kd nm l) := by
  intro B v w hB ht
  obtain ⟨⟨hu, hs⟩, b1, o1, ⟨m1, ao, cap, rfl, h1⟩, r1⟩ := ht
  rw [stB_mk]
  unfold maxLen at m1
  obtain ⟨n, hn⟩ : ∃ n, n = l.length := ⟨_, rfl⟩
  rw [← hn] at m1 h1
  have Hn := Lib.hid hn
  have H1 := Lib.hid h1
  have Hr := Lib.hid r1
  have IH := Lib.hid ih
  rw [← hn]
  clear hn h1 r1 ih hu hs
  show Calls Try.prog 34 #[.agg #[.int .u8 kd, .string nm, .slice ao n cap]] w _
  go_enter Try.func34, Try.ntmps34
  go_wp2_with fail
  go_loopw [8] (fun i wr => ∃ k : Nat, k ≤ n ∧ i = .int .i64 k ∧ w.heap.size < wr.heap.size ∧ wr.cell? ⟨w.heap.size, 0, none⟩ = some (.int .u8 kd) ∧ Hid (Below w.heap.size w wr) ∧ Hid (∀ (j : Nat) x, j < k → l[j]? = some x → (stB x && mayB kd x) = true))
    (fun i _ => n - (intOf i).toNat)
  case atStart => exact ⟨0, by omega, rfl, by simp, by go_simp, Lib.hid (box1 _ _), Lib.hid fun j x hj => by omega⟩
  case round =>
    obtain ⟨k, hk, rfl, hz, hc, hbel, HK⟩ := hrel
    by_cases hlt : k < n
    · obtain ⟨a, ha, hin⟩ := get_at (l := l) (k := k) (by rw [← Hn.out]; exact hlt)
      obtain ⟨rfl, hb1⟩ := H1.out.resolve_left (by omega)
      obtain ⟨va, ca, ia⟩ := PT.Row.get (PT.Row.below (hbel.out.mono hB) hb1 Hr.out) ha
      obtain ⟨aa, na, qa, rfl⟩ := ia.shape
      have c0 : wr.cell? ⟨b1, o1 + k * 3, none⟩ = some (.int .u8 a.kind) := ca 0 _ rfl
      have c1 : wr.cell? ⟨b1, o1 + k * 3 + 1, none⟩ = some (.string a.name) := ca 1 _ rfl
      have c2 : wr.cell? ⟨b1, o1 + k * 3 + 2, none⟩ = some (.slice aa na qa) := ca 2 _ rfl
      have g1 : b1 < wr.heap.size := by have := hbel.out.size; omega
      have hk1 : (k : Int) < (n : Int) := by omega
      have hk0 : 0 ≤ (k : Int) := by omega
      have hsz := hbel.out.size
      have C : Hid (∀ w', Below wr.heap.size wr w' → Calls Try.prog 34 #[.agg #[.int .u8 a.kind, .string a.name, .slice aa na qa]] w' fun e w'' => e = .returned (.bool (stB a)) ∧ Below w'.heap.size w' w'') :=
        Lib.hid fun w' hw => IH.out a hin B _ w' (by have := hw.size; omega) (PT.In.below (hw.mono (by omega)) ia)
      have D : Hid (∀ w', Below wr.heap.size wr w' → Calls Try.prog 60 #[.int .u8 kd, .agg #[.int .u8 a.kind, .string a.name, .slice aa na qa]] w' fun e w'' => e = .returned (.bool (mayB kd a)) ∧ Below w'.heap.size w' w'') :=
        Lib.hid fun w' hw => mayHave_calls B kd a _ w' (by have := hw.size; omega) (PT.In.below (hw.mono (by omega)) ia)
      have Ha := Lib.hid ha
      generalize hq : stB a = q at *
      generalize hp : mayB kd a = p at *
      have Hq := Lib.hid hq
      have Hp := Lib.hid hp
      clear ha hin ca ia hq hp
      go_wp2_with fail
      refine (C.out _ (box1 _ _)).mono ?_; rintro e w1 ⟨rfl, b1'⟩
      have bel1 := Lib.hid (up_tr (box1 _ _) b1')
      have hcc := (bel1.out.cell (p := ⟨w.heap.size, 0, none⟩) hz).trans hc
      have hz1 : w.heap.size < w1.heap.size := by have := bel1.out.size; omega
      have belw := Lib.hid (hbel.out.trans (bel1.out.mono hsz))
      have hold := old_cells b1'
      clear b1' C hc c0 c1 c2
      cases q
      · have hres := Lib.hid (all_not2 (p := fun t => stB t && mayB kd t) Ha.out (by rw [Hq.out]; rfl))
        go_wp2_with fail
        go_ret
        exact ⟨ret_bool hres.out.symm, belw.out⟩
      · go_wp2_with fail
        refine (D.out _ bel1.out).mono ?_; rintro e w2 ⟨rfl, b2'⟩
        have hcc2 := (b2'.cell (p := ⟨w.heap.size, 0, none⟩) hz1).trans hcc
        have hz2 : w.heap.size < w2.heap.size := by have := b2'.size; omega
        have belw2 := Lib.hid (up_tr belw.out b2')
        clear b2' D hcc hold
        cases p
        · have hres := Lib.hid (all_not2 (p := fun t => stB t && mayB kd t) Ha.out (by rw [Hq.out, Hp.out]; rfl))
          go_wp2_with fail
          go_ret
          exact ⟨ret_bool hres.out.symm, belw2.out⟩
        · have HK2 : Hid (∀ (j : Nat) x, j < k + 1 → l[j]? = some x → (stB x && mayB kd x) = true) := Lib.hid fun j x hj hx => by
            by_cases e : j = k
            · subst e
              rw [Ha.out] at hx
              cases hx
              rw [Hq.out, Hp.out]; rfl
            · exact HK.out j x (by omega) hx
          go_wp2_with fail
          go_roundw
          case rel => exact ⟨k + 1, by omega, by go_num, hz2, hcc2, belw2, HK2⟩
          case measure => simp [intOf]; omega
    · obtain rfl : k = n := by omega
      have hres := Lib.hid (all_yes2 (p := fun t => stB t && mayB kd t) (l := l) fun j x hx => HK.out j x (by rw [Hn.out]; exact (List.getElem?_eq_some_iff.1 hx).1) hx)
      go_wp2_with fail
      go_ret
      exact ⟨ret_bool hres.out.symm, hbel.out⟩
theorem st_calls (a : PT) : StAt a :=
  PT.rec (motive_1 := StAt) (motive_2 := fun l => ∀ x, x ∈ l → StAt x) (fun k n xs H => st_step k n xs H)
    (fun x h => by cases h) (fun a l ha hl x h => by cases h with | head => exact ha | tail _ h => exact hl x h) a
end Go.Proofs.Ytekmkepaokdbmaa
