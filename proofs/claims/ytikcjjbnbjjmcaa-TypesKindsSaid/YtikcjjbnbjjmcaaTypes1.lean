/- Types: what is owned, copied, the same; the code's own way. -/
import Derived.Test.YtikcjjbnbjjmcaaOwn
import Derived.Test.YtikcjjbnbjjmcaaTreeRefT
import Derived.Test.YtikcjjbnbjjmcaaTreeTop
import Derived.Test.YtikcjjbnbjjmcaaTreeRoomF
namespace Go.Proofs.Ytikcjjbnbjjmcaa
open Go.RowKit
set_option linter.unusedVariables false

def HasRefAt (a : PT) : Prop := ∀ (B : Nat) (v : Value) (w : World), B ≤ w.heap.size → a.In B w v →
  Calls Try.prog 12 #[.agg #[.int .u8 a.kind, .string a.name, v]] w fun e w' => e = .returned (.bool (!ownB a)) ∧ Below w.heap.size w w'

theorem hasReference_enters : ∀ args w, (callFunc 12 args).run Try.prog w = .ok (.enter 12 args) w := enters_of Try.func12 (by kernel_rfl) rfl

set_option maxHeartbeats 1000000 in
theorem idxRef_calls (B : Nat) (l : List PT) (IH : Hid (∀ a, a ∈ l → HasRefAt a)) (b1 o1 : Nat) (v : Value) (w : World) (hB : B ≤ w.heap.size)
    (s1 : SlV B v l.length b1 o1) (r1 : PT.Row B w b1 o1 l) :
    Calls Try.prog 17 #[v, .func (.func 12) #[] #[]] w fun e w' => (∃ r : Int, e = .returned (.int .i64 r) ∧ decide (r ≥ 0) = !l.all ownB) ∧ Below w.heap.size w w' := by
  obtain ⟨m1, ao, cap, rfl, h1⟩ := s1
  unfold maxLen at m1
  obtain ⟨n, hn⟩ : ∃ n, n = l.length := ⟨_, rfl⟩
  rw [← hn] at m1 h1 ⊢
  have Hn := Lib.hid hn
  have H1 := Lib.hid h1
  have Hr := Lib.hid r1
  clear hn h1 r1
  have hE := hasReference_enters
  go_enter Try.func17, Try.ntmps17
  go_wp2_with fail
  go_loopw [8] (fun i wr => ∃ k : Nat, k ≤ n ∧ i = .int .i64 k ∧ Below w.heap.size w wr ∧ Hid (∀ (j : Nat) x, j < k → l[j]? = some x → ownB x = true))
    (fun i _ => n - (intOf i).toNat)
  case atStart => exact ⟨0, by omega, rfl, Below.refl _ _, Lib.hid fun j x hj => by omega⟩
  case round =>
    obtain ⟨k, hk, rfl, hbel, HK⟩ := hrel
    have hsz := hbel.size
    by_cases hlt : k < n
    · obtain ⟨a, ha, hin⟩ := get_at (l := l) (k := k) (by rw [← Hn.out]; exact hlt)
      obtain ⟨rfl, hb1⟩ := H1.out.resolve_left (by omega)
      obtain ⟨va, ca, ia⟩ := PT.Row.get (PT.Row.below (hbel.mono hB) hb1 Hr.out) ha
      obtain ⟨aa, na, qa, rfl⟩ := ia.shape
      have c0 : wr.cell? ⟨b1, o1 + k * 3, none⟩ = some (.int .u8 a.kind) := ca 0 _ rfl
      have c1 : wr.cell? ⟨b1, o1 + k * 3 + 1, none⟩ = some (.string a.name) := ca 1 _ rfl
      have c2 : wr.cell? ⟨b1, o1 + k * 3 + 2, none⟩ = some (.slice aa na qa) := ca 2 _ rfl
      have g1 : b1 < wr.heap.size := by omega
      have hk1 : (k : Int) < (n : Int) := by omega
      have hk0 : 0 ≤ (k : Int) := by omega
      have C : Hid (∀ w', Below wr.heap.size wr w' → Calls Try.prog 12 #[.agg #[.int .u8 a.kind, .string a.name, .slice aa na qa]] w' fun e w'' => e = .returned (.bool (!ownB a)) ∧ Below w'.heap.size w' w'') :=
        Lib.hid fun w' hw => IH.out a hin B _ w' (by have := hw.size; omega) (PT.In.below (hw.mono (by omega)) ia)
      have Ha := Lib.hid ha
      generalize hq : ownB a = q at *
      have Hq := Lib.hid hq
      clear ha hin ca ia hq
      go_wp2_with fail
      refine (C.out _ (Below.refl _ _)).mono ?_; rintro e w1 ⟨rfl, b1'⟩
      have bel1 := Lib.hid b1'
      have belw := hbel.trans (bel1.out.mono hsz)
      clear b1' C c0 c1 c2
      cases q
      · have hres := Lib.hid (all_not2 (p := ownB) Ha.out Hq.out)
        go_wp2_with fail
        go_ret
        exact ⟨⟨_, rfl, by rw [hres.out]; simp⟩, belw⟩
      · have HK2 : Hid (∀ (j : Nat) x, j < k + 1 → l[j]? = some x → ownB x = true) := Lib.hid fun j x hj hx => by
          by_cases e : j = k
          · subst e
            rw [Ha.out] at hx
            cases hx
            exact Hq.out
          · exact HK.out j x (by omega) hx
        go_wp2_with fail
        go_roundw
        case rel => exact ⟨k + 1, by omega, by go_num, belw, HK2⟩
        case measure => simp [intOf]; omega
    · obtain rfl : k = n := by omega
      have hres := Lib.hid (all_yes2 (p := ownB) (l := l) fun j x hx => HK.out j x (by rw [Hn.out]; exact (List.getElem?_eq_some_iff.1 hx).1) hx)
      go_wp2_with fail
      go_ret
      exact ⟨⟨_, rfl, by rw [hres.out]; rfl⟩, hbel⟩

set_option maxHeartbeats 1000000 in
theorem anyRef_calls (B : Nat) (l : List PT) (IH : Hid (∀ a, a ∈ l → HasRefAt a)) (b1 o1 : Nat) (v : Value) (w : World) (hB : B ≤ w.heap.size)
    (s1 : SlV B v l.length b1 o1) (r1 : PT.Row B w b1 o1 l) :
    Calls Try.prog 15 #[v, .func (.func 12) #[] #[]] w fun e w' => e = .returned (.bool (!l.all ownB)) ∧ Below w.heap.size w w' := by
  have C := Lib.hid (idxRef_calls B l IH b1 o1 v w hB s1 r1)
  clear IH s1 r1
  go_enter Try.func15, Try.ntmps15
  go_wp2_with fail
  refine C.out.mono ?_; rintro e w1 ⟨⟨r, rfl, hr⟩, b1'⟩
  have Hr := Lib.hid hr
  have Hb := Lib.hid b1'
  clear hr b1' C
  go_wp2_with fail
  go_ret
  exact ⟨ret_bool Hr.out, Hb.out⟩

set_option maxHeartbeats 1000000 in
theorem hasRef_step (kd : Int) (nm : ByteArray) (l : List PT) (ih : ∀ a, a ∈ l → HasRefAt a) : HasRefAt (.mk kd nm l) := by
  intro B v w hB ht
  obtain ⟨⟨hu, hs⟩, b1, o1, s1, r1⟩ := ht
  obtain ⟨p1, q1, rfl⟩ := s1.shape
  rw [ownB_mk]
  have C : Hid (∀ w', Below w.heap.size w w' → Calls Try.prog 15 #[.slice p1 l.length q1, .func (.func 12) #[] #[]] w' fun e w'' => e = .returned (.bool (!l.all ownB)) ∧ Below w'.heap.size w' w'') :=
    Lib.hid fun w' hw => anyRef_calls B l (Lib.hid ih) b1 o1 _ w' (by have := hw.size; omega) s1 (PT.Row.below' (hw.mono hB) s1 r1)
  clear ih s1 r1 hu hs
  generalize l.all ownB = q at *
  show Calls Try.prog 12 #[.agg #[.int .u8 kd, .string nm, .slice p1 l.length q1]] w _
  by_cases h13 : kd = 13
  · subst h13
    go_enter Try.func12, Try.ntmps12
    go_wp2_with fail
    go_ret
    exact ⟨ret_bool (by simp), box1 _ _⟩
  by_cases h14 : kd = 14
  · subst h14
    go_enter Try.func12, Try.ntmps12
    go_wp2_with fail
    go_ret
    exact ⟨ret_bool (by simp), box1 _ _⟩
  rw [decide_eq_false h13, decide_eq_false h14, show (!(q && (!false && !false))) = !q from by simp]
  have e13 := is_no' h13
  have e14 := is_no' h14
  go_enter Try.func12, Try.ntmps12
  go_wp2_with fail
  refine (C.out _ (box1 _ _)).mono ?_; rintro e w1 ⟨rfl, b1'⟩
  have bel1 := Lib.hid (up_tr (box1 _ _) b1')
  clear b1' C
  go_wp2_with fail
  go_ret
  exact ⟨rfl, bel1.out⟩
theorem hasRef_calls (a : PT) : HasRefAt a :=
  PT.rec (motive_1 := HasRefAt) (motive_2 := fun l => ∀ x, x ∈ l → HasRefAt x) (fun k n xs H => hasRef_step k n xs H)
    (fun x h => by cases h) (fun a l ha hl x h => by cases h with | head => exact ha | tail _ h => exact hl x h) a

set_option maxHeartbeats 1000000 in
theorem owned_calls (a : PT) (B : Nat) (p : Option Addr) (n q : Nat) (w : World) (hB : B ≤ w.heap.size) (ha : a.In B w (.slice p n q)) :
    Calls Try.prog 5 #[.agg #[.int .u8 a.kind, .string a.name, .slice p n q]] w fun e w' => e = .returned (.bool (ownB a)) ∧ Below w.heap.size w w' := by
  have C : Hid (∀ w', Below w.heap.size w w' → Calls Try.prog 12 #[.agg #[.int .u8 a.kind, .string a.name, .slice p n q]] w' fun e w'' => e = .returned (.bool (!ownB a)) ∧ Below w'.heap.size w' w'') :=
    Lib.hid fun w' hw => hasRef_calls a B _ w' (by have := hw.size; omega) (PT.In.below (hw.mono hB) ha)
  clear ha
  generalize ownB a = r at *
  go_enter Try.func5, Try.ntmps5
  go_wp2_with fail
  refine (C.out _ (box1 _ _)).mono ?_; rintro e w1 ⟨rfl, b1'⟩
  have bel1 := Lib.hid (up_tr (box1 _ _) b1')
  clear b1' C
  go_wp2_with fail
  go_ret
  exact ⟨ret_bool (by simp), bel1.out⟩

/-- what is copied, not moved -/
def cpB (k : Int) : Bool := decide (k = 1) || (decide (k = 2) || (decide (k = 3) || decide (k = 13)))
set_option maxHeartbeats 2000000 in
theorem copied_calls (k : Int) (nm : ByteArray) (v : Value) (w : World) :
    Calls Try.prog 7 #[.agg #[.int .u8 k, .string nm, v]] w fun e w' => e = .returned (.bool (cpB k)) ∧ Below w.heap.size w w' := by
  unfold cpB
  by_cases h1 : k = 1
  · subst h1
    go_enter Try.func7, Try.ntmps7
    go_wp2_with fail
    go_ret
    exact ⟨rfl, box1 _ _⟩
  by_cases h2 : k = 2
  · subst h2
    go_enter Try.func7, Try.ntmps7
    go_wp2_with fail
    go_ret
    exact ⟨rfl, box1 _ _⟩
  by_cases h3 : k = 3
  · subst h3
    go_enter Try.func7, Try.ntmps7
    go_wp2_with fail
    go_ret
    exact ⟨rfl, box1 _ _⟩
  by_cases h4 : k = 13
  · subst h4
    go_enter Try.func7, Try.ntmps7
    go_wp2_with fail
    go_ret
    exact ⟨rfl, box1 _ _⟩
  have hr : (decide (k = 1) || (decide (k = 2) || (decide (k = 3) || decide (k = 13)))) = false := by simp [h1, h2, h3, h4]
  rw [hr]
  have e1 := is_no' h1
  have e2 := is_no' h2
  have e3 := is_no' h3
  have e4 := is_no' h4
  go_enter Try.func7, Try.ntmps7
  go_wp2_with fail
  go_ret
  exact ⟨rfl, box1 _ _⟩
set_option maxHeartbeats 2000000 in
theorem refCopied_calls (k : Int) (nm : ByteArray) (v : Value) (w : World) :
    Calls Try.prog 8 #[.agg #[.int .u8 k, .string nm, v]] w fun e w' => e = .returned (.bool (cpB k)) ∧ Below w.heap.size w w' := by
  unfold cpB
  by_cases h1 : k = 1
  · subst h1
    go_enter Try.func8, Try.ntmps8
    go_wp2_with fail
    go_ret
    exact ⟨rfl, box1 _ _⟩
  by_cases h2 : k = 2
  · subst h2
    go_enter Try.func8, Try.ntmps8
    go_wp2_with fail
    go_ret
    exact ⟨rfl, box1 _ _⟩
  by_cases h3 : k = 3
  · subst h3
    go_enter Try.func8, Try.ntmps8
    go_wp2_with fail
    go_ret
    exact ⟨rfl, box1 _ _⟩
  by_cases h4 : k = 13
  · subst h4
    go_enter Try.func8, Try.ntmps8
    go_wp2_with fail
    go_ret
    exact ⟨rfl, box1 _ _⟩
  have hr : (decide (k = 1) || (decide (k = 2) || (decide (k = 3) || decide (k = 13)))) = false := by simp [h1, h2, h3, h4]
  rw [hr]
  have e1 := is_no' h1
  have e2 := is_no' h2
  have e3 := is_no' h3
  have e4 := is_no' h4
  go_enter Try.func8, Try.ntmps8
  go_wp2_with fail
  go_ret
  exact ⟨rfl, box1 _ _⟩

set_option maxHeartbeats 1000000 in
theorem typesSame_calls (B : Nat) (a b : PT) (p1 p2 : Option Addr) (n1 n2 q1 q2 : Nat) (w : World) (hB : B ≤ w.heap.size) (ha : a.In B w (.slice p1 n1 q1)) (hb : b.In B w (.slice p2 n2 q2)) :
    Calls Try.prog 9 #[.agg #[.int .u8 a.kind, .string a.name, .slice p1 n1 q1], .agg #[.int .u8 b.kind, .string b.name, .slice p2 n2 q2]] w fun e w' => e = .returned (.bool (sameT a b)) ∧ Below w.heap.size w w' := by
  have C : Hid (∀ w', Below w.heap.size w w' → Calls Try.prog 13 #[.agg #[.int .u8 a.kind, .string a.name, .slice p1 n1 q1], .agg #[.int .u8 b.kind, .string b.name, .slice p2 n2 q2]] w' fun e w'' => e = .returned (.bool (sameT a b)) ∧ Below w'.heap.size w' w'') :=
    Lib.hid fun w' hw => topType_calls B a b _ _ w' (by have := hw.size; omega) (PT.In.below (hw.mono hB) ha) (PT.In.below (hw.mono hB) hb)
  clear ha hb
  generalize sameT a b = r at *
  go_enter Try.func9, Try.ntmps9
  go_wp2_with fail
  refine (C.out _ (box2 _ _ _)).mono ?_; rintro e w1 ⟨rfl, b1'⟩
  have bel1 := Lib.hid (up_tr (box2 _ _ _) b1')
  clear b1' C
  go_wp2_with fail
  go_ret
  exact ⟨rfl, bel1.out⟩
end Go.Proofs.Ytikcjjbnbjjmcaa
