/- Types: what is owned; the document's own way. -/
import Derived.Test.YtikcjjbnbjjmcaaTreeRefT
namespace Go.Proofs.Ytikcjjbnbjjmcaa
open Go.RowKit
set_option linter.unusedVariables false

theorem box1 (w : World) (o : Obj) : Below w.heap.size w (w.alloc o) := (Below.refl _ w).alloc (Nat.le_refl _) _
theorem is_no' {a b : Int} (h : a ≠ b) : (a == b) = false := beq_eq_false_iff_ne.2 h
theorem all_yes2 {α : Type} {p : α → Bool} {l : List α} (h : ∀ (j : Nat) x, l[j]? = some x → p x = true) : l.all p = true := by
  rw [List.all_eq_true]
  intro x hx
  obtain ⟨j, hj⟩ := List.mem_iff_getElem?.1 hx
  exact h j x hj
theorem all_not2 {α : Type} {p : α → Bool} {l : List α} {k : Nat} {x : α} (h : l[k]? = some x) (hp : p x = false) : l.all p = false := by
  rw [Bool.eq_false_iff]
  intro hc
  have := List.all_eq_true.1 hc x (List.mem_of_getElem? h)
  rw [hp] at this; simp at this
mutual
/-- no reference is in it -/
def ownB : PT → Bool
  | .mk k _ xs => ownsB xs && (!decide (k = 13) && !decide (k = 14))
def ownsB : List PT → Bool
  | [] => true
  | t :: l => ownB t && ownsB l
end
theorem ownsB_all : ∀ l, ownsB l = l.all ownB
  | [] => by rw [ownsB]; rfl
  | t :: l => by rw [ownsB, ownsB_all l]; rfl
theorem ownB_mk (k : Int) (nm : ByteArray) (l : List PT) : ownB (.mk k nm l) = (l.all ownB && (!decide (k = 13) && !decide (k = 14))) := by rw [ownB, ownsB_all]
def RefOwnAt (a : PT) : Prop := ∀ (B : Nat) (v : Value) (w : World), B ≤ w.heap.size → a.In B w v →
  Calls Try.prog 6 #[.agg #[.int .u8 a.kind, .string a.name, v]] w fun e w' => e = .returned (.bool (ownB a)) ∧ Below w.heap.size w w'
set_option maxRecDepth 100000 in
set_option maxHeartbeats 2000000 in
theorem refOwn_step (kd : Int) (nm : ByteArray) (l : List PT) (ih : ∀ a, a ∈ l → RefOwnAt a) : RefOwnAt (.mk kd nm l) := by
  intro B v w hB ht
  obtain ⟨⟨hu, hs⟩, b1, o1, ⟨m1, ao, cap, rfl, h1⟩, r1⟩ := ht
  rw [ownB_mk]
  unfold maxLen at m1
  obtain ⟨n, hn⟩ : ∃ n, n = l.length := ⟨_, rfl⟩
  rw [← hn] at m1 h1 ⊢
  have Hn := Lib.hid hn
  have H1 := Lib.hid h1
  have Hr := Lib.hid r1
  have IH := Lib.hid ih
  clear hn h1 r1 ih hu hs
  show Calls Try.prog 6 #[.agg #[.int .u8 kd, .string nm, .slice ao n cap]] w _
  by_cases h13 : kd = 13
  · subst h13
    go_enter Try.func6, Try.ntmps6
    go_wp2_with fail
    go_ret
    exact ⟨ret_bool (by simp), box1 _ _⟩
  by_cases h14 : kd = 14
  · subst h14
    go_enter Try.func6, Try.ntmps6
    go_wp2_with fail
    go_ret
    exact ⟨ret_bool (by simp), box1 _ _⟩
  rw [decide_eq_false h13, decide_eq_false h14, show (l.all ownB && (!false && !false)) = l.all ownB from by simp]
  have e13 := is_no' h13
  have e14 := is_no' h14
  go_enter Try.func6, Try.ntmps6
  go_wp2_with fail
  go_loopw [3] (fun i wr => ∃ k : Nat, k ≤ n ∧ i = .int .i64 k ∧ w.heap.size < wr.heap.size ∧ wr.cell? ⟨w.heap.size, 2, none⟩ = some (.slice ao n cap) ∧ Hid (Below w.heap.size w wr) ∧ Hid (∀ (j : Nat) x, j < k → l[j]? = some x → ownB x = true))
    (fun i _ => n - (intOf i).toNat)
  case atStart => exact ⟨0, by omega, rfl, by simp, by go_simp, Lib.hid (box1 _ _), Lib.hid fun j x hj => by omega⟩
  case round =>
    obtain ⟨k, hk, rfl, hz, hc, hbel, HK⟩ := hrel
    by_cases hlt : k < n
    · obtain ⟨a, ha, hin⟩ := get_at (l := l) (k := k) (by rw [← Hn.out]; exact hlt)
      obtain ⟨rfl, hb1⟩ := H1.out.resolve_left (by omega)
      obtain ⟨va, ca, ia⟩ := PT.Row.get (PT.Row.below (hbel.out.mono hB) hb1 Hr.out) ha
      obtain ⟨aa, na, qa, rfl⟩ := ia.shape
      have c0 : wr.cell? ⟨b1, o1 + k * 3, none⟩ = some (.int .u8 a.kind) := ca 0 _ rfl
      have c1 : wr.cell? ⟨b1, o1 + k * 3 + 1, none⟩ = some (.string a.name) := ca 1 _ rfl
      have c2 : wr.cell? ⟨b1, o1 + k * 3 + 2, none⟩ = some (.slice aa na qa) := ca 2 _ rfl
      have g1 : b1 < wr.heap.size := by have := hbel.out.size; omega
      have hk1 : (k : Int) < (n : Int) := by omega
      have hk0 : 0 ≤ (k : Int) := by omega
      have hsz := hbel.out.size
      have C : Hid (∀ w', Below wr.heap.size wr w' → Calls Try.prog 6 #[.agg #[.int .u8 a.kind, .string a.name, .slice aa na qa]] w' fun e w'' => e = .returned (.bool (ownB a)) ∧ Below w'.heap.size w' w'') :=
        Lib.hid fun w' hw => IH.out a hin B _ w' (by have := hw.size; omega) (PT.In.below (hw.mono (by omega)) ia)
      have Ha := Lib.hid ha
      generalize hq : ownB a = q at *
      have Hq := Lib.hid hq
      clear ha hin ca ia hq
      go_wp2_with fail
      refine (C.out _ (Below.refl _ _)).mono ?_; rintro e w1 ⟨rfl, b1'⟩
      have bel1 := Lib.hid b1'
      have hcc := (bel1.out.cell (p := ⟨w.heap.size, 2, none⟩) hz).trans hc
      have hz1 : w.heap.size < w1.heap.size := by have := bel1.out.size; omega
      have belw := Lib.hid (hbel.out.trans (bel1.out.mono hsz))
      clear b1' C hc c0 c1 c2
      cases q
      · have hres := Lib.hid (all_not2 (p := ownB) Ha.out Hq.out)
        go_wp2_with fail
        go_ret
        exact ⟨ret_bool hres.out.symm, belw.out⟩
      · have HK2 : Hid (∀ (j : Nat) x, j < k + 1 → l[j]? = some x → ownB x = true) := Lib.hid fun j x hj hx => by
          by_cases e : j = k
          · subst e
            rw [Ha.out] at hx
            cases hx
            exact Hq.out
          · exact HK.out j x (by omega) hx
        go_wp2_with fail
        go_roundw
        case rel => exact ⟨k + 1, by omega, by go_num, hz1, hcc, belw, HK2⟩
        case measure => simp [intOf]; omega
    · obtain rfl : k = n := by omega
      have hres := Lib.hid (all_yes2 (p := ownB) (l := l) fun j x hx => HK.out j x (by rw [Hn.out]; exact (List.getElem?_eq_some_iff.1 hx).1) hx)
      go_wp2_with fail
      go_ret
      exact ⟨ret_bool hres.out.symm, hbel.out⟩
theorem refOwn_calls (a : PT) : RefOwnAt a :=
  PT.rec (motive_1 := RefOwnAt) (motive_2 := fun l => ∀ x, x ∈ l → RefOwnAt x) (fun k n xs H => refOwn_step k n xs H)
    (fun x h => by cases h) (fun a l ha hl x h => by cases h with | head => exact ha | tail _ h => exact hl x h) a
end Go.Proofs.Ytikcjjbnbjjmcaa
