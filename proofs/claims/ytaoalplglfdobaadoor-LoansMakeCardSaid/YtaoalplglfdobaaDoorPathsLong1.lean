/- The laws' own bound on a place: Long. -/
import Derived.Test.YtaoalplglfdobaaDoorPathsOwnRow
import Derived.WalkKit
namespace Go.Proofs.YtaoalplglfdobaaDoor
open Go.RowKit
set_option linter.unusedVariables false

def longP (x : PP) : Bool := (decide (100 < x.path.length) || decide (1000 < x.name.size)) || x.path.any fun s => decide (1000 < s.size)
structure Tight (x : PP) : Prop where
  name : x.name.size ≤ 1000
  path : x.path.length ≤ 100
  each : ∀ s, s ∈ x.path → s.size ≤ 1000
theorem tight_of {x : PP} (h : longP x = false) : Tight x := by
  unfold longP at h
  rw [Bool.or_eq_false_iff, Bool.or_eq_false_iff, decide_eq_false_iff_not, decide_eq_false_iff_not, List.any_eq_false] at h
  exact ⟨by omega, by omega, fun s hs => by have := h.2 s hs; simpa using this⟩
theorem long_yes {x : PP} {j : Nat} {s : ByteArray} (hs : x.path[j]? = some s) (h : 1000 < s.size) : longP x = true := by
  unfold longP
  rw [Bool.or_eq_true]
  exact .inr (List.any_eq_true.2 ⟨s, List.mem_of_getElem? hs, by simpa using h⟩)
theorem long_no {x : PP} (h1 : ¬ 100 < x.path.length) (h2 : ¬ 1000 < x.name.size) (h3 : ∀ (j : Nat) s, x.path[j]? = some s → ¬ 1000 < s.size) : longP x = false := by
  unfold longP
  rw [Bool.or_eq_false_iff, Bool.or_eq_false_iff, decide_eq_false_iff_not, decide_eq_false_iff_not, List.any_eq_false]
  refine ⟨⟨h1, h2⟩, fun s hs => ?_⟩
  obtain ⟨j, hj⟩ := List.mem_iff_getElem?.1 hs
  simpa using h3 j s hj

set_option maxHeartbeats 1000000 in
theorem long_calls (x : PP) (B : Nat) (v : Value) (w : World) (hB : B ≤ w.heap.size) (hx : x.In B w v) :
    Calls Tryd.prog 11 #[.agg #[.string x.name, v]] w fun e w' => e = .returned (.bool (longP x)) ∧ Below w.heap.size w w' := by
  obtain ⟨z1, b1, o1, ⟨m1, ao, cap, rfl, c1, h1⟩, r1⟩ := hx
  unfold strMax at z1
  unfold maxLen at m1
  have hyes := Lib.hid fun j s hs h => long_yes (x := x) (j := j) (s := s) hs h
  obtain ⟨n, hn⟩ : ∃ n, n = x.path.length := ⟨_, rfl⟩
  have hno := Lib.hid fun h1 h2 h3 => long_no (x := x) h1 h2 h3
  have hlen : Hid (100 < n ∨ 1000 < x.name.size → longP x = true) := Lib.hid fun h => by
    unfold longP
    rw [Bool.or_eq_true, Bool.or_eq_true]
    exact .inl (h.imp (by rw [hn]; simp) (by simp))
  rw [← hn] at m1 h1 c1 hno ⊢
  generalize longP x = R at *
  generalize hz : x.name.size = sz at *
  have Hn := Lib.hid hn
  have Hr := Lib.hid r1
  have H1 := Lib.hid h1
  generalize x.name = nm at *
  clear hn r1 h1
  by_cases g1 : 100 < n
  · have e1 : (n : Int) > 100 := by omega
    have HR := Lib.hid (hlen.out (.inl g1))
    go_enter Tryd.func11, Tryd.ntmps11
    go_wp2_with fail
    go_ret
    exact ⟨ret_bool HR.out.symm, box1 _ _⟩
  have e1 : ¬ (n : Int) > 100 := by omega
  by_cases g2 : 1000 < sz
  · have e2 : (sz : Int) > 1000 := by omega
    have HR := Lib.hid (hlen.out (.inr g2))
    go_enter Tryd.func11, Tryd.ntmps11
    go_wp2_with fail
    go_ret
    exact ⟨ret_bool HR.out.symm, box1 _ _⟩
  have e2 : ¬ (sz : Int) > 1000 := by omega
  have HN := Lib.hid (hno.out g1 g2)
  go_enter Tryd.func11, Tryd.ntmps11
  go_wp2_with fail
  go_loopw [3] (fun i wr => ∃ k : Nat, k ≤ n ∧ i = .int .i64 k ∧ wr.cell? ⟨w.heap.size, 1, none⟩ = some (.slice ao n cap) ∧ Hid (Below w.heap.size w wr) ∧ Hid (∀ (j : Nat) s, j < k → x.path[j]? = some s → ¬ 1000 < s.size))
    (fun i _ => n - (intOf i).toNat)
  case atStart => exact ⟨0, by omega, rfl, by go_simp, Lib.hid (box1 _ _), Lib.hid fun j s h => by omega⟩
  case round =>
    obtain ⟨k, hk, rfl, p1, hbel, HK⟩ := hrel
    have hk0 : 0 ≤ (k : Int) := by omega
    by_cases hlt : k < n
    · obtain ⟨s, hs, _⟩ := get_at (l := x.path) (k := k) (by rw [← Hn.out]; exact hlt)
      obtain ⟨rfl, hbb⟩ := H1.out.resolve_left (by omega)
      have k0 := (Hr.out.below (fun _ => hbb) (hbel.out.mono hB) k s hs).2
      have hk1 : (k : Int) < (n : Int) := by omega
      have Hs := Lib.hid hs
      clear hs
      by_cases hsz : 1000 < s.size
      · have e3 : (s.size : Int) > 1000 := by omega
        have HR := Lib.hid (hyes.out k s Hs.out hsz)
        go_wp2_with fail
        go_ret
        exact ⟨ret_bool HR.out.symm, hbel.out⟩
      · have e3 : ¬ (s.size : Int) > 1000 := by omega
        have HK2 : Hid (∀ (j : Nat) s, j < k + 1 → x.path[j]? = some s → ¬ 1000 < s.size) := Lib.hid fun j s' hj hs' => by
          by_cases e : j = k
          · subst e
            have := Option.some.inj (Hs.out.symm.trans hs')
            rw [← this]; exact hsz
          · exact HK.out j s' (by omega) hs'
        go_wp2_with fail
        go_roundw
        case rel => exact ⟨k + 1, by omega, by go_num, p1, hbel, HK2⟩
        case measure => simp [intOf]; omega
    · obtain rfl : k = n := by omega
      have HR := Lib.hid (HN.out fun j s hs => HK.out j s (by rw [Hn.out]; exact some_lt hs) hs)
      go_wp2_with fail
      go_ret
      exact ⟨ret_bool HR.out.symm, hbel.out⟩
end Go.Proofs.YtaoalplglfdobaaDoor
