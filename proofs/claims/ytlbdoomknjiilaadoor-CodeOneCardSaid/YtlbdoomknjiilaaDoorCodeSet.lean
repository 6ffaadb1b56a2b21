/- Units of one's own: rows of functions that were made anew; what stays of what may be. -/
import Derived.Test.YtlbdoomknjiilaaDoorCodeJumps
import Derived.Test.YtlbdoomknjiilaaDoorCodeDoc
namespace Go.Proofs.YtlbdoomknjiilaaDoor
open Go.RowKit
set_option linter.unusedVariables false

def cellsF (Z : List (FF × Value)) : List Value := Z.flatMap fun p => p.1.cells p.2
theorem cellsF_snoc (Z : List (FF × Value)) (p : FF × Value) : cellsF (Z ++ [p]) = cellsF Z ++ p.1.cells p.2 := by simp [cellsF]
theorem cellsF_len (Z : List (FF × Value)) : (cellsF Z).length = Z.length * 4 := by
  induction Z with
  | nil => rfl
  | cons q Z ih =>
    show (q.1.cells q.2 ++ cellsF Z).length = _
    rw [List.length_append, ih, List.length_cons]
    show 4 + _ = _
    omega
theorem cellsF_at {Z : List (FF × Value)} {j : Nat} {p : FF × Value} (h : Z[j]? = some p) (i : Nat) (v : Value) (hi : (p.1.cells p.2)[i]? = some v) : (cellsF Z)[j * 4 + i]? = some v := by
  have hi4 : i < 4 := some_lt hi
  induction Z generalizing j with
  | nil => cases h
  | cons q Z ih =>
    have e : cellsF (q :: Z) = q.1.cells q.2 ++ cellsF Z := rfl
    have hl : (q.1.cells q.2).length = 4 := rfl
    rw [e]
    cases j with
    | zero =>
      cases h
      rw [List.getElem?_append_left (by rw [hl]; omega), Nat.zero_mul, Nat.zero_add]
      exact hi
    | succ j =>
      rw [List.getElem?_append_right (by rw [hl]; omega), hl, show (j + 1) * 4 + i - 4 = j * 4 + i by omega]
      exact ih (by simpa using h)
theorem cellsF_one {B : Nat} {w : World} {Z : List (FF × Value)} (h : ∀ p, p ∈ Z → p.1.In B w p.2) : ∀ u ∈ cellsF Z, u.oneCell' = true := by
  intro u hu
  obtain ⟨p, hp, hu⟩ := List.mem_flatMap.1 hu
  obtain ⟨ao, cap, hv⟩ := GIn.shape (h p hp).2
  rw [hv] at hu
  unfold FF.cells at hu
  simp only [List.mem_cons, List.not_mem_nil, or_false] at hu
  rcases hu with rfl | rfl | rfl | rfl <;> rfl
theorem frow_pairs {B : Nat} {w : World} {b o : Nat} {L : List FF} (h : RowG 4 (FAt B) w b o L) :
    ∃ Z : List (FF × Value), Z.map Prod.fst = L ∧ ∀ (j : Nat) p, Z[j]? = some p → At w b (o + j * 4) (p.1.cells p.2) ∧ p.1.In B w p.2 := by
  have h2 : ∀ j : Nat, ∃ v, ∀ x, L[j]? = some x → At w b (o + j * 4) (x.cells v) ∧ x.In B w v := by
    intro j
    cases hj : L[j]? with
    | none => exact ⟨undef, fun x hx => by cases hx⟩
    | some x =>
      obtain ⟨v, h1⟩ := h j x hj
      exact ⟨v, fun y hy => by cases hy; exact h1⟩
  obtain ⟨f, hf⟩ := Classical.skolem.1 h2
  refine ⟨L.mapIdx fun j x => (x, f j), ?_, ?_⟩
  · apply List.ext_getElem?
    intro j
    rw [List.getElem?_map, List.getElem?_mapIdx]
    cases L[j]? <;> rfl
  · intro j p hp
    rw [List.getElem?_mapIdx, Option.map_eq_some_iff] at hp
    obtain ⟨x, hx, rfl⟩ := hp
    exact hf j x hx
theorem mk_F {B C : Nat} {w : World} {Z : List (FF × Value)} {g n cap : Nat} {ao : Option Addr} (hn : n = Z.length) (hm : n ≤ maxLen) (hc : n ≤ cap) (ha : n ≠ 0 → ao = some ⟨g, 0, none⟩ ∧ g < C) (hcs : ∀ (j : Nat) p, Z[j]? = some p → At w g (j * 4) (p.1.cells p.2)) (hi : ∀ p, p ∈ Z → p.1.In B w p.2) (hB : B ≤ C) :
    FsIn C w (Z.map Prod.fst) (.slice ao n cap) := by
  subst hn
  refine ⟨g, 0, ⟨by rw [List.length_map]; exact hm, ao, cap, by rw [List.length_map], by rw [List.length_map]; exact hc, ?_⟩, fun j x hj => ?_⟩
  · rw [List.length_map]
    by_cases h0 : Z.length = 0
    · exact .inl h0
    · exact .inr (ha h0)
  · rw [List.getElem?_map, Option.map_eq_some_iff] at hj
    obtain ⟨p, hp, rfl⟩ := hj
    refine ⟨p.2, ?_, (hi p (List.mem_of_getElem? hp)).mono hB⟩
    rw [Nat.zero_add]
    exact hcs j p hp
/-- what an owned row of functions says -/
theorem own_F {w : World} {base n : Nat} {v : Value} {Z : List (FF × Value)} (h : w.ownsRow base 45 4 v n (cellsF Z)) (hm : n ≤ maxLen) :
    n = Z.length ∧ ∃ g ao cap, v = .slice ao n cap ∧ n ≤ cap ∧ (n ≠ 0 → ao = some ⟨g, 0, none⟩ ∧ g < w.heap.size ∧ base ≤ g) ∧ (∀ (j : Nat) p, Z[j]? = some p → At w g (j * 4) (p.1.cells p.2)) ∧ ∀ i, i < n * 4 → w.frozen? ⟨g, i, none⟩ = false := by
  have hlt := h.lt
  have hl := h.1
  rw [cellsF_len] at hl
  obtain ⟨⟨_, ao, cap, rfl, hc, h4⟩, h2⟩ := own_cells h hm
  refine ⟨by omega, rowAt (.slice ao n cap), ao, cap, rfl, hc, fun h0 => ⟨(h4.resolve_left h0).1, (h4.resolve_left h0).2, ?_⟩, fun j p hp i u hi => ?_, fun i hi => ?_⟩
  · have := (h4.resolve_left h0).1
    exact (hlt _ (by rw [this]; rfl)).1
  · have := (h2 (j * 4 + i) u (cellsF_at hp i u hi)).1
    rwa [Nat.zero_add] at this
  · have : i < (cellsF Z).length := by rw [cellsF_len]; omega
    have h3 := (h2 i _ (List.getElem?_eq_getElem this)).2
    rwa [Nat.zero_add] at h3

/-! ### what may be stays so -/
theorem paramsAt_set {u : UU} {k : Nat} {f g : FF} (hf : u.funcs[k]? = some f) (hp : g.params = f.params) (a : Int) : paramsAt { u with funcs := u.funcs.set k g } a = paramsAt u a := by
  unfold paramsAt
  simp only [List.getElem?_set]
  by_cases h : k = a.toNat
  · subst h
    rw [if_pos rfl, if_pos (some_lt hf), hf]
    simp [hp]
  · rw [if_neg h]
theorem fits_more {u : UU} {k : Nat} {f : FF} {s : Int} (hf : u.funcs[k]? = some f) (hs : 0 < f.slots → f.slots ≤ s) (a : Nat) (n xa : Int) (h : fitsB u f a n xa = true) :
    fitsB { u with funcs := u.funcs.set k { f with slots := s } } { f with slots := s } a n xa = true := by
  by_cases h1 : a = 1
  · subst h1
    have h : (decide (0 ≤ n) && decide (n < f.slots)) = true := h
    show (decide (0 ≤ n) && decide (n < s)) = true
    rw [Bool.and_eq_true, decide_eq_true_iff, decide_eq_true_iff] at *
    omega
  · rw [← h]
    unfold fitsB
    simp only [List.length_set, paramsAt_set (g := { f with slots := s }) hf rfl]
    split <;> first | rfl | exact absurd rfl h1 | (split <;> simp_all)
theorem mayJ_more {u : UU} {k : Nat} {f : FF} {s : Int} {x : JJ} (hf : u.funcs[k]? = some f) (hs : 0 < f.slots → f.slots ≤ s) (h : mayJ u f x = true) :
    mayJ { u with funcs := u.funcs.set k { f with slots := s } } { f with slots := s } x = true := by
  unfold mayJ at *
  simp only [Bool.and_eq_true] at *
  obtain ⟨h1, h2, h3, h4, h5⟩ := h
  exact ⟨h1, fits_more hf hs _ _ _ h2, fits_more hf hs _ _ _ h3, fits_more hf hs _ _ _ h4, h5⟩
theorem jumps_in {u : UU} {f : FF} {x : JJ} (h : mayJ u f x = true) : ∀ z ∈ jumpsB x, 0 ≤ z ∧ z ≤ f.code.length := by
  intro z hz
  unfold jumpsB at hz
  unfold mayJ at h
  simp only [Bool.and_eq_true] at h
  obtain ⟨h1, h2, h3, h4, h5, h6, h7, h8, h9⟩ := h
  have inn : ∀ z : Int, withinB z 0 f.code.length = true → 0 ≤ z ∧ z ≤ f.code.length := fun z h => by
    unfold withinB at h
    rw [Bool.and_eq_true, decide_eq_true_iff, decide_eq_true_iff] at h
    exact h
  split at hz
  · rename_i ho
    rw [List.mem_singleton] at hz
    subst hz
    rcases ho with ho | ho
    · rw [ho] at h2; exact inn _ h2
    · rw [ho] at h2; exact inn _ h2
  · split at hz
    · rename_i ho
      rw [ho] at h8
      have h8 : slotsB x.slots f.code.length = true := h8
      unfold slotsB at h8
      rw [Bool.and_eq_true, List.all_eq_true] at h8
      exact inn z (h8.2 z hz)
    · cases hz
theorem slots_of_may {u : UU} {f : FF} {x : JJ} (h : mayJ u f x = true) : x.op = 16 → x.slots.length ≤ 1000 := by
  intro ho
  unfold mayJ at h
  simp only [Bool.and_eq_true] at h
  have h8 := h.2.2.2.2.2.2.2.1
  rw [ho] at h8
  have h8 : slotsB x.slots f.code.length = true := h8
  unfold slotsB at h8
  rw [Bool.and_eq_true, decide_eq_true_iff] at h8
  omega
theorem instrB_some {u : UU} {fn : Int} {x : JJ} (h : instrB u fn x = true) : ∃ (k : Nat) (f : FF), fn = k ∧ u.funcs[k]? = some f ∧ mayJ u f x = true := by
  by_cases hi : 0 ≤ fn ∧ fn < u.funcs.length
  · obtain ⟨k, rfl⟩ : ∃ k : Nat, fn = k := ⟨fn.toNat, by omega⟩
    obtain ⟨f, hf, _⟩ := get_at (l := u.funcs) (k := k) (by omega)
    rw [instrB_in hf] at h
    exact ⟨k, f, rfl, hf, h⟩
  · rw [instrB_out hi] at h
    cases h
end Go.Proofs.YtlbdoomknjiilaaDoor
