/- SetsOf: the set of names, and whether one has a name; what is handed in stays as it was. -/
import Derived.Test.YtcllflpfmpggoaaSetsKit
namespace Go.Proofs.Ytcllflpfmpggoaa
open Go.RowKit
set_option linter.unusedVariables false

/-- a row of one's own, opened -/
theorem own_look {w : World} {base : Nat} {e : TypeId} {v : Value} {n : Nat} {l : List ByteArray} (h : w.ownsRow base e 1 v n (l.map .string)) (hm : n ≤ maxLen) :
    ∃ ao cap g, v = .slice ao n cap ∧ (n ≠ 0 → ao = some ⟨g, 0, none⟩ ∧ base ≤ g ∧ g < w.heap.size) ∧ ∀ (j : Nat) s, l[j]? = some s → w.cell? ⟨g, j, none⟩ = some (.string s) ∧ w.frozen? ⟨g, j, none⟩ = false := by
  obtain ⟨⟨_, ao, cap, hv, _, h3⟩, h4⟩ := own_cells h hm
  refine ⟨ao, cap, rowAt v, hv, fun h0 => ?_, fun j s hj => ?_⟩
  · obtain ⟨e1, e2⟩ := h3.resolve_left h0
    refine ⟨e1, ?_, e2⟩
    have := (h.lt (rowAt v) (by rw [hv, e1]; simp [Value.ownBlock, rowAt])).1
    exact this
  · have := h4 j (.string s) (by rw [List.getElem?_map, hj]; rfl)
    rwa [Nat.zero_add] at this
/-- its cells are there, and may be written -/
def Writ (g : Nat) (l : List ByteArray) (w : World) : Prop := ∀ (j : Nat) s, l[j]? = some s → (w.cell? ⟨g, j, none⟩).isSome = true ∧ w.frozen? ⟨g, j, none⟩ = false
theorem Writ.set {g : Nat} {l : List ByteArray} {w : World} (h : Writ g l w) (p : Addr) (z : Value) : Writ g l (w.setCell p z) := fun j s hj => by
  obtain ⟨h1, h2⟩ := h j s hj
  refine ⟨?_, by rw [World.frozen?_setCell]; exact h2⟩
  by_cases e : p = ⟨g, j, none⟩
  · subst e
    rw [World.cell?_setCell_same' _ _ _ h1]; rfl
  · rw [World.cell?_setCell_other _ _ _ _ e]; exact h1
theorem Writ.up {g : Nat} {l : List ByteArray} {w w' : World} (hg : l.length ≠ 0 → g < w.heap.size) (k : Below w.heap.size w w') (h : Writ g l w) : Writ g l w' := fun j s hj => by
  have hlt : g < w.heap.size := hg (some_pos hj)
  exact ⟨by rw [k.cell (p := ⟨g, j, none⟩) hlt]; exact (h j s hj).1, (k.frozen (p := ⟨g, j, none⟩) hlt).trans (h j s hj).2⟩

set_option maxRecDepth 100000 in
set_option maxHeartbeats 4000000 in
theorem setsOf_walk (w : World) (l : List ByteArray) (va : Value) (ha : SIn w.heap.size w l va) (s : ByteArray) (hs : s.size ≤ strMax) :
    Calls Try.prog 3 #[va, .string s] w fun e w' => e = .returned (.bool true) ∧ Below w.heap.size w w' := by
  have M1 := Lib.hid (manyN_calls l w.heap.size va w (Nat.le_refl _) ha)
  have hm1 := @fewN_of l
  generalize manyN l = m1 at *
  cases m1 with
  | true =>
    clear hm1 ha hs
    go_enter Try.func3, Try.ntmps3
    go_wp2_with (go_at_call 10; refine M1.out.mono ?_; rintro e w1 ⟨rfl, b1⟩; have H1 := Lib.hid b1; clear b1)
    go_ret
    exact ⟨rfl, H1.out⟩
  | false =>
    have hl := (hm1 rfl).1
    have HL := Lib.hid hl
    have HA := Lib.hid ha
    obtain ⟨a1, c1, rfl⟩ := ha.of
    obtain ⟨n, hn⟩ : ∃ n, n = l.length := ⟨_, rfl⟩
    have Hn := Lib.hid hn
    rw [← hn] at HA M1 hl ⊢
    clear hm1 ha hs hn
    obtain ⟨r, hr⟩ : ∃ r, r = hasN l s := ⟨_, rfl⟩
    have Hr := Lib.hid hr.symm
    clear hr
    cases r
    all_goals
      go_enter Try.func3, Try.ntmps3
      go_wp2_with (first
        | (go_at_call 10
           refine M1.out.mono ?_
           rintro e w1 ⟨rfl, b1⟩
           have H1 := Lib.hid b1
           have z1 := Lib.hid b1.size
           have HM : Hid ((w1.alloc (.cells #[] 9)).ownsRow w.heap.size 9 1 (.slice (some ⟨w1.heap.size, 0, none⟩) 0 0) 0 (([] : List ByteArray).map .string)) := Lib.hid (World.ownsRow_made w1 #[] 0 z1.out (Nat.zero_le _) rfl)
           have HX2 := Lib.hid ((HA.out.below H1.out).below ((box1 w1 (.cells #[] 9)).mono z1.out))
           have H2 := Lib.hid (H1.out.trans ((box1 w1 (.cells #[] 9)).mono z1.out))
           have z2 := Lib.hid H2.out.size
           clear b1)
        | (at_builtin; refine wpList_app rfl _ _ rfl w.heap.size _ 0 [] rfl HM.out l _ n Hn.out rfl w.heap.size z2.out HX2.out (by omega) z2.out ?_)
        | fail)
      intro vi w2 hown hg
      have H3 := Lib.hid (H2.out.grown hg z2.out (fun k hk => (HM.out.lt k hk).1))
      have z3 := H3.out.size
      have HI : Hid (SIn w2.heap.size w2 l vi) := Lib.hid (own_S (l := l) (n := n) hown HA.out.small (by unfold maxLen; omega))
      clear hown hg HM HX2 H2 z1 z2 H1
      go_wp2_with fail
      refine (of_calls w2.heap.size l vi (by have := HL.out; omega) w2 (Nat.le_refl _) HI.out).mono ?_
      rintro e w3 ⟨vo, rfl, ho, b4⟩
      have H4 := hid_up H3 b4
      have hlen := ofN_len l
      rw [← Hn.out] at hlen
      obtain ⟨m, hm⟩ : ∃ m, m = (ofN l).length := ⟨_, rfl⟩
      have Hm := Lib.hid hm
      rw [← hm] at ho hlen
      obtain ⟨ao, co, g, rfl, hg, hcs⟩ := own_look ho (by unfold maxLen; omega)
      have HO := Lib.hid (own_S (l := ofN l) (n := m) ho (fun z hz => HA.out.small z (ofN_mem.1 hz)) (by unfold maxLen; omega))
      have HG := Lib.hid hg
      have HW : Hid (Writ g (ofN l) w3) := Lib.hid fun j s hj => ⟨by rw [(hcs j s hj).1]; rfl, (hcs j s hj).2⟩
      have B2 := Lib.hid b4
      clear ho b4 hm hg hcs
      go_wp2_with fail
      refine (refOf_calls w.heap.size l _ (by have := HL.out; omega) w3 H4.out.size (HA.out.below H4.out)).mono ?_
      rintro e w4 ⟨vr, rfl, hr, b5⟩
      have H5 := hid_up H4 b5
      have HR := Lib.hid hr
      have HO := SIn.up HO b5
      have B3 := Lib.hid (B2.out.trans (b5.mono B2.out.size))
      have HW := Lib.hid (HW.out.up (fun h => (HG.out (by rw [Hm.out]; exact h)).2.2) b5)
      have HG : Hid (m ≠ 0 → ao = some ⟨g, 0, none⟩ ∧ w2.heap.size ≤ g ∧ g < w4.heap.size) := Lib.hid fun h => ⟨(HG.out h).1, (HG.out h).2.1, Nat.lt_of_lt_of_le (HG.out h).2.2 b5.size⟩
      clear hr b5 B2
      go_wp2_with fail
      refine (ref_same_row HO.out HR.out).mono ?_
      rintro e w5 ⟨rfl, b6⟩
      have H6 := hid_up H5 b6
      have B4 := Lib.hid (B3.out.trans (b6.mono B3.out.size))
      have HW := Lib.hid (HW.out.up (fun h => (HG.out (by rw [Hm.out]; exact h)).2.2) b6)
      have HG : Hid (m ≠ 0 → ao = some ⟨g, 0, none⟩ ∧ w2.heap.size ≤ g ∧ g < w5.heap.size) := Lib.hid fun h => ⟨(HG.out h).1, (HG.out h).2.1, Nat.lt_of_lt_of_le (HG.out h).2.2 b6.size⟩
      clear b6 B3 HO HR
      go_wp2_with fail
      refine (has_row (X := l) (r := _) Hr.out ((HI.out.below B4.out).mono B4.out.size)).mono ?_
      rintro e w6 ⟨rfl, b7⟩
      have H7 := hid_up H6 b7
      have B5 := Lib.hid (B4.out.trans (b7.mono B4.out.size))
      have HW := Lib.hid (HW.out.up (fun h => (HG.out (by rw [Hm.out]; exact h)).2.2) b7)
      have HG : Hid (m ≠ 0 → ao = some ⟨g, 0, none⟩ ∧ w2.heap.size ≤ g ∧ g < w6.heap.size) := Lib.hid fun h => ⟨(HG.out h).1, (HG.out h).2.1, Nat.lt_of_lt_of_le (HG.out h).2.2 b7.size⟩
      clear b7 B4
      go_wp2_with fail
      refine (refHas_calls w.heap.size l s _ w6 H7.out.size (HA.out.below H7.out)).mono ?_
      rw [Hr.out]
      rintro e w7 ⟨rfl, b8⟩
      have H8 := hid_up H7 b8
      have B6 := Lib.hid (B5.out.trans (b8.mono B5.out.size))
      have HW := Lib.hid (HW.out.up (fun h => (HG.out (by rw [Hm.out]; exact h)).2.2) b8)
      have HG : Hid (m ≠ 0 → ao = some ⟨g, 0, none⟩ ∧ w2.heap.size ≤ g) := Lib.hid fun h => ⟨(HG.out h).1, (HG.out h).2.1⟩
      clear b8 B5
      go_wp2_with fail
      go_loopw [8] (fun i wr => ∃ k : Nat, k ≤ m ∧ i = .int .i64 k ∧ Hid (Writ g (ofN l) wr) ∧ Hid (Below w2.heap.size w2 wr))
        (fun i _ => m - (intOf i).toNat)
      case atStart => exact ⟨0, by omega, rfl, HW, B6⟩
      case round =>
        obtain ⟨k, hk, rfl, HW', HB⟩ := hrel
        have hk0 : 0 ≤ (k : Int) := by omega
        by_cases hlt : k < m
        · have hk1 : (k : Int) < (m : Int) := by omega
          obtain ⟨z, hz, _⟩ := get_at (l := ofN l) (k := k) (by rw [← Hm.out]; exact hlt)
          obtain ⟨rfl, hgg⟩ := HG.out (by omega)
          obtain ⟨q1, q2⟩ := HW'.out k z hz
          obtain ⟨old, hold⟩ := Option.isSome_iff_exists.1 q1
          have HN : Hid (∀ v : Value, Writ g (ofN l) (wr.setCell ⟨g, k, none⟩ v) ∧ Below w2.heap.size w2 (wr.setCell ⟨g, k, none⟩ v)) := Lib.hid fun v => ⟨HW'.out.set _ _, HB.out.setCell hgg _⟩
          clear hz
          go_wp2_with fail
          go_roundw
          case rel => exact ⟨k + 1, by omega, by go_num, Lib.hid (HN.out _).1, Lib.hid (HN.out _).2⟩
          case measure => simp [intOf]; omega
        · obtain rfl : k = m := by omega
          have HI2 := Lib.hid ((HI.out.below HB.out).mono HB.out.size)
          have H9 : Hid (Below w.heap.size w wr) := Lib.hid (H3.out.trans (HB.out.mono z3))
          go_wp2_with fail
          refine (ref_same_row HI2.out ((HA.out.below H9.out).mono H9.out.size)).mono ?_
          rintro e w9 ⟨rfl, b9⟩
          have H10 := hid_up H9 b9
          go_wp2_with fail
          refine (awake_calls _).mono ?_
          rintro e w10 ⟨rfl, b10⟩
          have H11 := hid_up H10 b10
          go_wp2_with fail
          go_ret
          exact ⟨rfl, H11.out⟩
end Go.Proofs.Ytcllflpfmpggoaa
