/- paths.Least: the least ones, each in memory of its own. -/
import Derived.Test.YtipiiaghjkhkbaaPathsLeastOf
import Derived.Test.YtipiiaghjkhkbaaPathsWith
import Derived.Test.YtipiiaghjkhkbaaPathsRefLeast
namespace Go.Proofs.Ytipiiaghjkhkbaa
open Go.RowKit
set_option linter.unusedVariables false

theorem own_kept {w w' : World} {base base' : Nat} {e e' : TypeId} {size size' : Nat} {v u : Value} {n m : Nat} {xs ys : List Value} (h : w.ownsRow base e size v n xs) (hu : w.ownsRow base' e' size' u m ys) (he : e ≠ e') (hg : w.grownBy w' u.ownBlock) : w'.ownsRow base e size v n xs := by
  obtain ⟨hl, h⟩ := h
  refine ⟨hl, h.imp id ?_⟩
  rintro ⟨g, cap, cur, hv, hb, hh, h5⟩
  refine ⟨g, cap, cur, hv, hb, ?_, h5⟩
  have hlt : g < w.heap.size := by
    rcases Nat.lt_or_ge g w.heap.size with h | h
    · exact h
    · rw [Array.getElem?_eq_none h] at hh; cases hh
  rw [hg.block g hlt ?_]
  · exact hh
  · intro e1
    rcases hu.2 with ⟨h1, _⟩ | ⟨g', cap', cur', h1, _, h2, _⟩
    · rw [h1] at e1; cases e1
    · rw [h1] at e1
      have : g = g' := by simpa [Value.ownBlock] using e1
      subst this
      rw [hh] at h2
      cases h2
      exact he rfl
/-- each of some places lies at a row of its own -/
def OwnZ (base : Nat) (w : World) (Z : List (PP × Value)) : Prop := ∀ p, p ∈ Z → w.ownsRow base 9 1 p.2 p.1.path.length (p.1.path.map .string)
theorem OwnZ.below {base : Nat} {w w' : World} {Z : List (PP × Value)} (h : OwnZ base w Z) (k : Below w.heap.size w w') : OwnZ base w' Z := fun p hp => own_below (h p hp) k
theorem OwnZ.in {base : Nat} {w : World} {Z : List (PP × Value)} (h : OwnZ base w Z) (hs : ∀ p, p ∈ Z → Short p.1) : ∀ p, p ∈ Z → p.1.In w.heap.size w p.2 := fun p hp => by
  have h1 := (hs p hp).name
  have h2 := (hs p hp).path
  exact ⟨by unfold strMax; omega, own_S (h p hp) (fun s hz => by have := (hs p hp).each s hz; unfold strMax; omega) (by unfold maxLen; omega)⟩

/-- k of the least ones are there -/
def LInv (L : List PP) (d : List Nat) (w1 : World) (k : Nat) (u : Value) (wr : World) : Prop :=
  ∃ Z : List (PP × Value), Z.length = k ∧ Z.map Prod.fst = (d.take k).filterMap (fun i => L[i]?) ∧ wr.ownsRow w1.heap.size 24 2 u k (cells2 Z) ∧ OwnZ w1.heap.size wr Z ∧ Below w1.heap.size w1 wr
theorem LInv.start (L : List PP) (d : List Nat) (w1 : World) : LInv L d w1 0 (.slice none 0 0) w1 :=
  ⟨[], rfl, rfl, by simpa [cells2] using World.ownsRow_nil _ w1.heap.size 24 2, (fun p hp => by cases hp), Below.refl _ _⟩
set_option maxRecDepth 100000 in
set_option maxHeartbeats 2000000 in
theorem least_calls (B : Nat) (L : List PP) (lv : Value) (hm : L.length ≤ 1000) (hsh : ∀ x, x ∈ L → Short x) (w : World) (hB : B ≤ w.heap.size) (hl : LIn B w L lv) :
    Calls Try.prog 24 #[lv] w fun e w' => ∃ v Z, e = .returned v ∧ Z.map Prod.fst = leastP L ∧ w'.ownsRow w.heap.size 24 2 v Z.length (cells2 Z) ∧ OwnZ w.heap.size w' Z ∧ Below w.heap.size w w' := by
  obtain ⟨i0, hi, hz0, hz1, hz2⟩ := info_parts infoPlace
  have hcon := leastOf_calls B L lv hm w hB hl
  obtain ⟨b, o, ⟨m1, ao, cap, rfl, c1, h1⟩, r1⟩ := hl
  obtain ⟨n, hn⟩ : ∃ n, n = L.length := ⟨_, rfl⟩
  have HS := Lib.hid hsh
  have HR : Hid (leastP L = ((List.range n).filter (leastI n (keyAt L))).filterMap fun i => L[i]?) := Lib.hid (by rw [hn]; rfl)
  have HD : Hid (∀ i, i ∈ (List.range n).filter (leastI n (keyAt L)) → i < n) := Lib.hid fun i h => List.mem_range.1 (List.mem_filter.1 h).1
  have HM : Hid (((List.range n).filter (leastI n (keyAt L))).length ≤ n) := Lib.hid (by have := List.length_filter_le (leastI n (keyAt L)) (List.range n); simpa using this)
  rw [← hn] at hm m1 h1 c1 hcon ⊢
  generalize (List.range n).filter (leastI n (keyAt L)) = d at *
  generalize leastP L = R at *
  have Hn := Lib.hid hn
  have Hr := Lib.hid r1
  have H1 := Lib.hid h1
  clear hn r1 h1 hsh
  go_enter Try.func24, Try.ntmps24
  go_wp2_with fail
  refine hcon.mono ?_
  rintro e w1 ⟨v9, rfl, hd, b1⟩
  obtain ⟨b9, o9, ⟨m9, ao9, cap9, rfl, c9, h9⟩, r9, n9⟩ := hd
  obtain ⟨m, hm'⟩ : ∃ m, m = d.length := ⟨_, rfl⟩
  have hmn : m ≤ n := by have := HM.out; omega
  rw [← hm'] at m9 c9 h9
  rw [← hm']
  have H9 := Lib.hid h9
  have R9 := Lib.hid r9
  have Hm := Lib.hid hm'
  have Hb1 := Lib.hid b1
  have hs1 := b1.size
  clear h9 r9 n9 b1 m9 hcon hm'
  go_wp2_with fail
  go_loopw [9, 3] (fun i u wr => ∃ (k : Nat), k ≤ m ∧ i = .int .i64 k ∧ Hid (LInv L d w1 k u wr))
    (fun i _ _ => m - (intOf i).toNat)
  case atStart =>
    exact ⟨0, by omega, rfl, Lib.hid (LInv.start L d w1)⟩
  case round =>
    obtain ⟨k, hk, rfl, HH⟩ := hrel
    have hk0 : 0 ≤ (k : Int) := by omega
    obtain ⟨u, rfl⟩ : ∃ x, x = u3 := ⟨_, rfl⟩
    obtain ⟨Z, hZl, hZ, hown, hoz, hbel⟩ := HH.out
    by_cases hlt : k < m
    · have hk1 : (k : Int) < (m : Int) := by omega
      obtain ⟨i, hi', himem⟩ := get_at (l := d) (k := k) (by rw [← Hm.out]; exact hlt)
      have hin : i < n := HD.out i himem
      obtain ⟨rfl, hb9⟩ := H9.out.resolve_left (by omega)
      obtain ⟨rfl, hbB⟩ := H1.out.resolve_left (by omega)
      obtain ⟨x, hx, hxm⟩ := get_at (l := L) (k := i) (by rw [← Hn.out]; exact hin)
      obtain ⟨vx, y0, y1, yi⟩ := Hr.out i x hx
      have hxs := HS.out x hxm
      have Hb2 : Hid (Below w.heap.size w wr) := Lib.hid (Hb1.out.trans (hbel.mono hs1))
      have k0 := (hbel.cell (p := ⟨b9, o9 + k, none⟩) hb9).trans (R9.out k i hi')
      have l0 := (Hb2.out.cell (p := ⟨b, o + i * 2, none⟩) (by show b < _; omega)).trans y0
      have l1 := (Hb2.out.cell (p := ⟨b, o + i * 2 + 1, none⟩) (by show b < _; omega)).trans y1
      have hi0 : 0 ≤ (i : Int) := by omega
      have hi1 : (i : Int) < (n : Int) := by omega
      have hcon := Lib.hid (with_calls x [] (by have := hxs.path; simp; omega) B vx (.slice none 0 0) wr (Nat.le_trans hB Hb2.out.size) (yi.below (Hb2.out.mono hB)) ⟨0, 0, ⟨Nat.zero_le _, none, 0, rfl, Nat.le_refl _, .inl rfl⟩, fun j s h => by cases h⟩)
      have HZ : Hid (∀ v', (Z ++ [(x, v')]).map Prod.fst = (d.take (k + 1)).filterMap fun i => L[i]?) := Lib.hid fun v' => by
        rw [List.take_add_one, hi', List.map_append, hZ, List.filterMap_append]
        simp [hx]
      have Hown := Lib.hid hown
      have Hoz := Lib.hid hoz
      have Hbel := Lib.hid hbel
      have HZl := Lib.hid hZl
      have hws : w1.heap.size ≤ wr.heap.size := hbel.size
      obtain ⟨ua, uc, rfl⟩ := own_shape hown
      clear y0 y1 yi hx hxm hi' himem hown hoz hbel HH hxs hZ hZl
      go_wp2_with fail
      refine hcon.out.mono ?_
      rintro e w2 ⟨v', rfl, hv, b2⟩
      rw [List.append_nil, List.length_nil, Nat.add_zero] at hv
      have Hown2 := Lib.hid (own_below Hown.out b2)
      have Hoz2 := Lib.hid (Hoz.out.below b2)
      have Hv := Lib.hid (own_mono hv hws)
      have Hb3 := Lib.hid (Hbel.out.trans (b2.mono hws))
      have hw2 := b2.size
      obtain ⟨va, vc, rfl⟩ := own_shape hv
      clear b2 hv hcon Hown Hoz Hbel k0 l0 l1
      generalize hxn : x.path.length = xn at *
      have Hxn := Lib.hid hxn
      clear hxn
      go_wp2_with (first
        | (at_builtin; refine wpList_append_own _ rfl _ _ 30 rfl w1.heap.size 24 i0 _ 2 40 Try.underlying30 hi hz0 hz1 hz2 rfl (by decide) _ _ _ rfl (Hown2.out.alloc _) ⟨w2.heap.size, 0, none⟩ 1 1 [.string x.name, .slice va xn vc] rfl rfl ?c1 ?c2 ?c3 ?c4 ?c5 ?_)
        | fail)
      case c1 => exact two_news _ _ _ _
      case c2 => exact two_one rfl
      case c3 => unfold maxLen; omega
      case c4 => omega
      case c5 => simp; omega
      intro u' w6 hown6 hgrow6 _
      have Hoz6 : Hid (OwnZ w1.heap.size w6 (Z ++ [(x, .slice va xn vc)])) := Lib.hid fun p hp => by
        have hall : ∀ p, p ∈ Z ++ [(x, .slice va xn vc)] → w2.ownsRow w1.heap.size 9 1 p.2 p.1.path.length (p.1.path.map .string) := fun p hp => by
          rcases List.mem_append.1 hp with h | h
          · exact Hoz2.out p h
          · rw [List.mem_singleton] at h
            subst h
            rw [Hxn.out]; exact Hv.out
        exact own_kept ((hall p hp).alloc _) (Hown2.out.alloc _) (by decide) hgrow6
      have Hb6 := Lib.hid ((Hb3.out.alloc Hb3.out.size _).grown hgrow6 (by have := Hb3.out.size; simp; omega) (fun k hk => (Hown2.out.lt k hk).1))
      have Hown6 : Hid (w6.ownsRow w1.heap.size 24 2 u' (k + 1) (cells2 (Z ++ [(x, .slice va xn vc)]))) := Lib.hid (by rw [cells2_snoc]; exact hown6)
      clear hown6 hgrow6 Hown2 Hoz2 Hv Hb3
      go_wp2_with fail
      go_roundw
      case rel => exact ⟨k + 1, by omega, by go_num, Lib.hid ⟨Z ++ [(x, .slice va xn vc)], by rw [List.length_append, HZl.out]; rfl, HZ.out _, Hown6.out, Hoz6.out, Hb6.out⟩⟩
      case measure => simp [intOf]; omega
    · obtain rfl : k = m := by omega
      have HF : Hid (Z.map Prod.fst = R) := Lib.hid (by rw [hZ, HR.out, List.take_of_length_le (by rw [← Hm.out]; exact Nat.le_refl _)])
      have Hown := Lib.hid hown
      have Hoz := Lib.hid hoz
      have Hbel := Lib.hid hbel
      have HZl := Lib.hid hZl
      obtain ⟨ua, uc, rfl⟩ := own_shape hown
      clear hown hoz hbel hZ hZl HH
      go_wp2_with fail
      go_ret
      exact ⟨_, Z, rfl, HF.out, by rw [HZl.out]; exact own_mono Hown.out hs1, fun p hp => own_mono (Hoz.out p hp) hs1, Hb1.out.trans (Hbel.out.mono hs1)⟩
end Go.Proofs.Ytipiiaghjkhkbaa
