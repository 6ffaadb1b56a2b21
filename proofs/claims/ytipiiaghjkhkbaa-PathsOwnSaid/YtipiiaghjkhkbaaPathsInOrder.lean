/- paths.inOrder: the places' numbers, sorted. -/
import Derived.Test.YtipiiaghjkhkbaaPathsSort
import Derived.OwnWalk
import Derived.Deep.AppendLies
namespace Go.Proofs.Ytipiiaghjkhkbaa
open Go.RowKit
open Go.Sort (SWO PermIn SortedIn Holds)
set_option linter.unusedVariables false

/-- a row of numbers that lies in new memory -/
def NewI (base : Nat) (w : World) (l : List Nat) (v : Value) : Prop := ∃ b o, SlP w.heap.size v l.length b o ∧ RowI w b o l ∧ (l.length ≠ 0 → base ≤ b)
theorem NewI.iin {base : Nat} {w : World} {l : List Nat} {v : Value} (h : NewI base w l v) : IIn w.heap.size w l v := by
  obtain ⟨b, o, h1, h2, _⟩ := h
  exact ⟨b, o, h1, h2⟩
theorem int_news (w : World) (i : Int) (e : TypeId) : ∀ (j : Nat) x, [Value.int .i64 i][j]? = some x → (w.alloc (.cells #[.int .i64 i] e)).cell? ((⟨w.heap.size, 0, none⟩ : Addr).add j) = some x :=
  World.news_of_block (cs := #[.int .i64 i]) (t := e) (fr := (0, 0)) (heap_alloc_new w _)
theorem int_one (i : Int) : ∀ u ∈ ([.int .i64 i] : List Value), u.oneCell' = true := by
  intro u hu
  rw [List.mem_singleton] at hu; subst hu; rfl
theorem own_holds {α : Type} [Inhabited α] {enc : α → Value} {w : World} {base : Nat} {e : TypeId} {g n cap : Nat} {d : Array α} (h : w.ownsRow base e 1 (.slice (some ⟨g, 0, none⟩) n cap) n (d.toList.map enc)) (hm : n ≤ maxLen) : Holds enc w g 0 d := by
  have h2 := (own_cells h hm).2
  intro j hj
  have h3 := h2 j (enc d[j]!) (by rw [List.getElem?_map, Array.getElem?_toList, Array.getElem?_eq_getElem hj, getElem!_pos d j hj]; rfl)
  exact h3
theorem vals_range (n : Nat) : (allN n).toList.map (fun i : Fin n => Value.int .i64 (i.val : Int)) = (List.range n).map fun i : Nat => Value.int .i64 (i : Int) := by
  rw [← allN_vals, List.map_map]
  rfl

/-- what the sort leaves -/
theorem sortFunc_calls (B : Nat) (L : List PP) (lv : Value) (bx g cap : Nat) (hn : 0 < L.length) (hm : L.length ≤ 1000) (w : World) (hB : B ≤ w.heap.size) (hl : LIn B w L lv) (hbx : bx < g) (hBg : B ≤ g) (hg : g < w.heap.size) (hc : w.cell? ⟨bx, 0, none⟩ = some lv)
    (e : TypeId) (base : Nat) (hown : w.ownsRow base e 1 (.slice (some ⟨g, 0, none⟩) L.length cap) L.length ((List.range L.length).map fun i : Nat => Value.int .i64 (i : Int))) :
    Calls Try.prog 40 #[.slice (some ⟨g, 0, none⟩) L.length cap, .func (.func 41) #[] #[.pointer (some ⟨bx, 0, none⟩)]] w fun e w' => e = .returned (.tuple #[]) ∧
      ∃ d, Ord L.length (keyAt L) d ∧ d.length = L.length ∧ RowI w' g 0 d ∧ Below g w w' := by
  have hcap : L.length ≤ cap := by
    obtain ⟨_, h | ⟨g', cap', cur, hv, _, _, h4, _⟩⟩ := hown
    · cases h.1
    · cases hv; exact h4
  generalize hN : L.length = n at *
  letI : Inhabited (Fin n) := ⟨⟨0, hn⟩⟩
  let enc : Fin n → Value := fun i => .int .i64 (i.val : Int)
  have hH : Holds enc w g 0 (allN n) := own_holds (base := base) (e := e) (n := n) (cap := cap) (by rw [vals_range]; exact hown) (by unfold maxLen; omega)
  have hcmp : CmpLays1 Try.prog 41 #[.pointer (some ⟨bx, 0, none⟩)] enc (cmpF n (keyAt L)) g 0 (allN n).size w := by
    intro m os dk hs x y
    have bel := below_sort enc w g 0 m dk os g (Nat.le_refl _) (Nat.le_of_lt hg)
    exact order1_calls B L lv bx x.val y.val (by rw [hN]; exact x.isLt) (by rw [hN]; exact y.isLt) _ (Nat.le_trans hB bel.size) (hl.below (bel.mono hBg)) (Nat.lt_of_lt_of_le (Nat.lt_trans hbx hg) bel.size) ((bel.cell (p := ⟨bx, 0, none⟩) hbx).trans hc)
  have key := Try.slices_SortFunc enc (fun x => rfl) (cmpF n (keyAt L)) (swo_of (cmpF_good n (keyAt L))) 41 #[.pointer (some ⟨bx, 0, none⟩)] g 0 cap (allN n) w (fun _ _ => rfl) hcmp hH hg (by rw [allN_size]; omega)
  rw [allN_size] at key
  refine key.mono ?_
  rintro e w' ⟨he, d', q, os, hp, hs, rfl⟩
  obtain ⟨h1, h2⟩ := ord_of n (keyAt L) d' hp hs
  refine ⟨he, _, h2, by simpa using h1, ?_, below_sort enc w g 0 q d' os g (Nat.le_refl _) (Nat.le_of_lt hg)⟩
  have hh := holds_sortWorld enc w g 0 q (allN n) d' os hg hH (by rw [allN_size]; exact h1)
  intro j i hj
  rw [List.getElem?_map, Option.map_eq_some_iff] at hj
  obtain ⟨x, hx, rfl⟩ := hj
  have hj' : j < d'.size := by have := some_lt hx; simpa using this
  have := (hh j hj').1
  rw [getElem!_pos d' j hj'] at this
  rw [Array.getElem?_toList, Array.getElem?_eq_getElem hj'] at hx
  cases hx
  exact this

set_option maxRecDepth 100000 in
set_option maxHeartbeats 2000000 in
theorem inOrder_calls (B : Nat) (L : List PP) (lv : Value) (hm : L.length ≤ 1000) (w : World) (hB : B ≤ w.heap.size) (hl : LIn B w L lv) :
    Calls Try.prog 36 #[lv] w fun e w' => ∃ v d, e = .returned v ∧ Ord L.length (keyAt L) d ∧ NewI w.heap.size w' d v ∧ d.length = L.length ∧ Below w.heap.size w w' := by
  obtain ⟨i0, hi, hz0, hz1, hz2⟩ := info_parts infoInt
  obtain ⟨n, hn⟩ : ∃ n, n = L.length := ⟨_, rfl⟩
  obtain ⟨ao, cap, rfl⟩ := hl.shape
  have HS : Hid (∀ (g c : Nat) (W : World), 0 < n → Below w.heap.size w W → w.heap.size < g → g < W.heap.size → W.cell? ⟨w.heap.size, 0, none⟩ = some (.slice ao n cap) → W.ownsRow (w.heap.size + 1) 3 1 (.slice (some ⟨g, 0, none⟩) n c) n ((List.range n).map fun i : Nat => Value.int .i64 (i : Int)) →
      Calls Try.prog 40 #[.slice (some ⟨g, 0, none⟩) n c, .func (.func 41) #[] #[.pointer (some ⟨w.heap.size, 0, none⟩)]] W fun e w' => e = .returned (.tuple #[]) ∧
        ∃ d, Ord n (keyAt L) d ∧ d.length = n ∧ RowI w' g 0 d ∧ Below g W w') := Lib.hid fun g c W h0 bel h1 h2 h3 h4 => by
    subst hn
    exact sortFunc_calls B L _ w.heap.size g c h0 hm W (Nat.le_trans hB bel.size) (hl.below (bel.mono hB)) h1 (by omega) h2 h3 _ _ h4
  rw [← hn] at hm ⊢
  have HO : Hid (∀ k, Ord 0 k []) := Lib.hid fun k => ⟨fun i => by simp, List.Pairwise.nil⟩
  generalize hkk : keyAt L = kk at *
  clear hl hn hkk
  go_enter Try.func36, Try.ntmps36
  go_wp2_with fail
  obtain ⟨W0, hW⟩ : ∃ W, W = w.alloc (.cells #[.slice ao n cap] 30) := ⟨_, rfl⟩
  have f0 : W0.cell? ⟨w.heap.size, 0, none⟩ = some (.slice ao n cap) := by rw [hW]; go_simp
  have z1 : w.heap.size + 1 = W0.heap.size := by rw [hW]; simp
  have bel0 : Below w.heap.size w W0 := by rw [hW]; exact box1 _ _
  rw [← hW]
  clear hW
  have Hb0 := Lib.hid bel0
  clear bel0
  go_loopw [7, 3] (fun i u wr => ∃ k : Nat, k ≤ n ∧ i = .int .i64 k ∧ wr.cell? ⟨w.heap.size, 0, none⟩ = some (.slice ao n cap) ∧ Hid (wr.ownsRow W0.heap.size 3 1 u k ((List.range k).map fun i : Nat => Value.int .i64 (i : Int)) ∧ Below W0.heap.size W0 wr))
    (fun i _ _ => n - (intOf i).toNat)
  case atStart => exact ⟨0, by omega, rfl, f0, Lib.hid ⟨by simpa using World.ownsRow_nil _ W0.heap.size 3 1, Below.refl _ _⟩⟩
  case round =>
    obtain ⟨k, hk, rfl, c0, HH⟩ := hrel
    have hk0 : 0 ≤ (k : Int) := by omega
    obtain ⟨hown, hbel⟩ := HH.out
    have Hown := Lib.hid hown
    have Hbel := Lib.hid hbel
    clear HH
    by_cases hlt : k < n
    · have hk1 : (k : Int) < (n : Int) := by omega
      clear hown hbel
      go_wp2_with (first
        | (at_builtin; refine wpList_append_own _ rfl _ _ 51 rfl W0.heap.size 3 i0 _ 1 8 Try.underlying51 hi hz0 hz1 hz2 rfl (by decide) _ _ _ rfl (Hown.out.alloc _) ⟨wr.heap.size, 0, none⟩ 1 1 [.int .i64 k] rfl rfl ?c1 ?c2 ?c3 ?c4 ?c5 ?_)
        | fail)
      case c1 => exact int_news _ _ _
      case c2 => exact int_one _
      case c3 => unfold maxLen; omega
      case c4 => omega
      case c5 => have := Hbel.out.size; simp; omega
      intro v' w6 hown6 hgrow6 _
      have Hb6 := Lib.hid ((Hbel.out.alloc Hbel.out.size _).grown hgrow6 (by have := Hbel.out.size; simp; omega) (fun k hk => (Hown.out.lt k hk).1))
      have Hown7 : Hid (w6.ownsRow W0.heap.size 3 1 v' (k + 1) ((List.range (k + 1)).map fun i : Nat => Value.int .i64 (i : Int))) := Lib.hid (by
        rw [List.range_succ, List.map_append]; exact hown6)
      have c6 := (Hb6.out.cell (p := ⟨w.heap.size, 0, none⟩) (by show w.heap.size < _; omega)).trans f0
      clear hown6 hgrow6
      go_wp2_with fail
      go_roundw
      case rel => exact ⟨k + 1, by omega, by go_num, c6, Lib.hid ⟨Hown7.out, Hb6.out⟩⟩
      case measure => simp [intOf]; omega
    · obtain rfl : k = n := by omega
      have Hbw : Hid (Below w.heap.size w wr) := Lib.hid (Hb0.out.trans (hbel.mono (by omega)))
      obtain ⟨u, rfl⟩ : ∃ x, x = u3 := ⟨_, rfl⟩
      by_cases hk : k = 0
      · subst hk
        obtain ⟨ua, uc, rfl⟩ := own_shape hown
        clear hown hbel HS
        go_wp2_with (go_at_call 40; refine (Try.slices_SortFunc_none (α := Nat) _ _ _ _).mono ?_; rintro e w' ⟨rfl, rfl⟩)
        go_ret
        exact ⟨_, [], rfl, HO.out _, ⟨0, 0, ⟨Nat.zero_le _, _, _, rfl, Nat.zero_le _, .inl rfl⟩, fun j i h => (by cases h), fun h => absurd rfl h⟩, rfl, Hbw.out⟩
      · obtain ⟨g, c, rfl, hg1, hg2⟩ : ∃ g c, u = .slice (some ⟨g, 0, none⟩) k c ∧ W0.heap.size ≤ g ∧ k ≤ c := by
          rcases hown.2 with h | ⟨g, c, cur, h1, h2, _, h4, _⟩
          · exact absurd h.2 hk
          · exact ⟨g, c, h1, h2, h4⟩
        have hg3 := (hown.lt g rfl).2
        have HC := Lib.hid (HS.out g c wr (by omega) Hbw.out (by omega) hg3 c0 (by rw [z1]; exact hown))
        clear hown hbel HS
        go_wp2_with (go_at_call 40; refine HC.out.mono ?_; rintro e w' ⟨rfl, d, hd⟩; have Hd := Lib.hid hd; clear hd)
        obtain ⟨o1, o2, o3, o4⟩ := Hd.out
        clear Hd
        go_ret
        exact ⟨_, d, rfl, o1, ⟨g, 0, ⟨by rw [o2]; unfold maxLen; omega, some ⟨g, 0, none⟩, c, by rw [o2]; rfl, by rw [o2]; exact hg2, .inr ⟨rfl, Nat.lt_of_lt_of_le hg3 o4.size⟩⟩, o3, fun _ => by omega⟩, o2, Hbw.out.trans (o4.mono (by omega))⟩
end Go.Proofs.Ytipiiaghjkhkbaa
