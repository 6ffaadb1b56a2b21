/- paths.leastOf: where those stand that no other one begins. -/
import Derived.Test.YtipiiaghjkhkbaaPathsInOrder
namespace Go.Proofs.Ytipiiaghjkhkbaa
open Go.RowKit
open Go.Sort (SWO PermIn SortedIn Holds)
set_option linter.unusedVariables false

abbrev ints (l : List Nat) : List Value := l.map fun i : Nat => Value.int .i64 (i : Int)
theorem sortInts_calls (w : World) (base : Nat) (e : TypeId) (g cap m : Nat) (l r : List Nat) (hm : m = l.length) (h1 : m ≤ 1000) (hg : g < w.heap.size) (hown : w.ownsRow base e 1 (.slice (some ⟨g, 0, none⟩) m cap) m (ints l))
    (hs : (l.map fun i : Nat => (i : Int)).mergeSort (fun x y => decide (x ≤ y)) = r.map fun i : Nat => (i : Int)) :
    Calls Try.prog 37 #[.slice (some ⟨g, 0, none⟩) m cap] w fun e w' => e = .returned (.tuple #[]) ∧ RowI w' g 0 r ∧ Below g w w' := by
  have hl : (l.map fun i : Nat => (i : Int)).length = m := by rw [List.length_map, hm]
  have hH : Holds (Value.int .i64) w g 0 (l.map fun i : Nat => (i : Int)).toArray := own_holds (base := base) (e := e) (n := m) (cap := cap) (by simpa [ints, List.map_map, Function.comp_def] using hown) (by unfold maxLen; omega)
  have key := Try.slices_Sort_int g 0 cap (l.map fun i : Nat => (i : Int)) w hH hg (by rw [hl]; omega)
  rw [hl, hs] at key
  refine key.mono ?_
  rintro e w' ⟨he, q, os, hw⟩
  have hw2 : w' = sortWorld (Value.int .i64) w g 0 q (r.map fun i : Nat => (i : Int)).toArray os := hw
  subst hw2
  have hlen : r.length = l.length := by
    have := congrArg List.length hs
    simpa using this.symm
  refine ⟨he, ?_, below_sort _ w g 0 q _ os g (Nat.le_refl _) (Nat.le_of_lt hg)⟩
  have hh := holds_sortWorld (Value.int .i64) w g 0 q _ (r.map fun i : Nat => (i : Int)).toArray os hg hH (by simp [hlen])
  intro j i hj
  have hj' : j < r.length := some_lt hj
  have h3 := (hh j (by simpa using hj')).1
  have hr : r[j] = i := Option.some.inj ((List.getElem?_eq_getElem hj').symm.trans hj)
  rw [getElem!_pos _ j (by simpa using hj')] at h3
  simpa [hr] using h3

theorem int_eq_iff {m : Nat} (h : m ≠ 0) : ((m : Int) == 0) = false := by rw [beq_eq_false_iff_ne]; omega
set_option maxRecDepth 100000 in
set_option maxHeartbeats 8000000 in
theorem leastOf_calls (B : Nat) (L : List PP) (lv : Value) (hm : L.length ≤ 1000) (w : World) (hB : B ≤ w.heap.size) (hl : LIn B w L lv) :
    Calls Try.prog 33 #[lv] w fun e w' => ∃ v, e = .returned v ∧ NewI w.heap.size w' ((List.range L.length).filter (leastI L.length (keyAt L))) v ∧ Below w.heap.size w w' := by
  obtain ⟨i0, hi, hz0, hz1, hz2⟩ := info_parts infoInt
  have hcon := Lib.hid fun (W : World) (h : Below w.heap.size w W) => inOrder_calls B L lv hm W (Nat.le_trans hB h.size) (hl.below (h.mono hB))
  obtain ⟨b, o, ⟨m1, ao, cap, rfl, c1, h1⟩, r1⟩ := hl
  obtain ⟨n, hn⟩ : ∃ n, n = L.length := ⟨_, rfl⟩
  have Hkey : Hid (∀ i x, L[i]? = some x → keyAt L i = x.key) := Lib.hid fun i x h => keyAt_eq h
  rw [← hn] at hm m1 h1 c1 hcon ⊢
  generalize hkk : keyAt L = kk at *
  have Hn := Lib.hid hn
  have Hr := Lib.hid r1
  have H1 := Lib.hid h1
  have hm1 := m1
  clear hn r1 h1 hkk m1
  obtain ⟨R, hR⟩ : ∃ R, R = (List.range n).filter (leastI n kk) := ⟨_, rfl⟩
  rw [← hR]
  have HRR := Lib.hid hR
  clear hR
  go_enter Try.func33, Try.ntmps33
  go_wp2_with fail
  obtain ⟨W0, hW⟩ : ∃ W, W = w.alloc (.cells #[.string ⟨#[]⟩, .slice none 0 0] 24) := ⟨_, rfl⟩
  have f0 : W0.cell? ⟨w.heap.size, 0, none⟩ = some (.string ⟨#[]⟩) := by rw [hW]; go_simp
  have f1 : W0.cell? ⟨w.heap.size, 1, none⟩ = some (.slice none 0 0) := by rw [hW]; go_simp
  have g0 : W0.frozen? ⟨w.heap.size, 0, none⟩ = false := by rw [hW]; go_simp
  have g1 : W0.frozen? ⟨w.heap.size, 1, none⟩ = false := by rw [hW]; go_simp
  have z1 : w.heap.size < W0.heap.size := by rw [hW]; simp
  have bel0 : Below w.heap.size w W0 := by rw [hW]; exact box1 _ _
  rw [← hW]
  clear hW
  refine (hcon.out W0 bel0).mono ?_
  rintro e w1 ⟨v9, d, rfl, O, hd, hdn, b1⟩
  have f0 := (b1.cell (p := ⟨w.heap.size, 0, none⟩) z1).trans f0
  have f1 := (b1.cell (p := ⟨w.heap.size, 1, none⟩) z1).trans f1
  have g0 := (b1.frozen (p := ⟨w.heap.size, 0, none⟩) z1).trans g0
  have g1 := (b1.frozen (p := ⟨w.heap.size, 1, none⟩) z1).trans g1
  have z2 : w.heap.size < w1.heap.size := by have := b1.size; omega
  have Hb1 := Lib.hid (bel0.trans (b1.mono bel0.size))
  obtain ⟨b9, o9, ⟨m9, ao9, cap9, rfl, c9, h9⟩, r9, n9⟩ := hd
  rw [hdn] at m9 c9 h9 n9
  have H9 := Lib.hid h9
  have R9 := Lib.hid r9
  have N9 : Hid (n ≠ 0 → b9 ≠ w.heap.size) := Lib.hid fun h => by have := n9 h; omega
  have HO := Lib.hid O
  have Hdn := Lib.hid hdn
  rw [hdn]
  clear h9 r9 n9 bel0 b1 O z1 m9
  have HX : Hid (∀ k i, d[k]? = some i → ∃ x, L[i]? = some x) := Lib.hid fun k i h => by
    have : i < L.length := by rw [← Hn.out]; exact (HO.out.mem i).1 (List.mem_of_getElem? h)
    exact ⟨L[i], List.getElem?_eq_getElem this⟩
  have HI : Hid (∀ i x, L[i]? = some x → i < n) := Lib.hid fun i x h => by rw [Hn.out]; exact some_lt h
  have HE : Hid (keepL kk d = d.filter (leastI n kk)) := Lib.hid (keep_eq n kk HO.out d [] (by simp))
  have HF : Hid (((d.filter (leastI n kk)).map fun i : Nat => (i : Int)).mergeSort (fun x y => decide (x ≤ y)) = R.map fun i : Nat => (i : Int)) := Lib.hid (by rw [HRR.out]; exact sort_filter HO.out _)
  clear HRR
  have HZ : Hid (∀ (l : List Nat), l.length ≤ d.length → (keepL kk l).length ≤ n) := Lib.hid fun l h => by
    have : ∀ l : List Nat, (keepL kk l).length ≤ l.length := fun l => by
      generalize hr : l.reverse = r
      induction r generalizing l with
      | nil => rw [List.reverse_eq_nil_iff] at hr; subst hr; exact Nat.le_refl _
      | cons x r ih =>
        obtain rfl : l = r.reverse ++ [x] := by rw [← List.reverse_reverse l, hr]; simp
        have := ih r.reverse (by simp)
        rw [keepL_snoc, keep1]
        split <;> simp at this ⊢ <;> omega
    have := this l
    rw [Hdn.out] at h
    omega
  generalize leastI n kk = p at *
  go_wp2_with fail
  go_loopw [11, 3] (fun i u wr => ∃ (k : Nat) (s : ByteArray) (v : Value), k ≤ n ∧ i = .int .i64 k ∧ wr.cell? ⟨w.heap.size, 0, none⟩ = some (.string s) ∧ wr.cell? ⟨w.heap.size, 1, none⟩ = some v ∧ wr.frozen? ⟨w.heap.size, 0, none⟩ = false ∧ wr.frozen? ⟨w.heap.size, 1, none⟩ = false ∧
      Hid (wr.ownsRow w1.heap.size 3 1 u (keepL kk (d.take k)).length (ints (keepL kk (d.take k))) ∧ Below w.heap.size w wr ∧ w1.heap.size ≤ wr.heap.size ∧ (∀ i, i < w1.heap.size → i ≠ w.heap.size → wr.heap[i]? = w1.heap[i]?) ∧
        (keepL kk (d.take k) ≠ [] → ∃ x, L[(keepL kk (d.take k)).getLast?.getD 0]? = some x ∧ s = x.name ∧ x.In B wr v)))
    (fun i _ _ => n - (intOf i).toNat)
  case atStart =>
    exact ⟨0, _, _, by omega, rfl, f0, f1, g0, g1, Lib.hid ⟨by simpa [keepL, ints] using World.ownsRow_nil _ w1.heap.size 3 1, Hb1.out, Nat.le_refl _, fun _ _ _ => rfl, fun h => absurd rfl h⟩⟩
  case round =>
    obtain ⟨k, s, v, hk, rfl, c0, c1', x0, x1, HH⟩ := hrel
    have hk0 : 0 ≤ (k : Int) := by omega
    obtain ⟨u, rfl⟩ : ∃ x, x = u3 := ⟨_, rfl⟩
    by_cases hlt : k < n
    · have hk1 : (k : Int) < (n : Int) := by omega
      obtain ⟨i, hi', _⟩ := get_at (l := d) (k := k) (by rw [Hdn.out]; exact hlt)
      obtain ⟨x, hx⟩ := HX.out k i hi'
      have hin : i < n := HI.out i x hx
      obtain ⟨rfl, hb9⟩ := H9.out.resolve_left (by omega)
      obtain ⟨rfl, hbB⟩ := H1.out.resolve_left (by omega)
      obtain ⟨vx, y0, y1, yi⟩ := Hr.out i x hx
      obtain ⟨hown, hbel, hbw, hres, hlast⟩ := HH.out
      have k0 := (World.cell?_of_block (w := w1) (w' := wr) (a := ⟨b9, o9 + k, none⟩) (hres b9 hb9 (N9.out (by omega)))).trans (R9.out k i hi')
      have Htk : Hid (d.take (k + 1) = d.take k ++ [i]) := Lib.hid (by rw [List.take_add_one, hi']; rfl)
      have hsz := HZ.out (d.take k) (by simp; omega)
      have Hk1 : Hid (keepL kk (d.take (k + 1)) = keep1 kk (keepL kk (d.take k)) i) := Lib.hid (by rw [Htk.out, keepL_snoc])
      clear Htk
      have Hi' := Lib.hid hi'
      have Hyi := Lib.hid yi
      have Hx := Lib.hid hx
      have Hres := Lib.hid hres
      have Hbw := Lib.hid hbw
      have Hown := Lib.hid hown
      have Hbel := Lib.hid hbel
      have hi0 : 0 ≤ (i : Int) := by omega
      have hi1 : (i : Int) < (n : Int) := by omega
      have l0 := (hbel.cell (p := ⟨b, o + i * 2, none⟩) (by show b < _; omega)).trans y0
      have l1 := (hbel.cell (p := ⟨b, o + i * 2 + 1, none⟩) (by show b < _; omega)).trans y1
      obtain ⟨av, cv, rfl⟩ := yi.shape
      generalize x.path.length = xn at *
      generalize keepL kk (d.take k) = KP at *
      obtain ⟨q, hq⟩ : ∃ q, q = KP.length := ⟨_, rfl⟩
      rw [← hq] at Hown hown hsz
      have Hq := Lib.hid hq
      obtain ⟨ua, uc, rfl⟩ := own_shape hown
      have Hki := Lib.hid (Hkey.out i x hx)
      have hws : w.heap.size < wr.heap.size := by omega
      clear y0 y1 yi hx hi' hres hown hbel HH k0
      by_cases hkept : KP = []
      · subst hkept
        obtain rfl : q = 0 := hq
        clear hlast
        have k0 := (World.cell?_of_block (w := w1) (w' := wr) (a := ⟨b9, o9 + k, none⟩) (Hres.out b9 hb9 (N9.out (by omega)))).trans (R9.out k i Hi'.out)
        go_wp2_with fail
        refine wp_region_over (by kernel_rfl) (by kernel_rfl) ?_
        repeat (go_big_quiet_step (fail))
        refine wpQuiet_nil ?_
        rintro _ ⟨m, rfl⟩
        clear k0
        have Hk2 : Hid (keepL kk (d.take (k + 1)) = ([] : List Nat) ++ [i]) := Lib.hid (by rw [Hk1.out, keep1, if_pos (.inl rfl)])
        have b2 := m.h
        have Hb2 := Lib.hid (Hbel.out.trans (b2.mono Hbel.out.size))
        have Hown2 := Lib.hid (own_below Hown.out b2)
        have Hres2 : Hid (∀ i, i < w1.heap.size → i ≠ w.heap.size → m.w.heap[i]? = w1.heap[i]?) := Lib.hid fun i h1 h2 => (b2.block i (by omega)).trans (Hres.out i h1 h2)
        have hbw2 : w1.heap.size ≤ m.w.heap.size := Nat.le_trans hbw b2.size
        have l0 := (b2.cell (p := ⟨b, o + i * 2, none⟩) (by show b < _; omega)).trans l0
        have l1 := (b2.cell (p := ⟨b, o + i * 2 + 1, none⟩) (by show b < _; omega)).trans l1
        have c0 := (b2.cell (p := ⟨w.heap.size, 0, none⟩) hws).trans c0
        have c1' := (b2.cell (p := ⟨w.heap.size, 1, none⟩) hws).trans c1'
        have x0 := (b2.frozen (p := ⟨w.heap.size, 0, none⟩) hws).trans x0
        have x1 := (b2.frozen (p := ⟨w.heap.size, 1, none⟩) hws).trans x1
        clear b2 Hk1 Hown Hbel Hres
        generalize m.w = W2 at *
        have hws2 : w.heap.size < W2.heap.size := by omega
        go_wp2_with (first
          | (at_builtin; refine wpList_append_own _ rfl _ _ 51 rfl w1.heap.size 3 i0 _ 1 8 Try.underlying51 hi hz0 hz1 hz2 rfl (by decide) _ _ _ rfl (Hown2.out.alloc _) ⟨W2.heap.size, 0, none⟩ 1 1 [.int .i64 i] rfl rfl ?c1 ?c2 ?c3 ?c4 ?c5 ?_)
          | fail)
        case c1 => exact int_news _ _ _
        case c2 => exact int_one _
        case c3 => unfold maxLen; omega
        case c4 => omega
        case c5 => simp; omega
        intro v' w6 hown6 hgrow6 _
        have nb := own_ne Hown2.out z2
        have nbb := own_ne Hown2.out (show b < w1.heap.size by omega)
        have c0 := grown_cell hgrow6 c0 nb
        have c1' := grown_cell hgrow6 c1' nb
        have l0 := grown_cell hgrow6 l0 nbb
        have l1 := grown_cell hgrow6 l1 nbb
        have x0 := grown_frozen hgrow6 x0 hws2 nb
        have x1 := grown_frozen hgrow6 x1 hws2 nb
        have Hb6 := Lib.hid ((Hb2.out.alloc Hb2.out.size _).grown hgrow6 (by have := Hb2.out.size; simp; omega) (fun k hk => by have := (Hown2.out.lt k hk).1; omega))
        have Hres6 : Hid (∀ i, i < w1.heap.size → i ≠ w.heap.size → w6.heap[i]? = w1.heap[i]?) := Lib.hid fun i h1 h2 => ((hgrow6.block i (by simp; omega) (own_ne Hown2.out h1)).trans (Below.heap_alloc W2 _ i (by omega))).trans (Hres2.out i h1 h2)
        have hs6 : w1.heap.size ≤ w6.heap.size := by have := hgrow6.size; simp at this; omega
        have Hown6 := Lib.hid hown6
        clear hown6 hgrow6 nb nbb Hown2 Hb2 Hres2
        go_wp2_with fail
        go_roundw
        case rel =>
          refine ⟨k + 1, x.name, .slice av xn cv, by omega, by go_num, by go_simp, by go_simp, by go_simp, by go_simp, Lib.hid ⟨?_, (Hb6.out.setCell (p := ⟨w.heap.size, 0, none⟩) (Nat.le_refl _) _).setCell (p := ⟨w.heap.size, 1, none⟩) (Nat.le_refl _) _, by simpa using hs6, fun i h1 h2 => ?_, fun _ => ⟨x, ?_, rfl, ?_⟩⟩⟩
          · rw [Hk2.out, List.length_append, ← Hq.out, show ints (([] : List Nat) ++ [i]) = ints [] ++ [.int .i64 (i : Int)] from by simp [ints]]
            exact own_set (own_set Hown6.out (p := ⟨w.heap.size, 0, none⟩) z2 _) (p := ⟨w.heap.size, 1, none⟩) z2 _
          · exact ((Below.heap_setCell _ _ _ i h2).trans (Below.heap_setCell _ _ _ i h2)).trans (Hres6.out i h1 h2)
          · rw [Hk2.out]; simpa using Hx.out
          · exact Hyi.out.below (((Hb6.out.setCell (p := ⟨w.heap.size, 0, none⟩) (Nat.le_refl _) _).setCell (p := ⟨w.heap.size, 1, none⟩) (Nat.le_refl _) _).mono hB)
        case measure => simp [intOf]; omega
      · have hq0 : q ≠ 0 := fun e => hkept (List.eq_nil_of_length_eq_zero (by omega))
        obtain ⟨y, hy, rfl, yin⟩ := hlast hkept
        have Hlk : Hid (kk (KP.getLast?.getD 0) = y.key) := Lib.hid (Hkey.out _ y hy)
        have hq2 := int_eq_iff hq0
        have K : ∀ m : Over wr, Below w.heap.size w m.w := fun m => Hbel.out.trans (m.h.mono Hbel.out.size)
        have FA : ∀ m : Over wr, m.w.cell? ⟨b, o + i * 2, none⟩ = some (.string x.name) := fun m => (m.h.cell (p := ⟨b, o + i * 2, none⟩) (by show b < _; omega)).trans l0
        have FA1 : ∀ m : Over wr, m.w.cell? ⟨b, o + i * 2 + 1, none⟩ = some (.slice av xn cv) := fun m => (m.h.cell (p := ⟨b, o + i * 2 + 1, none⟩) (by show b < _; omega)).trans l1
        have FB : ∀ m : Over wr, m.w.cell? ⟨w.heap.size, 0, none⟩ = some (.string y.name) := fun m => (m.h.cell (p := ⟨w.heap.size, 0, none⟩) hws).trans c0
        have FB1 : ∀ m : Over wr, m.w.cell? ⟨w.heap.size, 1, none⟩ = some v := fun m => (m.h.cell (p := ⟨w.heap.size, 1, none⟩) hws).trans c1'
        have A1 := Lib.hid fun m : Over wr => over_calls (begins_calls B y x v (.slice av xn cv) m.w (Nat.le_trans hB (K m).size) (yin.below (m.h.mono (by omega))) (Hyi.out.below ((K m).mono hB)))
        have k0 := (World.cell?_of_block (w := w1) (w' := wr) (a := ⟨b9, o9 + k, none⟩) (Hres.out b9 hb9 (N9.out (by omega)))).trans (R9.out k i Hi'.out)
        have HB : Hid (begK (kk (KP.getLast?.getD 0)) (kk i) = begP y x) := Lib.hid (by rw [Hlk.out, Hki.out]; rfl)
        have Hyy := Lib.hid hy
        have Hyin := Lib.hid yin
        have Hkept := Lib.hid hkept
        clear K hkept hy yin hq hlast
        generalize begP y x = r at *
        cases r
        · go_wp2_with fail
          refine wp_region_over (by kernel_rfl) (by kernel_rfl) ?_
          repeat (go_big_quiet_step ((go_at_call 14; exact A1.out _)))
          refine wpQuiet_nil ?_
          rintro _ ⟨m, rfl⟩
          clear k0
          clear FA FA1 FB FB1 A1
          have Hk2 : Hid (keepL kk (d.take (k + 1)) = KP ++ [i]) := Lib.hid (by rw [Hk1.out, keep1, if_pos (.inr HB.out)])
          have b2 := m.h
          have Hb2 := Lib.hid (Hbel.out.trans (b2.mono Hbel.out.size))
          have Hown2 := Lib.hid (own_below Hown.out b2)
          have Hres2 : Hid (∀ i, i < w1.heap.size → i ≠ w.heap.size → m.w.heap[i]? = w1.heap[i]?) := Lib.hid fun i h1 h2 => (b2.block i (by omega)).trans (Hres.out i h1 h2)
          have hbw2 : w1.heap.size ≤ m.w.heap.size := Nat.le_trans hbw b2.size
          have l0 := (b2.cell (p := ⟨b, o + i * 2, none⟩) (by show b < _; omega)).trans l0
          have l1 := (b2.cell (p := ⟨b, o + i * 2 + 1, none⟩) (by show b < _; omega)).trans l1
          have c0 := (b2.cell (p := ⟨w.heap.size, 0, none⟩) hws).trans c0
          have c1' := (b2.cell (p := ⟨w.heap.size, 1, none⟩) hws).trans c1'
          have x0 := (b2.frozen (p := ⟨w.heap.size, 0, none⟩) hws).trans x0
          have x1 := (b2.frozen (p := ⟨w.heap.size, 1, none⟩) hws).trans x1
          clear b2 Hk1 Hown Hbel Hres
          generalize m.w = W2 at *
          have hws2 : w.heap.size < W2.heap.size := by omega
          go_wp2_with (first
            | (at_builtin; refine wpList_append_own _ rfl _ _ 51 rfl w1.heap.size 3 i0 _ 1 8 Try.underlying51 hi hz0 hz1 hz2 rfl (by decide) _ _ _ rfl (Hown2.out.alloc _) ⟨W2.heap.size, 0, none⟩ 1 1 [.int .i64 i] rfl rfl ?c1 ?c2 ?c3 ?c4 ?c5 ?_)
            | fail)
          case c1 => exact int_news _ _ _
          case c2 => exact int_one _
          case c3 => unfold maxLen; omega
          case c4 => omega
          case c5 => simp; omega
          intro v' w6 hown6 hgrow6 _
          have nb := own_ne Hown2.out z2
          have nbb := own_ne Hown2.out (show b < w1.heap.size by omega)
          have c0 := grown_cell hgrow6 c0 nb
          have c1' := grown_cell hgrow6 c1' nb
          have l0 := grown_cell hgrow6 l0 nbb
          have l1 := grown_cell hgrow6 l1 nbb
          have x0 := grown_frozen hgrow6 x0 hws2 nb
          have x1 := grown_frozen hgrow6 x1 hws2 nb
          have Hb6 := Lib.hid ((Hb2.out.alloc Hb2.out.size _).grown hgrow6 (by have := Hb2.out.size; simp; omega) (fun k hk => by have := (Hown2.out.lt k hk).1; omega))
          have Hres6 : Hid (∀ i, i < w1.heap.size → i ≠ w.heap.size → w6.heap[i]? = w1.heap[i]?) := Lib.hid fun i h1 h2 => ((hgrow6.block i (by simp; omega) (own_ne Hown2.out h1)).trans (Below.heap_alloc W2 _ i (by omega))).trans (Hres2.out i h1 h2)
          have hs6 : w1.heap.size ≤ w6.heap.size := by have := hgrow6.size; simp at this; omega
          have Hown6 := Lib.hid hown6
          clear hown6 hgrow6 nb nbb Hown2 Hb2 Hres2
          go_wp2_with fail
          go_roundw
          case rel =>
            refine ⟨k + 1, x.name, .slice av xn cv, by omega, by go_num, by go_simp, by go_simp, by go_simp, by go_simp, Lib.hid ⟨?_, (Hb6.out.setCell (p := ⟨w.heap.size, 0, none⟩) (Nat.le_refl _) _).setCell (p := ⟨w.heap.size, 1, none⟩) (Nat.le_refl _) _, by simpa using hs6, fun i h1 h2 => ?_, fun _ => ⟨x, ?_, rfl, ?_⟩⟩⟩
            · rw [Hk2.out, List.length_append, ← Hq.out, show ints (KP ++ [i]) = ints KP ++ [.int .i64 (i : Int)] from by simp [ints]]
              exact own_set (own_set Hown6.out (p := ⟨w.heap.size, 0, none⟩) z2 _) (p := ⟨w.heap.size, 1, none⟩) z2 _
            · exact ((Below.heap_setCell _ _ _ i h2).trans (Below.heap_setCell _ _ _ i h2)).trans (Hres6.out i h1 h2)
            · rw [Hk2.out]; simpa using Hx.out
            · exact Hyi.out.below (((Hb6.out.setCell (p := ⟨w.heap.size, 0, none⟩) (Nat.le_refl _) _).setCell (p := ⟨w.heap.size, 1, none⟩) (Nat.le_refl _) _).mono hB)
          case measure => simp [intOf]; omega
        · have Hk2 : Hid (keepL kk (d.take (k + 1)) = KP) := Lib.hid (by rw [Hk1.out, keep1, if_neg (fun h => h.elim Hkept.out (fun h => by rw [HB.out] at h; cases h))])
          go_wp2_with fail
          refine wp_region_over (by kernel_rfl) (by kernel_rfl) ?_
          repeat (go_big_quiet_step ((go_at_call 14; exact A1.out _)))
          refine wpQuiet_nil ?_
          rintro _ ⟨m, rfl⟩
          have c0 := FB m
          have c1' := FB1 m
          have x0 := (m.h.frozen (p := ⟨w.heap.size, 0, none⟩) hws).trans x0
          have x1 := (m.h.frozen (p := ⟨w.heap.size, 1, none⟩) hws).trans x1
          clear k0 FA FA1 FB FB1 A1
          go_wp2_with fail
          go_roundw
          case rel =>
            refine ⟨k + 1, _, _, by omega, by go_num, c0, c1', x0, x1, Lib.hid ⟨?_, Hbel.out.trans (m.h.mono Hbel.out.size), Nat.le_trans Hbw.out m.h.size, fun i h1 h2 => (m.h.block i (by have := Hbw.out; omega)).trans (Hres.out i h1 h2), fun _ => ⟨y, ?_, rfl, Hyin.out.below (m.h.mono (by omega))⟩⟩⟩
            · rw [Hk2.out, ← Hq.out]; exact own_below Hown.out m.h
            · rw [Hk2.out]; exact Hyy.out
          case measure => simp [intOf]; omega
    · obtain rfl : k = n := by omega
      obtain ⟨hown, hbel, hbw, hres, _⟩ := HH.out
      have ht : d.take k = d := List.take_of_length_le (by rw [Hdn.out]; exact Nat.le_refl _)
      have hkl := HZ.out d (Nat.le_refl _)
      rw [ht] at hown
      rw [HE.out] at hown hkl
      have Hbel := Lib.hid hbel
      generalize hKP : d.filter p = KP at *
      obtain ⟨q, hq⟩ : ∃ q, q = KP.length := ⟨_, rfl⟩
      rw [← hq] at hown hkl
      have hws : w.heap.size < wr.heap.size := by omega
      have HN : Hid (R.length = q) := Lib.hid (by
        have := congrArg List.length HF.out
        simpa [hq] using this.symm)
      by_cases hq0 : q = 0
      · subst hq0
        obtain ⟨ua, uc, rfl⟩ := own_shape hown
        have HC0 := Lib.hid (Try.slices_Sort_int_none ua uc)
        clear hown hbel hres HH hq ht hKP
        go_wp2_with fail
        refine (HC0.out _).mono ?_
        rintro e w' ⟨rfl, rfl⟩
        go_wp2_with fail
        go_ret
        exact ⟨_, rfl, ⟨0, 0, ⟨by rw [HN.out]; exact Nat.zero_le _, ua, uc, by rw [HN.out]; rfl, by rw [HN.out]; exact Nat.zero_le _, .inl HN.out⟩, fun j i h => (by have := some_lt h; have := HN.out; omega), fun h => absurd HN.out h⟩, Hbel.out⟩
      · obtain ⟨g, c, rfl, hg1, hg2⟩ : ∃ g c, u = .slice (some ⟨g, 0, none⟩) q c ∧ w1.heap.size ≤ g ∧ q ≤ c := by
          rcases hown.2 with h | ⟨g, c, cur, h1, h2, _, h4, _⟩
          · exact absurd h.2 hq0
          · exact ⟨g, c, h1, h2, h4⟩
        have hg3 := (hown.lt g rfl).2
        have HC := Lib.hid (sortInts_calls wr w1.heap.size 3 g c q KP R hq (by omega) hg3 hown HF.out)
        clear hown hbel hres HH hq ht hKP
        go_wp2_with (go_at_call 37; refine HC.out.mono ?_; rintro e w' ⟨rfl, o1, o2⟩; have O1 := Lib.hid o1; have O2 := Lib.hid o2; clear o1 o2)
        go_ret
        exact ⟨_, rfl, ⟨g, 0, ⟨by rw [HN.out]; unfold maxLen; omega, some ⟨g, 0, none⟩, c, by rw [HN.out]; rfl, by rw [HN.out]; exact hg2, .inr ⟨rfl, Nat.lt_of_lt_of_le hg3 O2.out.size⟩⟩, O1.out, fun _ => by omega⟩, Hbel.out.trans (O2.out.mono (by omega))⟩
end Go.Proofs.Ytipiiaghjkhkbaa
