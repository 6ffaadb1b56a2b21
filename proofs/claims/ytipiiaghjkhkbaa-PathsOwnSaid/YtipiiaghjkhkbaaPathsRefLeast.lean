/- The document's Least, SameAll, and the laws' own Long, Many, Copy. -/
import Derived.Test.YtipiiaghjkhkbaaPathsRef
import Derived.Test.YtipiiaghjkhkbaaPathsRows
import Derived.Test.YtipiiaghjkhkbaaPathsText
import Derived.Test.YtipiiaghjkhkbaaOver
import Derived.OwnWalk
import Derived.Deep.AppendLies
namespace Go.Proofs.Ytipiiaghjkhkbaa
open Go.RowKit
set_option linter.unusedVariables false

theorem two_news (w : World) (u v : Value) (e : TypeId) : ∀ (j : Nat) x, [u, v][j]? = some x → (w.alloc (.cells #[u, v] e)).cell? ((⟨w.heap.size, 0, none⟩ : Addr).add j) = some x :=
  World.news_of_block (cs := #[u, v]) (t := e) (fr := (0, 0)) (heap_alloc_new w _)
theorem two_one {s : ByteArray} {v : Value} (h : v.oneCell' = true) : ∀ u ∈ ([.string s, v] : List Value), u.oneCell' = true := by
  intro u hu
  rcases List.mem_cons.1 hu with rfl | hu
  · rfl
  · rw [List.mem_singleton] at hu; subst hu; exact h

set_option maxRecDepth 100000 in
set_option maxHeartbeats 2000000 in
theorem refLeast_calls (B : Nat) (L : List PP) (lv : Value) (hm : L.length ≤ 1000) (w : World) (hB : B ≤ w.heap.size) (hl : LIn B w L lv) :
    Calls Try.prog 25 #[lv] w fun e w' => ∃ v, e = .returned v ∧ LIn w'.heap.size w' (leastP L) v ∧ Below w.heap.size w w' := by
  obtain ⟨b, o, ⟨m1, ao, cap, rfl, c1, h1⟩, r1⟩ := hl
  obtain ⟨Z, hZ, hz⟩ := r1.pairs
  obtain ⟨i0, hi, hz0, hz1, hz2⟩ := info_parts infoPlace
  obtain ⟨n, hn⟩ : ∃ n, n = L.length := ⟨_, rfl⟩
  have HP : Hid (leastP L = (sel Z (leastI n (keyAt L)) n).map Prod.fst) := Lib.hid (by rw [sel_map, hZ, hn]; rfl)
  have hZn : n = Z.length := by rw [hn, ← hZ, List.length_map]
  have HO : Hid (∀ (j i : Nat) y x, Z[j]? = some y → Z[i]? = some x → outs (keyAt L) j i = (begP y.1 x.1 && (!sameP y.1 x.1 || decide (j < i)))) := Lib.hid fun j i y x hy hx =>
    outs_code (by rw [← hZ, List.getElem?_map, hy]; rfl) (by rw [← hZ, List.getElem?_map, hx]; rfl)
  rw [← hn] at m1 h1 c1 hm ⊢
  have HQ : Hid (∀ i, leastI n (keyAt L) i = (List.range n).all fun j => !outs (keyAt L) j i) := Lib.hid fun i => rfl
  generalize leastI n (keyAt L) = p at *
  generalize outs (keyAt L) = O at *
  generalize leastP L = R at *
  have Hz := Lib.hid hz
  have Hn := Lib.hid hZn
  have H1 := Lib.hid h1
  clear hz hZ r1 hn hZn h1 m1
  go_enter Try.func25, Try.ntmps25
  go_wp2_with fail
  go_loopw [4, 3] (fun i u wr => ∃ k : Nat, k ≤ n ∧ i = .int .i64 k ∧ Hid (wr.ownsRow w.heap.size 24 2 u (sel Z p k).length (cells2 (sel Z p k)) ∧ Below w.heap.size w wr))
    (fun i _ _ => n - (intOf i).toNat)
  case atStart => exact ⟨0, by omega, rfl, Lib.hid ⟨by simpa [sel, cells2] using World.ownsRow_nil _ w.heap.size 24 2, Below.refl _ _⟩⟩
  case round =>
    obtain ⟨k, hk, rfl, HH⟩ := hrel
    have hk0 : 0 ≤ (k : Int) := by omega
    by_cases hlt : k < n
    · obtain ⟨x, hx, _⟩ := get_at (l := Z) (k := k) (by rw [← Hn.out]; exact hlt)
      obtain ⟨rfl, hbB⟩ := H1.out.resolve_left (by omega)
      have hk1 : (k : Int) < (n : Int) := by omega
      obtain ⟨x0, x1, xi⟩ := Hz.out k x hx
      have Hx := Lib.hid hx
      have Hsn := Lib.hid (sel_next (p := p) hx)
      have Hsl := Lib.hid (sel_len Z p k)
      have X0 := Lib.hid x0
      have X1 := Lib.hid x1
      have Xi := Lib.hid xi
      obtain ⟨hown, hbel⟩ := HH.out
      have Hown := Lib.hid hown
      have Hbel := Lib.hid hbel
      clear hown hbel HH hx x0 x1 xi
      obtain ⟨wo, rfl⟩ : ∃ x, x = wr := ⟨_, rfl⟩
      go_wp2_with fail
      go_loopw [6, 5] (fun j t wr => ∃ q : Nat, q ≤ n ∧ j = .int .i64 q ∧ t = .bool ((List.range q).all fun j => !O j k) ∧ Hid (Below wo.heap.size wo wr))
        (fun j _ _ => n - (intOf j).toNat)
      case atStart => exact ⟨0, by omega, rfl, rfl, Lib.hid (Below.refl _ _)⟩
      case round =>
        obtain ⟨q, hq, rfl, rfl, Hb2⟩ := hrel
        obtain ⟨w2, rfl⟩ : ∃ x, x = wr := ⟨_, rfl⟩
        have hq0 : 0 ≤ (q : Int) := by omega
        have Hb3 : Hid (Below w.heap.size w w2) := Lib.hid (Hbel.out.trans (Hb2.out.mono Hbel.out.size))
        by_cases hqn : q < n
        · obtain ⟨y, hy, _⟩ := get_at (l := Z) (k := q) (by rw [← Hn.out]; exact hqn)
          have hq1 : (q : Int) < (n : Int) := by omega
          obtain ⟨y0, y1, yi⟩ := Hz.out q y hy
          have K : ∀ m : Over w2, Below w.heap.size w m.w := fun m => Hb3.out.trans (m.h.mono Hb3.out.size)
          have FA : ∀ m : Over w2, m.w.cell? ⟨b, o + q * 2, none⟩ = some (.string y.1.name) := fun m => ((K m).cell (p := ⟨b, o + q * 2, none⟩) (by show b < _; omega)).trans y0
          have FA1 : ∀ m : Over w2, m.w.cell? ⟨b, o + q * 2 + 1, none⟩ = some y.2 := fun m => ((K m).cell (p := ⟨b, o + q * 2 + 1, none⟩) (by show b < _; omega)).trans y1
          have FB : ∀ m : Over w2, m.w.cell? ⟨b, o + k * 2, none⟩ = some (.string x.1.name) := fun m => ((K m).cell (p := ⟨b, o + k * 2, none⟩) (by show b < _; omega)).trans X0.out
          have FB1 : ∀ m : Over w2, m.w.cell? ⟨b, o + k * 2 + 1, none⟩ = some x.2 := fun m => ((K m).cell (p := ⟨b, o + k * 2 + 1, none⟩) (by show b < _; omega)).trans X1.out
          have A1 := Lib.hid fun m : Over w2 => over_calls (refBegins_calls B y.1 x.1 y.2 x.2 m.w (Nat.le_trans hB (K m).size) (yi.below ((K m).mono hB)) (Xi.out.below ((K m).mono hB)))
          have A2 := Lib.hid fun m : Over w2 => over_calls (refSame_calls B y.1 x.1 y.2 x.2 m.w (Nat.le_trans hB (K m).size) (yi.below ((K m).mono hB)) (Xi.out.below ((K m).mono hB)))
          have Hall := Lib.hid (all_next (fun j => !O j k) q)
          have Ho := Lib.hid (HO.out q k y x hy Hx.out)
          clear K y0 y1 yi hy
          generalize y.1.name = sy at *
          generalize y.2 = vy at *
          generalize begP y.1 x.1 = r1 at *
          generalize sameP y.1 x.1 = r2 at *
          cases r1
          · have HN : Hid (((List.range (q + 1)).all fun j => !O j k) = (List.range q).all fun j => !O j k) := Lib.hid (by rw [Hall.out, Ho.out]; simp)
            go_wp2_with fail
            refine wp_region_over (by kernel_rfl) (by kernel_rfl) ?_
            repeat (go_big_quiet_step ((first | (go_at_call 15; exact A1.out _) | (go_at_call 13; exact A2.out _))))
            refine wpQuiet_nil ?_
            rintro _ ⟨m, rfl⟩
            have Hb4 := Lib.hid (Hb2.out.trans (m.h.mono Hb2.out.size))
            clear FA FA1 FB FB1 A1 A2
            go_wp2_with fail
            go_roundw
            case rel => exact ⟨q + 1, by omega, by go_num, by rw [HN.out], Hb4⟩
            case measure => simp [intOf]; omega
          · cases r2
            · have HN : Hid (((List.range (q + 1)).all fun j => !O j k) = false) := Lib.hid (by rw [Hall.out, Ho.out]; simp)
              go_wp2_with fail
              refine wp_region_over (by kernel_rfl) (by kernel_rfl) ?_
              repeat (go_big_quiet_step ((first | (go_at_call 15; exact A1.out _) | (go_at_call 13; exact A2.out _))))
              refine wpQuiet_nil ?_
              rintro _ ⟨m, rfl⟩
              have Hb4 := Lib.hid (Hb2.out.trans (m.h.mono Hb2.out.size))
              clear FA FA1 FB FB1 A1 A2
              go_wp2_with fail
              go_roundw
              case rel => exact ⟨q + 1, by omega, by go_num, by rw [HN.out], Hb4⟩
              case measure => simp [intOf]; omega
            · by_cases hqk : (q : Int) < (k : Int)
              · have HN : Hid (((List.range (q + 1)).all fun j => !O j k) = false) := Lib.hid (by rw [Hall.out, Ho.out]; simp; omega)
                go_wp2_with fail
                refine wp_region_over (by kernel_rfl) (by kernel_rfl) ?_
                repeat (go_big_quiet_step ((first | (go_at_call 15; exact A1.out _) | (go_at_call 13; exact A2.out _))))
                refine wpQuiet_nil ?_
                rintro _ ⟨m, rfl⟩
                have Hb4 := Lib.hid (Hb2.out.trans (m.h.mono Hb2.out.size))
                clear FA FA1 FB FB1 A1 A2
                go_wp2_with fail
                go_roundw
                case rel => exact ⟨q + 1, by omega, by go_num, by rw [HN.out], Hb4⟩
                case measure => simp [intOf]; omega
              · have HN : Hid (((List.range (q + 1)).all fun j => !O j k) = (List.range q).all fun j => !O j k) := Lib.hid (by rw [Hall.out, Ho.out]; simp; omega)
                go_wp2_with fail
                refine wp_region_over (by kernel_rfl) (by kernel_rfl) ?_
                repeat (go_big_quiet_step ((first | (go_at_call 15; exact A1.out _) | (go_at_call 13; exact A2.out _))))
                refine wpQuiet_nil ?_
                rintro _ ⟨m, rfl⟩
                have Hb4 := Lib.hid (Hb2.out.trans (m.h.mono Hb2.out.size))
                clear FA FA1 FB FB1 A1 A2
                go_wp2_with fail
                go_roundw
                case rel => exact ⟨q + 1, by omega, by go_num, by rw [HN.out], Hb4⟩
                case measure => simp [intOf]; omega
        · obtain rfl : q = n := by omega
          rw [← HQ.out k]
          have FB := (Hb3.out.cell (p := ⟨b, o + k * 2, none⟩) (by show b < _; omega)).trans X0.out
          have FB1 := (Hb3.out.cell (p := ⟨b, o + k * 2 + 1, none⟩) (by show b < _; omega)).trans X1.out
          have hone := Xi.out.one
          have Hsn2 := Lib.hid Hsn.out
          have Hown2 := Lib.hid (own_below Hown.out Hb2.out)
          have hsl := Hsl.out
          cases hpk : p k
          · rw [hpk] at Hsn2
            have Hs3 : Hid (sel Z p (k + 1) = sel Z p k) := Lib.hid (by rw [Hsn2.out]; simp)
            go_wp2_with fail
            go_roundw
            case rel => exact ⟨k + 1, by omega, by go_num, Lib.hid ⟨by rw [Hs3.out]; exact Hown2.out, Hb3.out⟩⟩
            case measure => simp [intOf]; omega
          · rw [hpk] at Hsn2
            have Hs3 : Hid (sel Z p (k + 1) = sel Z p k ++ [x]) := Lib.hid (by rw [Hsn2.out]; simp)
            go_wp2_with (first
              | (at_builtin; refine wpList_append_own _ rfl _ _ 30 rfl w.heap.size 24 i0 _ 2 40 Try.underlying30 hi hz0 hz1 hz2 rfl (by decide) _ _ _ rfl (Hown2.out.alloc _) ⟨w2.heap.size, 0, none⟩ 1 1 [.string x.1.name, x.2] rfl rfl ?c1 ?c2 ?c3 ?c4 ?c5 ?_)
              | fail)
            case c2 => rfl
            case c3 => unfold maxLen; omega
            case c4 => omega
            case c5 => have := Hb3.out.size; simp; omega
            intro v' w6 hown6 hgrow6 _
            have Hb6 := Lib.hid ((Hb3.out.alloc Hb3.out.size _).grown hgrow6 (by have := Hb3.out.size; simp; omega) (fun k hk => (Hown2.out.lt k hk).1))
            have Hown7 : Hid (w6.ownsRow w.heap.size 24 2 v' (sel Z p (k + 1)).length (cells2 (sel Z p (k + 1)))) := Lib.hid (by
              rw [Hs3.out, cells2_snoc, List.length_append]; exact hown6)
            clear hown6 hgrow6
            go_wp2_with fail
            go_roundw
            case rel => exact ⟨k + 1, by omega, by go_num, Lib.hid ⟨Hown7.out, Hb6.out⟩⟩
            case measure => simp [intOf]; omega
    · obtain rfl : k = n := by omega
      obtain ⟨hown, hbel⟩ := HH.out
      have Hown := Lib.hid hown
      have Hbel := Lib.hid hbel
      obtain ⟨ua, uc, rfl⟩ := own_shape hown
      clear hown hbel HH
      go_wp2_with fail
      go_ret
      refine ⟨_, rfl, ?_, Hbel.out⟩
      rw [HP.out]
      refine own_L (B := B) Hown.out rfl (fun z hz => ?_) (Nat.le_trans hB Hbel.out.size) (by have := sel_len Z p k; unfold maxLen; omega)
      obtain ⟨j, hj⟩ := List.mem_iff_getElem?.1 (sel_mem hz)
      exact (Hz.out j z hj).2.2.below (Hbel.out.mono hB)
/-! ### are places the same, one by one -/
def sameL (A B : List PP) : Bool := decide (A.map PP.key = B.map PP.key)
theorem sameL_len {xs ys : List PP} (h : ¬ xs.length = ys.length) : sameL xs ys = false := by
  unfold sameL
  rw [decide_eq_false_iff_not]
  intro e
  have := congrArg List.length e
  simp at this
  exact h this
theorem sameL_no {xs ys : List PP} {j : Nat} {x y : PP} (hx : xs[j]? = some x) (hy : ys[j]? = some y) (h : sameP x y = false) : sameL xs ys = false := by
  unfold sameL
  rw [decide_eq_false_iff_not]
  intro e
  have := congrArg (fun l : List K => l[j]?) e
  simp [hx, hy] at this
  unfold sameP at h
  rw [decide_eq_false_iff_not] at h
  exact h this
theorem sameL_yes {xs ys : List PP} (hl : xs.length = ys.length) (h : ∀ (j : Nat) x y, xs[j]? = some x → ys[j]? = some y → sameP x y = true) : sameL xs ys = true := by
  unfold sameL
  rw [decide_eq_true_iff]
  apply List.ext_getElem?
  intro j
  by_cases hj : j < xs.length
  · have h1 : xs[j]? = some xs[j] := List.getElem?_eq_getElem hj
    have h2 : ys[j]? = some ys[j] := List.getElem?_eq_getElem (by omega)
    rw [List.getElem?_map, List.getElem?_map, h1, h2]
    have := h j _ _ h1 h2
    unfold sameP at this
    rw [decide_eq_true_iff] at this
    exact congrArg some this
  · rw [List.getElem?_eq_none (by simp; omega), List.getElem?_eq_none (by simp; omega)]
set_option maxRecDepth 100000 in
set_option maxHeartbeats 2000000 in
theorem sameAll_calls (B : Nat) (xs ys : List PP) (v1 v2 : Value) (w : World) (hB : B ≤ w.heap.size) (h1 : LIn B w xs v1) (h2 : LIn B w ys v2) :
    Calls Try.prog 23 #[v1, v2] w fun e w' => e = .returned (.bool (sameL xs ys)) ∧ Below w.heap.size w w' := by
  obtain ⟨b1, o1, ⟨m1, ao1, cap1, rfl, c1, h1⟩, r1⟩ := h1
  obtain ⟨b2, o2, ⟨m2, ao2, cap2, rfl, c2, h2⟩, r2⟩ := h2
  unfold maxLen at m1 m2
  by_cases hl : xs.length = ys.length
  rotate_left
  · rw [sameL_len hl]
    generalize xs.length = n at *
    generalize ys.length = m at *
    have e1 : ((n : Int) != (m : Int)) = true := by rw [bne_iff_ne]; omega
    clear h1 h2 r1 r2 hl
    go_enter Try.func23, Try.ntmps23
    go_wp2
    go_ret
    exact ⟨rfl, Below.refl _ _⟩
  have hyes := Lib.hid fun h => sameL_yes hl h
  have hno := Lib.hid fun j x y h h' => sameL_no (xs := xs) (ys := ys) (j := j) (x := x) (y := y) h h'
  generalize sameL xs ys = R at *
  obtain ⟨n, hx⟩ : ∃ n, n = xs.length := ⟨_, rfl⟩
  have hy : n = ys.length := hx.trans hl
  rw [← hx] at m1 h1 c1 ⊢
  rw [← hy] at m2 h2 c2 ⊢
  have Hx := Lib.hid hx
  have Hy := Lib.hid hy
  have Hr := Lib.hid r1
  have Hs := Lib.hid r2
  have H1 := Lib.hid h1
  have H2 := Lib.hid h2
  clear hl hx hy r1 r2 h1 h2
  go_enter Try.func23, Try.ntmps23
  go_wp2_with fail
  go_loopw [5] (fun i wr => ∃ k : Nat, k ≤ n ∧ i = .int .i64 k ∧ Hid (Below w.heap.size w wr) ∧ Hid (∀ (j : Nat) x y, j < k → xs[j]? = some x → ys[j]? = some y → sameP x y = true))
    (fun i _ => n - (intOf i).toNat)
  case atStart => exact ⟨0, by omega, rfl, Lib.hid (Below.refl _ _), Lib.hid fun j x y hj => by omega⟩
  case round =>
    obtain ⟨k, hk, rfl, Hbel, HK⟩ := hrel
    have hk0 : 0 ≤ (k : Int) := by omega
    by_cases hlt : k < n
    · obtain ⟨x, ha, _⟩ := get_at (l := xs) (k := k) (by rw [← Hx.out]; exact hlt)
      obtain ⟨y, hb, _⟩ := get_at (l := ys) (k := k) (by rw [← Hy.out]; exact hlt)
      obtain ⟨rfl, hb1⟩ := H1.out.resolve_left (by omega)
      obtain ⟨rfl, hb2⟩ := H2.out.resolve_left (by omega)
      obtain ⟨vx, x0, x1, xi⟩ := Hr.out k x ha
      obtain ⟨vy, y0, y1, yi⟩ := Hs.out k y hb
      have K : ∀ m : Over wr, Below w.heap.size w m.w := fun m => Hbel.out.trans (m.h.mono Hbel.out.size)
      have FA : ∀ m : Over wr, m.w.cell? ⟨b1, o1 + k * 2, none⟩ = some (.string x.name) := fun m => ((K m).cell (p := ⟨b1, o1 + k * 2, none⟩) (by show b1 < _; omega)).trans x0
      have FA1 : ∀ m : Over wr, m.w.cell? ⟨b1, o1 + k * 2 + 1, none⟩ = some vx := fun m => ((K m).cell (p := ⟨b1, o1 + k * 2 + 1, none⟩) (by show b1 < _; omega)).trans x1
      have FB : ∀ m : Over wr, m.w.cell? ⟨b2, o2 + k * 2, none⟩ = some (.string y.name) := fun m => ((K m).cell (p := ⟨b2, o2 + k * 2, none⟩) (by show b2 < _; omega)).trans y0
      have FB1 : ∀ m : Over wr, m.w.cell? ⟨b2, o2 + k * 2 + 1, none⟩ = some vy := fun m => ((K m).cell (p := ⟨b2, o2 + k * 2 + 1, none⟩) (by show b2 < _; omega)).trans y1
      have A2 := Lib.hid fun m : Over wr => over_calls (refSame_calls B x y vx vy m.w (Nat.le_trans hB (K m).size) (xi.below ((K m).mono hB)) (yi.below ((K m).mono hB)))
      have HK2 : Hid (sameP x y = true → ∀ (j : Nat) x y, j < k + 1 → xs[j]? = some x → ys[j]? = some y → sameP x y = true) := Lib.hid fun hs j x' y' hj hx' hy' => by
          by_cases e : j = k
          · subst e
            rw [ha] at hx'; rw [hb] at hy'
            cases hx'; cases hy'; exact hs
          · exact HK.out j x' y' (by omega) hx' hy'
      have HN := Lib.hid fun h => hno.out k x y ha hb h
      have hk1 : (k : Int) < (n : Int) := by omega
      clear K x0 x1 xi y0 y1 yi ha hb
      generalize sameP x y = r at *
      generalize x.name = sx at *
      generalize y.name = sy at *
      cases r
      · go_wp2_with fail
        refine wp_region_over (by kernel_rfl) (by kernel_rfl) ?_
        repeat (go_big_quiet_step ((go_at_call 13; exact A2.out _)))
        refine wpQuiet_nil ?_
        rintro _ ⟨m, rfl⟩
        have Hb4 := Lib.hid (Hbel.out.trans (m.h.mono Hbel.out.size))
        have HR := Lib.hid (HN.out (by simp))
        clear FA FA1 FB FB1 A2
        go_wp2_with fail
        go_ret
        exact ⟨ret_bool HR.out.symm, Hb4.out⟩
      · go_wp2_with fail
        refine wp_region_over (by kernel_rfl) (by kernel_rfl) ?_
        repeat (go_big_quiet_step ((go_at_call 13; exact A2.out _)))
        refine wpQuiet_nil ?_
        rintro _ ⟨m, rfl⟩
        have Hb4 := Lib.hid (Hbel.out.trans (m.h.mono Hbel.out.size))
        have HR := Lib.hid (HK2.out (by simp))
        clear FA FA1 FB FB1 A2
        go_wp2_with fail
        go_roundw
        case rel => exact ⟨k + 1, by omega, by go_num, Hb4, HR⟩
        case measure => simp [intOf]; omega
    · obtain rfl : k = n := by omega
      have hres := Lib.hid (hyes.out fun j x y hx hy => HK.out j x y (by rw [Hx.out]; exact some_lt hx) hx hy)
      go_wp2_with fail
      go_ret
      exact ⟨ret_bool hres.out.symm, Hbel.out⟩
end Go.Proofs.Ytipiiaghjkhkbaa
