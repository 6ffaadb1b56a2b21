/- PathsEnough: a place meets one of some places just if it meets one of Least of them; no two of these meet. -/
import Derived.Test.YtipiiaghjkhkbaaPathsLeastLaw
namespace Go.Proofs.Ytipiiaghjkhkbaa
open Go.RowKit
set_option linter.unusedVariables false

theorem least_mem {L : List PP} {x : PP} (h : x ∈ leastP L) : ∃ i, i < L.length ∧ leastI L.length (keyAt L) i = true ∧ L[i]? = some x := by
  unfold leastP sel at h
  rw [List.mem_filterMap] at h
  obtain ⟨i, hi, hx⟩ := h
  rw [List.mem_filter, List.mem_range] at hi
  exact ⟨i, hi.1, hi.2, hx⟩
theorem mem_least {L : List PP} {x : PP} {i : Nat} (h1 : leastI L.length (keyAt L) i = true) (h2 : L[i]? = some x) : x ∈ leastP L := by
  unfold leastP sel
  rw [List.mem_filterMap]
  exact ⟨i, List.mem_filter.2 ⟨List.mem_range.2 (some_lt h2), h1⟩, h2⟩
theorem meet_iff {a b : PP} : meetP a b = true ↔ a.key <+: b.key ∨ b.key <+: a.key := by
  unfold meetP begP
  rw [Bool.or_eq_true, begK_iff, begK_iff]
theorem any_least (L : List PP) (y : PP) : (leastP L).any (fun x => meetP x y) = L.any fun x => meetP x y := by
  rw [Bool.eq_iff_iff, List.any_eq_true, List.any_eq_true]
  constructor
  · rintro ⟨x, hx, h⟩
    obtain ⟨i, _, _, h2⟩ := least_mem hx
    exact ⟨x, List.mem_of_getElem? h2, h⟩
  · rintro ⟨x, hx, h⟩
    obtain ⟨i, hi⟩ := List.mem_iff_getElem?.1 hx
    cases hl : leastI L.length (keyAt L) i with
    | true => exact ⟨x, mem_least hl hi, h⟩
    | false =>
      obtain ⟨j, hj, hp, hlj⟩ := least_below L.length (keyAt L) (P := List.range L.length) (some_lt hi) (fun j hj _ => List.mem_range.2 hj) hl
      obtain ⟨z, hz, _⟩ := get_at (l := L) (k := j) (List.mem_range.1 hj)
      rw [keyAt_eq hz, keyAt_eq hi] at hp
      refine ⟨z, mem_least hlj hz, ?_⟩
      rw [meet_iff] at h ⊢
      rcases h with h | h
      · exact .inl (hp.trans h)
      · exact List.prefix_or_prefix_of_prefix hp h
theorem filterMap_at {α β : Type} (f : α → Option β) : ∀ (d : List α) (i : Nat), (∀ j ∈ d, (f j).isSome = true) → (d.filterMap f)[i]? = d[i]?.bind f
  | [], i, _ => by simp
  | a :: d, i, h => by
    obtain ⟨b, hb⟩ := Option.isSome_iff_exists.1 (h a (by simp))
    rw [List.filterMap_cons_some hb]
    cases i with
    | zero => simp [hb]
    | succ i =>
      have := filterMap_at f d i fun j hj => h j (by simp [hj])
      simpa using this
theorem least_apart {L : List PP} {i k : Nat} {x z : PP} (hik : k < i) (hx : (leastP L)[i]? = some x) (hz : (leastP L)[k]? = some z) : meetP x z = false := by
  have hall : ∀ j ∈ (List.range L.length).filter (leastI L.length (keyAt L)), (L[j]?).isSome = true := fun j hj => by
    have := List.mem_range.1 (List.mem_filter.1 hj).1
    simp [this]
  unfold leastP sel at hx hz
  rw [filterMap_at _ _ _ hall] at hx hz
  obtain ⟨a, ha, hax⟩ := Option.bind_eq_some_iff.1 hx
  obtain ⟨b, hb, hbz⟩ := Option.bind_eq_some_iff.1 hz
  have hla := (List.mem_filter.1 (List.mem_of_getElem? ha)).2
  have hlb := (List.mem_filter.1 (List.mem_of_getElem? hb)).2
  have hlt : b < a := by
    have hp : ((List.range L.length).filter (leastI L.length (keyAt L))).Pairwise fun x y => x < y := List.Pairwise.filter _ List.pairwise_lt_range
    rw [List.pairwise_iff_getElem] at hp
    have h1 := hp k i (some_lt hb) (some_lt ha) hik
    rw [(List.getElem?_eq_some_iff.1 ha).2, (List.getElem?_eq_some_iff.1 hb).2] at h1
    exact h1
  have hA := (leastI_iff L.length (keyAt L)).1 hla b (some_lt hbz)
  have hB := (leastI_iff L.length (keyAt L)).1 hlb a (some_lt hax)
  rw [keyAt_eq hax, keyAt_eq hbz] at hA hB
  have hne : ¬ cmpI (keyAt L) b a = 0 := fun e => by have := ((cmpI_good (keyAt L)).zero b a).1 e; omega
  have hneg := (cmpI_good (keyAt L)).neg b a
  rw [Bool.eq_false_iff, Ne, meet_iff]
  rintro (h | h)
  · have h1 := hB h
    have h2 := beg_le h
    -- same keys: the first one puts the other out
    by_cases e : x.key = z.key
    · have h3 := hA (by rw [e]; exact List.prefix_refl _)
      omega
    · have h4 : cmpI (keyAt L) a b = cmpK x.key z.key := by
        unfold cmpI
        rw [keyAt_eq hax, keyAt_eq hbz, if_neg (fun e' => e ((cmpK_good.zero _ _).1 e'))]
      have h5 : ¬ cmpK x.key z.key = 0 := fun e' => e ((cmpK_good.zero _ _).1 e')
      omega
  · have h1 := hA h
    have h2 := beg_le h
    by_cases e : z.key = x.key
    · have h4 : cmpI (keyAt L) b a = -1 := by
        unfold cmpI
        rw [keyAt_eq hax, keyAt_eq hbz, if_pos ((cmpK_good.zero _ _).2 e), if_pos (by omega)]
      omega
    · have h4 : cmpI (keyAt L) b a = cmpK z.key x.key := by
        unfold cmpI
        rw [keyAt_eq hax, keyAt_eq hbz, if_neg (fun e' => e ((cmpK_good.zero _ _).1 e'))]
      have h5 : ¬ cmpK z.key x.key = 0 := fun e' => e ((cmpK_good.zero _ _).1 e')
      omega
theorem any_take {L : List PP} {y x : PP} {k : Nat} (h : L[k]? = some x) : (L.take (k + 1)).any (fun x => meetP x y) = ((L.take k).any (fun x => meetP x y) || meetP x y) := by
  rw [List.take_add_one, h, List.any_append]
  simp

set_option maxRecDepth 100000 in
set_option maxHeartbeats 4000000 in
theorem pathsEnough_walk (w : World) (L : List PP) (lv : Value) (h1 : LIn w.heap.size w L lv) (y : PP) (vb : Value) (h2 : y.In w.heap.size w vb) :
    Calls Try.prog 10 #[lv, .agg #[.string y.name, vb]] w fun e w' => e = .returned (.bool true) ∧ Below w.heap.size w w' := by
  have M1 := Lib.hid fun W (h : Below w.heap.size w W) => many_calls w.heap.size L lv W h.size (h1.below h)
  have L1 := Lib.hid fun W (h : Below w.heap.size w W) => long_calls y w.heap.size vb W h.size (h2.below h)
  have C1 : Hid (∀ W, manyP L = false → Below w.heap.size w W → _) := Lib.hid fun W hl (h : Below w.heap.size w W) => least_row w.heap.size L lv (by have := (few_of hl).1; omega) (fun x hx => ((few_of hl).2 x hx).short) W h.size (h1.below h)
  have hlen : Hid (manyP L = false → L.length ≤ 40) := Lib.hid fun h => (few_of h).1
  have HY := Lib.hid h2
  obtain ⟨ao2, cap2, rfl⟩ := h2.shape
  generalize longP y = l2 at *
  obtain ⟨b, o, ⟨m1, ao, cap, rfl, c1, hbo⟩, r1⟩ := h1
  unfold maxLen at m1
  obtain ⟨n, hn⟩ : ∃ n, n = L.length := ⟨_, rfl⟩
  have hlp : Hid ((leastP L).length ≤ n) := Lib.hid (by rw [hn]; exact sel_len L _ L.length)
  rw [← hn] at m1 hbo c1 M1 C1 hlen ⊢
  have Hn := Lib.hid hn
  have Hr := Lib.hid r1
  have H1 := Lib.hid hbo
  have HA := Lib.hid (@any_least L y)
  have HAP := Lib.hid fun i k x z => @least_apart L i k x z
  generalize manyP L = l1 at *
  generalize y.path.length = ny at *
  generalize hR : leastP L = R at *
  clear hn r1 hbo h2 hR
  go_enter Try.func10, Try.ntmps10
  go_wp2_with fail
  obtain ⟨W0, hW⟩ : ∃ W, W = w.alloc (.cells #[.string y.name, .slice ao2 ny cap2] 24) := ⟨_, rfl⟩
  have f0 : W0.cell? ⟨w.heap.size, 0, none⟩ = some (.string y.name) := by rw [hW]; go_simp
  have f1 : W0.cell? ⟨w.heap.size, 1, none⟩ = some (.slice ao2 ny cap2) := by rw [hW]; go_simp
  have z1 : w.heap.size < W0.heap.size := by rw [hW]; simp
  have bel0 : Below w.heap.size w W0 := by rw [hW]; exact box1 _ _
  rw [← hW]
  clear hW
  refine (M1.out W0 bel0).mono ?_
  rintro e w1 ⟨rfl, b1⟩
  obtain ⟨f0, f1, z1⟩ := pl_up z1 b1 f0 f1
  have Hb := Lib.hid (bel0.trans (b1.mono bel0.size))
  clear b1 M1 bel0
  cases l1
  rotate_left
  · go_wp2_with fail
    refine (awake_calls w1).mono ?_
    rintro e w2 ⟨rfl, b1⟩
    have Hb := Lib.hid (Hb.out.trans (b1.mono Hb.out.size))
    clear b1
    go_wp2_with fail
    go_ret
    exact ⟨rfl, Hb.out⟩
  go_wp2_with fail
  refine (L1.out w1 Hb.out).mono ?_
  rintro e w2 ⟨rfl, b1⟩
  obtain ⟨f0, f1, z1⟩ := pl_up z1 b1 f0 f1
  have Hb := Lib.hid (Hb.out.trans (b1.mono Hb.out.size))
  clear b1 L1
  cases l2
  rotate_left
  · go_wp2_with fail
    refine (awake_calls w2).mono ?_
    rintro e w3 ⟨rfl, b1⟩
    have Hb := Lib.hid (Hb.out.trans (b1.mono Hb.out.size))
    clear b1
    go_wp2_with fail
    go_ret
    exact ⟨rfl, Hb.out⟩
  have hn40 := hlen.out (by simp)
  go_wp2_with fail
  refine (C1.out w2 (by simp) Hb.out).mono ?_
  rintro e w3 ⟨ao3, cap3, rfl, HL, b1⟩
  obtain ⟨f0, f1, z1⟩ := pl_up z1 b1 f0 f1
  have Hb := Lib.hid (Hb.out.trans (b1.mono Hb.out.size))
  obtain ⟨b3, o3, ⟨m3, ao3', cap3', e3, c3, hbo3⟩, r3⟩ := HL.out
  cases e3
  obtain ⟨m, hm⟩ : ∃ m, m = R.length := ⟨_, rfl⟩
  have hm40 : m ≤ 40 := by have := hlp.out; omega
  rw [← hm] at m3 c3 hbo3
  rw [← hm]
  have Hm := Lib.hid hm
  have Hr3 := Lib.hid r3
  have H3 := Lib.hid hbo3
  have hbs := Lib.hid Hb.out.size
  clear b1 C1 HL m3 r3 hbo3 hm hlen hlp
  go_wp2_with fail
  go_loopw [8, 6] (fun i a wr => ∃ k : Nat, k ≤ n ∧ i = .int .i64 k ∧ a = .bool ((L.take k).any fun x => meetP x y) ∧ Hid (Below w3.heap.size w3 wr))
    (fun i _ _ => n - (intOf i).toNat)
  case atStart => exact ⟨0, by omega, rfl, rfl, Lib.hid (Below.refl _ _)⟩
  case round =>
    obtain ⟨k, hk, rfl, rfl, HB⟩ := hrel
    have hk0 : 0 ≤ (k : Int) := by omega
    by_cases hlt : k < n
    · obtain ⟨x, hx, _⟩ := get_at (l := L) (k := k) (by rw [← Hn.out]; exact hlt)
      obtain ⟨rfl, hbB⟩ := H1.out.resolve_left (by omega)
      have hk1 : (k : Int) < (n : Int) := by omega
      obtain ⟨vx, x0, x1, xi⟩ := Hr.out k x hx
      have hT := any_take (y := y) hx
      have K : ∀ m : Over wr, Below w.heap.size w m.w := fun m => Hb.out.trans ((HB.out.trans (m.h.mono HB.out.size)).mono Hb.out.size)
      have K2 : ∀ m : Over wr, Below w3.heap.size w3 m.w := fun m => HB.out.trans (m.h.mono HB.out.size)
      have FA : ∀ m : Over wr, m.w.cell? ⟨b, o + k * 2, none⟩ = some (.string x.name) := fun m => ((K m).cell (p := ⟨b, o + k * 2, none⟩) (by show b < _; omega)).trans x0
      have FA1 : ∀ m : Over wr, m.w.cell? ⟨b, o + k * 2 + 1, none⟩ = some vx := fun m => ((K m).cell (p := ⟨b, o + k * 2 + 1, none⟩) (by show b < _; omega)).trans x1
      have FB : ∀ m : Over wr, m.w.cell? ⟨w.heap.size, 0, none⟩ = some (.string y.name) := fun m => ((K2 m).cell (p := ⟨w.heap.size, 0, none⟩) z1).trans f0
      have FB1 : ∀ m : Over wr, m.w.cell? ⟨w.heap.size, 1, none⟩ = some (.slice ao2 ny cap2) := fun m => ((K2 m).cell (p := ⟨w.heap.size, 1, none⟩) z1).trans f1
      have A1 := Lib.hid fun m : Over wr => over_calls (meets_calls w.heap.size x y vx _ m.w (K m).size (xi.below (K m)) (HY.out.below (K m)))
      have HK := Lib.hid K2
      clear K K2 x0 x1 xi hx
      have HT := Lib.hid hT
      clear hT
      generalize meetP x y = r at *
      generalize x.name = sx at *
      cases hA0 : (L.take k).any fun x => meetP x y
      · rw [hA0] at HT
        clear hA0
        go_wp2_with fail
        refine wp_region_over (by kernel_rfl) (by kernel_rfl) ?_
        repeat (go_big_quiet_step ((go_at_call 16; exact A1.out _)))
        refine wpQuiet_nil ?_
        rintro _ ⟨q, rfl⟩
        have HF := Lib.hid (HK.out q)
        clear A1 HK FA FA1 FB FB1
        go_wp2_with fail
        go_roundw
        case rel => exact ⟨k + 1, by omega, by go_num, by rw [HT.out]; rfl, HF⟩
        case measure => simp [intOf]; omega
      · rw [hA0] at HT
        clear hA0
        go_wp2_with fail
        refine wp_region_over (by kernel_rfl) (by kernel_rfl) ?_
        repeat (go_big_quiet_step ((go_at_call 16; exact A1.out _)))
        refine wpQuiet_nil ?_
        rintro _ ⟨q, rfl⟩
        have HF := Lib.hid (HK.out q)
        clear A1 HK FA FA1 FB FB1
        go_wp2_with fail
        go_roundw
        case rel => exact ⟨k + 1, by omega, by go_num, by rw [HT.out]; rfl, HF⟩
        case measure => simp [intOf]; omega
    · obtain rfl : k = n := by omega
      obtain ⟨w4, rfl⟩ : ∃ x, x = wr := ⟨_, rfl⟩
      have HG : Hid ((L.take k).any (fun x => meetP x y) = L.any fun x => meetP x y) := Lib.hid (by rw [List.take_of_length_le (by rw [← Hn.out]; exact Nat.le_refl _)])
      generalize (L.take k).any (fun x => meetP x y) = G at *
      go_wp2_with fail
      go_loopw [9, 7] (fun i a wr => ∃ j : Nat, j ≤ m ∧ i = .int .i64 j ∧ a = .bool ((R.take j).any fun x => meetP x y) ∧ Hid (Below w3.heap.size w3 wr))
        (fun i _ _ => m - (intOf i).toNat)
      case atStart => exact ⟨0, by omega, rfl, rfl, HB⟩
      case round =>
        clear HB w4
        obtain ⟨k, hk, rfl, rfl, HB⟩ := hrel
        have hk0 : 0 ≤ (k : Int) := by omega
        by_cases hlt : k < m
        · obtain ⟨x, hx, _⟩ := get_at (l := R) (k := k) (by rw [← Hm.out]; exact hlt)
          obtain ⟨rfl, hb3⟩ := H3.out.resolve_left (by omega)
          have hk1 : (k : Int) < (m : Int) := by omega
          obtain ⟨vx, x0, x1, xi⟩ := Hr3.out k x hx
          have HT := Lib.hid (any_take (y := y) hx)
          have K2 : ∀ m : Over wr, Below w3.heap.size w3 m.w := fun m => HB.out.trans (m.h.mono HB.out.size)
          have FA : ∀ m : Over wr, m.w.cell? ⟨b3, o3 + k * 2, none⟩ = some (.string x.name) := fun m => ((K2 m).cell (p := ⟨b3, o3 + k * 2, none⟩) hb3).trans x0
          have FA1 : ∀ m : Over wr, m.w.cell? ⟨b3, o3 + k * 2 + 1, none⟩ = some vx := fun m => ((K2 m).cell (p := ⟨b3, o3 + k * 2 + 1, none⟩) hb3).trans x1
          have FB : ∀ m : Over wr, m.w.cell? ⟨w.heap.size, 0, none⟩ = some (.string y.name) := fun m => ((K2 m).cell (p := ⟨w.heap.size, 0, none⟩) z1).trans f0
          have FB1 : ∀ m : Over wr, m.w.cell? ⟨w.heap.size, 1, none⟩ = some (.slice ao2 ny cap2) := fun m => ((K2 m).cell (p := ⟨w.heap.size, 1, none⟩) z1).trans f1
          have A1 := Lib.hid fun m : Over wr => over_calls (meets_calls w3.heap.size x y vx _ m.w (K2 m).size (xi.below (K2 m)) (((HY.out.below Hb.out).mono hbs.out).below (K2 m)))
          have HK := Lib.hid K2
          have X0 := Lib.hid x0
          have X1 := Lib.hid x1
          have XI := Lib.hid xi
          have Hx := Lib.hid hx
          clear K2 x0 x1 xi hx
          generalize meetP x y = r at *
          cases hA0 : (R.take k).any fun x => meetP x y
          · rw [hA0] at HT
            clear hA0
            go_wp2_with fail
            refine wp_region_over (by kernel_rfl) (by kernel_rfl) ?_
            repeat (go_big_quiet_step ((go_at_call 16; exact A1.out _)))
            refine wpQuiet_nil ?_
            rintro _ ⟨q, rfl⟩
            have HF := Lib.hid (HK.out q)
            clear A1 HK FA FA1 FB FB1
            generalize q.w = w6 at *
            go_wp2_with fail
            go_loopw [10] (fun j wr => ∃ q : Nat, q ≤ k ∧ j = .int .i64 q ∧ Hid (Below w3.heap.size w3 wr))
              (fun j _ => k - (intOf j).toNat)
            case atStart => exact ⟨0, by omega, rfl, HF⟩
            case round =>
              obtain ⟨q, hq, rfl, HC⟩ := hrel
              have hq0 : 0 ≤ (q : Int) := by omega
              by_cases hqk : q < k
              · obtain ⟨u, hu, _⟩ := get_at (l := R) (k := q) (by rw [← Hm.out]; omega)
                have hq1 : (q : Int) < (k : Int) := by omega
                have hq2 : (q : Int) < (m : Int) := by omega
                obtain ⟨vu, u0, u1, ui⟩ := Hr3.out q u hu
                have hap := HAP.out k q x u hqk Hx.out hu
                have K2 : ∀ m : Over wr, Below w3.heap.size w3 m.w := fun m => HC.out.trans (m.h.mono HC.out.size)
                have FA : ∀ m : Over wr, m.w.cell? ⟨b3, o3 + k * 2, none⟩ = some (.string x.name) := fun m => ((K2 m).cell (p := ⟨b3, o3 + k * 2, none⟩) hb3).trans X0.out
                have FA1 : ∀ m : Over wr, m.w.cell? ⟨b3, o3 + k * 2 + 1, none⟩ = some vx := fun m => ((K2 m).cell (p := ⟨b3, o3 + k * 2 + 1, none⟩) hb3).trans X1.out
                have FB : ∀ m : Over wr, m.w.cell? ⟨b3, o3 + q * 2, none⟩ = some (.string u.name) := fun m => ((K2 m).cell (p := ⟨b3, o3 + q * 2, none⟩) hb3).trans u0
                have FB1 : ∀ m : Over wr, m.w.cell? ⟨b3, o3 + q * 2 + 1, none⟩ = some vu := fun m => ((K2 m).cell (p := ⟨b3, o3 + q * 2 + 1, none⟩) hb3).trans u1
                have A0 := fun m : Over wr => meets_calls w3.heap.size x u vx vu m.w (K2 m).size (XI.out.below (K2 m)) (ui.below (K2 m))
                rw [hap] at A0
                have A1 := Lib.hid fun m : Over wr => over_calls (A0 m)
                have HK := Lib.hid K2
                clear K2 A0 hap u0 u1 ui hu
                generalize u.name = su at *
                generalize x.name = sx at *
                go_wp2_with fail
                refine wp_region_over (by kernel_rfl) (by kernel_rfl) ?_
                repeat (go_big_quiet_step ((go_at_call 16; exact A1.out _)))
                refine wpQuiet_nil ?_
                rintro _ ⟨q', rfl⟩
                have HF := Lib.hid (HK.out q')
                clear A1 HK FA FA1 FB FB1
                go_wp2_with fail
                go_roundw
                case rel => exact ⟨q + 1, by omega, by go_num, HF⟩
                case measure => simp [intOf]; omega
              · obtain rfl : q = k := by omega
                go_wp2_with fail
                go_roundw
                case rel => exact ⟨q + 1, by omega, by go_num, by rw [HT.out]; rfl, HC⟩
                case measure => simp [intOf]; omega
          · rw [hA0] at HT
            clear hA0
            go_wp2_with fail
            refine wp_region_over (by kernel_rfl) (by kernel_rfl) ?_
            repeat (go_big_quiet_step ((go_at_call 16; exact A1.out _)))
            refine wpQuiet_nil ?_
            rintro _ ⟨q, rfl⟩
            have HF := Lib.hid (HK.out q)
            clear A1 HK FA FA1 FB FB1
            generalize q.w = w6 at *
            go_wp2_with fail
            go_loopw [10] (fun j wr => ∃ q : Nat, q ≤ k ∧ j = .int .i64 q ∧ Hid (Below w3.heap.size w3 wr))
              (fun j _ => k - (intOf j).toNat)
            case atStart => exact ⟨0, by omega, rfl, HF⟩
            case round =>
              obtain ⟨q, hq, rfl, HC⟩ := hrel
              have hq0 : 0 ≤ (q : Int) := by omega
              by_cases hqk : q < k
              · obtain ⟨u, hu, _⟩ := get_at (l := R) (k := q) (by rw [← Hm.out]; omega)
                have hq1 : (q : Int) < (k : Int) := by omega
                have hq2 : (q : Int) < (m : Int) := by omega
                obtain ⟨vu, u0, u1, ui⟩ := Hr3.out q u hu
                have hap := HAP.out k q x u hqk Hx.out hu
                have K2 : ∀ m : Over wr, Below w3.heap.size w3 m.w := fun m => HC.out.trans (m.h.mono HC.out.size)
                have FA : ∀ m : Over wr, m.w.cell? ⟨b3, o3 + k * 2, none⟩ = some (.string x.name) := fun m => ((K2 m).cell (p := ⟨b3, o3 + k * 2, none⟩) hb3).trans X0.out
                have FA1 : ∀ m : Over wr, m.w.cell? ⟨b3, o3 + k * 2 + 1, none⟩ = some vx := fun m => ((K2 m).cell (p := ⟨b3, o3 + k * 2 + 1, none⟩) hb3).trans X1.out
                have FB : ∀ m : Over wr, m.w.cell? ⟨b3, o3 + q * 2, none⟩ = some (.string u.name) := fun m => ((K2 m).cell (p := ⟨b3, o3 + q * 2, none⟩) hb3).trans u0
                have FB1 : ∀ m : Over wr, m.w.cell? ⟨b3, o3 + q * 2 + 1, none⟩ = some vu := fun m => ((K2 m).cell (p := ⟨b3, o3 + q * 2 + 1, none⟩) hb3).trans u1
                have A0 := fun m : Over wr => meets_calls w3.heap.size x u vx vu m.w (K2 m).size (XI.out.below (K2 m)) (ui.below (K2 m))
                rw [hap] at A0
                have A1 := Lib.hid fun m : Over wr => over_calls (A0 m)
                have HK := Lib.hid K2
                clear K2 A0 hap u0 u1 ui hu
                generalize u.name = su at *
                generalize x.name = sx at *
                go_wp2_with fail
                refine wp_region_over (by kernel_rfl) (by kernel_rfl) ?_
                repeat (go_big_quiet_step ((go_at_call 16; exact A1.out _)))
                refine wpQuiet_nil ?_
                rintro _ ⟨q', rfl⟩
                have HF := Lib.hid (HK.out q')
                clear A1 HK FA FA1 FB FB1
                go_wp2_with fail
                go_roundw
                case rel => exact ⟨q + 1, by omega, by go_num, HF⟩
                case measure => simp [intOf]; omega
              · obtain rfl : q = k := by omega
                go_wp2_with fail
                go_roundw
                case rel => exact ⟨q + 1, by omega, by go_num, by rw [HT.out]; rfl, HC⟩
                case measure => simp [intOf]; omega
        · obtain rfl : k = m := by omega
          have HG2 : Hid ((R.take k).any (fun x => meetP x y) = G) := Lib.hid (by rw [List.take_of_length_le (by rw [← Hm.out]; exact Nat.le_refl _), HA.out, HG.out])
          rw [HG2.out]
          have Hf := Lib.hid (Hb.out.trans (HB.out.mono Hb.out.size))
          cases G
          · go_wp2_with fail
            refine (awake_calls wr).mono ?_
            rintro e w5 ⟨rfl, b1⟩
            have Hf := Lib.hid (Hf.out.trans (b1.mono Hf.out.size))
            clear b1
            go_wp2_with fail
            go_ret
            exact ⟨rfl, Hf.out⟩
          · go_wp2_with fail
            refine (awake_calls wr).mono ?_
            rintro e w5 ⟨rfl, b1⟩
            have Hf := Lib.hid (Hf.out.trans (b1.mono Hf.out.size))
            clear b1
            go_wp2_with fail
            go_ret
            exact ⟨rfl, Hf.out⟩
end Go.Proofs.Ytipiiaghjkhkbaa
