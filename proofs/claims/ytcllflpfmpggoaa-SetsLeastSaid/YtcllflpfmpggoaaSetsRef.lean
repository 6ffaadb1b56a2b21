/- The document's own Has, Of, Union, Pick, Within, Same. -/
import Derived.Test.YtcllflpfmpggoaaSetsMath
import Derived.Test.YtcllflpfmpggoaaPathsOwnRow
import Derived.Test.YtcllflpfmpggoaaOver
import Derived.WalkKit
import Derived.BigQuiet
import Derived.OwnWalk
import Derived.Deep.AppendLies
namespace Go.Proofs.Ytcllflpfmpggoaa
open Go.RowKit
set_option linter.unusedVariables false

theorem SIn.at {B : Nat} {w : World} {l : List ByteArray} {ao : Option Addr} {n cap : Nat} (h : SIn B w l (.slice ao n cap)) : ∃ b o, (l.length ≠ 0 → ao = some ⟨b, o, none⟩ ∧ b < B) ∧ RowS w b o l := by
  obtain ⟨b, o, ⟨_, ao', cap', he, _, h4⟩, hr⟩ := h
  obtain ⟨rfl, _, rfl⟩ := Value.slice.inj he
  exact ⟨b, o, fun h => h4.resolve_left h, hr⟩
theorem str_news (w : World) (s : ByteArray) (e : TypeId) : ∀ (j : Nat) x, [Value.string s][j]? = some x → (w.alloc (.cells #[.string s] e)).cell? ((⟨w.heap.size, 0, none⟩ : Addr).add j) = some x :=
  World.news_of_block (cs := #[.string s]) (t := e) (fr := (0, 0)) (heap_alloc_new w _)
theorem str_one (s : ByteArray) : ∀ u ∈ ([.string s] : List Value), u.oneCell' = true := by
  intro u hu
  rw [List.mem_singleton] at hu; subst hu; rfl

/-- a row with one more -/
theorem row_app {e : TypeId} {W w6 wo : World} {u v' : Value} {Y : List ByteArray} {s : ByteArray} {o : Obj} (hO : W.ownsRow wo.heap.size e 1 u Y.length (Y.map .string)) (hB : Below wo.heap.size wo W)
    (hg : (W.alloc o).grownBy w6 u.ownBlock) (h6 : w6.ownsRow wo.heap.size e 1 v' (Y.length + 1) (Y.map .string ++ [.string s])) :
    Below wo.heap.size wo w6 ∧ w6.ownsRow wo.heap.size e 1 v' (Y ++ [s]).length ((Y ++ [s]).map .string) :=
  ⟨(hB.alloc hB.size _).grown hg (by have := hB.size; simp; omega) (fun k hk => (hO.lt k hk).1), by rw [List.length_append, List.map_append]; exact h6⟩
theorem small_app {Y : List ByteArray} {s : ByteArray} (h : ∀ z, z ∈ Y → z.size ≤ strMax) (hs : s.size ≤ strMax) : ∀ z, z ∈ Y ++ [s] → z.size ≤ strMax := fun z hz => by
  rcases List.mem_append.1 hz with hz | hz
  · exact h z hz
  · rw [List.mem_singleton] at hz; rw [hz]; exact hs

set_option maxHeartbeats 1000000 in
theorem refHas_calls (B : Nat) (l : List ByteArray) (s : ByteArray) (v : Value) (w : World) (hB : B ≤ w.heap.size) (h : SIn B w l v) :
    Calls Try.prog 15 #[v, .string s] w fun e w' => e = .returned (.bool (hasN l s)) ∧ Below w.heap.size w w' := by
  obtain ⟨b, o, ⟨m1, ao, cap, rfl, c1, h1⟩, r1⟩ := h
  unfold maxLen at m1
  obtain ⟨n, hn⟩ : ∃ n, n = l.length := ⟨_, rfl⟩
  have HA : Hid (l.take n = l) := Lib.hid (by rw [hn]; exact List.take_length)
  rw [← hn] at m1 h1 c1 ⊢
  have Hn := Lib.hid hn
  have Hr := Lib.hid r1
  have H1 := Lib.hid h1
  clear hn r1 h1
  go_enter Try.func15, Try.ntmps15
  go_wp2_with fail
  go_loopw [5] (fun i wr => ∃ k : Nat, k ≤ n ∧ i = .int .i64 k ∧ Hid (Below w.heap.size w wr) ∧ Hid (hasN (l.take k) s = false))
    (fun i _ => n - (intOf i).toNat)
  case atStart => exact ⟨0, by omega, rfl, Lib.hid (Below.refl _ _), Lib.hid rfl⟩
  case round =>
    obtain ⟨k, hk, rfl, hbel, HK⟩ := hrel
    have hk0 : 0 ≤ (k : Int) := by omega
    by_cases hlt : k < n
    · obtain ⟨x, hx, hm⟩ := get_at (l := l) (k := k) (by rw [← Hn.out]; exact hlt)
      obtain ⟨rfl, hbb⟩ := H1.out.resolve_left (by omega)
      have k0 := (Hr.out.below (fun _ => hbb) (hbel.out.mono hB) k x hx).2
      have hk1 : (k : Int) < (n : Int) := by omega
      have HT := Lib.hid (hasN_take (s := s) hx)
      by_cases he : keyS x = keyS s
      · have e1 := str_eq he
        have HR : Hid (hasN l s = true) := Lib.hid (hasN_iff.2 (key_same.1 he ▸ hm))
        clear hx hm he
        go_wp2_with fail
        go_ret
        exact ⟨ret_bool HR.out.symm, hbel.out⟩
      · have e1 := str_ne he
        have HK2 : Hid (hasN (l.take (k + 1)) s = false) := Lib.hid (by rw [HT.out, HK.out, decide_eq_false he]; rfl)
        clear hx hm he
        go_wp2_with fail
        go_roundw
        case rel => exact ⟨k + 1, by omega, by go_num, hbel, HK2⟩
        case measure => simp [intOf]; omega
    · obtain rfl : k = n := by omega
      have HR : Hid (hasN l s = false) := Lib.hid (by rw [← HA.out]; exact HK.out)
      go_wp2_with fail
      go_ret
      exact ⟨ret_bool HR.out.symm, hbel.out⟩

set_option maxRecDepth 100000 in
set_option maxHeartbeats 2000000 in
theorem refOf_calls (B : Nat) (l : List ByteArray) (v : Value) (hl : l.length ≤ 1000) (w : World) (hB : B ≤ w.heap.size) (h : SIn B w l v) :
    Calls Try.prog 13 #[v] w fun e w' => ∃ v', e = .returned v' ∧ SIn w'.heap.size w' (ofN l) v' ∧ Below w.heap.size w w' := by
  obtain ⟨i0, hi, hz0, hz1, hz2⟩ := info_parts infoStr
  obtain ⟨b, o, ⟨m1, ao, cap, rfl, c1, h1⟩, r1⟩ := h
  unfold maxLen at m1
  obtain ⟨n, hn⟩ : ∃ n, n = l.length := ⟨_, rfl⟩
  have HA : Hid (l.take n = l) := Lib.hid (by rw [hn]; exact List.take_length)
  rw [← hn] at m1 h1 c1 hl ⊢
  have Hn := Lib.hid hn
  have Hr := Lib.hid r1
  have H1 := Lib.hid h1
  clear hn r1 h1
  go_enter Try.func13, Try.ntmps13
  go_wp2_with fail
  go_loopw [4, 3] (fun i u wr => ∃ (k c : Nat) (ao2 : Option Addr) (cap2 : Nat), k ≤ n ∧ i = .int .i64 k ∧ u = .slice ao2 c cap2 ∧ Hid (c = (ofN (l.take k)).length) ∧ Hid (SIn wr.heap.size wr (ofN (l.take k)) (.slice ao2 c cap2)) ∧ Hid (Below w.heap.size w wr))
    (fun i _ _ => n - (intOf i).toNat)
  case atStart => exact ⟨0, 0, none, 0, by omega, rfl, rfl, Lib.hid rfl, Lib.hid ⟨0, 0, ⟨Nat.zero_le _, none, 0, rfl, Nat.le_refl _, .inl rfl⟩, fun j s h => by cases h⟩, Lib.hid (Below.refl _ _)⟩
  case round =>
    obtain ⟨k, c, ao2, cap2, hk, rfl, rfl, Hc, HU, hbel⟩ := hrel
    have hk0 : 0 ≤ (k : Int) := by omega
    by_cases hlt : k < n
    · obtain ⟨s, hs, hm⟩ := get_at (l := l) (k := k) (by rw [← Hn.out]; exact hlt)
      obtain ⟨rfl, hbb⟩ := H1.out.resolve_left (by omega)
      have hbw : b < w.heap.size := by omega
      have k0 := (Hr.out.below (fun _ => hbb) (hbel.out.mono hB) k s hs).2
      have hss := (Hr.out k s hs).1
      have hk1 : (k : Int) < (n : Int) := by omega
      have HT := Lib.hid (ofN_take hs)
      obtain ⟨X, hX⟩ : ∃ X, X = ofN (l.take k) := ⟨_, rfl⟩
      rw [← hX] at HU HT Hc
      have hXl : c ≤ 1000 := by
        have := ofN_len (l.take k)
        rw [Hc.out, hX]; simp at this; omega
      clear hX hs hm
      have HC := Lib.hid (refHas_calls wr.heap.size X s _ wr (Nat.le_refl _) HU.out)
      go_wp2_with fail
      refine HC.out.mono ?_
      rintro e wo ⟨rfl, bo⟩
      have HU := Lib.hid ((HU.out.below bo).mono bo.size)
      have k0 := (bo.cell (p := ⟨b, o + k, none⟩) (by have := hbel.out.size; show b < _; omega)).trans k0
      have Hbel := Lib.hid (hbel.out.trans (bo.mono hbel.out.size))
      clear HC bo hbel
      cases hh : hasN X s
      rotate_left
      · have HT2 : Hid (ofN (l.take (k + 1)) = X) := Lib.hid (by rw [HT.out]; unfold putN; rw [hh]; rfl)
        clear HT
        go_wp2_with fail
        go_roundw
        case rel => exact ⟨k + 1, c, ao2, cap2, by omega, by go_num, rfl, Lib.hid (by rw [HT2.out]; exact Hc.out), Lib.hid (by rw [HT2.out]; exact HU.out), Hbel⟩
        case measure => simp [intOf]; omega
      · have HT2 : Hid (ofN (l.take (k + 1)) = endN s (goN s X c)) := Lib.hid (by rw [HT.out, Hc.out, goN_end]; unfold putN; rw [hh]; rfl)
        clear HT hh
        obtain ⟨b2, o2, h2, r2⟩ := HU.out.at
        rw [← Hc.out] at h2
        have H2 := Lib.hid h2
        have R2 := Lib.hid r2
        have hkb : b < wo.heap.size := by have := Hbel.out.size; omega
        clear h2 r2 HU
        go_wp2_with fail
        go_loopw [7, 6, 5] (fun j t u wr => ∃ q : Nat, q ≤ c ∧ j = .int .i64 q ∧ t = .bool (goN s X q).1 ∧ Hid (wr.ownsRow wo.heap.size 9 1 u (goN s X q).2.length ((goN s X q).2.map .string)) ∧ Hid (∀ z, z ∈ (goN s X q).2 → z.size ≤ strMax) ∧ Hid (Below wo.heap.size wo wr))
          (fun j _ _ _ => c - (intOf j).toNat)
        case atStart => exact ⟨0, by omega, rfl, rfl, Lib.hid (by simpa [goN] using World.ownsRow_nil _ wo.heap.size 9 1), Lib.hid (by simp [goN]), Lib.hid (Below.refl _ _)⟩
        case round =>
          obtain ⟨q, hq, rfl, rfl, HO, HZ, HB⟩ := hrel
          obtain ⟨u, rfl⟩ : ∃ x, x = u5 := ⟨_, rfl⟩
          have hq0 : 0 ≤ (q : Int) := by omega
          by_cases hqc : q < c
          · obtain ⟨x, hx, _⟩ := get_at (l := X) (k := q) (by rw [← Hc.out]; exact hqc)
            obtain ⟨rfl, hb2⟩ := H2.out (by omega)
            have hq1 : (q : Int) < (c : Int) := by omega
            have x0 := (R2.out q x hx).2
            have hxs := (R2.out q x hx).1
            have HN := Lib.hid (goN_next (s := s) hx)
            have HL := Lib.hid (goN_len s X q)
            rw [← Hc.out] at HL
            clear hx
            generalize goN s X q = p at *
            obtain ⟨t, Y⟩ := p
            have hYl : Y.length ≤ c + q + 1 := HL.out
            obtain ⟨wi, rfl⟩ : ∃ x, x = wr := ⟨_, rfl⟩
            have K : ∀ m : Over wi, Below wo.heap.size wo m.w := fun m => HB.out.trans (m.h.mono HB.out.size)
            have FA : ∀ m : Over wi, m.w.cell? ⟨b, o + k, none⟩ = some (.string s) := fun m => ((K m).cell (p := ⟨b, o + k, none⟩) hkb).trans k0
            have FB : ∀ m : Over wi, m.w.cell? ⟨b2, o2 + q, none⟩ = some (.string x) := fun m => ((K m).cell (p := ⟨b2, o2 + q, none⟩) hb2).trans x0
            have HK := Lib.hid K
            clear K
            cases t
            · cases hl : lessS s x
              · have HN2 : Hid (goN s X (q + 1) = (false, Y ++ [x])) := Lib.hid (by rw [HN.out]; simp [stepN, hl])
                have HZ2 := Lib.hid (small_app HZ.out hxs)
                have el : Op.bytesLess s.toList x.toList = false := hl
                clear HN hl
                go_wp2_with fail
                refine wp_region_over (by kernel_rfl) (by kernel_rfl) ?_
                repeat (go_big_quiet_step (fail))
                refine wpQuiet_nil ?_
                rintro _ ⟨m, rfl⟩
                have HB := Lib.hid (HK.out m)
                have HO : Hid (m.w.ownsRow wo.heap.size 9 1 u Y.length (Y.map .string)) := Lib.hid (own_below HO.out m.h)
                have x0 := FB m
                have s0 := FA m
                clear HK FA FB
                generalize m.w = w6 at *
                go_wp2_with (first
                  | (at_builtin; refine wpList_append_own _ rfl _ _ 22 rfl wo.heap.size 9 i0 _ 1 16 Try.underlying22 hi hz0 hz1 hz2 rfl (by decide) _ _ _ rfl (HO.out.alloc _) ⟨w6.heap.size, 0, none⟩ 1 1 [.string x] rfl rfl ?c1 ?c2 ?c3 ?c4 ?c5 ?_)
                  | fail)
                case c1 => exact str_news _ _ _
                case c2 => exact str_one _
                case c3 => unfold maxLen; (try simp only [List.length_append, List.length_cons, List.length_nil]); omega
                case c4 => (try simp only [List.length_append, List.length_cons, List.length_nil]); omega
                case c5 => have := HB.out.size; simp; omega
                intro v' w7 hown hgrow _
                obtain ⟨hb', ho'⟩ := row_app (s := x) (v' := v') HO.out HB.out hgrow (by first | exact hown | simpa using hown)
                have HB := Lib.hid hb'
                have HO := Lib.hid ho'
                clear hown hgrow hb' ho'
                go_wp2_with fail
                go_roundw
                case rel => exact ⟨q + 1, by omega, by go_num, by rw [HN2.out], Lib.hid (by rw [HN2.out]; exact HO.out), Lib.hid (by rw [HN2.out]; exact HZ2.out), HB⟩
                case measure => simp [intOf]; omega
              · have HN2 : Hid (goN s X (q + 1) = (true, Y ++ [s] ++ [x])) := Lib.hid (by rw [HN.out]; simp [stepN, hl])
                have HZ2 := Lib.hid (small_app (small_app HZ.out hss) hxs)
                have el : Op.bytesLess s.toList x.toList = true := hl
                clear HN hl
                have X0 := Lib.hid x0
                go_wp2_with fail
                refine wp_region_over (by kernel_rfl) (by kernel_rfl) ?_
                repeat (go_big_quiet_step (fail))
                refine wpQuiet_nil ?_
                rintro _ ⟨m, rfl⟩
                have HB := Lib.hid (HK.out m)
                have HO : Hid (m.w.ownsRow wo.heap.size 9 1 u Y.length (Y.map .string)) := Lib.hid (own_below HO.out m.h)
                have x0 := FB m
                have s0 := FA m
                clear HK FA FB
                generalize m.w = w6 at *
                go_wp2_with (first
                  | (at_builtin; refine wpList_append_own _ rfl _ _ 22 rfl wo.heap.size 9 i0 _ 1 16 Try.underlying22 hi hz0 hz1 hz2 rfl (by decide) _ _ _ rfl (HO.out.alloc _) ⟨w6.heap.size, 0, none⟩ 1 1 [.string s] rfl rfl ?c1 ?c2 ?c3 ?c4 ?c5 ?_)
                  | fail)
                case c1 => exact str_news _ _ _
                case c2 => exact str_one _
                case c3 => unfold maxLen; (try simp only [List.length_append, List.length_cons, List.length_nil]); omega
                case c4 => (try simp only [List.length_append, List.length_cons, List.length_nil]); omega
                case c5 => have := HB.out.size; simp; omega
                intro v1 w7 hown hgrow _
                obtain ⟨hb', ho'⟩ := row_app (s := s) (v' := v1) HO.out HB.out hgrow (by first | exact hown | simpa using hown)
                have HB := Lib.hid hb'
                have HO := Lib.hid ho'
                clear hown hgrow hb' ho'
                have x0 := (HB.out.cell (p := ⟨b2, o2 + q, none⟩) hb2).trans X0.out
                have s0 := (HB.out.cell (p := ⟨b, o + k, none⟩) hkb).trans k0
                go_wp2_with (first
                  | (at_builtin; refine wpList_append_own _ rfl _ _ 22 rfl wo.heap.size 9 i0 _ 1 16 Try.underlying22 hi hz0 hz1 hz2 rfl (by decide) _ _ _ rfl (HO.out.alloc _) ⟨w7.heap.size, 0, none⟩ 1 1 [.string x] rfl rfl ?c1 ?c2 ?c3 ?c4 ?c5 ?_)
                  | fail)
                case c1 => exact str_news _ _ _
                case c2 => exact str_one _
                case c3 => unfold maxLen; (try simp only [List.length_append, List.length_cons, List.length_nil]); omega
                case c4 => (try simp only [List.length_append, List.length_cons, List.length_nil]); omega
                case c5 => have := HB.out.size; simp; omega
                intro v' w8 hown hgrow _
                obtain ⟨hb', ho'⟩ := row_app (s := x) (v' := v') HO.out HB.out hgrow (by first | exact hown | simpa using hown)
                have HB := Lib.hid hb'
                have HO := Lib.hid ho'
                clear hown hgrow hb' ho'
                go_wp2_with fail
                go_roundw
                case rel => exact ⟨q + 1, by omega, by go_num, by rw [HN2.out], Lib.hid (by rw [HN2.out]; exact HO.out), Lib.hid (by rw [HN2.out]; exact HZ2.out), HB⟩
                case measure => simp [intOf]; omega
            · have HN2 : Hid (goN s X (q + 1) = (true, Y ++ [x])) := Lib.hid (by rw [HN.out]; simp [stepN])
              have HZ2 := Lib.hid (small_app HZ.out hxs)
              clear HN
              go_wp2_with fail
              refine wp_region_over (by kernel_rfl) (by kernel_rfl) ?_
              repeat (go_big_quiet_step (fail))
              refine wpQuiet_nil ?_
              rintro _ ⟨m, rfl⟩
              have HB := Lib.hid (HK.out m)
              have HO : Hid (m.w.ownsRow wo.heap.size 9 1 u Y.length (Y.map .string)) := Lib.hid (own_below HO.out m.h)
              have x0 := FB m
              have s0 := FA m
              clear HK FA FB
              generalize m.w = w6 at *
              go_wp2_with (first
                | (at_builtin; refine wpList_append_own _ rfl _ _ 22 rfl wo.heap.size 9 i0 _ 1 16 Try.underlying22 hi hz0 hz1 hz2 rfl (by decide) _ _ _ rfl (HO.out.alloc _) ⟨w6.heap.size, 0, none⟩ 1 1 [.string x] rfl rfl ?c1 ?c2 ?c3 ?c4 ?c5 ?_)
                | fail)
              case c1 => exact str_news _ _ _
              case c2 => exact str_one _
              case c3 => unfold maxLen; (try simp only [List.length_append, List.length_cons, List.length_nil]); omega
              case c4 => (try simp only [List.length_append, List.length_cons, List.length_nil]); omega
              case c5 => have := HB.out.size; simp; omega
              intro v' w7 hown hgrow _
              obtain ⟨hb', ho'⟩ := row_app (s := x) (v' := v') HO.out HB.out hgrow (by first | exact hown | simpa using hown)
              have HB := Lib.hid hb'
              have HO := Lib.hid ho'
              clear hown hgrow hb' ho'
              go_wp2_with fail
              go_roundw
              case rel => exact ⟨q + 1, by omega, by go_num, by rw [HN2.out], Lib.hid (by rw [HN2.out]; exact HO.out), Lib.hid (by rw [HN2.out]; exact HZ2.out), HB⟩
              case measure => simp [intOf]; omega
          · obtain rfl : q = c := by omega
            have HL := Lib.hid (goN_len s X q)
            rw [← Hc.out] at HL
            have s0 := (HB.out.cell (p := ⟨b, o + k, none⟩) hkb).trans k0
            generalize goN s X q = p at *
            obtain ⟨t, Y⟩ := p
            have hYl : Y.length ≤ q + q + 1 := HL.out
            have hY0 : Y.length ≤ maxLen := by unfold maxLen; omega
            cases t
            · have HT3 : Hid (ofN (l.take (k + 1)) = Y ++ [s]) := HT2
              have HZ2 := Lib.hid (small_app HZ.out hss)
              clear HT2 HZ
              go_wp2_with (first
                | (at_builtin; refine wpList_append_own _ rfl _ _ 22 rfl wo.heap.size 9 i0 _ 1 16 Try.underlying22 hi hz0 hz1 hz2 rfl (by decide) _ _ _ rfl (HO.out.alloc _) ⟨wr.heap.size, 0, none⟩ 1 1 [.string s] rfl rfl ?c1 ?c2 ?c3 ?c4 ?c5 ?_)
                | fail)
              case c2 => first | exact str_one _ | rfl | simp [Value.oneCell']
              case c3 => unfold maxLen; omega
              case c4 => omega
              case c5 => have := HB.out.size; simp; omega
              intro v' w7 hown hgrow _
              obtain ⟨hb', ho'⟩ := row_app (s := s) (v' := v') HO.out HB.out hgrow (by first | exact hown | simpa using hown)
              have HB := Lib.hid hb'
              have HO := Lib.hid ho'
              clear hown hgrow hb' ho'
              obtain ⟨na, nc, rfl⟩ := own_shape HO.out
              have Hbel := Lib.hid (Hbel.out.trans (HB.out.mono Hbel.out.size))
              go_wp2_with fail
              go_roundw
              case rel => exact ⟨k + 1, (Y ++ [s]).length, na, nc, by omega, by go_num, by simp, Lib.hid (by rw [HT3.out]), Lib.hid (by rw [HT3.out]; exact own_S HO.out HZ2.out (by unfold maxLen; simp; omega)), Hbel⟩
              case measure => simp [intOf]; omega
            · have HT3 : Hid (ofN (l.take (k + 1)) = Y) := HT2
              obtain ⟨na, nc, rfl⟩ := own_shape HO.out
              have Hbel := Lib.hid (Hbel.out.trans (HB.out.mono Hbel.out.size))
              go_wp2_with fail
              go_roundw
              case rel => exact ⟨k + 1, Y.length, na, nc, by omega, by go_num, rfl, Lib.hid (by rw [HT3.out]), Lib.hid (by rw [HT3.out]; exact own_S HO.out HZ.out hY0), Hbel⟩
              case measure => simp [intOf]; omega
    · obtain rfl : k = n := by omega
      have HU2 : Hid (SIn wr.heap.size wr (ofN l) (.slice ao2 c cap2)) := Lib.hid (by have := HU.out; rwa [HA.out] at this)
      go_wp2_with fail
      go_ret
      exact ⟨_, rfl, HU2.out, hbel.out⟩
end Go.Proofs.Ytcllflpfmpggoaa
