/- sets.parted: what the first alone, both, the second alone have. -/
import Derived.Test.YtcllflpfmpggoaaSetsSort
import Derived.Test.YtcllflpfmpggoaaSetsThree
import Derived.OwnWalk
namespace Go.Proofs.Ytcllflpfmpggoaa
open Go.RowKit
set_option linter.unusedVariables false

/-- the slice [1:] -/
theorem tail_run (g p q' rc : Nat) (hq : q' + 1 ≤ rc) : ∃ ro, (∀ W : World, (Instr.slice 22 (.slice (some ⟨g, p, none⟩) (q' + 1) rc) (some (.int .i64 1)) none none).run Try.prog W = .ok (.slice ro q' (rc - 1)) W) ∧ (q' ≠ 0 → ro = some ⟨g, p + 1, none⟩) := by
  obtain ⟨i0, hi, hz0, hz1, hz2⟩ := info_parts infoStr
  have hs : ∀ W : World, (Go.sizeOf (Try.prog.elem 22)).run Try.prog W = .ok 1 W := fun W => by
    have : Try.prog.elem 22 = 9 := by kernel_rfl
    rw [this]
    simp [Go.sizeOf, typeInfo, hi, hz1]
  refine ⟨if rc = 1 then some ⟨g, p, none⟩ else some ⟨g, p + 1, none⟩, fun W => ?_, fun h => by rw [if_neg (by omega)]⟩
  have h := run_slice_l (P := Try.prog) W 22 (some ⟨g, p, none⟩) (q' + 1) rc (by kernel_rfl) .i64 1 (by omega) (by omega)
  rw [h, hs]
  simp only [Result.andThen, sliced]
  by_cases e : rc = 1
  · subst e
    simp
  · rw [if_neg (by simpa using e), if_neg e]
    simp [Addr.add]

theorem leq_run (a b : ByteArray) (r : Bool) (h : (Op.bytesLess a.toList b.toList || a.toList == b.toList) = r) (w : World) : Sem.run Try.prog (binOp BinOp.leq 9 (.string a) (.string b)) w = .ok (.bool r) w := by
  subst h
  simp [binOp, Op.stringOp]

set_option maxRecDepth 100000 in
set_option maxHeartbeats 4000000 in
theorem parted_calls (B : Nat) (a b : List ByteArray) (va vb : Value) (hla : a.length ≤ 1000) (hlb : b.length ≤ 1000) (w : World) (hB : B ≤ w.heap.size) (ha : SIn B w a va) (hb : SIn B w b vb) :
    Calls Try.prog 32 #[va, vb] w fun e w' => ∃ v1 v2 v3, e = .returned (.tuple #[v1, v2, v3]) ∧ SIn w'.heap.size w' (alone (ofN a) (ofN b)) v1 ∧ SIn w'.heap.size w' (both (ofN a) (ofN b)) v2 ∧ SIn w'.heap.size w' (alone (ofN b) (ofN a)) v3 ∧ Below w.heap.size w w' := by
  obtain ⟨i0, hi, hz0, hz1, hz2⟩ := info_parts infoStr
  have R1 := Lib.hid (rising_calls B b vb (by omega) w hB hb)
  have R2 : Hid (∀ W, Below w.heap.size w W → _) := Lib.hid fun W (h : Below w.heap.size w W) => rising_calls B a va (by omega) W (Nat.le_trans hB h.size) (ha.below (h.mono hB))
  have SA : Hid (∀ z, z ∈ ofN a → z.size ≤ strMax) := Lib.hid fun z hz => ha.small z (ofN_mem.1 hz)
  have SB : Hid (∀ z, z ∈ ofN b → z.size ≤ strMax) := Lib.hid fun z hz => hb.small z (ofN_mem.1 hz)
  have LA := ofN_len a
  have LB := ofN_len b
  have RA := Lib.hid (ofN_rise a)
  have RB := Lib.hid (ofN_rise b)
  generalize ofN a = X at *
  generalize ofN b = Y at *
  obtain ⟨n, hn⟩ : ∃ n, n = X.length := ⟨_, rfl⟩
  obtain ⟨m, hm⟩ : ∃ m, m = Y.length := ⟨_, rfl⟩
  have hn1 : n ≤ 1000 := by omega
  have hm1 : m ≤ 1000 := by omega
  have Hn := Lib.hid hn
  have Hm := Lib.hid hm
  rw [← hm] at R1
  rw [← hn] at R2
  clear LA LB hla hlb ha hb hn hm
  go_enter Try.func32, Try.ntmps32
  go_wp2_with fail
  go_step3
  go_wp2_with fail
  refine R1.out.mono ?_
  rintro e w1 ⟨vr, rfl, hro, hb1⟩
  have HR := Lib.hid hro
  have Hb1 := Lib.hid hb1
  have R2' := Lib.hid (R2.out w1 hb1)
  clear R1 R2 hro hb1
  go_wp2_with fail
  go_step3
  go_wp2_with fail
  refine R2'.out.mono ?_
  rintro e W0 ⟨vx, rfl, hxo, hb2⟩
  have HY := Lib.hid (own_S (own_below HR.out hb2) SB.out (by unfold maxLen; omega))
  have HX := Lib.hid (own_S hxo SA.out (by unfold maxLen; omega))
  have Hb2 := Lib.hid (Hb1.out.trans (hb2.mono Hb1.out.size))
  clear hxo hb2 Hb1 HR R2'
  obtain ⟨bx, ox, ⟨_, ax, cx, rfl, cx1, hx1⟩, rx⟩ := HX.out
  obtain ⟨by_, oy, ⟨_, ay, cy, rfl, cy1, hy1⟩, ry⟩ := HY.out
  rw [← Hn.out] at cx1 hx1 ⊢
  rw [← Hm.out] at cy1 hy1 ⊢
  have RX := Lib.hid rx
  have RY := Lib.hid ry
  have HX1 := Lib.hid hx1
  have HY1 := Lib.hid hy1
  clear rx ry hx1 hy1 HX HY
  go_wp2_with fail
  go_loopw [4, 5, 6, 7, 16] (fun f1 f2 f3 rest i wr => ∃ (k p q rc : Nat) (ro : Option Addr), k ≤ n ∧ i = .int .i64 k ∧ rest = .slice ro q rc ∧ q + p = m ∧ q ≤ rc ∧ Hid (q ≠ 0 → ro = some ⟨by_, oy + p, none⟩ ∧ by_ < W0.heap.size) ∧
      Hid (Three W0.heap.size wr f1 f2 f3 (alone (X.take k) Y) (both (X.take k) Y) (alone (Y.take p) X)) ∧ Hid (Part X Y k p) ∧ Hid (Below W0.heap.size W0 wr))
    (fun _ _ _ _ i _ => n - (intOf i).toNat)
  case atStart => exact ⟨0, 0, m, cy, ay, by omega, rfl, rfl, by omega, cy1, Lib.hid (fun h => HY1.out.resolve_left h), Lib.hid (Three.start _ _), Lib.hid (Part.start _ _), Lib.hid (Below.refl _ _)⟩
  case round =>
    obtain ⟨k, p, q, rc, ro, hk, rfl, rfl, hqp, hqc, HQ, HT, HP, HB⟩ := hrel
    have hk0 : 0 ≤ (k : Int) := by omega
    by_cases hlt : k < n
    · have hk1 : (k : Int) < (n : Int) := by omega
      obtain ⟨x, hx, hxm⟩ := get_at (l := X) (k := k) (by rw [← Hn.out]; exact hlt)
      obtain ⟨rfl, hbx⟩ := HX1.out.resolve_left (by omega)
      have x0 := (HB.out.cell (p := ⟨bx, ox + k, none⟩) hbx).trans (RX.out k x hx).2
      have Hx := Lib.hid hx
      clear hx hxm
      go_wp2_with fail
      clear x0
      go_loopw [5, 6, 7] (fun f2 f3 rest wr => ∃ (p q rc : Nat) (ro : Option Addr), rest = .slice ro q rc ∧ q + p = m ∧ q ≤ rc ∧ Hid (q ≠ 0 → ro = some ⟨by_, oy + p, none⟩ ∧ by_ < W0.heap.size) ∧
          Hid (Three W0.heap.size wr u4 f2 f3 (alone (X.take k) Y) (both (X.take k) Y) (alone (Y.take p) X)) ∧ Hid (Part X Y k p) ∧ Hid (Below W0.heap.size W0 wr))
        (fun _ _ rest _ => slLen rest)
      case atStart => exact ⟨p, q, rc, ro, rfl, hqp, hqc, HQ, HT, HP, HB⟩
      case round =>
        clear HQ HT HP HB hqp hqc
        obtain ⟨p, q, rc, ro, rfl, hqp, hqc, HQ, HT, HP, HB⟩ := hrel
        by_cases hq : q = 0
        · subst hq
          have hend : Y.length ≤ p := by rw [← Hm.out]; omega
          have HN := Lib.hid (alone_next (Y := Y) Hx.out)
          have HN2 := Lib.hid (both_next (Y := Y) Hx.out)
          have hh := HP.out.end_has Hx.out hend
          rw [hh] at HN HN2
          simp only [Bool.false_eq_true, if_false, List.append_nil] at HN HN2
          have HP2 := Lib.hid (HP.out.end Hx.out hend)
          have hL := alone_len X Y k
          rw [← Hn.out] at hL
          have HL := Lib.hid hL
          clear hh hend hL
          go_wp2_with (first
            | (at_builtin; refine wpList_append_own_at _ rfl _ _ 22 rfl W0.heap.size 9 i0 _ 1 16 Try.underlying22 hi hz0 hz1 hz2 rfl (by decide) _ _ _ rfl (HT.out.o1.alloc _) ⟨wr.heap.size, 0, none⟩ 1 1 [.string x] rfl rfl ?c1 ?c2 ?c3 ?c4 ?c5 ?_)
            | fail)
          case c1 => exact str_news _ _ _
          case c2 => first | exact str_one _ | rfl | simp [Value.oneCell']
          case c3 => have := HL.out; unfold maxLen; (try simp only [List.length_append, List.length_cons, List.length_nil]); omega
          case c4 => have := HL.out; (try simp only [List.length_append, List.length_cons, List.length_nil]); omega
          case c5 => have := HB.out.size; simp; omega
          intro v' w7 hown hgrow _ hat
          have HB7 := Lib.hid (grown_below HT.out.o1 HB.out hgrow)
          have HT7 := Lib.hid (HT.out.app1 (s := x) hgrow (by first | exact hown | simpa using hown) hat)
          clear hown hgrow hat
          go_wp2_with fail
          go_roundw
          case rel => exact ⟨k + 1, p, 0, rc, ro, by omega, by go_num, rfl, hqp, hqc, HQ, by rw [HN.out, HN2.out]; exact HT7, HP2, HB7⟩
          case measure => simp [intOf]; omega
        · obtain ⟨y, hy, _⟩ := get_at (l := Y) (k := p) (by rw [← Hm.out]; omega)
          obtain ⟨rfl, hby⟩ := HQ.out hq
          obtain ⟨q', rfl⟩ : ∃ q', q = q' + 1 := ⟨q - 1, by omega⟩
          obtain ⟨ro', hsl, hro'⟩ := tail_run by_ (oy + p) q' rc hqc
          have HRO : Hid (q' ≠ 0 → ro' = some ⟨by_, oy + (p + 1), none⟩ ∧ by_ < W0.heap.size) := Lib.hid fun h => ⟨hro' h, hby⟩
          have y0 := (HB.out.cell (p := ⟨by_, oy + p, none⟩) hby).trans (RY.out p y hy).2
          have e5 : (q' : Int) + 1 > 0 := by omega
          have hqp2 : q' + (p + 1) = m := by omega
          have hqc2 : q' ≤ rc - 1 := by omega
          have HNY := Lib.hid (alone_next (Y := X) hy)
          have HN := Lib.hid (alone_next (Y := Y) Hx.out)
          have HN2 := Lib.hid (both_next (Y := Y) Hx.out)
          have Hy := Lib.hid hy
          have hqc3 : q' + 1 ≤ rc := by omega
          clear hy HQ hro' hqp hqc hq
          by_cases he : keyS y = keyS x
          · obtain rfl := key_same.1 he
            have hX : hasN X y = true := hasN_iff.2 (List.mem_of_getElem? Hx.out)
            have hY : hasN Y y = true := hasN_iff.2 (List.mem_of_getElem? Hy.out)
            rw [hX] at HNY
            rw [hY] at HN HN2
            simp only [if_true, List.append_nil] at HNY HN HN2
            have HP2 := Lib.hid (HP.out.same RA.out RB.out Hx.out Hy.out)
            have e3 := leq_run y y true (by simp)
            have hL := both_len X Y k
            rw [← Hn.out] at hL
            have HL := Lib.hid hL
            clear he hX hY hL
            go_wp2_with (first
              | (at_builtin; refine wpList_append_own_at _ rfl _ _ 22 rfl W0.heap.size 9 i0 _ 1 16 Try.underlying22 hi hz0 hz1 hz2 rfl (by decide) _ _ _ rfl (HT.out.o2.alloc _) ⟨wr.heap.size, 0, none⟩ 1 1 [.string y] rfl rfl ?c1 ?c2 ?c3 ?c4 ?c5 ?_)
              | fail)
            case c1 => exact str_news _ _ _
            case c2 => first | exact str_one _ | rfl | simp [Value.oneCell']
            case c3 => have := HL.out; unfold maxLen; (try simp only [List.length_append, List.length_cons, List.length_nil]); omega
            case c4 => have := HL.out; (try simp only [List.length_append, List.length_cons, List.length_nil]); omega
            case c5 => have := HB.out.size; simp; omega
            intro v' w7 hown hgrow _ hat
            have HB7 := Lib.hid (grown_below HT.out.o2 HB.out hgrow)
            have HT7 := Lib.hid (HT.out.app2 (s := y) hgrow (by first | exact hown | simpa using hown) hat)
            clear hown hgrow hat
            go_wp2_with fail
            go_roundw
            case rel => exact ⟨k + 1, p + 1, q', rc - 1, ro', by omega, by go_num, rfl, hqp2, hqc2, HRO, by rw [HN.out, HN2.out, HNY.out]; exact HT7, HP2, HB7⟩
            case measure => simp [intOf]; omega
          · have e2 := str_ne he
            cases hl : lessS y x with
            | true =>
              have hX := HP.out.less_has RA.out Hx.out Hy.out hl
              rw [hX] at HNY
              simp only [Bool.false_eq_true, if_false] at HNY
              have HP2 := Lib.hid (HP.out.less RA.out Hx.out Hy.out hl)
              have e3 := leq_run y x true (by rw [show Op.bytesLess y.toList x.toList = true from hl]; rfl)
              have hL := alone_len Y X p
              rw [← Hm.out] at hL
              have HL := Lib.hid hL
              clear he hX hl hL
              go_wp2_with (first
                | (at_builtin; refine wpList_append_own_at _ rfl _ _ 22 rfl W0.heap.size 9 i0 _ 1 16 Try.underlying22 hi hz0 hz1 hz2 rfl (by decide) _ _ _ rfl (HT.out.o3.alloc _) ⟨wr.heap.size, 0, none⟩ 1 1 [.string y] rfl rfl ?c1 ?c2 ?c3 ?c4 ?c5 ?_)
                | fail)
              case c1 => exact str_news _ _ _
              case c2 => first | exact str_one _ | rfl | simp [Value.oneCell']
              case c3 => have := HL.out; unfold maxLen; (try simp only [List.length_append, List.length_cons, List.length_nil]); omega
              case c4 => have := HL.out; (try simp only [List.length_append, List.length_cons, List.length_nil]); omega
              case c5 => have := HB.out.size; simp; omega
              intro v' w7 hown hgrow _ hat
              have HB7 := Lib.hid (grown_below HT.out.o3 HB.out hgrow)
              have HT7 := Lib.hid (HT.out.app3 (s := y) hgrow (by first | exact hown | simpa using hown) hat)
              clear hown hgrow hat
              go_wp2_with fail
              go_roundw
              case rel => exact ⟨p + 1, q', rc - 1, ro', rfl, hqp2, hqc2, HRO, by rw [HNY.out]; exact HT7, HP2, HB7⟩
              case measure => simp [slLen]
            | false =>
              have hxy : lessS x y = true := lessS_of hl fun e => he (key_same.2 e.symm)
              have hY := HP.out.more_has RB.out Hx.out Hy.out hxy
              rw [hY] at HN HN2
              simp only [Bool.false_eq_true, if_false, List.append_nil] at HN HN2
              have HP2 := Lib.hid (HP.out.more RB.out Hx.out Hy.out hxy)
              have e3 := leq_run y x false (by rw [show Op.bytesLess y.toList x.toList = false from hl, e2]; rfl)
              have hL := alone_len X Y k
              rw [← Hn.out] at hL
              have HL := Lib.hid hL
              have hqp3 : q' + 1 + p = m := by omega
              clear he hl hxy hY hL HNY HRO hsl hqp2 hqc2
              go_wp2_with (first
                | (at_builtin; refine wpList_append_own_at _ rfl _ _ 22 rfl W0.heap.size 9 i0 _ 1 16 Try.underlying22 hi hz0 hz1 hz2 rfl (by decide) _ _ _ rfl (HT.out.o1.alloc _) ⟨wr.heap.size, 0, none⟩ 1 1 [.string x] rfl rfl ?c1 ?c2 ?c3 ?c4 ?c5 ?_)
                | fail)
              try (case c1 => exact str_news _ _ _)
              case c2 => first | exact str_one _ | rfl | simp [Value.oneCell']
              case c3 => have := HL.out; unfold maxLen; (try simp only [List.length_append, List.length_cons, List.length_nil]); omega
              case c4 => have := HL.out; (try simp only [List.length_append, List.length_cons, List.length_nil]); omega
              case c5 => have := HB.out.size; simp; omega
              intro v' w7 hown hgrow _ hat
              have HB7 := Lib.hid (grown_below HT.out.o1 HB.out hgrow)
              have HT7 := Lib.hid (HT.out.app1 (s := x) hgrow (by first | exact hown | simpa using hown) hat)
              clear hown hgrow hat
              go_wp2_with fail
              go_roundw
              case rel => exact ⟨k + 1, p, q' + 1, rc, some ⟨by_, oy + p, none⟩, by omega, by go_num, rfl, hqp3, hqc3, Lib.hid (fun _ => ⟨rfl, hby⟩), by rw [HN.out, HN2.out]; exact HT7, HP2, HB7⟩
              case measure => simp [intOf]; omega
    · obtain rfl : k = n := by omega
      have hks : X.length ≤ k := by rw [← Hn.out]; exact Nat.le_refl _
      have HE := Lib.hid (HP.out.rest hks)
      have hdl : q = (Y.drop p).length := by rw [List.length_drop, ← Hm.out]; omega
      have hS : SIn W0.heap.size wr (Y.drop p) (.slice ro q rc) := by
        refine ⟨by_, oy + p, ⟨by rw [← hdl]; unfold maxLen; omega, ro, rc, by rw [← hdl], by rw [← hdl]; exact hqc, ?_⟩, (RY.out.below (fun h => (HY1.out.resolve_left (by rw [← Hm.out] at h; exact h)).2) HB.out).drop p⟩
        rw [← hdl]
        exact (Nat.eq_zero_or_pos q).imp id fun h => HQ.out (by omega)
      have HS := Lib.hid hS
      have Hdl := Lib.hid hdl
      have HTk : Hid (Three W0.heap.size wr u4 u5 u6 (alone X Y) (both X Y) (alone (Y.take p) X)) := Lib.hid (by have := HT.out; rwa [List.take_of_length_le hks] at this)
      have l1 := Lib.hid (alone_len X Y k)
      have l2 := Lib.hid (both_len X Y k)
      have l3 := Lib.hid (alone_len Y X p)
      rw [List.take_of_length_le hks, ← Hn.out] at l1 l2
      rw [← Hm.out] at l3
      have hw0 := HB.out.size
      clear hks hdl hS HT HP HQ hqc
      go_wp2_with (first
        | (at_builtin; refine wpList_app rfl _ _ rfl W0.heap.size _ _ (alone (Y.take p) X) rfl HTk.out.o3 (Y.drop p) _ q Hdl.out rfl W0.heap.size hw0 HS.out (by have := l3.out; omega) hw0 ?_)
        | fail)
      intro v3 w2 hown hg
      have HW : Hid (Below W0.heap.size W0 w2) := Lib.hid (HB.out.grown hg hw0 (fun k hk => (HTk.out.o3.lt k hk).1))
      have O1 := Lib.hid (own_apart HTk.out.o1 HTk.out.a13.symm hg)
      have O2 := Lib.hid (own_apart HTk.out.o2 HTk.out.a23.symm hg)
      have O3 : Hid (w2.ownsRow W0.heap.size 9 1 v3 (alone Y X).length ((alone Y X).map .string)) := Lib.hid (by rw [HE.out, List.length_append, ← Hdl.out]; simpa using hown)
      clear hown hg
      go_wp2_with fail
      try rw [Exit.noGoto_ret]
      go_ret3
      refine ⟨_, _, _, rfl, own_S O1.out (fun z hz => SA.out z (List.mem_filter.1 hz).1) (by have := l1.out; unfold maxLen; omega), own_S O2.out (fun z hz => SA.out z (List.mem_filter.1 hz).1) (by have := l2.out; unfold maxLen; omega), own_S O3.out (fun z hz => SB.out z (List.mem_filter.1 hz).1) ?_, Hb2.out.trans (HW.out.mono Hb2.out.size)⟩
      have := List.length_filter_le (fun s => !hasN X s) Y
      rw [← Hm.out] at this
      show (alone Y X).length ≤ maxLen
      unfold alone maxLen
      omega
end Go.Proofs.Ytcllflpfmpggoaa
