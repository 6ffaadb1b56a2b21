/- sets.Of, Has, Union, Common, Minus, Same, Within. -/
import Derived.Test.YtcllflpfmpggoaaSetsParted
import Derived.Test.YtcllflpfmpggoaaSetsConcat
namespace Go.Proofs.Ytcllflpfmpggoaa
open Go.RowKit
set_option linter.unusedVariables false

theorem clone_text (s : ByteArray) (hs : s.size ≤ strMax) (w : World) : Calls Try.prog 29 #[.string s] w fun e w' => e = .returned (.string s) ∧ Below w.heap.size w w' := by
  have hcon := fun W => Try.stringslite_Clone s W (by unfold strMax at hs; omega)
  go_enter Try.func29, Try.ntmps29
  go_wp2_with (go_at_call 36; refine (hcon _).mono ?_; rintro e w' ⟨rfl, hb⟩)
  go_ret
  exact ⟨rfl, by assumption⟩

set_option maxRecDepth 100000 in
set_option maxHeartbeats 2000000 in
theorem of_calls (B : Nat) (l : List ByteArray) (v : Value) (hl : l.length ≤ 1000000) (w : World) (hB : B ≤ w.heap.size) (h : SIn B w l v) :
    Calls Try.prog 11 #[v] w fun e w' => ∃ v', e = .returned v' ∧ w'.ownsRow w.heap.size 9 1 v' (ofN l).length ((ofN l).map .string) ∧ Below w.heap.size w w' := by
  obtain ⟨i0, hi, hz0, hz1, hz2⟩ := info_parts infoStr
  have R1 := Lib.hid (rising_calls B l v hl w hB h)
  have SA : Hid (∀ z, z ∈ ofN l → z.size ≤ strMax) := Lib.hid fun z hz => h.small z (ofN_mem.1 hz)
  have LA := ofN_len l
  generalize ofN l = X at *
  obtain ⟨n, hn⟩ : ∃ n, n = X.length := ⟨_, rfl⟩
  have hn1 : n ≤ 1000000 := by omega
  have Hn := Lib.hid hn
  rw [← hn] at R1 ⊢
  clear LA hl h hn
  go_enter Try.func11, Try.ntmps11
  go_wp2_with fail
  refine R1.out.mono ?_
  rintro e W0 ⟨vx, rfl, hxo, hb1⟩
  have HX := Lib.hid (own_S (by rw [Hn.out] at hxo; exact hxo) SA.out (by rw [← Hn.out]; unfold maxLen; omega))
  have Hb := Lib.hid hb1
  have hw0 := hb1.size
  clear hxo hb1 R1
  obtain ⟨bx, ox, ⟨_, ax, cx, rfl, cx1, hx1⟩, rx⟩ := HX.out
  rw [← Hn.out] at cx1 hx1 ⊢
  have RX := Lib.hid rx
  have HX1 := Lib.hid hx1
  clear rx hx1 HX
  go_wp2_with fail
  go_loopw [3, 9] (fun u i wr => ∃ k : Nat, k ≤ n ∧ i = .int .i64 k ∧ Hid (wr.ownsRow W0.heap.size 9 1 u k ((X.take k).map .string)) ∧ Hid (Below W0.heap.size W0 wr))
    (fun _ i _ => n - (intOf i).toNat)
  case atStart => exact ⟨0, by omega, rfl, Lib.hid (by simpa using World.ownsRow_nil _ W0.heap.size 9 1), Lib.hid (Below.refl _ _)⟩
  case round =>
    obtain ⟨k, hk, rfl, HO, HB⟩ := hrel
    have hk0 : 0 ≤ (k : Int) := by omega
    by_cases hlt : k < n
    · have hk1 : (k : Int) < (n : Int) := by omega
      obtain ⟨s, hs, _⟩ := get_at (l := X) (k := k) (by rw [← Hn.out]; exact hlt)
      obtain ⟨rfl, hbx⟩ := HX1.out.resolve_left (by omega)
      have k0 := (HB.out.cell (p := ⟨bx, ox + k, none⟩) hbx).trans (RX.out k s hs).2
      have hss := (RX.out k s hs).1
      have HN := Lib.hid (take_at hs)
      have HC := Lib.hid fun W => clone_text s hss W
      clear hs
      go_wp2_with fail
      refine (HC.out _).mono ?_
      rintro e w5 ⟨rfl, b5⟩
      have HO5 := Lib.hid (own_below HO.out b5)
      have HB5 := Lib.hid (HB.out.trans (b5.mono HB.out.size))
      clear b5 k0 HC
      go_wp2_with (first
        | (at_builtin; refine wpList_append_own _ rfl _ _ 22 rfl W0.heap.size 9 i0 _ 1 16 Try.underlying22 hi hz0 hz1 hz2 rfl (by decide) _ _ _ rfl (HO5.out.alloc _) ⟨w5.heap.size, 0, none⟩ 1 1 [.string s] rfl rfl ?c1 ?c2 ?c3 ?c4 ?c5 ?_)
        | fail)
      try (case c1 => exact str_news _ _ _)
      case c2 => first | exact str_one _ | rfl | simp [Value.oneCell']
      case c3 => unfold maxLen; (try simp only [List.length_append, List.length_cons, List.length_nil]); omega
      case c4 => (try simp only [List.length_append, List.length_cons, List.length_nil]); omega
      case c5 => have := HB5.out.size; simp; omega
      intro v' w7 hown hgrow _
      have HB7 := Lib.hid (grown_below HO5.out HB5.out hgrow)
      have HO7 : Hid (w7.ownsRow W0.heap.size 9 1 v' (k + 1) ((X.take (k + 1)).map .string)) := Lib.hid (by rw [HN.out, List.map_append]; first | exact hown | simpa using hown)
      clear hown hgrow
      go_wp2_with fail
      go_roundw
      case rel => exact ⟨k + 1, by omega, by go_num, HO7, HB7⟩
      case measure => simp [intOf]; omega
    · obtain rfl : k = n := by omega
      have HF : Hid (wr.ownsRow w.heap.size 9 1 u3 k (X.map .string)) := Lib.hid (by have := own_mono HO.out hw0; rwa [List.take_of_length_le (by rw [← Hn.out]; exact Nat.le_refl _)] at this)
      go_wp2_with fail
      go_ret
      exact ⟨_, rfl, HF.out, Hb.out.trans (HB.out.mono hw0)⟩
theorem of_in (B : Nat) (l : List ByteArray) (v : Value) (hl : l.length ≤ 1000000) (w : World) (hB : B ≤ w.heap.size) (h : SIn B w l v) :
    Calls Try.prog 11 #[v] w fun e w' => ∃ v', e = .returned v' ∧ SIn w'.heap.size w' (ofN l) v' ∧ Below w.heap.size w w' := by
  have hs : ∀ z, z ∈ ofN l → z.size ≤ strMax := fun z hz => h.small z (ofN_mem.1 hz)
  refine (of_calls B l v hl w hB h).mono ?_
  rintro e w' ⟨v', he, ho, hb⟩
  exact ⟨v', he, own_S ho hs (by have := ofN_len l; unfold maxLen; omega), hb⟩

theorem containsS_has (l : List ByteArray) (s : ByteArray) : Lib.containsS l s = hasN l s := by
  rw [Bool.eq_iff_iff, Lib.containsS_iff, hasN_iff]
theorem contains_calls (B : Nat) (l : List ByteArray) (s : ByteArray) (v : Value) (w : World) (hB : B ≤ w.heap.size) (h : SIn B w l v) :
    Calls Try.prog 30 #[v, .string s] w fun e w' => e = .returned (.bool (hasN l s)) ∧ w' = w := by
  obtain ⟨b, o, ⟨m1, ao, cap, rfl, c1, h1⟩, r1⟩ := h
  by_cases hn : l.length = 0
  · obtain rfl := List.eq_nil_of_length_eq_zero hn
    exact Try.slices_Contains_string_empty ao cap s w
  · obtain ⟨rfl, hb⟩ := h1.resolve_left hn
    unfold maxLen at m1
    have := Try.slices_Contains_string b o l.length cap l s w (Nat.le_refl _) (by omega) (fun j hj => by
      obtain ⟨s, hs, _⟩ := get_at hj
      rw [getD_at hs]
      exact (r1 j s hs).2)
    rwa [List.take_length, containsS_has] at this
theorem has_calls (B : Nat) (l : List ByteArray) (s : ByteArray) (v : Value) (w : World) (hB : B ≤ w.heap.size) (h : SIn B w l v) :
    Calls Try.prog 14 #[v, .string s] w fun e w' => e = .returned (.bool (hasN l s)) ∧ w' = w := by
  have HC := Lib.hid (contains_calls B l s v w hB h)
  generalize hasN l s = r at *
  clear h
  go_enter Try.func14, Try.ntmps14
  go_wp2_with (go_at_call 30; refine HC.out.mono ?_; rintro e w' ⟨rfl, rfl⟩)
  go_ret
  exact ⟨rfl, rfl⟩

set_option maxRecDepth 100000 in
set_option maxHeartbeats 2000000 in
theorem union_calls (B : Nat) (xs ys : List ByteArray) (v1 v2 : Value) (hl : xs.length + ys.length ≤ 1000) (w : World) (hB : B ≤ w.heap.size) (h1 : SIn B w xs v1) (h2 : SIn B w ys v2) :
    Calls Try.prog 17 #[v1, v2] w fun e w' => ∃ v', e = .returned v' ∧ SIn w'.heap.size w' (unionN xs ys) v' ∧ Below w.heap.size w w' := by
  have hs : Hid (∀ z, z ∈ xs ++ ys → z.size ≤ strMax) := Lib.hid fun z hz => (List.mem_append.1 hz).elim (h1.small z) (h2.small z)
  have HC : Hid (∀ W : World, Below w.heap.size w W → ∀ b, b < W.heap.size → W.cell? ⟨b, 0, none⟩ = some v1 → W.cell? ⟨b, 1, none⟩ = some v2 → _) := Lib.hid fun W h b hb c0 c1 => concat_calls B xs ys v1 v2 hl b W (Nat.le_trans hB h.size) (h1.below (h.mono hB)) (h2.below (h.mono hB)) hb c0 c1
  have HO : Hid (∀ (W : World) v, SIn W.heap.size W (xs ++ ys) v → _) := Lib.hid fun W v h => of_in W.heap.size (xs ++ ys) v (by rw [List.length_append]; omega) W (Nat.le_refl _) h
  have HL : Hid ((xs ++ ys).length ≤ 1000) := Lib.hid (by rw [List.length_append]; exact hl)
  obtain ⟨a1, p1, rfl⟩ : ∃ a1 p1, v1 = .slice a1 xs.length p1 := by obtain ⟨_, _, h, _⟩ := h1; exact h.shape
  obtain ⟨a2, p2, rfl⟩ : ∃ a2 p2, v2 = .slice a2 ys.length p2 := by obtain ⟨_, _, h, _⟩ := h2; exact h.shape
  clear h1 h2 hl
  generalize xs.length = n1 at *
  generalize ys.length = n2 at *
  unfold unionN
  generalize xs ++ ys = L at *
  go_enter Try.func17, Try.ntmps17
  go_wp2_with fail
  obtain ⟨W1, hW⟩ : ∃ W, W = w.alloc (.cells #[.slice a1 n1 p1, .slice a2 n2 p2] 22) := ⟨_, rfl⟩
  have x0 : W1.cell? ⟨w.heap.size, 0, none⟩ = some (.slice a1 n1 p1) := by rw [hW]; go_simp
  have x1 : W1.cell? ⟨w.heap.size, 1, none⟩ = some (.slice a2 n2 p2) := by rw [hW]; go_simp
  have z1 : w.heap.size < W1.heap.size := by rw [hW]; simp
  have b1 : Below w.heap.size w W1 := by rw [hW]; exact box1 _ _
  rw [← hW]
  clear hW
  have H1 := Lib.hid (HC.out W1 b1 w.heap.size z1 x0 x1)
  have Hb := Lib.hid b1
  clear b1 x0 x1 z1 HC
  refine H1.out.mono ?_
  rintro e w2 ⟨u1, rfl, hown, hb2⟩
  have H2 := Lib.hid (HO.out w2 u1 (own_S hown hs.out (by have := HL.out; unfold maxLen; omega)))
  have Hb2 := Lib.hid (Hb.out.trans (hb2.mono Hb.out.size))
  obtain ⟨ua, uc, rfl⟩ := own_shape hown
  clear hown hb2 HO H1
  go_wp2_with fail
  refine H2.out.mono ?_
  rintro e w3 ⟨u2, rfl, hin, hb3⟩
  go_wp2_with fail
  go_ret
  exact ⟨_, rfl, hin, Hb2.out.trans (hb3.mono Hb2.out.size)⟩

theorem both_pick (a b : List ByteArray) : ofN (both (ofN a) (ofN b)) = pickN a b true := by
  refine (ofN_rise _).eq (pickN_rise _ _ _) fun s => ?_
  unfold both
  rw [ofN_mem, pickN_mem, List.mem_filter, ofN_mem, ofN_has]
theorem alone_pick (a b : List ByteArray) : ofN (alone (ofN a) (ofN b)) = pickN a b false := by
  refine (ofN_rise _).eq (pickN_rise _ _ _) fun s => ?_
  unfold alone
  rw [ofN_mem, pickN_mem, List.mem_filter, ofN_mem, ofN_has]
  cases hasN b s <;> simp
theorem alone_within (a b : List ByteArray) : decide ((alone (ofN a) (ofN b)).length = 0) = withinN a b := by
  rw [Bool.eq_iff_iff, decide_eq_true_iff, withinN_iff, List.length_eq_zero_iff, List.eq_nil_iff_forall_not_mem]
  unfold alone
  constructor
  · intro h s hs
    have := h s
    rw [List.mem_filter, ofN_mem, ofN_has] at this
    cases hb : hasN b s with
    | true => exact hasN_iff.1 hb
    | false => exact absurd ⟨hs, by rw [hb]; rfl⟩ this
  · intro h s hs
    rw [List.mem_filter, ofN_mem, ofN_has] at hs
    rw [hasN_iff.2 (h s hs.1)] at hs
    exact absurd hs.2 (by simp)
def sameB (a b : List ByteArray) : Bool := withinN a b && withinN b a
theorem both_le (a b : List ByteArray) : (both (ofN a) (ofN b)).length ≤ a.length := by
  unfold both
  have := List.length_filter_le (fun s => hasN (ofN b) s) (ofN a)
  have := ofN_len a
  omega
theorem alone_le (a b : List ByteArray) : (alone (ofN a) (ofN b)).length ≤ a.length := by
  unfold alone
  have := List.length_filter_le (fun s => !hasN (ofN b) s) (ofN a)
  have := ofN_len a
  omega
theorem SIn.of {B : Nat} {w : World} {l : List ByteArray} {v : Value} (h : SIn B w l v) : ∃ ao cap, v = .slice ao l.length cap := by
  obtain ⟨_, _, h, _⟩ := h
  exact h.shape

set_option maxRecDepth 100000 in
set_option maxHeartbeats 2000000 in
theorem common_calls (B : Nat) (a b : List ByteArray) (va vb : Value) (hla : a.length ≤ 1000) (hlb : b.length ≤ 1000) (w : World) (hB : B ≤ w.heap.size) (ha : SIn B w a va) (hb : SIn B w b vb) :
    Calls Try.prog 19 #[va, vb] w fun e w' => ∃ v', e = .returned v' ∧ w'.ownsRow w.heap.size 9 1 v' (pickN a b true).length ((pickN a b true).map .string) ∧ Below w.heap.size w w' := by
  have HC := Lib.hid (parted_calls B a b va vb hla hlb w hB ha hb)
  rw [← both_pick]
  have HL := both_le a b
  generalize alone (ofN a) (ofN b) = l1 at *
  generalize both (ofN a) (ofN b) = l2 at *
  generalize alone (ofN b) (ofN a) = l3 at *
  have hl : l2.length ≤ 1000000 := by omega
  have HO := Lib.hid fun (W : World) v (h : SIn W.heap.size W l2 v) => of_calls W.heap.size l2 v hl W (Nat.le_refl _) h
  clear ha hb hla hlb HL hl
  go_enter Try.func19, Try.ntmps19
  go_wp2_with fail
  refine HC.out.mono ?_
  rintro e w1 ⟨v1, v2, v3, rfl, h1, h2, h3, b1⟩
  have H2 := Lib.hid (HO.out w1 v2 h2)
  have Hb := Lib.hid b1
  obtain ⟨a1, c1, rfl⟩ := h1.of
  obtain ⟨a2, c2, rfl⟩ := h2.of
  obtain ⟨a3, c3, rfl⟩ := h3.of
  clear h1 h2 h3 b1 HO HC
  generalize l1.length = n1 at *
  generalize l2.length = n2 at *
  generalize l3.length = n3 at *
  go_wp2_with fail
  refine H2.out.mono ?_
  rintro e w3 ⟨u2, rfl, hin, hb3⟩
  go_wp2_with fail
  go_ret
  exact ⟨_, rfl, own_mono hin Hb.out.size, Hb.out.trans (hb3.mono Hb.out.size)⟩
theorem pick_small {B : Nat} {w : World} {a b : List ByteArray} {v : Value} {is : Bool} (h : SIn B w a v) : ∀ z, z ∈ pickN a b is → z.size ≤ strMax := fun z hz => h.small z (pickN_mem.1 hz).1
theorem pick_len (a b : List ByteArray) (is : Bool) : (pickN a b is).length ≤ a.length := by
  unfold pickN
  have h1 := ofN_len (a.filter fun s => hasN b s == is)
  have h2 := List.length_filter_le (fun s => hasN b s == is) a
  omega
theorem common_in (B : Nat) (a b : List ByteArray) (va vb : Value) (hla : a.length ≤ 1000) (hlb : b.length ≤ 1000) (w : World) (hB : B ≤ w.heap.size) (ha : SIn B w a va) (hb : SIn B w b vb) :
    Calls Try.prog 19 #[va, vb] w fun e w' => ∃ v', e = .returned v' ∧ SIn w'.heap.size w' (pickN a b true) v' ∧ Below w.heap.size w w' := by
  have hs := pick_small (b := b) (is := true) ha
  refine (common_calls B a b va vb hla hlb w hB ha hb).mono ?_
  rintro e w' ⟨v', he, ho, hb⟩
  exact ⟨v', he, own_S ho hs (by have := pick_len a b true; unfold maxLen; omega), hb⟩

set_option maxRecDepth 100000 in
set_option maxHeartbeats 2000000 in
theorem minus_calls (B : Nat) (a b : List ByteArray) (va vb : Value) (hla : a.length ≤ 1000) (hlb : b.length ≤ 1000) (w : World) (hB : B ≤ w.heap.size) (ha : SIn B w a va) (hb : SIn B w b vb) :
    Calls Try.prog 21 #[va, vb] w fun e w' => ∃ v', e = .returned v' ∧ SIn w'.heap.size w' (pickN a b false) v' ∧ Below w.heap.size w w' := by
  have HC := Lib.hid (parted_calls B a b va vb hla hlb w hB ha hb)
  rw [← alone_pick]
  have HL := alone_le a b
  generalize alone (ofN a) (ofN b) = l1 at *
  generalize both (ofN a) (ofN b) = l2 at *
  generalize alone (ofN b) (ofN a) = l3 at *
  have hl : l1.length ≤ 1000000 := by omega
  have HO := Lib.hid fun (W : World) v (h : SIn W.heap.size W l1 v) => of_in W.heap.size l1 v hl W (Nat.le_refl _) h
  clear ha hb hla hlb HL hl
  go_enter Try.func21, Try.ntmps21
  go_wp2_with fail
  refine HC.out.mono ?_
  rintro e w1 ⟨v1, v2, v3, rfl, h1, h2, h3, b1⟩
  have H2 := Lib.hid (HO.out w1 v1 h1)
  have Hb := Lib.hid b1
  obtain ⟨a1, c1, rfl⟩ := h1.of
  obtain ⟨a2, c2, rfl⟩ := h2.of
  obtain ⟨a3, c3, rfl⟩ := h3.of
  clear h1 h2 h3 b1 HO HC
  generalize l1.length = n1 at *
  generalize l2.length = n2 at *
  generalize l3.length = n3 at *
  go_wp2_with fail
  refine H2.out.mono ?_
  rintro e w3 ⟨u2, rfl, hin, hb3⟩
  go_wp2_with fail
  go_ret
  exact ⟨_, rfl, hin, Hb.out.trans (hb3.mono Hb.out.size)⟩

set_option maxRecDepth 100000 in
set_option maxHeartbeats 2000000 in
theorem within_calls (B : Nat) (a b : List ByteArray) (va vb : Value) (hla : a.length ≤ 1000) (hlb : b.length ≤ 1000) (w : World) (hB : B ≤ w.heap.size) (ha : SIn B w a va) (hb : SIn B w b vb) :
    Calls Try.prog 24 #[va, vb] w fun e w' => e = .returned (.bool (withinN a b)) ∧ Below w.heap.size w w' := by
  have HC := Lib.hid (parted_calls B a b va vb hla hlb w hB ha hb)
  rw [← alone_within]
  generalize alone (ofN a) (ofN b) = l1 at *
  generalize both (ofN a) (ofN b) = l2 at *
  generalize alone (ofN b) (ofN a) = l3 at *
  obtain ⟨R, hR⟩ : ∃ R, R = decide (l1.length = 0) := ⟨_, rfl⟩
  rw [← hR]
  have HR := Lib.hid hR
  clear ha hb hla hlb hR
  go_enter Try.func24, Try.ntmps24
  go_wp2_with fail
  refine HC.out.mono ?_
  rintro e w1 ⟨v1, v2, v3, rfl, h1, h2, h3, b1⟩
  have Hb := Lib.hid b1
  obtain ⟨a1, c1, rfl⟩ := h1.of
  obtain ⟨a2, c2, rfl⟩ := h2.of
  obtain ⟨a3, c3, rfl⟩ := h3.of
  clear h1 h2 h3 b1 HC
  obtain ⟨n1, hn1⟩ : ∃ n, n = l1.length := ⟨_, rfl⟩
  obtain ⟨n2, hn2⟩ : ∃ n, n = l2.length := ⟨_, rfl⟩
  obtain ⟨n3, hn3⟩ : ∃ n, n = l3.length := ⟨_, rfl⟩
  rw [← hn1, ← hn2, ← hn3]
  have Hn1 := Lib.hid hn1
  have Hn3 := Lib.hid hn3
  clear hn1 hn2 hn3
  by_cases h : n1 = 0
  · subst h
    go_wp2_with fail
    go_ret
    exact ⟨ret_bool (by rw [HR.out, ← Hn1.out]; rfl), Hb.out⟩
  · have e1 : ((n1 : Int) == 0) = false := by rw [beq_eq_false_iff_ne]; omega
    have e2 : decide (n1 = 0) = false := decide_eq_false h
    go_wp2_with fail
    go_ret
    exact ⟨ret_bool (by rw [HR.out, ← Hn1.out, e2]), Hb.out⟩

set_option maxRecDepth 100000 in
set_option maxHeartbeats 2000000 in
theorem same_calls (B : Nat) (a b : List ByteArray) (va vb : Value) (hla : a.length ≤ 1000) (hlb : b.length ≤ 1000) (w : World) (hB : B ≤ w.heap.size) (ha : SIn B w a va) (hb : SIn B w b vb) :
    Calls Try.prog 22 #[va, vb] w fun e w' => e = .returned (.bool (sameB a b)) ∧ Below w.heap.size w w' := by
  have HC := Lib.hid (parted_calls B a b va vb hla hlb w hB ha hb)
  unfold sameB
  rw [← alone_within a b, ← alone_within b a]
  generalize alone (ofN a) (ofN b) = l1 at *
  generalize both (ofN a) (ofN b) = l2 at *
  generalize alone (ofN b) (ofN a) = l3 at *
  obtain ⟨R, hR⟩ : ∃ R, R = (decide (l1.length = 0) && decide (l3.length = 0)) := ⟨_, rfl⟩
  rw [← hR]
  have HR := Lib.hid hR
  clear ha hb hla hlb hR
  go_enter Try.func22, Try.ntmps22
  go_wp2_with fail
  refine HC.out.mono ?_
  rintro e w1 ⟨v1, v2, v3, rfl, h1, h2, h3, b1⟩
  have Hb := Lib.hid b1
  obtain ⟨a1, c1, rfl⟩ := h1.of
  obtain ⟨a2, c2, rfl⟩ := h2.of
  obtain ⟨a3, c3, rfl⟩ := h3.of
  clear h1 h2 h3 b1 HC
  obtain ⟨n1, hn1⟩ : ∃ n, n = l1.length := ⟨_, rfl⟩
  obtain ⟨n2, hn2⟩ : ∃ n, n = l2.length := ⟨_, rfl⟩
  obtain ⟨n3, hn3⟩ : ∃ n, n = l3.length := ⟨_, rfl⟩
  rw [← hn1, ← hn2, ← hn3]
  have Hn1 := Lib.hid hn1
  have Hn3 := Lib.hid hn3
  clear hn1 hn2 hn3
  by_cases h : n1 = 0
  · subst h
    by_cases h' : n3 = 0
    · subst h'
      go_wp2_with fail
      go_ret
      exact ⟨ret_bool (by rw [HR.out, ← Hn1.out, ← Hn3.out]; rfl), Hb.out⟩
    · have e1 : ((n3 : Int) == 0) = false := by rw [beq_eq_false_iff_ne]; omega
      have e2 : decide (n3 = 0) = false := decide_eq_false h'
      go_wp2_with fail
      go_ret
      exact ⟨ret_bool (by rw [HR.out, ← Hn1.out, ← Hn3.out, e2]; rfl), Hb.out⟩
  · have e1 : ((n1 : Int) == 0) = false := by rw [beq_eq_false_iff_ne]; omega
    have e2 : decide (n1 = 0) = false := decide_eq_false h
    go_wp2_with fail
    go_ret
    exact ⟨ret_bool (by rw [HR.out, ← Hn1.out, ← Hn3.out, e2]; rfl), Hb.out⟩
end Go.Proofs.Ytcllflpfmpggoaa
