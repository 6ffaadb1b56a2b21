/- Text's parts: a path's text, slots' text. -/
import Derived.Test.YtlbdoomknjiilaaDoorCodeText1
import Derived.Lib.ItoaLen
namespace Go.Proofs.YtlbdoomknjiilaaDoor
open Go.RowKit
set_option linter.unusedVariables false

/-- the steps, each with a dot ahead -/
def pathT (l : List ByteArray) : List UInt8 := if l.length = 0 then [] else 46 :: Lib.join (l.map (·.data.toList)) [46]
def slotsT (l : List Nat) : List UInt8 := Lib.join (l.map Lib.decDigits) [44]
theorem joinTail_len (r : List (List UInt8)) : r.length ≤ (Lib.joinTail [46] r).length := by
  unfold Lib.joinTail
  induction r with
  | nil => simp
  | cons y r ih => rw [List.map_cons, List.flatten_cons, List.length_append, List.length_append, List.length_cons, List.length_cons]; omega
theorem join_len (r : List (List UInt8)) : r.length ≤ (Lib.join r [46]).length + 1 := by
  cases r with
  | nil => simp
  | cons x r =>
    have := joinTail_len r
    rw [Lib.join_cons, List.length_append, List.length_cons]
    omega
set_option maxRecDepth 100000 in
set_option maxHeartbeats 1000000 in
theorem pathText_calls (B : Nat) (l : List ByteArray) (v : Value) (w : World) (hB : B ≤ w.heap.size) (h : SIn B w l v) (hlen : (Lib.join (l.map (·.data.toList)) [46]).length ≤ 100000) :
    Calls Tryd.prog 45 #[v] w fun e w' => e = .returned (.string ⟨(pathT l).toArray⟩) ∧ Below w.heap.size w w' := by
  obtain ⟨b, o, ⟨hm, ao, cap, rfl, hc, h4⟩, hr⟩ := h
  unfold pathT
  by_cases h0 : l.length = 0
  · rw [if_pos h0, h0]
    clear hr h4
    go_enter Tryd.func45, Tryd.ntmps45
    go_wp2_with fail
    go_ret
    exact ⟨rfl, Below.refl _ _⟩
  · rw [if_neg h0]
    obtain ⟨rfl, hb⟩ := h4.resolve_left h0
    unfold maxLen at hm
    have HC := Lib.hid (Tryd.strings_Join b o cap l ⟨#[46]⟩ w (fun j x hj => (hr j x hj).2) (Nat.lt_of_lt_of_le hb hB) (by
      have h2 := join_len (l.map (·.data.toList))
      rw [List.length_map] at h2
      omega) hc (by show (Lib.join _ [46]).length ≤ _; omega))
    rw [show (ByteArray.mk #[46]).data.toList = [46] from rfl] at HC
    generalize Lib.join (l.map (·.data.toList)) [46] = J at *
    have hs : (⟨J.toArray⟩ : ByteArray).size = J.length := by show J.toArray.size = _; simp
    have h46 : (ByteArray.mk #[46]).size = 1 := rfl
    have hsum : ((⟨#[46]⟩ : ByteArray) ++ ⟨J.toArray⟩).size = 1 + J.length := by rw [ByteArray.size_append, hs]; rfl
    have hval : (⟨#[46]⟩ : ByteArray) ++ ⟨J.toArray⟩ = ⟨(46 :: J).toArray⟩ := by
      apply ByteArray.ext
      rw [ByteArray.data_append]
      apply Array.ext'
      simp
    have HV := Lib.hid hval
    generalize l.length = n at *
    have e0 : ((n : Int) == 0) = false := by simpa using h0
    clear hr h4 hval
    generalize (⟨J.toArray⟩ : ByteArray) = S at *
    go_enter Tryd.func45, Tryd.ntmps45
    go_wp2_with fail
    (with_reducible refine HC.out.mono ?_)
    rintro e w1 ⟨rfl, b1⟩
    have H1 := Lib.hid b1
    clear b1
    go_wp2_with fail
    go_ret
    exact ⟨by rw [← HV.out]; rfl, H1.out⟩
theorem infoStrC : (Tryd.prog.info? 9).map (fun i => (i.zero, i.size, i.bytes)) = some (some (.string ⟨#[]⟩), 1, 16) := by kernel_rfl
set_option maxRecDepth 100000 in
set_option maxHeartbeats 4000000 in
theorem slotsText_calls (B : Nat) (l : List Nat) (v : Value) (w : World) (hB : B ≤ w.heap.size) (h : ZIn B w (l.map fun (i : Nat) => (i : Int)) v) (hl : l.length ≤ 10) (hs : ∀ i ∈ l, i < 100) (hj : (slotsT l).length ≤ 100000) :
    Calls Tryd.prog 46 #[v] w fun e w' => e = .returned (.string ⟨(slotsT l).toArray⟩) ∧ Below w.heap.size w w' := by
  obtain ⟨i0, hi, hz0, hz1, hz2⟩ := info_parts infoStrC
  obtain ⟨b, o, ⟨hm, ao, cap, rfl, hc, h4⟩, hr⟩ := h
  rw [List.length_map] at h4 hc hm ⊢
  have Hr : Hid (∀ (k : Nat) i, l[k]? = some i → w.cell? ⟨b, o + k, none⟩ = some (.int .i64 (i : Int))) := Lib.hid fun k i hk => by
    have := hr k (i : Int) (by rw [List.getElem?_map, hk]; rfl)
    rw [Nat.mul_one] at this
    exact this
  have H4 := Lib.hid h4
  have HS := Lib.hid hs
  obtain ⟨n, hn⟩ : ∃ n, n = l.length := ⟨_, rfl⟩
  rw [← hn] at hl H4 ⊢
  have HN := Lib.hid hn
  have HJ := Lib.hid hj
  have HT : Hid (slotsT l = Lib.join ((l.map fun i => (⟨(Lib.decDigits i).toArray⟩ : ByteArray)).map (·.data.toList)) [44]) := Lib.hid (by
    unfold slotsT
    rw [List.map_map]
    rfl)
  obtain ⟨f, hf⟩ : ∃ f : Nat → ByteArray, f = fun i => ⟨(Lib.decDigits i).toArray⟩ := ⟨_, rfl⟩
  have HF := Lib.hid hf
  rw [← hf] at HT
  have HI : Hid (∀ i ∈ l, ∀ W, Calls Tryd.prog 44 #[.int .i64 (i : Int)] W fun e w' => e = .returned (.string (f i)) ∧ w' = W) := Lib.hid fun i hi W => by
    rw [hf]
    exact Tryd.strconv_Itoa_small i (hs i hi) W
  generalize slotsT l = R at *
  clear hr h4 hn hj hf hs hm
  go_enter Tryd.func46, Tryd.ntmps46
  go_wp2_with fail
  go_loopw [3, 8] (fun t i wr => ∃ k : Nat, k ≤ n ∧ i = .int .i64 k ∧ Hid (wr.ownsRow w.heap.size 9 1 t k (((l.take k).map f).map .string)) ∧ Hid (Below w.heap.size w wr))
    (fun _ i _ => n - (intOf i).toNat)
  case atStart => exact ⟨0, by omega, rfl, Lib.hid (World.ownsRow_nil _ _ _ _), Lib.hid (Below.refl _ _)⟩
  case round =>
    obtain ⟨k, hk, rfl, HO, HB⟩ := hrel
    have hk0 : 0 ≤ (k : Int) := by omega
    by_cases hlt : k < n
    · obtain ⟨rfl, hbb⟩ := H4.out.resolve_left (by omega)
      have hk1 : (k : Int) < (n : Int) := by omega
      obtain ⟨x, hx, hxm⟩ := get_at (l := l) (k := k) (by rw [← HN.out]; exact hlt)
      have c0 := (HB.out.cell (p := ⟨b, o + k, none⟩) (Nat.lt_of_lt_of_le hbb hB)).trans (Hr.out k x hx)
      have HC := Lib.hid (HI.out x hxm wr)
      have HX : Hid (((l.take (k + 1)).map f).map Value.string = ((l.take k).map f).map Value.string ++ [.string (f x)]) := Lib.hid (by rw [List.take_add_one, hx]; simp)
      generalize f x = s at *
      clear hx hxm
      go_wp2_with fail
      (with_reducible refine HC.out.mono ?_)
      rintro e w1 ⟨rfl, rfl⟩
      go_wp2_with (first
        | (at_builtin; refine wpList_append_own _ rfl _ _ 32 rfl w.heap.size 9 i0 (.string ⟨#[]⟩) 1 16 Tryd.underlying32 hi hz0 hz1 hz2 rfl (by decide) _ _ _ rfl (HO.out.alloc _) ⟨w1.heap.size, 0, none⟩ 1 1 [.string s] rfl rfl ?c1 ?c2 ?c3 ?c4 ?c5 ?_)
        | fail)
      case c1 => first | exact one_at _ _ _ | simp
      case c2 => first | exact one_oneS _ | rfl
      case c3 => unfold maxLen; omega
      case c4 => omega
      case c5 => have := HB.out.size; simp; omega
      intro v' w6 hown hgrow _
      have HB2 : Hid (Below w.heap.size w w6) := Lib.hid ((HB.out.alloc HB.out.size _).grown hgrow (by have := HB.out.size; simp; omega) (fun j hj => (HO.out.lt j hj).1))
      have HO2 : Hid (w6.ownsRow w.heap.size 9 1 v' (k + 1) (((l.take (k + 1)).map f).map .string)) := Lib.hid (by rw [HX.out]; first | exact hown | simpa using hown)
      clear hown hgrow HO c0 HC
      go_wp2_with fail
      go_roundw
      case rel => exact ⟨k + 1, by omega, by go_num, HO2, HB2⟩
      case measure => simp [intOf]; omega
    · obtain rfl : n = k := by omega
      have hO := HO.out
      rw [show l.take n = l from List.take_of_length_le (by rw [HN.out]; exact Nat.le_refl _)] at hO
      obtain ⟨g, hg⟩ : ∃ g, g = rowAt u3 := ⟨_, rfl⟩
      obtain ⟨h1, h2⟩ := own_cells hO (by unfold maxLen; omega)
      rw [← hg] at h1 h2
      clear hO hg
      obtain ⟨_, ao', cap', rfl, hc', h4'⟩ := h1
      by_cases h0 : n = 0
      · have HR : Hid ((⟨#[]⟩ : ByteArray) = ⟨R.toArray⟩) := Lib.hid (by
          rw [HT.out, show l = [] from List.eq_nil_of_length_eq_zero (by rw [← HN.out]; exact h0)]; rfl)
        subst h0
        have HC := Lib.hid (Tryd.strings_Join_none ao' cap' ⟨#[44]⟩ wr)
        clear h2 h4'
        go_wp2_with fail
        (with_reducible refine HC.out.mono ?_)
        rintro e w1 ⟨rfl, rfl⟩
        go_wp2_with fail
        go_ret
        exact ⟨by rw [← HR.out]; rfl, HB.out⟩
      · obtain ⟨rfl, hgl⟩ := h4'.resolve_left h0
        have hlen : (l.map f).length = n := by rw [List.length_map, HN.out]
        have HC := Tryd.strings_Join g 0 cap' (l.map f) ⟨#[44]⟩ wr (fun j x hj => (h2 j (.string x) (by rw [List.getElem?_map, hj]; rfl)).1) hgl (by omega) (by omega) (by
          rw [show (ByteArray.mk #[44]).data.toList = [44] from rfl, ← HT.out]
          have := HJ.out
          omega)
        rw [hlen, show (ByteArray.mk #[44]).data.toList = [44] from rfl, ← HT.out] at HC
        have HC := Lib.hid HC
        clear h2 h4' hlen
        go_wp2_with fail
        (with_reducible refine HC.out.mono ?_)
        rintro e w1 ⟨rfl, b1⟩
        have H1 := Lib.hid (HB.out.trans (b1.mono HB.out.size))
        clear b1
        go_wp2_with fail
        go_ret
        exact ⟨rfl, H1.out⟩
end Go.Proofs.YtlbdoomknjiilaaDoor
