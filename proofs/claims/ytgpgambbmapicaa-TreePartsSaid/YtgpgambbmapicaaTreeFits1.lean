/- What fits, first part: texts, places, lists of names (made by gen_fits1.py). -/
import Derived.Test.YtgpgambbmapicaaTreeWholeMath
import Derived.Test.YtgpgambbmapicaaTreeSameE
import Derived.Test.YtgpgambbmapicaaLexSays
namespace Go.Proofs.Ytgpgambbmapicaa
open Go.RowKit
set_option linter.unusedVariables false

theorem nul_size (s : ByteArray) : (s.toList = []) = (s.size = 0) := by
  rw [ByteArray.toList_eq]
  apply propext
  constructor
  · intro h
    obtain ⟨⟨l⟩⟩ := s
    have : l = [] := h
    subst this; rfl
  · intro h
    obtain ⟨⟨l⟩⟩ := s
    have : l = [] := by simpa [ByteArray.size] using h
    subst this; rfl
theorem old_cells' {W w1 : World} (hb : Below W.heap.size W w1) : ∀ b o, b < W.heap.size → w1.cell? ⟨b, o, none⟩ = W.cell? ⟨b, o, none⟩ := old_cells hb
theorem MaxOk.alloc {w : World} (h : MaxOk w) (o : Obj) : MaxOk (w.alloc o) := h.below ((Below.refl _ w).alloc (Nat.le_refl _) o)
theorem MaxOk.drew {w : World} (h : MaxOk w) : MaxOk w.drew := h.below (Below.refl _ w).drew
theorem MaxOk.drewN {w : World} (h : MaxOk w) (n : Nat) : MaxOk (w.drewN n) := h.below (below_drewN w n)

set_option maxHeartbeats 1000000 in
theorem textFits_calls (x : Nat) (hx : x ≤ 3) (s : ByteArray) (hs : s.size ≤ maxLen) (w : World) (hm : MaxOk w) :
    Calls Try.prog 46 #[.int .u8 x, .string s] w fun e w' => e = .returned (.bool (txB x s)) ∧ Below w.heap.size w w' := by
  have C := Lib.hid fun w h => name_says s hs w h
  have D := Lib.hid fun w h => type_says s hs w h
  have hN : txB 1 s = nmB s := rfl
  have hT : txB 3 s = tyB s := rfl
  have h2 : txB 2 s = (noB s || nmB s) := rfl
  have h0 : txB 0 s = noB s := rfl
  have C2 : Hid (∀ w, MaxOk w → Calls Try.prog 72 #[.string s] w fun e w' => e = .returned (.bool (nmB s)) ∧ Below w.heap.size w w') := C
  have D2 : Hid (∀ w, MaxOk w → Calls Try.prog 73 #[.string s] w fun e w' => e = .returned (.bool (tyB s)) ∧ Below w.heap.size w w') := D
  clear C D
  have hno : noB s = decide (s.toList = []) := by unfold noB; rw [decide_eq_decide, nul_size]
  rcases (show x = 0 ∨ x = 1 ∨ x = 2 ∨ x = 3 by omega) with rfl | rfl | rfl | rfl
  · rw [h0, hno]
    show Calls Try.prog 46 #[.int .u8 0, .string s] w _
    go_enter Try.func46, Try.ntmps46
    go_wp2
    go_ret
    exact ⟨ret_bool (by cases s.toList <;> simp), Below.refl _ _⟩
  · rw [hN]
    show Calls Try.prog 46 #[.int .u8 1, .string s] w _
    go_enter Try.func46, Try.ntmps46
    go_wp2_with fail
    refine (C2.out _ hm).mono ?_; rintro e w1 ⟨rfl, b1⟩
    go_wp2
    go_ret
    exact ⟨rfl, b1⟩
  · rw [h2, hno]
    show Calls Try.prog 46 #[.int .u8 2, .string s] w _
    by_cases he : s.toList = []
    · go_enter Try.func46, Try.ntmps46
      go_wp2_with fail
      go_ret
      exact ⟨ret_bool (by simp [he]), Below.refl _ _⟩
    · have he2 : s.toList.isEmpty = false := by cases h : s.toList with | nil => exact absurd h he | cons a l => rfl
      go_enter Try.func46, Try.ntmps46
      go_wp2_with fail
      refine (C2.out _ hm).mono ?_; rintro e w1 ⟨rfl, b1⟩
      go_wp2
      go_ret
      exact ⟨ret_bool (by simp [he]), b1⟩
  · rw [hT]
    show Calls Try.prog 46 #[.int .u8 3, .string s] w _
    go_enter Try.func46, Try.ntmps46
    go_wp2_with fail
    refine (D2.out _ hm).mono ?_; rintro e w1 ⟨rfl, b1⟩
    go_wp2
    go_ret
    exact ⟨rfl, b1⟩
set_option maxHeartbeats 1000000 in
theorem isNoStep_calls (s : ByteArray) (hs : s.size ≤ maxLen) (w : World) (hm : MaxOk w) :
    Calls Try.prog 48 #[.string s] w fun e w' => e = .returned (.bool (!stepB s)) ∧ Below w.heap.size w w' := by
  have C2 : Hid (∀ w, MaxOk w → Calls Try.prog 46 #[.int .u8 1, .string s] w fun e w' => e = .returned (.bool (nmB s)) ∧ Below w.heap.size w w') := Lib.hid fun w h => textFits_calls 1 (by omega) s hs w h
  have hst : stepB s = (decide (s.toList = [42]) || nmB s) := by unfold stepB; rw [ByteArray.toList_eq]
  rw [hst]
  by_cases he : s.toList = [42]
  · go_enter Try.func48, Try.ntmps48
    go_wp2_with fail
    go_ret
    exact ⟨ret_bool (by simp [he]), Below.refl _ _⟩
  · go_enter Try.func48, Try.ntmps48
    go_wp2_with fail
    refine (C2.out _ hm).mono ?_; rintro e w1 ⟨rfl, b1⟩
    go_wp2
    go_ret
    exact ⟨ret_bool (by simp [he]), b1⟩
set_option maxHeartbeats 1000000 in
theorem notFit_calls (s : ByteArray) (hs : s.size ≤ maxLen) (g : Nat) (w : World) (hm : MaxOk w) (hg : w.cell? ⟨g, 0, none⟩ = some (.int .u8 1)) :
    Calls Try.prog 136 #[.string s, .pointer (some ⟨g, 0, none⟩)] w fun e w' => e = .returned (.bool (!nmB s)) ∧ Below w.heap.size w w' := by
  have C2 : Hid (∀ w, MaxOk w → Calls Try.prog 46 #[.int .u8 1, .string s] w fun e w' => e = .returned (.bool (nmB s)) ∧ Below w.heap.size w w') := Lib.hid fun w h => textFits_calls 1 (by omega) s hs w h
  go_enter Try.func136, Try.ntmps136
  go_wp2_with fail
  refine (C2.out _ hm).mono ?_; rintro e w1 ⟨rfl, b1⟩
  go_wp2
  go_ret
  exact ⟨ret_bool (by simp), b1⟩
theorem any_no {α : Type} {p : α → Bool} {l : List α} (h : ∀ (j : Nat) x, l[j]? = some x → p x = false) : l.any p = false := by
  rw [Bool.eq_false_iff]
  intro hc
  obtain ⟨x, hx, hp⟩ := List.any_eq_true.1 hc
  obtain ⟨j, hj⟩ := List.mem_iff_getElem?.1 hx
  rw [h j x hj] at hp; simp at hp
theorem any_yes {α : Type} {p : α → Bool} {l : List α} {k : Nat} {x : α} (h : l[k]? = some x) (hp : p x = true) : l.any p = true := List.any_eq_true.2 ⟨x, List.mem_of_getElem? h, hp⟩
theorem ret_i64 {a b : Int} (h : a = b) : Ending.returned (.int .i64 a) = .returned (.int .i64 b) := by rw [h]

set_option maxHeartbeats 2000000 in
theorem indexNoStep_calls (B : Nat) (l : List ByteArray) (b1 o1 : Nat) (v1 : Value) (w : World) (hB : B ≤ w.heap.size) (hm : MaxOk w) (s1 : SlV B v1 l.length b1 o1) (r1 : NRow w b1 o1 l) :
    Calls Try.prog 74 #[v1, .func (.func 48) #[] #[]] w fun e w' => (∃ r : Int, e = .returned (.int .i64 r) ∧ decide (0 ≤ r) = l.any (fun s => (!stepB s))) ∧ Below w.heap.size w w' := by
  obtain ⟨m1, ao1, cap1, rfl, h1⟩ := s1
  unfold maxLen at m1
  obtain ⟨n, hx⟩ : ∃ n, n = l.length := ⟨_, rfl⟩
  rw [← hx] at m1 h1 ⊢
  have Hx := Lib.hid hx
  have Hr := Lib.hid r1
  have H1 := Lib.hid h1
  have Hm := Lib.hid hm
  clear hx r1 h1 hm
  have hE : ∀ args w, (callFunc 48 args).run Try.prog w = .ok (.enter 48 args) w := enters_of Try.func48 (by kernel_rfl) rfl
  go_enter Try.func74, Try.ntmps74
  go_wp2_with fail
  go_loopw [8] (fun i wr => ∃ k : Nat, k ≤ n ∧ i = .int .i64 k ∧ Below w.heap.size w wr ∧ Hid (∀ (j : Nat) x, j < k → l[j]? = some x → (!stepB x) = false))
    (fun i _ => n - (intOf i).toNat)
  case atStart => exact ⟨0, by omega, rfl, Below.refl _ _, Lib.hid fun j x hj => by omega⟩
  case round =>
    obtain ⟨k, hk, rfl, hbel, HK⟩ := hrel
    have hsz := hbel.size
    have hbB := hbel.mono hB
    by_cases hlt : k < n
    · obtain ⟨a, ha, hin⟩ := get_at (l := l) (k := k) (by rw [← Hx.out]; exact hlt)
      obtain ⟨rfl, hb1⟩ := H1.out.resolve_left (by omega)
      obtain ⟨hsa, ca⟩ := NRow.get (NRow.below hb1 hbB Hr.out) ha
      have c0 : wr.cell? ⟨b1, o1 + k * 1, none⟩ = some (.string a) := ca 0 _ rfl
      rw [Nat.mul_one] at c0
      have g1 : b1 < wr.heap.size := by omega
      have hmr := Hm.out.below hbel
      have C := Lib.hid (isNoStep_calls a hsa wr hmr)
      have Ha := Lib.hid ha
      generalize hp : (!stepB a) = pa at *
      have Hp := Lib.hid hp
      clear ha ca hin hmr hp
      go_wp2_with fail
      refine C.out.mono ?_
      rintro e w2 ⟨rfl, b2⟩
      have b3 := hbel.trans (b2.mono (by omega))
      clear b2 c0
      cases pa
      · have HK2 : Hid (∀ (j : Nat) x, j < k + 1 → l[j]? = some x → (!stepB x) = false) := Lib.hid fun j x hj hx => by
          by_cases e : j = k
          · subst e
            rw [Ha.out] at hx
            cases hx
            exact Hp.out
          · exact HK.out j x (by omega) hx
        go_wp2
        go_roundw
        case rel => exact ⟨k + 1, by omega, by go_num, b3, HK2⟩
        case measure => simp [intOf]; omega
      · have hres := Lib.hid (any_yes (p := fun s => (!stepB s)) Ha.out Hp.out)
        go_wp2
        go_ret
        exact ⟨⟨k, rfl, by rw [hres.out]; simp⟩, b3⟩
    · obtain rfl : k = n := by omega
      have hres := Lib.hid (any_no (p := fun s => (!stepB s)) fun j x hx => HK.out j x (by rw [Hx.out]; exact (List.getElem?_eq_some_iff.1 hx).1) hx)
      go_wp2
      go_ret
      exact ⟨⟨-1, rfl, by rw [hres.out]; simp⟩, hbel⟩
set_option maxHeartbeats 1000000 in
theorem containsNoStep_calls (B : Nat) (l : List ByteArray) (b1 o1 : Nat) (v1 : Value) (w : World) (hB : B ≤ w.heap.size) (hm : MaxOk w) (s1 : SlV B v1 l.length b1 o1) (r1 : NRow w b1 o1 l) :
    Calls Try.prog 47 #[v1, .func (.func 48) #[] #[]] w fun e w' => e = .returned (.bool (l.any (fun s => (!stepB s)))) ∧ Below w.heap.size w w' := by
  have C := Lib.hid (indexNoStep_calls B l b1 o1 v1 w hB hm s1 r1)
  obtain ⟨ao1, cap1, rfl⟩ := s1.shape
  generalize l.any (fun s => (!stepB s)) = res at *
  clear r1 s1 hm
  go_enter Try.func47, Try.ntmps47
  go_wp2_with fail
  refine C.out.mono ?_
  rintro e w2 ⟨⟨r, rfl, hr⟩, b2⟩
  go_wp2
  go_ret
  exact ⟨ret_bool (by rw [← hr]), b2⟩

set_option maxHeartbeats 2000000 in
theorem indexNotFit_calls (B : Nat) (l : List ByteArray) (b1 o1 : Nat) (v1 : Value) (g : Nat) (w : World) (hB : B ≤ w.heap.size) (hm : MaxOk w) (s1 : SlV B v1 l.length b1 o1) (r1 : NRow w b1 o1 l) (hg : w.cell? ⟨g, 0, none⟩ = some (.int .u8 1)) :
    Calls Try.prog 74 #[v1, .func (.func 136) #[] #[.pointer (some ⟨g, 0, none⟩)]] w fun e w' => (∃ r : Int, e = .returned (.int .i64 r) ∧ decide (0 ≤ r) = l.any (fun s => (!nmB s))) ∧ Below w.heap.size w w' := by
  obtain ⟨m1, ao1, cap1, rfl, h1⟩ := s1
  unfold maxLen at m1
  obtain ⟨n, hx⟩ : ∃ n, n = l.length := ⟨_, rfl⟩
  rw [← hx] at m1 h1 ⊢
  have Hx := Lib.hid hx
  have Hr := Lib.hid r1
  have H1 := Lib.hid h1
  have Hm := Lib.hid hm
  clear hx r1 h1 hm
  have hE : ∀ args w, (callFunc 136 args).run Try.prog w = .ok (.enter 136 args) w := enters_of Try.func136 (by kernel_rfl) rfl
  go_enter Try.func74, Try.ntmps74
  go_wp2_with fail
  go_loopw [8] (fun i wr => ∃ k : Nat, k ≤ n ∧ i = .int .i64 k ∧ Below w.heap.size w wr ∧ Hid (∀ (j : Nat) x, j < k → l[j]? = some x → (!nmB x) = false))
    (fun i _ => n - (intOf i).toNat)
  case atStart => exact ⟨0, by omega, rfl, Below.refl _ _, Lib.hid fun j x hj => by omega⟩
  case round =>
    obtain ⟨k, hk, rfl, hbel, HK⟩ := hrel
    have hsz := hbel.size
    have hbB := hbel.mono hB
    by_cases hlt : k < n
    · obtain ⟨a, ha, hin⟩ := get_at (l := l) (k := k) (by rw [← Hx.out]; exact hlt)
      obtain ⟨rfl, hb1⟩ := H1.out.resolve_left (by omega)
      obtain ⟨hsa, ca⟩ := NRow.get (NRow.below hb1 hbB Hr.out) ha
      have c0 : wr.cell? ⟨b1, o1 + k * 1, none⟩ = some (.string a) := ca 0 _ rfl
      rw [Nat.mul_one] at c0
      have g1 : b1 < wr.heap.size := by omega
      have hmr := Hm.out.below hbel
      have hgr : wr.cell? ⟨g, 0, none⟩ = some (.int .u8 1) := (hbel.cell (p := ⟨g, 0, none⟩) (World.block_lt_of_cell? _ _ hg)).trans hg
      have C := Lib.hid (notFit_calls a hsa g wr hmr hgr)
      have Ha := Lib.hid ha
      generalize hp : (!nmB a) = pa at *
      have Hp := Lib.hid hp
      clear ha ca hin hmr hp
      go_wp2_with fail
      refine C.out.mono ?_
      rintro e w2 ⟨rfl, b2⟩
      have b3 := hbel.trans (b2.mono (by omega))
      clear b2 c0
      cases pa
      · have HK2 : Hid (∀ (j : Nat) x, j < k + 1 → l[j]? = some x → (!nmB x) = false) := Lib.hid fun j x hj hx => by
          by_cases e : j = k
          · subst e
            rw [Ha.out] at hx
            cases hx
            exact Hp.out
          · exact HK.out j x (by omega) hx
        go_wp2
        go_roundw
        case rel => exact ⟨k + 1, by omega, by go_num, b3, HK2⟩
        case measure => simp [intOf]; omega
      · have hres := Lib.hid (any_yes (p := fun s => (!nmB s)) Ha.out Hp.out)
        go_wp2
        go_ret
        exact ⟨⟨k, rfl, by rw [hres.out]; simp⟩, b3⟩
    · obtain rfl : k = n := by omega
      have hres := Lib.hid (any_no (p := fun s => (!nmB s)) fun j x hx => HK.out j x (by rw [Hx.out]; exact (List.getElem?_eq_some_iff.1 hx).1) hx)
      go_wp2
      go_ret
      exact ⟨⟨-1, rfl, by rw [hres.out]; simp⟩, hbel⟩
set_option maxHeartbeats 1000000 in
theorem containsNotFit_calls (B : Nat) (l : List ByteArray) (b1 o1 : Nat) (v1 : Value) (g : Nat) (w : World) (hB : B ≤ w.heap.size) (hm : MaxOk w) (s1 : SlV B v1 l.length b1 o1) (r1 : NRow w b1 o1 l) (hg : w.cell? ⟨g, 0, none⟩ = some (.int .u8 1)) :
    Calls Try.prog 47 #[v1, .func (.func 136) #[] #[.pointer (some ⟨g, 0, none⟩)]] w fun e w' => e = .returned (.bool (l.any (fun s => (!nmB s)))) ∧ Below w.heap.size w w' := by
  have C := Lib.hid (indexNotFit_calls B l b1 o1 v1 g w hB hm s1 r1 hg)
  obtain ⟨ao1, cap1, rfl⟩ := s1.shape
  generalize l.any (fun s => (!nmB s)) = res at *
  clear r1 s1 hm
  go_enter Try.func47, Try.ntmps47
  go_wp2_with fail
  refine C.out.mono ?_
  rintro e w2 ⟨⟨r, rfl, hr⟩, b2⟩
  go_wp2
  go_ret
  exact ⟨ret_bool (by rw [← hr]), b2⟩

theorem not_any (l : List ByteArray) (p : ByteArray → Bool) : (!(l.any fun s => !p s)) = l.all p := by
  induction l with
  | nil => rfl
  | cons a l ih => simp [List.any_cons, List.all_cons, ← ih, Bool.not_or]
set_option maxHeartbeats 1000000 in
theorem isPlace_calls (B : Nat) (x : PP) (v : Value) (w : World) (hB : B ≤ w.heap.size) (hm : MaxOk w) (hx : x.In B w v) :
    Calls Try.prog 29 #[.agg #[.string x.name, v]] w fun e w' => e = .returned (.bool (plB x)) ∧ Below w.heap.size w w' := by
  obtain ⟨nm, pa⟩ := x
  obtain ⟨hs, b, o, s1, r1⟩ := hx
  obtain ⟨ao, cap, rfl⟩ := s1.shape
  have C2 : Hid (∀ w, MaxOk w → Calls Try.prog 46 #[.int .u8 1, .string nm] w fun e w' => e = .returned (.bool (nmB nm)) ∧ Below w.heap.size w w') := Lib.hid fun w h => textFits_calls 1 (by omega) nm hs w h
  have D : Hid (∀ w', MaxOk w' → w.heap.size ≤ w'.heap.size → Below w.heap.size w w' → Calls Try.prog 47 #[.slice ao pa.length cap, .func (.func 48) #[] #[]] w' fun e w'' => e = .returned (.bool (pa.any (fun s => (!stepB s)))) ∧ Below w'.heap.size w' w'') :=
    Lib.hid fun w' h hw hb => containsNoStep_calls B pa b o _ w' (by omega) h s1 (by
      cases pa with
      | nil => trivial
      | cons a l => exact NRow.below (s1.lt (by simp)) (hb.mono hB) r1)
  have hres : plB ⟨nm, pa⟩ = (nmB nm && (decide (pa.length ≤ 40) && !(pa.any (fun s => !stepB s)))) := by rw [not_any]; rfl
  rw [hres]
  clear hres r1 s1
  generalize pa.any (fun s => !stepB s) = q at *
  generalize nmB nm = nb at *
  go_enter Try.func29, Try.ntmps29
  go_wp2_with fail
  refine (C2.out _ (hm.alloc _)).mono ?_; rintro e w1 ⟨rfl, b1⟩
  have hz1 : w.heap.size < w1.heap.size := by have := b1.size; simp at this; omega
  have bel1 := up_tr ((Below.refl _ w).alloc (Nat.le_refl _) _) b1
  have hm1 := hm.below bel1
  have hc1 := old_cells b1
  clear b1
  by_cases hl : pa.length ≤ 40
  · cases nb
    · go_wp2_with fail
      go_ret
      exact ⟨ret_bool (by simp), bel1⟩
    · go_wp2_with fail
      refine (D.out _ hm1 (by omega) bel1).mono ?_; rintro e w2 ⟨rfl, b2⟩
      have bel2 := up_tr bel1 b2
      go_wp2
      go_ret
      exact ⟨ret_bool (by simp [hl]), bel2⟩
  · cases nb
    · go_wp2_with fail
      go_ret
      exact ⟨ret_bool (by simp), bel1⟩
    · go_wp2_with fail
      go_ret
      exact ⟨ret_bool (by simp), bel1⟩
end Go.Proofs.Ytgpgambbmapicaa
