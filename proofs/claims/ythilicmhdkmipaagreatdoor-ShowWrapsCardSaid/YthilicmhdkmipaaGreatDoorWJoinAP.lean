/- What fits, first part: texts, places, lists of names (made by gen_fits1.py). -/
import Derived.Test.YthilicmhdkmipaaGreatDoorWJoinAB
import Derived.Test.YthilicmhdkmipaaGreatDoorWJoinAF
import Derived.Test.YthilicmhdkmipaaGreatDoorWJoinAI
namespace Go.Proofs.YthilicmhdkmipaaGreatDoor
open Go.RowKit
set_option linter.unusedVariables false

theorem nul_size (s : ByteArray) : (s.toList = []) = (s.size = 0) := by
  rw [ByteArray.toList_eq]
  apply propext
  constructor
  · intro h
    obtain ⟨⟨l⟩⟩ := s
    have : l = [] := h
    subst this; rfl
  · intro h
    obtain ⟨⟨l⟩⟩ := s
    have : l = [] := by simpa [ByteArray.size] using h
    subst this; rfl
theorem MaxOk.alloc {w : World} (h : MaxOk w) (o : Obj) : MaxOk (w.alloc o) := h.below ((Below.refl _ w).alloc (Nat.le_refl _) o)
theorem MaxOk.drew {w : World} (h : MaxOk w) : MaxOk w.drew := h.below (Below.refl _ w).drew
theorem MaxOk.drewN {w : World} (h : MaxOk w) (n : Nat) : MaxOk (w.drewN n) := h.below (below_drewN w n)

set_option maxHeartbeats 1000000 in
theorem textFits_calls (x : Nat) (hx : x ≤ 3) (s : ByteArray) (hs : s.size ≤ maxLen) (w : World) (hm : MaxOk w) :
    Calls Tryz.prog 161 #[.int .u8 x, .string s] w fun e w' => e = .returned (.bool (txB x s)) ∧ Below w.heap.size w w' := by
  have C := Lib.hid fun w h => name_says s hs w h
  have D := Lib.hid fun w h => type_says s hs w h
  have hN : txB 1 s = nmB s := rfl
  have hT : txB 3 s = tyB s := rfl
  have h2 : txB 2 s = (noB s || nmB s) := rfl
  have h0 : txB 0 s = noB s := rfl
  have C2 : Hid (∀ w, MaxOk w → Calls Tryz.prog 187 #[.string s] w fun e w' => e = .returned (.bool (nmB s)) ∧ Below w.heap.size w w') := C
  have D2 : Hid (∀ w, MaxOk w → Calls Tryz.prog 188 #[.string s] w fun e w' => e = .returned (.bool (tyB s)) ∧ Below w.heap.size w w') := D
  clear C D
  have hno : noB s = decide (s.toList = []) := by unfold noB; rw [decide_eq_decide, nul_size]
  rcases (show x = 0 ∨ x = 1 ∨ x = 2 ∨ x = 3 by omega) with rfl | rfl | rfl | rfl
  · rw [h0, hno]
    show Calls Tryz.prog 161 #[.int .u8 0, .string s] w _
    go_enter Tryz.func161, Tryz.ntmps161
    go_wp2
    go_ret
    exact ⟨ret_bool (by cases s.toList <;> simp), Below.refl _ _⟩
  · rw [hN]
    show Calls Tryz.prog 161 #[.int .u8 1, .string s] w _
    go_enter Tryz.func161, Tryz.ntmps161
    go_wp2_with fail
    refine (C2.out _ hm).mono ?_; rintro e w1 ⟨rfl, b1⟩
    go_wp2
    go_ret
    exact ⟨rfl, b1⟩
  · rw [h2, hno]
    show Calls Tryz.prog 161 #[.int .u8 2, .string s] w _
    by_cases he : s.toList = []
    · go_enter Tryz.func161, Tryz.ntmps161
      go_wp2_with fail
      go_ret
      exact ⟨ret_bool (by simp [he]), Below.refl _ _⟩
    · have he2 : s.toList.isEmpty = false := by cases h : s.toList with | nil => exact absurd h he | cons a l => rfl
      go_enter Tryz.func161, Tryz.ntmps161
      go_wp2_with fail
      refine (C2.out _ hm).mono ?_; rintro e w1 ⟨rfl, b1⟩
      go_wp2
      go_ret
      exact ⟨ret_bool (by simp [he]), b1⟩
  · rw [hT]
    show Calls Tryz.prog 161 #[.int .u8 3, .string s] w _
    go_enter Tryz.func161, Tryz.ntmps161
    go_wp2_with fail
    refine (D2.out _ hm).mono ?_; rintro e w1 ⟨rfl, b1⟩
    go_wp2
    go_ret
    exact ⟨rfl, b1⟩
set_option maxHeartbeats 1000000 in
theorem isNoStep_calls (s : ByteArray) (hs : s.size ≤ maxLen) (w : World) (hm : MaxOk w) :
    Calls Tryz.prog 163 #[.string s] w fun e w' => e = .returned (.bool (!stepB s)) ∧ Below w.heap.size w w' := by
  have C2 : Hid (∀ w, MaxOk w → Calls Tryz.prog 161 #[.int .u8 1, .string s] w fun e w' => e = .returned (.bool (nmB s)) ∧ Below w.heap.size w w') := Lib.hid fun w h => textFits_calls 1 (by omega) s hs w h
  have hst : stepB s = (decide (s.toList = [42]) || nmB s) := by unfold stepB; rw [ByteArray.toList_eq]
  rw [hst]
  by_cases he : s.toList = [42]
  · go_enter Tryz.func163, Tryz.ntmps163
    go_wp2_with fail
    go_ret
    exact ⟨ret_bool (by simp [he]), Below.refl _ _⟩
  · go_enter Tryz.func163, Tryz.ntmps163
    go_wp2_with fail
    refine (C2.out _ hm).mono ?_; rintro e w1 ⟨rfl, b1⟩
    go_wp2
    go_ret
    exact ⟨ret_bool (by simp [he]), b1⟩
set_option maxHeartbeats 1000000 in
theorem notFit_calls (s : ByteArray) (hs : s.size ≤ maxLen) (g : Nat) (w : World) (hm : MaxOk w) (hg : w.cell? ⟨g, 0, none⟩ = some (.int .u8 1)) :
    Calls Tryz.prog 256 #[.string s, .pointer (some ⟨g, 0, none⟩)] w fun e w' => e = .returned (.bool (!nmB s)) ∧ Below w.heap.size w w' := by
  have C2 : Hid (∀ w, MaxOk w → Calls Tryz.prog 161 #[.int .u8 1, .string s] w fun e w' => e = .returned (.bool (nmB s)) ∧ Below w.heap.size w w') := Lib.hid fun w h => textFits_calls 1 (by omega) s hs w h
  go_enter Tryz.func256, Tryz.ntmps256
  go_wp2_with fail
  refine (C2.out _ hm).mono ?_; rintro e w1 ⟨rfl, b1⟩
  go_wp2
  go_ret
  exact ⟨ret_bool (by simp), b1⟩
theorem any_no {α : Type} {p : α → Bool} {l : List α} (h : ∀ (j : Nat) x, l[j]? = some x → p x = false) : l.any p = false := by
  rw [Bool.eq_false_iff]
  intro hc
  obtain ⟨x, hx, hp⟩ := List.any_eq_true.1 hc
  obtain ⟨j, hj⟩ := List.mem_iff_getElem?.1 hx
  rw [h j x hj] at hp; simp at hp
theorem any_yes {α : Type} {p : α → Bool} {l : List α} {k : Nat} {x : α} (h : l[k]? = some x) (hp : p x = true) : l.any p = true := List.any_eq_true.2 ⟨x, List.mem_of_getElem? h, hp⟩
set_option maxHeartbeats 2000000 in
theorem indexNoStep_calls (B : Nat) (l : List ByteArray) (b1 o1 : Nat) (v1 : Value) (w : World) (hB : B ≤ w.heap.size) (hm : MaxOk w) (s1 : SlV B v1 l.length b1 o1) (r1 : NRow w b1 o1 l) :
    Calls Tryz.prog 189 #[v1, .func (.func 163) #[] #[]] w fun e w' => (∃ r : Int, e = .returned (.int .i64 r) ∧ decide (0 ≤ r) = l.any (fun s => (!stepB s))) ∧ Below w.heap.size w w' := by
  obtain ⟨m1, ao1, cap1, rfl, h1⟩ := s1
  unfold maxLen at m1
  obtain ⟨n, hx⟩ : ∃ n, n = l.length := ⟨_, rfl⟩
  rw [← hx] at m1 h1 ⊢
  have Hx := Lib.hid hx
  have Hr := Lib.hid r1
  have H1 := Lib.hid h1
  have Hm := Lib.hid hm
  clear hx r1 h1 hm
  have hE : ∀ args w, (callFunc 163 args).run Tryz.prog w = .ok (.enter 163 args) w := enters_of Tryz.func163 (by kernel_rfl) rfl
  go_enter Tryz.func189, Tryz.ntmps189
  go_wp2_with fail
  go_loopw [8] (fun i wr => ∃ k : Nat, k ≤ n ∧ i = .int .i64 k ∧ Below w.heap.size w wr ∧ Hid (∀ (j : Nat) x, j < k → l[j]? = some x → (!stepB x) = false))
    (fun i _ => n - (intOf i).toNat)
  case atStart => exact ⟨0, by omega, rfl, Below.refl _ _, Lib.hid fun j x hj => by omega⟩
  case round =>
    obtain ⟨k, hk, rfl, hbel, HK⟩ := hrel
    have hsz := hbel.size
    have hbB := hbel.mono hB
    by_cases hlt : k < n
    · obtain ⟨a, ha, hin⟩ := get_at (l := l) (k := k) (by rw [← Hx.out]; exact hlt)
      obtain ⟨rfl, hb1⟩ := H1.out.resolve_left (by omega)
      obtain ⟨hsa, ca⟩ := NRow.get (NRow.below hb1 hbB Hr.out) ha
      have c0 : wr.cell? ⟨b1, o1 + k * 1, none⟩ = some (.string a) := ca 0 _ rfl
      rw [Nat.mul_one] at c0
      have g1 : b1 < wr.heap.size := by omega
      have hmr := Hm.out.below hbel
      have C := Lib.hid (isNoStep_calls a hsa wr hmr)
      have Ha := Lib.hid ha
      generalize hp : (!stepB a) = pa at *
      have Hp := Lib.hid hp
      clear ha ca hin hmr hp
      go_wp2_with fail
      refine C.out.mono ?_
      rintro e w2 ⟨rfl, b2⟩
      have b3 := hbel.trans (b2.mono (by omega))
      clear b2 c0
      cases pa
      · have HK2 : Hid (∀ (j : Nat) x, j < k + 1 → l[j]? = some x → (!stepB x) = false) := Lib.hid fun j x hj hx => by
          by_cases e : j = k
          · subst e
            rw [Ha.out] at hx
            cases hx
            exact Hp.out
          · exact HK.out j x (by omega) hx
        go_wp2
        go_roundw
        case rel => exact ⟨k + 1, by omega, by go_num, b3, HK2⟩
        case measure => simp [intOf]; omega
      · have hres := Lib.hid (any_yes (p := fun s => (!stepB s)) Ha.out Hp.out)
        go_wp2
        go_ret
        exact ⟨⟨k, rfl, by rw [hres.out]; simp⟩, b3⟩
    · obtain rfl : k = n := by omega
      have hres := Lib.hid (any_no (p := fun s => (!stepB s)) fun j x hx => HK.out j x (by rw [Hx.out]; exact (List.getElem?_eq_some_iff.1 hx).1) hx)
      go_wp2
      go_ret
      exact ⟨⟨-1, rfl, by rw [hres.out]; simp⟩, hbel⟩
set_option maxHeartbeats 1000000 in
theorem containsNoStep_calls (B : Nat) (l : List ByteArray) (b1 o1 : Nat) (v1 : Value) (w : World) (hB : B ≤ w.heap.size) (hm : MaxOk w) (s1 : SlV B v1 l.length b1 o1) (r1 : NRow w b1 o1 l) :
    Calls Tryz.prog 162 #[v1, .func (.func 163) #[] #[]] w fun e w' => e = .returned (.bool (l.any (fun s => (!stepB s)))) ∧ Below w.heap.size w w' := by
  have C := Lib.hid (indexNoStep_calls B l b1 o1 v1 w hB hm s1 r1)
  obtain ⟨ao1, cap1, rfl⟩ := s1.shape
  generalize l.any (fun s => (!stepB s)) = res at *
  clear r1 s1 hm
  go_enter Tryz.func162, Tryz.ntmps162
  go_wp2_with fail
  refine C.out.mono ?_
  rintro e w2 ⟨⟨r, rfl, hr⟩, b2⟩
  go_wp2
  go_ret
  exact ⟨ret_bool (by rw [← hr]), b2⟩

set_option maxHeartbeats 2000000 in
theorem indexNotFit_calls (B : Nat) (l : List ByteArray) (b1 o1 : Nat) (v1 : Value) (g : Nat) (w : World) (hB : B ≤ w.heap.size) (hm : MaxOk w) (s1 : SlV B v1 l.length b1 o1) (r1 : NRow w b1 o1 l) (hg : w.cell? ⟨g, 0, none⟩ = some (.int .u8 1)) :
    Calls Tryz.prog 189 #[v1, .func (.func 256) #[] #[.pointer (some ⟨g, 0, none⟩)]] w fun e w' => (∃ r : Int, e = .returned (.int .i64 r) ∧ decide (0 ≤ r) = l.any (fun s => (!nmB s))) ∧ Below w.heap.size w w' := by
  obtain ⟨m1, ao1, cap1, rfl, h1⟩ := s1
  unfold maxLen at m1
  obtain ⟨n, hx⟩ : ∃ n, n = l.length := ⟨_, rfl⟩
  rw [← hx] at m1 h1 ⊢
  have Hx := Lib.hid hx
  have Hr := Lib.hid r1
  have H1 := Lib.hid h1
  have Hm := Lib.hid hm
  clear hx r1 h1 hm
  have hE : ∀ args w, (callFunc 256 args).run Tryz.prog w = .ok (.enter 256 args) w := enters_of Tryz.func256 (by kernel_rfl) rfl
  go_enter Tryz.func189, Tryz.ntmps189
  go_wp2_with fail
  go_loopw [8] (fun i wr => ∃ k : Nat, k ≤ n ∧ i = .int .i64 k ∧ Below w.heap.size w wr ∧ Hid (∀ (j : Nat) x, j < k → l[j]? = some x → (!nmB x) = false))
    (fun i _ => n - (intOf i).toNat)
  case atStart => exact ⟨0, by omega, rfl, Below.refl _ _, Lib.hid fun j x hj => by omega⟩
  case round =>
    obtain ⟨k, hk, rfl, hbel, HK⟩ := hrel
    have hsz := hbel.size
    have hbB := hbel.mono hB
    by_cases hlt : k < n
    · obtain ⟨a, ha, hin⟩ := get_at (l := l) (k := k) (by rw [← Hx.out]; exact hlt)
      obtain ⟨rfl, hb1⟩ := H1.out.resolve_left (by omega)
      obtain ⟨hsa, ca⟩ := NRow.get (NRow.below hb1 hbB Hr.out) ha
      have c0 : wr.cell? ⟨b1, o1 + k * 1, none⟩ = some (.string a) := ca 0 _ rfl
      rw [Nat.mul_one] at c0
      have g1 : b1 < wr.heap.size := by omega
      have hmr := Hm.out.below hbel
      have hgr : wr.cell? ⟨g, 0, none⟩ = some (.int .u8 1) := (hbel.cell (p := ⟨g, 0, none⟩) (World.block_lt_of_cell? _ _ hg)).trans hg
      have C := Lib.hid (notFit_calls a hsa g wr hmr hgr)
      have Ha := Lib.hid ha
      generalize hp : (!nmB a) = pa at *
      have Hp := Lib.hid hp
      clear ha ca hin hmr hp
      go_wp2_with fail
      refine C.out.mono ?_
      rintro e w2 ⟨rfl, b2⟩
      have b3 := hbel.trans (b2.mono (by omega))
      clear b2 c0
      cases pa
      · have HK2 : Hid (∀ (j : Nat) x, j < k + 1 → l[j]? = some x → (!nmB x) = false) := Lib.hid fun j x hj hx => by
          by_cases e : j = k
          · subst e
            rw [Ha.out] at hx
            cases hx
            exact Hp.out
          · exact HK.out j x (by omega) hx
        go_wp2
        go_roundw
        case rel => exact ⟨k + 1, by omega, by go_num, b3, HK2⟩
        case measure => simp [intOf]; omega
      · have hres := Lib.hid (any_yes (p := fun s => (!nmB s)) Ha.out Hp.out)
        go_wp2
        go_ret
        exact ⟨⟨k, rfl, by rw [hres.out]; simp⟩, b3⟩
    · obtain rfl : k = n := by omega
      have hres := Lib.hid (any_no (p := fun s => (!nmB s)) fun j x hx => HK.out j x (by rw [Hx.out]; exact (List.getElem?_eq_some_iff.1 hx).1) hx)
      go_wp2
      go_ret
      exact ⟨⟨-1, rfl, by rw [hres.out]; simp⟩, hbel⟩
set_option maxHeartbeats 1000000 in
theorem containsNotFit_calls (B : Nat) (l : List ByteArray) (b1 o1 : Nat) (v1 : Value) (g : Nat) (w : World) (hB : B ≤ w.heap.size) (hm : MaxOk w) (s1 : SlV B v1 l.length b1 o1) (r1 : NRow w b1 o1 l) (hg : w.cell? ⟨g, 0, none⟩ = some (.int .u8 1)) :
    Calls Tryz.prog 162 #[v1, .func (.func 256) #[] #[.pointer (some ⟨g, 0, none⟩)]] w fun e w' => e = .returned (.bool (l.any (fun s => (!nmB s)))) ∧ Below w.heap.size w w' := by
  have C := Lib.hid (indexNotFit_calls B l b1 o1 v1 g w hB hm s1 r1 hg)
  obtain ⟨ao1, cap1, rfl⟩ := s1.shape
  generalize l.any (fun s => (!nmB s)) = res at *
  clear r1 s1 hm
  go_enter Tryz.func162, Tryz.ntmps162
  go_wp2_with fail
  refine C.out.mono ?_
  rintro e w2 ⟨⟨r, rfl, hr⟩, b2⟩
  go_wp2
  go_ret
  exact ⟨ret_bool (by rw [← hr]), b2⟩

theorem not_any (l : List ByteArray) (p : ByteArray → Bool) : (!(l.any fun s => !p s)) = l.all p := by
  induction l with
  | nil => rfl
  | cons a l ih => simp [List.any_cons, List.all_cons, ← ih, Bool.not_or]
set_option maxHeartbeats 1000000 in
theorem isPlace_calls (B : Nat) (x : PP) (v : Value) (w : World) (hB : B ≤ w.heap.size) (hm : MaxOk w) (hx : x.In B w v) :
    Calls Tryz.prog 108 #[.agg #[.string x.name, v]] w fun e w' => e = .returned (.bool (plB x)) ∧ Below w.heap.size w w' := by
  obtain ⟨nm, pa⟩ := x
  obtain ⟨hs, b, o, s1, r1⟩ := hx
  obtain ⟨ao, cap, rfl⟩ := s1.shape
  have C2 : Hid (∀ w, MaxOk w → Calls Tryz.prog 161 #[.int .u8 1, .string nm] w fun e w' => e = .returned (.bool (nmB nm)) ∧ Below w.heap.size w w') := Lib.hid fun w h => textFits_calls 1 (by omega) nm hs w h
  have D : Hid (∀ w', MaxOk w' → w.heap.size ≤ w'.heap.size → Below w.heap.size w w' → Calls Tryz.prog 162 #[.slice ao pa.length cap, .func (.func 163) #[] #[]] w' fun e w'' => e = .returned (.bool (pa.any (fun s => (!stepB s)))) ∧ Below w'.heap.size w' w'') :=
    Lib.hid fun w' h hw hb => containsNoStep_calls B pa b o _ w' (by omega) h s1 (by
      cases pa with
      | nil => trivial
      | cons a l => exact NRow.below (s1.lt (by simp)) (hb.mono hB) r1)
  have hres : plB ⟨nm, pa⟩ = (nmB nm && (decide (pa.length ≤ 40) && !(pa.any (fun s => !stepB s)))) := by rw [not_any]; rfl
  rw [hres]
  clear hres r1 s1
  generalize pa.any (fun s => !stepB s) = q at *
  generalize nmB nm = nb at *
  go_enter Tryz.func108, Tryz.ntmps108
  go_wp2_with fail
  refine (C2.out _ (hm.alloc _)).mono ?_; rintro e w1 ⟨rfl, b1⟩
  have hz1 : w.heap.size < w1.heap.size := by have := b1.size; simp at this; omega
  have bel1 := up_tr ((Below.refl _ w).alloc (Nat.le_refl _) _) b1
  have hm1 := hm.below bel1
  have hc1 := old_cells b1
  clear b1
  by_cases hl : pa.length ≤ 40
  · cases nb
    · go_wp2_with fail
      go_ret
      exact ⟨ret_bool (by simp), bel1⟩
    · go_wp2_with fail
      refine (D.out _ hm1 (by omega) bel1).mono ?_; rintro e w2 ⟨rfl, b2⟩
      have bel2 := up_tr bel1 b2
      go_wp2
      go_ret
      exact ⟨ret_bool (by simp [hl]), bel2⟩
  · cases nb
    · go_wp2_with fail
      go_ret
      exact ⟨ret_bool (by simp), bel1⟩
    · go_wp2_with fail
      go_ret
      exact ⟨ret_bool (by simp), bel1⟩
end Go.Proofs.YthilicmhdkmipaaGreatDoor
/- Names, and what they are given. -/
namespace Go.Proofs.YthilicmhdkmipaaGreatDoor
open Go.RowKit
set_option linter.unusedVariables false

theorem pairsT_get : ∀ (ns : List ByteArray) (l : List PE) (k : Nat) (a : List TkB), (pairsT ns (tokEs l))[k]? = some a → ∃ nm x, ns[k]? = some nm ∧ l[k]? = some x ∧ a = kT nm :: wGives :: tokE x
  | [], l, k, a, h => by rw [pairsT] at h; simp at h; intro _ _ _ _ h; cases h
  | n :: ns, [], k, a, h => by rw [tokEs, pairsT] at h; simp at h; intro _ _ _ _ _ h; cases h
  | n :: ns, x :: l, 0, a, h => by
    rw [tokEs, pairsT] at h
    obtain rfl : kT n :: wGives :: tokE x = a := by simpa using h
    exact ⟨n, x, rfl, rfl, rfl⟩
  | n :: ns, x :: l, k + 1, a, h => by
    rw [tokEs, pairsT] at h
    obtain ⟨nm, y, h1, h2, h3⟩ := pairsT_get ns l k a (by simpa using h)
    exact ⟨nm, y, by simpa using h1, by simpa using h2, h3⟩
theorem pairsT_len : ∀ (ns : List ByteArray) (l : List PE), ns.length = l.length → (pairsT ns (tokEs l)).length = l.length
  | [], [], _ => rfl
  | [], _ :: _, h => by simp at h
  | _ :: _, [], h => by simp at h
  | n :: ns, x :: l, h => by rw [tokEs, pairsT, List.length_cons, pairsT_len ns l (by simpa using h)]; rfl
theorem pairs1_enters : ∀ args w, (callFunc 160 args).run Tryz.prog w = .ok (.enter 160 args) w := enters_of Tryz.func160 (by kernel_rfl) rfl
set_option maxRecDepth 100000 in
set_option maxHeartbeats 4000000 in
theorem pairs1_calls (B R : Nat) (x : PE) (nm : ByteArray) (IH : ExprAt B R x) (k n1 n2 : Nat) (hk1 : k < n1) (hk2 : k < n2) (hn1 : n1 ≤ maxLen) (hn2 : n2 ≤ maxLen) (gw gn gl b o c b' o' c' : Nat) (T0 G0 : TkB) (ts : List TkB) (v : VE) (w : World) (hB : B ≤ w.heap.size) (hW : Words B w) (hA : AtW B R T0 G0 ts w) (hx : x.In B w v) (hs : nm.size ≤ maxLen) (hL : Lim T0 G0 (ts ++ (kT nm :: wGives :: tokE x)))
    (s0 : Safe R w gw) (s1 : Safe R w gn) (s2 : Safe R w gl)
    (h0 : w.cell? ⟨gw, 0, none⟩ = some (.pointer (some ⟨R, 0, none⟩))) (h1 : w.cell? ⟨gn, 0, none⟩ = some (.slice (some ⟨b, o, none⟩) n1 c)) (h2 : w.cell? ⟨gl, 0, none⟩ = some (.slice (some ⟨b', o', none⟩) n2 c'))
    (hbB : b < B) (hbB' : b' < B) (hc : w.cell? ⟨b, o + k, none⟩ = some (.string nm)) (hc' : CellsAt w b' (o' + k * 8) (x.cells v)) :
    Calls Tryz.prog 160 #[.int .i64 k, .pointer (some ⟨gw, 0, none⟩), .pointer (some ⟨gn, 0, none⟩), .pointer (some ⟨gl, 0, none⟩)] w fun e w' => e = .returned (.tuple #[]) ∧ AtW B R T0 G0 (ts ++ (kT nm :: wGives :: tokE x)) w' ∧ WBut B R w w' := by
  obtain ⟨p1, m1, c1, p2, m2, c2, rfl⟩ := hx.shape
  have hn1' : n1 ≤ 9223372036854775807 := by unfold maxLen at hn1; omega
  have hn2' : n2 ≤ 9223372036854775807 := by unfold maxLen at hn2; omega
  have e1 : ts ++ (kT nm :: wGives :: tokE x) = (ts ++ [kT nm, wGives]) ++ tokE x := by simp
  rw [e1] at hL ⊢
  have P1 := Lib.hid (put2_calls B R nm ⟨#[61]⟩ T0 G0 ts _ w (new_drew w (.cells #[.string nm, .string ⟨#[61]⟩] 9)) (drew_new w _) hB hA hs (by decide) hL.less)
  have HW := Lib.hid hW
  have HX := Lib.hid hx
  have HC := Lib.hid hc'
  have HL := Lib.hid hL
  have hb : b < w.heap.size := by omega
  have g0 := s0.lt
  have g1 := s1.lt
  clear hW hA hx hL e1 hc'
  go_enter Tryz.func160, Tryz.ntmps160
  go_upto_region 0 with (fail)
  go_cut [0] from 5 to 14 (fun s3 wx => s3 = .int .i64 k ∧ Hid (AtW B R T0 G0 (ts ++ [kT nm, wGives]) wx) ∧ Hid (WBut B R w wx))
  case first =>
    go_region_held3 (fun w' => w'.cell? ⟨gw, 0, none⟩ = some (.pointer (some ⟨R, 0, none⟩)) ∧ w'.cell? ⟨gn, 0, none⟩ = some (.slice (some ⟨b, o, none⟩) n1 c) ∧ w'.cell? ⟨b, o + k, none⟩ = some (.string nm)) (first | exact ⟨h0, h1, hc⟩ | exact ⟨(low_new w _ _ _ g0).trans h0, (low_new w _ _ _ g1).trans h1, (low_new w _ _ _ hb).trans hc⟩ | exact ⟨XA, XB, XC⟩)
      (first
        | (go_at_call 98; (with_reducible refine (P1.out).mono ?_)
           rintro e w2 ⟨rfl, q1, b1⟩
           have H1 := Lib.hid q1
           have B1 := Lib.hid b1
           have XA := (s0.cell b1 0).trans h0
           have XB := (s1.cell b1 0).trans h1
           have XC := (b1.bel.cell (p := ⟨b, o + k, none⟩) hbB).trans hc
           clear q1 b1))
    go_wp2_with fail
    go_meet
    case rel => exact ⟨rfl, H1, B1⟩
  case rest =>
    obtain ⟨rfl, H1, B1⟩ := hcut
    have y0 := (s0.cell B1.out 0).trans h0
    have y2 := (s2.cell B1.out 0).trans h2
    have hc2 := HC.out.below hbB' B1.out.bel
    have bd : Below wc.heap.size wc wc.drew := (Below.refl _ wc).drew
    have hBc : B ≤ wc.heap.size := Nat.le_trans hB B1.out.size
    have C := Lib.hid (IH T0 G0 (ts ++ [kT nm, wGives]) _ wc.drew (by simpa using hBc) ((HW.out.below B1.out.bel).below (bd.mono hBc)) (H1.out.stays bd) (PE.In.below (bd.mono hBc) (PE.In.below B1.out.bel HX.out)) HL.out)
    have C' : Hid (Calls Tryz.prog 69 #[.pointer (some ⟨R, 0, none⟩), .agg #[.int .u8 x.op, .int .i64 x.int, .string x.name, .string x.second, .string x.place.name, .slice p1 m1 c1, .slice p2 m2 c2, .int .i64 x.pos]] wc.drew fun e w' => e = .returned (.tuple #[]) ∧ AtW B R T0 G0 ((ts ++ [kT nm, wGives]) ++ tokE x) w' ∧ WBut B R wc.drew w') := Lib.hid C.out
    have x0 : wc.cell? ⟨b', o' + k * 8, none⟩ = some (.int .u8 x.op) := by simpa using hc2 0 _ rfl
    have x1 : wc.cell? ⟨b', o' + k * 8 + 1, none⟩ = some (.int .i64 x.int) := hc2 1 _ rfl
    have x2 : wc.cell? ⟨b', o' + k * 8 + 2, none⟩ = some (.string x.name) := hc2 2 _ rfl
    have x3 : wc.cell? ⟨b', o' + k * 8 + 3, none⟩ = some (.string x.second) := hc2 3 _ rfl
    have x4 : wc.cell? ⟨b', o' + k * 8 + 4, none⟩ = some (.string x.place.name) := hc2 4 _ rfl
    have x5 : wc.cell? ⟨b', o' + k * 8 + 5, none⟩ = some (.slice p1 m1 c1) := hc2 5 _ rfl
    have x6 : wc.cell? ⟨b', o' + k * 8 + 6, none⟩ = some (.slice p2 m2 c2) := hc2 6 _ rfl
    have x7 : wc.cell? ⟨b', o' + k * 8 + 7, none⟩ = some (.int .i64 x.pos) := hc2 7 _ rfl
    have WD : WBut B R w wc.drew := B1.out.trans (WBut.of bd hBc)
    clear IH C hc2 P1 h0 h1 h2 hc s0 s1 s2 HC
    go_upto_region 1 with (fail)
    go_region_with (first
      | (go_at_call 69; (with_reducible refine (C'.out).mono ?_)
         rintro e w3 ⟨rfl, h3, b3⟩
         have H3 := Lib.hid h3
         have B3 := Lib.hid (WD.trans b3)
         clear h3 b3))
    all_goals
      go_wp2
      go_end0
      exact ⟨rfl, H3.out, B3.out⟩
theorem neSS : (32 : TypeId) ≠ 5 := by decide
set_option maxRecDepth 100000 in
set_option maxHeartbeats 4000000 in
theorem pairs_calls (B R : Nat) (ns : List ByteArray) (l : List PE) (hlen : ns.length = l.length) (IH : ∀ x ∈ l, ExprAt B R x) (T0 G0 : TkB) (ts : List TkB) (vn v : Value) (b o b' o' : Nat) (w : World) (hB : B ≤ w.heap.size) (hW : Words B w) (hA : AtW B R T0 G0 ts w) (hsn : SlV B vn ns.length b o) (hrn : NRow w b o ns) (hs : SlV B v l.length b' o') (hr : PE.Row B w b' o' l) (hL : Lim T0 G0 (ts ++ joinT (pairsT ns (tokEs l)))) :
    Calls Tryz.prog 102 #[.pointer (some ⟨R, 0, none⟩), vn, v] w fun e w' => e = .returned (.tuple #[]) ∧ AtW B R T0 G0 (ts ++ joinT (pairsT ns (tokEs l))) w' ∧ WBut B R w w' := by
  obtain ⟨hnn, an, capn, rfl, kn⟩ := hsn
  obtain ⟨hn, ao, cap, rfl, k1⟩ := hs
  rw [hlen] at hnn kn ⊢
  have hRR : R < w.heap.size := hA.lt
  obtain ⟨w1, hw1⟩ : ∃ w1, w1 = ((w.alloc (.cells #[.pointer (some ⟨R, 0, none⟩)] 81)).alloc (.cells #[.slice an l.length capn] 32)).alloc (.cells #[.slice ao l.length cap] 35) := ⟨_, rfl⟩
  have bx : Below w.heap.size w w1 := by rw [hw1]; exact ((new_only _ _).alloc (by simp) _).alloc (by simp; omega) _
  have hz : w1.heap.size = w.heap.size + 3 := by rw [hw1]; simp
  have hg0 : w1.heap[w.heap.size]? = some (.cells #[.pointer (some ⟨R, 0, none⟩)] 81 (0, 0)) := by
    rw [hw1]; exact (Below.heap_alloc _ _ _ (by simp; omega)).trans ((Below.heap_alloc _ _ _ (by simp)).trans (heap_alloc_new w _))
  have hg1 : w1.heap[w.heap.size + 1]? = some (.cells #[.slice an l.length capn] 32 (0, 0)) := by
    rw [hw1]
    have := heap_alloc_new (w.alloc (.cells #[.pointer (some ⟨R, 0, none⟩)] 81)) (.cells #[.slice an l.length capn] 32)
    exact (Below.heap_alloc _ _ _ (by simp)).trans (by simpa using this)
  have hg2 : w1.heap[w.heap.size + 2]? = some (.cells #[.slice ao l.length cap] 35 (0, 0)) := by
    rw [hw1]
    have := heap_alloc_new ((w.alloc (.cells #[.pointer (some ⟨R, 0, none⟩)] 81)).alloc (.cells #[.slice an l.length capn] 32)) (.cells #[.slice ao l.length cap] 35)
    simpa using this
  have S0 : Safe R w1.drew w.heap.size := Safe.made (fr := (0, 0)) (show w1.drew.heap[w.heap.size]? = _ from hg0) nePW hRR
  have S1 : Safe R w1.drew (w.heap.size + 1) := Safe.made (fr := (0, 0)) (show w1.drew.heap[w.heap.size + 1]? = _ from hg1) neSS (by omega)
  have S2 : Safe R w1.drew (w.heap.size + 2) := Safe.made (fr := (0, 0)) (show w1.drew.heap[w.heap.size + 2]? = _ from hg2) neSE (by omega)
  have bd : Below w.heap.size w w1.drew := bx.drew
  have BX := Lib.hid (WBut.of bd hB (R := R))
  have c0 : w1.drew.cell? ⟨w.heap.size, 0, none⟩ = some (.pointer (some ⟨R, 0, none⟩)) := by rw [cell_of_row _ _ 0 _ _ _ (show w1.drew.heap[w.heap.size]? = _ from hg0)]; rfl
  have c1 : w1.drew.cell? ⟨w.heap.size + 1, 0, none⟩ = some (.slice an l.length capn) := by rw [cell_of_row _ _ 0 _ _ _ (show w1.drew.heap[w.heap.size + 1]? = _ from hg1)]; rfl
  have c2 : w1.drew.cell? ⟨w.heap.size + 2, 0, none⟩ = some (.slice ao l.length cap) := by rw [cell_of_row _ _ 0 _ _ _ (show w1.drew.heap[w.heap.size + 2]? = _ from hg2)]; rfl
  have hBd : B ≤ w1.drew.heap.size := Nat.le_trans hB bd.size
  have C := Lib.hid (list_calls B R (lb := #[.pointer (some ⟨w.heap.size, 0, none⟩), .pointer (some ⟨w.heap.size + 1, 0, none⟩), .pointer (some ⟨w.heap.size + 2, 0, none⟩)]) (pairsT ns (tokEs l)) T0 G0 ts w1.drew pairs1_enters hBd (hA.stays bd) (by rw [pairsT_len ns l hlen]; exact hn) hL (by
    intro k a ha us W hBW bW hAW hLW
    obtain ⟨nm, x, hnm, hx, rfl⟩ := pairsT_get ns l k a ha
    have hkl : k < l.length := (List.getElem?_eq_some_iff.1 hx).1
    obtain ⟨rfl, hbB⟩ := kn.resolve_left (by omega)
    obtain ⟨rfl, hbB'⟩ := k1.resolve_left (by omega)
    obtain ⟨vx, cx, ix⟩ := PE.Row.get hr hx
    obtain ⟨hsz, cn⟩ := NRow.get hrn hnm
    have bl : Below B w W := (bd.mono hB).trans bW.bel
    have cn' : W.cell? ⟨b, o + k, none⟩ = some (.string nm) := by
      have := cn.below hbB bl 0 _ rfl
      simpa using this
    exact pairs1_calls B R x nm (IH x (List.mem_of_getElem? hx)) k l.length l.length hkl hkl hn hn w.heap.size (w.heap.size + 1) (w.heap.size + 2) b o capn b' o' cap T0 G0 us vx W hBW (hW.below bl) hAW (PE.In.below bl ix) hsz hLW (S0.but bW) (S1.but bW) (S2.but bW) ((S0.cell bW 0).trans c0) ((S1.cell bW 0).trans c1) ((S2.cell bW 0).trans c2) hbB hbB' cn' (cx.below hbB' bl)))
  have C' : Hid (Calls Tryz.prog 145 #[.pointer (some ⟨R, 0, none⟩), .int .i64 l.length, .func (.func 160) #[] #[.pointer (some ⟨w.heap.size, 0, none⟩), .pointer (some ⟨w.heap.size + 1, 0, none⟩), .pointer (some ⟨w.heap.size + 2, 0, none⟩)]] w1.drew fun e w' => e = .returned (.tuple #[]) ∧ AtW B R T0 G0 (ts ++ joinT (pairsT ns (tokEs l))) w' ∧ WBut B R w1.drew w') := Lib.hid (by
    have := C.out
    rw [pairsT_len ns l hlen] at this
    exact this)
  have d0 : w1.cell? ⟨w.heap.size, 0, none⟩ = some (.pointer (some ⟨R, 0, none⟩)) := c0
  have d2 : w1.cell? ⟨w.heap.size + 2, 0, none⟩ = some (.slice ao l.length cap) := c2
  clear hW hA hr hrn hL IH C k1 kn S0 S1 S2
  generalize joinT (pairsT ns (tokEs l)) = tx at *
  generalize l.length = n at *
  go_enter Tryz.func102, Tryz.ntmps102
  go_upto_region 1 with (fail)
  (try simp only [size_alloc])
  rw [← hw1]
  clear hw1
  go_region_with (first
    | (go_at_call 145; (with_reducible refine (C'.out).mono ?_)
       rintro e w3 ⟨rfl, h3, b3⟩
       have H3 := Lib.hid h3
       have B3 := Lib.hid (BX.out.trans b3)
       clear h3 b3))
  all_goals
    go_wp2
    go_end0
    exact ⟨rfl, H3.out, B3.out⟩
end Go.Proofs.YthilicmhdkmipaaGreatDoor
/- What the writer writes of a row of fields. -/
namespace Go.Proofs.YthilicmhdkmipaaGreatDoor
open Go.RowKit
set_option linter.unusedVariables false

theorem fields1_enters : ∀ args w, (callFunc 176 args).run Tryz.prog w = .ok (.enter 176 args) w := enters_of Tryz.func176 (by kernel_rfl) rfl
theorem neSF : (65 : TypeId) ≠ 5 := by decide
set_option maxRecDepth 100000 in
set_option maxHeartbeats 4000000 in
theorem fields1_calls (B R : Nat) (f : PF) (IH : TypedAt B R f.type) (k n : Nat) (hk : k < n) (hn : n ≤ maxLen) (gw gl b o cap : Nat) (T0 G0 : TkB) (ts : List TkB) (v : Value) (w : World) (hB : B ≤ w.heap.size) (hW : Words B w) (hA : AtW B R T0 G0 ts w) (hx : f.In B w v) (hL : Lim T0 G0 (ts ++ fieldT f))
    (s0 : Safe R w gw) (s1 : Safe R w gl)
    (h0 : w.cell? ⟨gw, 0, none⟩ = some (.pointer (some ⟨R, 0, none⟩))) (h1 : w.cell? ⟨gl, 0, none⟩ = some (.slice (some ⟨b, o, none⟩) n cap))
    (hbB : b < B) (hc : CellsAt w b (o + k * 4) (f.cells v)) :
    Calls Tryz.prog 176 #[.int .i64 k, .pointer (some ⟨gw, 0, none⟩), .pointer (some ⟨gl, 0, none⟩)] w fun e w' => e = .returned (.tuple #[]) ∧ AtW B R T0 G0 (ts ++ fieldT f) w' ∧ WBut B R w w' := by
  obtain ⟨nm, t⟩ := f
  obtain ⟨hs, ht⟩ := hx
  dsimp only at hs ht IH
  obtain ⟨p1, m1, c1, rfl⟩ := ht.shape
  have hn' : n ≤ 9223372036854775807 := by unfold maxLen at hn; omega
  have e0 : fieldT ⟨nm, t⟩ = kT nm :: wColon :: tokT t := rfl
  have e1 : ts ++ fieldT ⟨nm, t⟩ = (ts ++ [kT nm, wColon]) ++ tokT t := by rw [e0]; simp
  rw [e1] at hL ⊢
  have P1 := Lib.hid (put2_calls B R nm ⟨#[58]⟩ T0 G0 ts _ w (new_drew w (.cells #[.string nm, .string ⟨#[58]⟩] 9)) (drew_new w _) hB hA hs (by decide) hL.less)
  have HW := Lib.hid hW
  have HX := Lib.hid ht
  have HC := Lib.hid hc
  have HL := Lib.hid hL
  have hb : b < w.heap.size := by omega
  have g0 := s0.lt
  have g1 := s1.lt
  have xn : w.cell? ⟨b, o + k * 4, none⟩ = some (.string nm) := by simpa using hc 0 _ rfl
  clear hW hA ht hL e1 e0 hc
  go_enter Tryz.func176, Tryz.ntmps176
  go_upto_region 0 with (fail)
  go_cut [0] from 4 to 14 (fun s3 wx => s3 = .int .i64 k ∧ Hid (AtW B R T0 G0 (ts ++ [kT nm, wColon]) wx) ∧ Hid (WBut B R w wx))
  case first =>
    go_region_held3 (fun w' => w'.cell? ⟨gw, 0, none⟩ = some (.pointer (some ⟨R, 0, none⟩)) ∧ w'.cell? ⟨gl, 0, none⟩ = some (.slice (some ⟨b, o, none⟩) n cap) ∧ w'.cell? ⟨b, o + k * 4, none⟩ = some (.string nm)) (first | exact ⟨h0, h1, xn⟩ | exact ⟨(low_new w _ _ _ g0).trans h0, (low_new w _ _ _ g1).trans h1, (low_new w _ _ _ hb).trans xn⟩ | exact ⟨XA, XB, XC⟩)
      (first
        | (go_at_call 98; (with_reducible refine (P1.out).mono ?_)
           rintro e w2 ⟨rfl, q1, b1⟩
           have H1 := Lib.hid q1
           have B1 := Lib.hid b1
           have XA := (s0.cell b1 0).trans h0
           have XB := (s1.cell b1 0).trans h1
           have XC := (b1.bel.cell (p := ⟨b, o + k * 4, none⟩) hbB).trans xn
           clear q1 b1))
    go_wp2_with fail
    go_meet
    case rel => exact ⟨rfl, H1, B1⟩
  case rest =>
    obtain ⟨rfl, H1, B1⟩ := hcut
    have y0 := (s0.cell B1.out 0).trans h0
    have y1 := (s1.cell B1.out 0).trans h1
    have hc2 := HC.out.below hbB B1.out.bel
    have bd : Below wc.heap.size wc wc.drew := (Below.refl _ wc).drew
    have hBc : B ≤ wc.heap.size := Nat.le_trans hB B1.out.size
    have C' : Hid (Calls Tryz.prog 66 #[.pointer (some ⟨R, 0, none⟩), .agg #[.int .u8 t.kind, .string t.name, .slice p1 m1 c1]] wc.drew fun e w' => e = .returned (.tuple #[]) ∧ AtW B R T0 G0 ((ts ++ [kT nm, wColon]) ++ tokT t) w' ∧ WBut B R wc.drew w') := Lib.hid (IH T0 G0 (ts ++ [kT nm, wColon]) _ wc.drew (by simpa using hBc) ((HW.out.below B1.out.bel).below (bd.mono hBc)) (H1.out.stays bd) (PT.In.below (bd.mono hBc) (PT.In.below B1.out.bel HX.out)) HL.out)
    have x1 : wc.cell? ⟨b, o + k * 4 + 1, none⟩ = some (.int .u8 t.kind) := hc2 1 _ rfl
    have x2 : wc.cell? ⟨b, o + k * 4 + 2, none⟩ = some (.string t.name) := hc2 2 _ rfl
    have x3 : wc.cell? ⟨b, o + k * 4 + 3, none⟩ = some (.slice p1 m1 c1) := hc2 3 _ rfl
    have WD : WBut B R w wc.drew := B1.out.trans (WBut.of bd hBc)
    clear IH hc2 P1 h0 h1 xn s0 s1 HC
    go_upto_region 1 with (fail)
    go_region_with (first
      | (go_at_call 66; (with_reducible refine (C'.out).mono ?_)
         rintro e w3 ⟨rfl, h3, b3⟩
         have H3 := Lib.hid h3
         have B3 := Lib.hid (WD.trans b3)
         clear h3 b3))
    all_goals
      go_wp2
      go_end0
      exact ⟨rfl, H3.out, B3.out⟩
set_option maxRecDepth 100000 in
set_option maxHeartbeats 4000000 in
theorem fields_calls (B R : Nat) (l : List PF) (IH : ∀ x ∈ l, TypedAt B R x.type) (T0 G0 : TkB) (ts : List TkB) (v : Value) (b o : Nat) (w : World) (hB : B ≤ w.heap.size) (hW : Words B w) (hA : AtW B R T0 G0 ts w) (hs : SlV B v l.length b o) (hr : PF.Row B w b o l) (hL : Lim T0 G0 (ts ++ joinT (l.map fieldT))) :
    Calls Tryz.prog 144 #[.pointer (some ⟨R, 0, none⟩), v] w fun e w' => e = .returned (.tuple #[]) ∧ AtW B R T0 G0 (ts ++ joinT (l.map fieldT)) w' ∧ WBut B R w w' := by
  obtain ⟨hn, ao, cap, rfl, k1⟩ := hs
  have hRR : R < w.heap.size := hA.lt
  obtain ⟨w1, hw1⟩ : ∃ w1, w1 = (w.alloc (.cells #[.pointer (some ⟨R, 0, none⟩)] 81)).alloc (.cells #[.slice ao l.length cap] 65) := ⟨_, rfl⟩
  have bx : Below w.heap.size w w1 := by rw [hw1]; exact (new_only _ _).alloc (by simp) _
  have hz : w1.heap.size = w.heap.size + 2 := by rw [hw1]; simp
  have hg0 : w1.heap[w.heap.size]? = some (.cells #[.pointer (some ⟨R, 0, none⟩)] 81 (0, 0)) := by
    rw [hw1]; exact (Below.heap_alloc _ _ _ (by simp)).trans (heap_alloc_new w _)
  have hg1 : w1.heap[w.heap.size + 1]? = some (.cells #[.slice ao l.length cap] 65 (0, 0)) := by
    rw [hw1]
    have := heap_alloc_new (w.alloc (.cells #[.pointer (some ⟨R, 0, none⟩)] 81)) (.cells #[.slice ao l.length cap] 65)
    simpa using this
  have S0 : Safe R w1.drew w.heap.size := Safe.made (fr := (0, 0)) (show w1.drew.heap[w.heap.size]? = _ from hg0) nePW hRR
  have S1 : Safe R w1.drew (w.heap.size + 1) := Safe.made (fr := (0, 0)) (show w1.drew.heap[w.heap.size + 1]? = _ from hg1) neSF (by omega)
  have bd : Below w.heap.size w w1.drew := bx.drew
  have BX := Lib.hid (WBut.of bd hB (R := R))
  have c0 : w1.drew.cell? ⟨w.heap.size, 0, none⟩ = some (.pointer (some ⟨R, 0, none⟩)) := by rw [cell_of_row _ _ 0 _ _ _ (show w1.drew.heap[w.heap.size]? = _ from hg0)]; rfl
  have c1 : w1.drew.cell? ⟨w.heap.size + 1, 0, none⟩ = some (.slice ao l.length cap) := by rw [cell_of_row _ _ 0 _ _ _ (show w1.drew.heap[w.heap.size + 1]? = _ from hg1)]; rfl
  have hBd : B ≤ w1.drew.heap.size := Nat.le_trans hB bd.size
  have C := Lib.hid (list_calls B R (lb := #[.pointer (some ⟨w.heap.size, 0, none⟩), .pointer (some ⟨w.heap.size + 1, 0, none⟩)]) (l.map fieldT) T0 G0 ts w1.drew fields1_enters hBd (hA.stays bd) (by rw [List.length_map]; exact hn) hL (by
    intro k a ha us W hBW bW hAW hLW
    rw [List.getElem?_map, Option.map_eq_some_iff] at ha
    obtain ⟨x, hx, rfl⟩ := ha
    have hkl : k < l.length := (List.getElem?_eq_some_iff.1 hx).1
    obtain ⟨rfl, hbB⟩ := k1.resolve_left (by omega)
    obtain ⟨vx, cx, ix⟩ := PF.Row.get hr hx
    have bl : Below B w W := (bd.mono hB).trans bW.bel
    exact fields1_calls B R x (IH x (List.mem_of_getElem? hx)) k l.length hkl hn w.heap.size (w.heap.size + 1) b o cap T0 G0 us vx W hBW (hW.below bl) hAW ⟨ix.1, PT.In.below bl ix.2⟩ hLW (S0.but bW) (S1.but bW) ((S0.cell bW 0).trans c0) ((S1.cell bW 0).trans c1) hbB (cx.below hbB bl)))
  have C' : Hid (Calls Tryz.prog 145 #[.pointer (some ⟨R, 0, none⟩), .int .i64 l.length, .func (.func 176) #[] #[.pointer (some ⟨w.heap.size, 0, none⟩), .pointer (some ⟨w.heap.size + 1, 0, none⟩)]] w1.drew fun e w' => e = .returned (.tuple #[]) ∧ AtW B R T0 G0 (ts ++ joinT (l.map fieldT)) w' ∧ WBut B R w1.drew w') := Lib.hid (by
    have := C.out
    rw [List.length_map] at this
    exact this)
  have d0 : w1.cell? ⟨w.heap.size, 0, none⟩ = some (.pointer (some ⟨R, 0, none⟩)) := c0
  have d1 : w1.cell? ⟨w.heap.size + 1, 0, none⟩ = some (.slice ao l.length cap) := c1
  clear hW hA hr hL IH C k1 S0 S1
  generalize joinT (l.map fieldT) = tx at *
  generalize l.length = n at *
  go_enter Tryz.func144, Tryz.ntmps144
  go_upto_region 1 with (fail)
  (try simp only [size_alloc])
  rw [← hw1]
  clear hw1
  go_region_with (first
    | (go_at_call 145; (with_reducible refine (C'.out).mono ?_)
       rintro e w3 ⟨rfl, h3, b3⟩
       have H3 := Lib.hid h3
       have B3 := Lib.hid (BX.out.trans b3)
       clear h3 b3))
  all_goals
    go_wp2
    go_end0
    exact ⟨rfl, H3.out, B3.out⟩
end Go.Proofs.YthilicmhdkmipaaGreatDoor
