/- What fits, first part: texts, places, lists of names (made by gen_fits1.py). -/
import Derived.Test.YthilicmhdkmipaaGreatDoorIJoinAE
import Derived.Test.YthilicmhdkmipaaGreatDoorIJoinAN
import Derived.Test.YthilicmhdkmipaaGreatDoorITreeHands
import Derived.Shelf.Abstract
import Derived.OwnWalkIn
import Derived.TacticsInMore
import Derived.LoopNIn
import Derived.LoopIn
import Derived.Shelf.RegionOpen
namespace Go.Proofs.YthilicmhdkmipaaGreatDoor
open Go.RowKit
set_option linter.unusedVariables false

theorem nul_size (s : ByteArray) : (s.toList = []) = (s.size = 0) := by
  rw [ByteArray.toList_eq]
  apply propext
  constructor
  · intro h
    obtain ⟨⟨l⟩⟩ := s
    have : l = [] := h
    subst this; rfl
  · intro h
    obtain ⟨⟨l⟩⟩ := s
    have : l = [] := by simpa [ByteArray.size] using h
    subst this; rfl
theorem MaxOk.alloc {w : World} (h : MaxOk w) (o : Obj) : MaxOk (w.alloc o) := h.below ((Below.refl _ w).alloc (Nat.le_refl _) o)
theorem MaxOk.drew {w : World} (h : MaxOk w) : MaxOk w.drew := h.below (Below.refl _ w).drew
theorem MaxOk.drewN {w : World} (h : MaxOk w) (n : Nat) : MaxOk (w.drewN n) := h.below (below_drewN w n)

set_option maxHeartbeats 1000000 in
theorem textFits_calls (x : Nat) (hx : x ≤ 3) (s : ByteArray) (hs : s.size ≤ maxLen) (w : World) (hm : MaxOk w) :
    Calls Tryz.prog 161 #[.int .u8 x, .string s] w fun e w' => e = .returned (.bool (txB x s)) ∧ Below w.heap.size w w' := by
  have C := Lib.hid fun w h => name_says s hs w h
  have D := Lib.hid fun w h => type_says s hs w h
  have hN : txB 1 s = nmB s := rfl
  have hT : txB 3 s = tyB s := rfl
  have h2 : txB 2 s = (noB s || nmB s) := rfl
  have h0 : txB 0 s = noB s := rfl
  have C2 : Hid (∀ w, MaxOk w → Calls Tryz.prog 187 #[.string s] w fun e w' => e = .returned (.bool (nmB s)) ∧ Below w.heap.size w w') := C
  have D2 : Hid (∀ w, MaxOk w → Calls Tryz.prog 188 #[.string s] w fun e w' => e = .returned (.bool (tyB s)) ∧ Below w.heap.size w w') := D
  clear C D
  have hno : noB s = decide (s.toList = []) := by unfold noB; rw [decide_eq_decide, nul_size]
  rcases (show x = 0 ∨ x = 1 ∨ x = 2 ∨ x = 3 by omega) with rfl | rfl | rfl | rfl
  · rw [h0, hno]
    show Calls Tryz.prog 161 #[.int .u8 0, .string s] w _
    go_enter Tryz.func161, Tryz.ntmps161
    go_wp2
    go_ret
    exact ⟨ret_bool (by cases s.toList <;> simp), Below.refl _ _⟩
  · rw [hN]
    show Calls Tryz.prog 161 #[.int .u8 1, .string s] w _
    go_enter Tryz.func161, Tryz.ntmps161
    go_wp2_with fail
    refine (C2.out _ hm).mono ?_; rintro e w1 ⟨rfl, b1⟩
    go_wp2
    go_ret
    exact ⟨rfl, b1⟩
  · rw [h2, hno]
    show Calls Tryz.prog 161 #[.int .u8 2, .string s] w _
    by_cases he : s.toList = []
    · go_enter Tryz.func161, Tryz.ntmps161
      go_wp2_with fail
      go_ret
      exact ⟨ret_bool (by simp [he]), Below.refl _ _⟩
    · have he2 : s.toList.isEmpty = false := by cases h : s.toList with | nil => exact absurd h he | cons a l => rfl
      go_enter Tryz.func161, Tryz.ntmps161
      go_wp2_with fail
      refine (C2.out _ hm).mono ?_; rintro e w1 ⟨rfl, b1⟩
      go_wp2
      go_ret
      exact ⟨ret_bool (by simp [he]), b1⟩
  · rw [hT]
    show Calls Tryz.prog 161 #[.int .u8 3, .string s] w _
    go_enter Tryz.func161, Tryz.ntmps161
    go_wp2_with fail
    refine (D2.out _ hm).mono ?_; rintro e w1 ⟨rfl, b1⟩
    go_wp2
    go_ret
    exact ⟨rfl, b1⟩
set_option maxHeartbeats 1000000 in
theorem isNoStep_calls (s : ByteArray) (hs : s.size ≤ maxLen) (w : World) (hm : MaxOk w) :
    Calls Tryz.prog 163 #[.string s] w fun e w' => e = .returned (.bool (!stepB s)) ∧ Below w.heap.size w w' := by
  have C2 : Hid (∀ w, MaxOk w → Calls Tryz.prog 161 #[.int .u8 1, .string s] w fun e w' => e = .returned (.bool (nmB s)) ∧ Below w.heap.size w w') := Lib.hid fun w h => textFits_calls 1 (by omega) s hs w h
  have hst : stepB s = (decide (s.toList = [42]) || nmB s) := by unfold stepB; rw [ByteArray.toList_eq]
  rw [hst]
  by_cases he : s.toList = [42]
  · go_enter Tryz.func163, Tryz.ntmps163
    go_wp2_with fail
    go_ret
    exact ⟨ret_bool (by simp [he]), Below.refl _ _⟩
  · go_enter Tryz.func163, Tryz.ntmps163
    go_wp2_with fail
    refine (C2.out _ hm).mono ?_; rintro e w1 ⟨rfl, b1⟩
    go_wp2
    go_ret
    exact ⟨ret_bool (by simp [he]), b1⟩
set_option maxHeartbeats 1000000 in
theorem notFit_calls (s : ByteArray) (hs : s.size ≤ maxLen) (g : Nat) (w : World) (hm : MaxOk w) (hg : w.cell? ⟨g, 0, none⟩ = some (.int .u8 1)) :
    Calls Tryz.prog 256 #[.string s, .pointer (some ⟨g, 0, none⟩)] w fun e w' => e = .returned (.bool (!nmB s)) ∧ Below w.heap.size w w' := by
  have C2 : Hid (∀ w, MaxOk w → Calls Tryz.prog 161 #[.int .u8 1, .string s] w fun e w' => e = .returned (.bool (nmB s)) ∧ Below w.heap.size w w') := Lib.hid fun w h => textFits_calls 1 (by omega) s hs w h
  go_enter Tryz.func256, Tryz.ntmps256
  go_wp2_with fail
  refine (C2.out _ hm).mono ?_; rintro e w1 ⟨rfl, b1⟩
  go_wp2
  go_ret
  exact ⟨ret_bool (by simp), b1⟩
theorem any_no {α : Type} {p : α → Bool} {l : List α} (h : ∀ (j : Nat) x, l[j]? = some x → p x = false) : l.any p = false := by
  rw [Bool.eq_false_iff]
  intro hc
  obtain ⟨x, hx, hp⟩ := List.any_eq_true.1 hc
  obtain ⟨j, hj⟩ := List.mem_iff_getElem?.1 hx
  rw [h j x hj] at hp; simp at hp
theorem any_yes {α : Type} {p : α → Bool} {l : List α} {k : Nat} {x : α} (h : l[k]? = some x) (hp : p x = true) : l.any p = true := List.any_eq_true.2 ⟨x, List.mem_of_getElem? h, hp⟩
set_option maxHeartbeats 2000000 in
theorem indexNoStep_calls (B : Nat) (l : List ByteArray) (b1 o1 : Nat) (v1 : Value) (w : World) (hB : B ≤ w.heap.size) (hm : MaxOk w) (s1 : SlV B v1 l.length b1 o1) (r1 : NRow w b1 o1 l) :
    Calls Tryz.prog 189 #[v1, .func (.func 163) #[] #[]] w fun e w' => (∃ r : Int, e = .returned (.int .i64 r) ∧ decide (0 ≤ r) = l.any (fun s => (!stepB s))) ∧ Below w.heap.size w w' := by
  obtain ⟨m1, ao1, cap1, rfl, h1⟩ := s1
  unfold maxLen at m1
  obtain ⟨n, hx⟩ : ∃ n, n = l.length := ⟨_, rfl⟩
  rw [← hx] at m1 h1 ⊢
  have Hx := Lib.hid hx
  have Hr := Lib.hid r1
  have H1 := Lib.hid h1
  have Hm := Lib.hid hm
  clear hx r1 h1 hm
  have hE : ∀ args w, (callFunc 163 args).run Tryz.prog w = .ok (.enter 163 args) w := enters_of Tryz.func163 (by kernel_rfl) rfl
  go_enter Tryz.func189, Tryz.ntmps189
  go_wp2_with fail
  go_loopw [8] (fun i wr => ∃ k : Nat, k ≤ n ∧ i = .int .i64 k ∧ Below w.heap.size w wr ∧ Hid (∀ (j : Nat) x, j < k → l[j]? = some x → (!stepB x) = false))
    (fun i _ => n - (intOf i).toNat)
  case atStart => exact ⟨0, by omega, rfl, Below.refl _ _, Lib.hid fun j x hj => by omega⟩
  case round =>
    obtain ⟨k, hk, rfl, hbel, HK⟩ := hrel
    have hsz := hbel.size
    have hbB := hbel.mono hB
    by_cases hlt : k < n
    · obtain ⟨a, ha, hin⟩ := get_at (l := l) (k := k) (by rw [← Hx.out]; exact hlt)
      obtain ⟨rfl, hb1⟩ := H1.out.resolve_left (by omega)
      obtain ⟨hsa, ca⟩ := NRow.get (NRow.below hb1 hbB Hr.out) ha
      have c0 : wr.cell? ⟨b1, o1 + k * 1, none⟩ = some (.string a) := ca 0 _ rfl
      rw [Nat.mul_one] at c0
      have g1 : b1 < wr.heap.size := by omega
      have hmr := Hm.out.below hbel
      have C := Lib.hid (isNoStep_calls a hsa wr hmr)
      have Ha := Lib.hid ha
      generalize hp : (!stepB a) = pa at *
      have Hp := Lib.hid hp
      clear ha ca hin hmr hp
      go_wp2_with fail
      refine C.out.mono ?_
      rintro e w2 ⟨rfl, b2⟩
      have b3 := hbel.trans (b2.mono (by omega))
      clear b2 c0
      cases pa
      · have HK2 : Hid (∀ (j : Nat) x, j < k + 1 → l[j]? = some x → (!stepB x) = false) := Lib.hid fun j x hj hx => by
          by_cases e : j = k
          · subst e
            rw [Ha.out] at hx
            cases hx
            exact Hp.out
          · exact HK.out j x (by omega) hx
        go_wp2
        go_roundw
        case rel => exact ⟨k + 1, by omega, by go_num, b3, HK2⟩
        case measure => simp [intOf]; omega
      · have hres := Lib.hid (any_yes (p := fun s => (!stepB s)) Ha.out Hp.out)
        go_wp2
        go_ret
        exact ⟨⟨k, rfl, by rw [hres.out]; simp⟩, b3⟩
    · obtain rfl : k = n := by omega
      have hres := Lib.hid (any_no (p := fun s => (!stepB s)) fun j x hx => HK.out j x (by rw [Hx.out]; exact (List.getElem?_eq_some_iff.1 hx).1) hx)
      go_wp2
      go_ret
      exact ⟨⟨-1, rfl, by rw [hres.out]; simp⟩, hbel⟩
set_option maxHeartbeats 1000000 in
theorem containsNoStep_calls (B : Nat) (l : List ByteArray) (b1 o1 : Nat) (v1 : Value) (w : World) (hB : B ≤ w.heap.size) (hm : MaxOk w) (s1 : SlV B v1 l.length b1 o1) (r1 : NRow w b1 o1 l) :
    Calls Tryz.prog 162 #[v1, .func (.func 163) #[] #[]] w fun e w' => e = .returned (.bool (l.any (fun s => (!stepB s)))) ∧ Below w.heap.size w w' := by
  have C := Lib.hid (indexNoStep_calls B l b1 o1 v1 w hB hm s1 r1)
  obtain ⟨ao1, cap1, rfl⟩ := s1.shape
  generalize l.any (fun s => (!stepB s)) = res at *
  clear r1 s1 hm
  go_enter Tryz.func162, Tryz.ntmps162
  go_wp2_with fail
  refine C.out.mono ?_
  rintro e w2 ⟨⟨r, rfl, hr⟩, b2⟩
  go_wp2
  go_ret
  exact ⟨ret_bool (by rw [← hr]), b2⟩

set_option maxHeartbeats 2000000 in
theorem indexNotFit_calls (B : Nat) (l : List ByteArray) (b1 o1 : Nat) (v1 : Value) (g : Nat) (w : World) (hB : B ≤ w.heap.size) (hm : MaxOk w) (s1 : SlV B v1 l.length b1 o1) (r1 : NRow w b1 o1 l) (hg : w.cell? ⟨g, 0, none⟩ = some (.int .u8 1)) :
    Calls Tryz.prog 189 #[v1, .func (.func 256) #[] #[.pointer (some ⟨g, 0, none⟩)]] w fun e w' => (∃ r : Int, e = .returned (.int .i64 r) ∧ decide (0 ≤ r) = l.any (fun s => (!nmB s))) ∧ Below w.heap.size w w' := by
  obtain ⟨m1, ao1, cap1, rfl, h1⟩ := s1
  unfold maxLen at m1
  obtain ⟨n, hx⟩ : ∃ n, n = l.length := ⟨_, rfl⟩
  rw [← hx] at m1 h1 ⊢
  have Hx := Lib.hid hx
  have Hr := Lib.hid r1
  have H1 := Lib.hid h1
  have Hm := Lib.hid hm
  clear hx r1 h1 hm
  have hE : ∀ args w, (callFunc 256 args).run Tryz.prog w = .ok (.enter 256 args) w := enters_of Tryz.func256 (by kernel_rfl) rfl
  go_enter Tryz.func189, Tryz.ntmps189
  go_wp2_with fail
  go_loopw [8] (fun i wr => ∃ k : Nat, k ≤ n ∧ i = .int .i64 k ∧ Below w.heap.size w wr ∧ Hid (∀ (j : Nat) x, j < k → l[j]? = some x → (!nmB x) = false))
    (fun i _ => n - (intOf i).toNat)
  case atStart => exact ⟨0, by omega, rfl, Below.refl _ _, Lib.hid fun j x hj => by omega⟩
  case round =>
    obtain ⟨k, hk, rfl, hbel, HK⟩ := hrel
    have hsz := hbel.size
    have hbB := hbel.mono hB
    by_cases hlt : k < n
    · obtain ⟨a, ha, hin⟩ := get_at (l := l) (k := k) (by rw [← Hx.out]; exact hlt)
      obtain ⟨rfl, hb1⟩ := H1.out.resolve_left (by omega)
      obtain ⟨hsa, ca⟩ := NRow.get (NRow.below hb1 hbB Hr.out) ha
      have c0 : wr.cell? ⟨b1, o1 + k * 1, none⟩ = some (.string a) := ca 0 _ rfl
      rw [Nat.mul_one] at c0
      have g1 : b1 < wr.heap.size := by omega
      have hmr := Hm.out.below hbel
      have hgr : wr.cell? ⟨g, 0, none⟩ = some (.int .u8 1) := (hbel.cell (p := ⟨g, 0, none⟩) (World.block_lt_of_cell? _ _ hg)).trans hg
      have C := Lib.hid (notFit_calls a hsa g wr hmr hgr)
      have Ha := Lib.hid ha
      generalize hp : (!nmB a) = pa at *
      have Hp := Lib.hid hp
      clear ha ca hin hmr hp
      go_wp2_with fail
      refine C.out.mono ?_
      rintro e w2 ⟨rfl, b2⟩
      have b3 := hbel.trans (b2.mono (by omega))
      clear b2 c0
      cases pa
      · have HK2 : Hid (∀ (j : Nat) x, j < k + 1 → l[j]? = some x → (!nmB x) = false) := Lib.hid fun j x hj hx => by
          by_cases e : j = k
          · subst e
            rw [Ha.out] at hx
            cases hx
            exact Hp.out
          · exact HK.out j x (by omega) hx
        go_wp2
        go_roundw
        case rel => exact ⟨k + 1, by omega, by go_num, b3, HK2⟩
        case measure => simp [intOf]; omega
      · have hres := Lib.hid (any_yes (p := fun s => (!nmB s)) Ha.out Hp.out)
        go_wp2
        go_ret
        exact ⟨⟨k, rfl, by rw [hres.out]; simp⟩, b3⟩
    · obtain rfl : k = n := by omega
      have hres := Lib.hid (any_no (p := fun s => (!nmB s)) fun j x hx => HK.out j x (by rw [Hx.out]; exact (List.getElem?_eq_some_iff.1 hx).1) hx)
      go_wp2
      go_ret
      exact ⟨⟨-1, rfl, by rw [hres.out]; simp⟩, hbel⟩
set_option maxHeartbeats 1000000 in
theorem containsNotFit_calls (B : Nat) (l : List ByteArray) (b1 o1 : Nat) (v1 : Value) (g : Nat) (w : World) (hB : B ≤ w.heap.size) (hm : MaxOk w) (s1 : SlV B v1 l.length b1 o1) (r1 : NRow w b1 o1 l) (hg : w.cell? ⟨g, 0, none⟩ = some (.int .u8 1)) :
    Calls Tryz.prog 162 #[v1, .func (.func 256) #[] #[.pointer (some ⟨g, 0, none⟩)]] w fun e w' => e = .returned (.bool (l.any (fun s => (!nmB s)))) ∧ Below w.heap.size w w' := by
  have C := Lib.hid (indexNotFit_calls B l b1 o1 v1 g w hB hm s1 r1 hg)
  obtain ⟨ao1, cap1, rfl⟩ := s1.shape
  generalize l.any (fun s => (!nmB s)) = res at *
  clear r1 s1 hm
  go_enter Tryz.func162, Tryz.ntmps162
  go_wp2_with fail
  refine C.out.mono ?_
  rintro e w2 ⟨⟨r, rfl, hr⟩, b2⟩
  go_wp2
  go_ret
  exact ⟨ret_bool (by rw [← hr]), b2⟩

theorem not_any (l : List ByteArray) (p : ByteArray → Bool) : (!(l.any fun s => !p s)) = l.all p := by
  induction l with
  | nil => rfl
  | cons a l ih => simp [List.any_cons, List.all_cons, ← ih, Bool.not_or]
set_option maxHeartbeats 1000000 in
theorem isPlace_calls (B : Nat) (x : PP) (v : Value) (w : World) (hB : B ≤ w.heap.size) (hm : MaxOk w) (hx : x.In B w v) :
    Calls Tryz.prog 108 #[.agg #[.string x.name, v]] w fun e w' => e = .returned (.bool (plB x)) ∧ Below w.heap.size w w' := by
  obtain ⟨nm, pa⟩ := x
  obtain ⟨hs, b, o, s1, r1⟩ := hx
  obtain ⟨ao, cap, rfl⟩ := s1.shape
  have C2 : Hid (∀ w, MaxOk w → Calls Tryz.prog 161 #[.int .u8 1, .string nm] w fun e w' => e = .returned (.bool (nmB nm)) ∧ Below w.heap.size w w') := Lib.hid fun w h => textFits_calls 1 (by omega) nm hs w h
  have D : Hid (∀ w', MaxOk w' → w.heap.size ≤ w'.heap.size → Below w.heap.size w w' → Calls Tryz.prog 162 #[.slice ao pa.length cap, .func (.func 163) #[] #[]] w' fun e w'' => e = .returned (.bool (pa.any (fun s => (!stepB s)))) ∧ Below w'.heap.size w' w'') :=
    Lib.hid fun w' h hw hb => containsNoStep_calls B pa b o _ w' (by omega) h s1 (by
      cases pa with
      | nil => trivial
      | cons a l => exact NRow.below (s1.lt (by simp)) (hb.mono hB) r1)
  have hres : plB ⟨nm, pa⟩ = (nmB nm && (decide (pa.length ≤ 40) && !(pa.any (fun s => !stepB s)))) := by rw [not_any]; rfl
  rw [hres]
  clear hres r1 s1
  generalize pa.any (fun s => !stepB s) = q at *
  generalize nmB nm = nb at *
  go_enter Tryz.func108, Tryz.ntmps108
  go_wp2_with fail
  refine (C2.out _ (hm.alloc _)).mono ?_; rintro e w1 ⟨rfl, b1⟩
  have hz1 : w.heap.size < w1.heap.size := by have := b1.size; simp at this; omega
  have bel1 := up_tr ((Below.refl _ w).alloc (Nat.le_refl _) _) b1
  have hm1 := hm.below bel1
  have hc1 := old_cells b1
  clear b1
  by_cases hl : pa.length ≤ 40
  · cases nb
    · go_wp2_with fail
      go_ret
      exact ⟨ret_bool (by simp), bel1⟩
    · go_wp2_with fail
      refine (D.out _ hm1 (by omega) bel1).mono ?_; rintro e w2 ⟨rfl, b2⟩
      have bel2 := up_tr bel1 b2
      go_wp2
      go_ret
      exact ⟨ret_bool (by simp [hl]), bel2⟩
  · cases nb
    · go_wp2_with fail
      go_ret
      exact ⟨ret_bool (by simp), bel1⟩
    · go_wp2_with fail
      go_ret
      exact ⟨ret_bool (by simp), bel1⟩
end Go.Proofs.YthilicmhdkmipaaGreatDoor
/- The parts that a type has: (typed).has hands them out, one after the other. -/
namespace Go.Proofs.YthilicmhdkmipaaGreatDoor
open Go.RowKit Go.Shelf
set_option linter.unusedVariables false
attribute [local go_sem] Oper.semAt_some

/-- the row of pointers to things of a width, as parts of one make -/
def ptrs (T : TypeId) (b o wd st : Nat) (n : Nat) : List Value := (List.range n).map fun k => .iface T (.agg #[.pointer (some ⟨b, o + k * wd, none⟩), .int .u8 st])
theorem ptrs_get {T : TypeId} {b o wd st n k : Nat} (h : k < n) : (ptrs T b o wd st n)[k]? = some (.iface T (.agg #[.pointer (some ⟨b, o + k * wd, none⟩), .int .u8 st])) := by
  simp [ptrs, h]
theorem ptrs_len (T : TypeId) (b o wd st n : Nat) : (ptrs T b o wd st n).length = n := by simp [ptrs]
set_option maxHeartbeats 2000000 in
theorem typedHas_hands (B lo : Nat) (t : PT) (st b o : Nat) (v : Value) (w : World) (hB : B ≤ lo) (hlo : lo ≤ w.heap.size) (hb : b < lo) (hc : CellsAt w b o (t.cells v)) (ht : t.In B w v) (b1 o1 : Nat) (s1 : SlV B v t.args.length b1 o1) :
    Hands Tryz.prog lo 245 (.agg #[.pointer (some ⟨b, o, none⟩), .int .u8 st]) (ptrs 155 b1 o1 3 0 t.args.length) w := by
  intro m l J Jx hJ hJx hR h0
  obtain ⟨k0, nm, xs⟩ := t
  obtain ⟨m1, ao, cap, rfl, h1⟩ := s1
  unfold maxLen at m1
  simp only [PT.args] at *
  obtain ⟨n, hn⟩ : ∃ n, n = xs.length := ⟨_, rfl⟩
  rw [← hn] at m1 h1 hR ⊢
  have c2 : w.cell? ⟨b, o + 2, none⟩ = some (.slice ao n cap) := by rw [hn]; exact hc 2 _ rfl
  rw [ptrs_len]
  have hbw : b < w.heap.size := by omega
  have HJ := Lib.hid hJ
  have HJx := Lib.hid hJx
  have HR := Lib.hid hR
  have H1 := Lib.hid h1
  clear hJ hJx hR h1 hc ht
  refine callsIn_of_wp Tryz.func245 rfl trivial ?_ rfl
  simp only [Tryz.ntmps245, List.size_toArray, List.length_cons, List.length_nil, Nat.reduceAdd, Nat.reduceSub, Array.replicate_succ, Array.replicate_zero, List.push_toArray, List.append_toArray, List.nil_append, List.cons_append]
  gi_wp2
  gi_loopw [11] (fun i wr => ∃ k : Nat, k ≤ n ∧ i = .int .i64 k ∧ w.heap.size < wr.heap.size ∧ wr.cell? ⟨b, o + 2, none⟩ = some (.slice ao n cap) ∧ wr.cell? ⟨w.heap.size, 0, none⟩ = some (.pointer (some ⟨b, o, none⟩)) ∧ Hid (J k wr))
    (fun i _ => n - (intOf i).toNat)
  case atStart => exact ⟨0, by omega, rfl, by simp, by go_simp, by go_simp, Lib.hid (HJ.out _ _ _ h0 ((Below.refl _ w).alloc (Nat.le_refl _) _))⟩
  case round =>
    obtain ⟨k, hk, rfl, hsz, hc2, hcb, HK⟩ := hrel
    by_cases hlt : k < n
    · obtain ⟨rfl, hb1⟩ := H1.out.resolve_left (by omega)
      have g : b < wr.heap.size := by omega
      obtain ⟨fn, tmps, assign, body, hy0, hRd⟩ := HR.out k _ wr (ptrs_get hlt) (by omega) HK.out
      have hy : (Instr.yield l #[.iface 155 (.agg #[.pointer (some ⟨b1, o1 + k * 3, none⟩), .int .u8 0])]).run Tryz.prog wr = .ok (.round l fn tmps assign body) wr := hy0
      clear hy0
      gi_wp2
      refine ⟨fun h => (by simp [Fence.wide] at h), (RoundIn.anyDepth hRd).mono ?_⟩
      rintro e W' (⟨rfl, hj, hkp⟩ | ⟨rfl, hjx, _⟩)
      · have d2 := (hkp.cell (p := ⟨b, o + 2, none⟩) g (.inl hb)).trans hc2
        have db := (hkp.cell (p := ⟨w.heap.size, 0, none⟩) hsz (.inr (Nat.le_refl _))).trans hcb
        have hsz2 : w.heap.size < W'.heap.size := by have := hkp.size; omega
        have HK2 := Lib.hid hj
        clear hRd hy hc2 hcb hkp hj
        gi_wp2
        go_roundw
        case rel => exact ⟨k + 1, by omega, by go_num, hsz2, d2, db, HK2⟩
        case measure => simp [intOf]; omega
      · gi_wp2
        refine bodyPost_ret (results_none rfl _ _ _) rfl ?_
        exact ⟨⟨_, rfl⟩, .inr ⟨k, hlt, hjx⟩⟩
    · obtain rfl : k = n := by omega
      gi_wp2
      go_end0
      exact ⟨⟨_, rfl⟩, .inl HK.out⟩
end Go.Proofs.YthilicmhdkmipaaGreatDoor
/- The parts that an expression has: yieldExprs, (expression).has hand them out. -/
namespace Go.Proofs.YthilicmhdkmipaaGreatDoor
open Go.RowKit Go.Shelf
set_option linter.unusedVariables false
attribute [local go_sem] Oper.semAt_some

set_option maxHeartbeats 2000000 in
theorem yieldExprs_calls (B lo hi : Nat) (xs : List PE) (st b1 o1 : Nat) (v1 : Value) (w : World) (hB : B ≤ lo) (hlo : lo ≤ hi) (hhi : hi ≤ w.heap.size) (s1 : SlV B v1 xs.length b1 o1) (m l : Nat) (J Jx : Nat → World → Prop)
    (hJ : Ext J) (hR : Rounds Tryz.prog m l lo hi (ptrs 160 b1 o1 8 st xs.length) J Jx) (h0 : J 0 w) :
    CallsIn Fence.wide m Tryz.prog 251 #[v1, .int .u8 st, .func (.yield l) #[] #[]] w fun e W' =>
      (e = .returned (.bool true) ∧ J xs.length W' ∧ Keeps lo hi w W') ∨ (e = .returned (.bool false) ∧ (∃ k, k < xs.length ∧ Jx k W') ∧ Keeps lo hi w W') := by
  obtain ⟨m1, ao, cap, rfl, h1⟩ := s1
  unfold maxLen at m1
  obtain ⟨n, hn⟩ : ∃ n, n = xs.length := ⟨_, rfl⟩
  rw [← hn] at m1 h1 hR ⊢
  have HJ := Lib.hid hJ
  have HR := Lib.hid hR
  have H1 := Lib.hid h1
  clear hJ hR h1 hn
  refine callsIn_of_wp Tryz.func251 rfl trivial ?_ rfl
  simp only [Tryz.ntmps251, List.size_toArray, List.length_cons, List.length_nil, Nat.reduceAdd, Nat.reduceSub, Array.replicate_succ, Array.replicate_zero, List.push_toArray, List.append_toArray, List.nil_append, List.cons_append]
  gi_wp2
  gi_loopw [10] (fun i wr => ∃ k : Nat, k ≤ n ∧ i = .int .i64 k ∧ Hid (J k wr) ∧ Hid (Keeps lo hi w wr))
    (fun i _ => n - (intOf i).toNat)
  case atStart => exact ⟨0, by omega, rfl, Lib.hid h0, Lib.hid (Keeps.refl _ _ _)⟩
  case round =>
    obtain ⟨k, hk, rfl, HK, HW⟩ := hrel
    by_cases hlt : k < n
    · obtain ⟨rfl, hb1⟩ := H1.out.resolve_left (by omega)
      have hsz := HW.out.size
      obtain ⟨fn, tmps, assign, body, hy0, hRd⟩ := HR.out k _ wr (ptrs_get hlt) (by omega) HK.out
      have hy : (Instr.yield l #[.iface 160 (.agg #[.pointer (some ⟨b1, o1 + k * 8, none⟩), .int .u8 st])]).run Tryz.prog wr = .ok (.round l fn tmps assign body) wr := hy0
      clear hy0
      gi_wp2
      refine ⟨fun h => (by simp [Fence.wide] at h), (RoundIn.anyDepth hRd).mono ?_⟩
      rintro e W' (⟨rfl, hj, hkp⟩ | ⟨rfl, hjx, hkp⟩)
      · have HK2 := Lib.hid hj
        have HW2 := Lib.hid (HW.out.trans hkp)
        clear hRd hy hkp hj
        gi_wp2
        go_roundw
        case rel => exact ⟨k + 1, by omega, by go_num, HK2, HW2⟩
        case measure => simp [intOf]; omega
      · gi_wp2
        go_ret
        exact .inr ⟨rfl, ⟨k, hlt, hjx⟩, HW.out.trans hkp⟩
    · obtain rfl : k = n := by omega
      gi_wp2
      go_ret
      exact .inl ⟨rfl, HK.out, HW.out⟩
set_option maxHeartbeats 1000000 in
theorem inArgs_calls (e : PE) (st b o : Nat) (v : VE) (w : World) (hst : st ≤ 3) (hb : b < w.heap.size) (hc : CellsAt w b o (e.cells v)) :
    Calls Tryz.prog 252 #[.agg #[.pointer (some ⟨b, o, none⟩), .int .u8 st]] w fun r w' => r = .returned (.int .u8 (inArgs e st : Nat)) ∧ Below w.heap.size w w' := by
  have c0 : w.cell? ⟨b, o, none⟩ = some (.int .u8 e.op) := hc 0 _ rfl
  unfold inArgs
  by_cases h3 : st = 3
  · subst h3
    show Calls Tryz.prog 252 #[.agg #[.pointer (some ⟨b, o, none⟩), .int .u8 3]] w _
    rw [if_pos rfl]
    go_enter Tryz.func252, Tryz.ntmps252
    go_wp2
    go_ret
    exact ⟨rfl, (Below.refl _ w).alloc (Nat.le_refl _) _⟩
  · rw [if_neg h3]
    have n3 : ((st : Int) == 3) = false := beq_eq_false_iff_ne.2 (by omega)
    by_cases h18 : e.op = 18
    · rw [if_pos h18]
      rw [h18] at c0
      go_enter Tryz.func252, Tryz.ntmps252
      go_wp2
      go_ret
      exact ⟨rfl, (Below.refl _ w).alloc (Nat.le_refl _) _⟩
    · rw [if_neg h18]
      have n18 : (e.op == 18) = false := beq_eq_false_iff_ne.2 h18
      go_enter Tryz.func252, Tryz.ntmps252
      go_wp2
      go_ret
      exact ⟨rfl, (Below.refl _ w).alloc (Nat.le_refl _) _⟩
theorem mixed : Tryz.prog.follows .mixedOrders = true := by kernel_rfl
set_option maxHeartbeats 4000000 in
theorem exprHas_hands (B lo : Nat) (e : PE) (st b o : Nat) (v : VE) (w : World) (hB : B ≤ lo) (hlo : lo ≤ w.heap.size) (hb : b < lo) (hst : st ≤ 3) (hc : CellsAt w b o (e.cells v)) (he : e.In B w v) (b1 o1 : Nat) (s1 : SlV B v.args e.args.length b1 o1) :
    Hands Tryz.prog lo 248 (.agg #[.pointer (some ⟨b, o, none⟩), .int .u8 st]) (ptrs 160 b1 o1 8 (inArgs e st) e.args.length) w := by
  intro m l J Jx hJ hJx hR h0
  rw [ptrs_len]
  have hbw : b < w.heap.size := by omega
  have C : Hid (∀ w', Below w.heap.size w w' → Calls Tryz.prog 252 #[.agg #[.pointer (some ⟨b, o, none⟩), .int .u8 st]] w' fun r w'' => r = .returned (.int .u8 (inArgs e st : Nat)) ∧ Below w'.heap.size w' w'') :=
    Lib.hid fun w' hw => inArgs_calls e st b o v w' hst (by have := hw.size; omega) (hc.below hbw hw)
  have D : Hid (∀ w', Below w.heap.size w w' → CallsIn Fence.wide (m - 1) Tryz.prog 251 #[v.args, .int .u8 (inArgs e st : Nat), .func (.yield l) #[] #[]] w' fun r W' => ∃ q : Bool, r = .returned (.bool q) ∧ (J e.args.length W' ∨ ∃ k, k < e.args.length ∧ Jx k W')) :=
    Lib.hid fun w' hw => (yieldExprs_calls B lo w.heap.size e.args (inArgs e st) b1 o1 v.args w' hB hlo hw.size s1 (m - 1) l J Jx hJ (hR.any _) (hJ _ _ _ h0 hw)).mono
      fun r W' h => h.elim (fun ⟨a, b, _⟩ => ⟨true, a, .inl b⟩) (fun ⟨a, b, _⟩ => ⟨false, a, .inr b⟩)
  obtain ⟨ao, cap, hv⟩ := s1.shape
  have c6 : w.cell? ⟨b, o + 6, none⟩ = some v.args := hc 6 _ rfl
  rw [hv] at c6
  rw [hv] at D
  generalize inArgs e st = q at *
  clear hR hJ hJx hc he s1 hv
  have hmix := mixed
  refine callsIn_of_wp Tryz.func248 rfl trivial ?_ rfl
  simp only [Tryz.ntmps248, List.size_toArray, List.length_cons, List.length_nil, Nat.reduceAdd, Nat.reduceSub, Array.replicate_succ, Array.replicate_zero, List.push_toArray, List.append_toArray, List.nil_append, List.cons_append]
  gi_wp2
  gi_region_with_o (first
    | ((try refine ⟨trivial, ?_⟩); (try refine ⟨fun h => (by simp [Fence.wide] at h), ?_⟩)
       gi_at_call 252
       have x0 : Below w.heap.size w _ := (((Below.refl _ w).alloc (Nat.le_refl _) (.cells #[.pointer (some ⟨b, o, none⟩), .int .u8 st] 160))).drew
       refine (callsIn_wide.2 (C.out _ x0)).mono ?_
       rintro r w1 ⟨rfl, b1⟩
       have x1 := up_tr x0 b1
       have hc1 := old_cells b1
       clear b1 x0)
    | ((try refine ⟨trivial, ?_⟩); (try refine ⟨fun h => (by simp [Fence.wide] at h), ?_⟩)
       gi_at_call 251
       refine (D.out _ x1).mono ?_
       rintro r w2 ⟨q', rfl, hj⟩))
  all_goals gi_wp2
  all_goals go_end0
  all_goals exact ⟨⟨_, rfl⟩, hj⟩
end Go.Proofs.YthilicmhdkmipaaGreatDoor
