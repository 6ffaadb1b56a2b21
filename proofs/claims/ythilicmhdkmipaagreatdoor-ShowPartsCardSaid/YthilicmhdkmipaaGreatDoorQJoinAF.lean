/- The frame of a law whose row lists variables and whose walk needs the shape of the world as well. -/
import Derived.Test.YthilicmhdkmipaaGreatDoorQJoinAA
import Derived.Handed
import Derived.Stop.Joined
import Derived.Shelf.Vars
import Derived.Test.YthilicmhdkmipaaGreatDoorQLexKind
import Derived.Test.YthilicmhdkmipaaGreatDoorQJoinAX
namespace Go.Proofs.YthilicmhdkmipaaGreatDoor
open Go.RowKit
set_option linter.unusedVariables false

/-- a world of the right shape: the variable of how long a text is searched at once holds some number -/
theorem max_of {W : World} (hsh : W.ShapedOpen Tryz.prog) : MaxOk W :=
  cell_of_shapedOpen_int (zero := #[.int .i64 0]) (t := 3) hsh (of_decide_eq_true (by kernel_rfl)) (by kernel_rfl) rfl (by kernel_rfl) (by kernel_rfl) Tryz.underlying3

theorem handed_shaped {H : Type} {enc : TypeId × Value → H} {C : _root_.Go.Checked} {os : Os} {f : FuncId} {fn : Func} {s : ChangeSpec} {conds : List PathCond} {laid : List (String × DataW Unit)}
    (own : ownKnob C.prog.godebug = none) (started : os.Started) (noInit : C.prog.inits.idxOf? f = none) (hfn : C.prog.funcs[f]? = some fn)
    (witness : ∃ (w : World) (tape : Tape) (i : Input), w.os = os ∧ (w.forCall tape i).Shaped C.prog ∧ i.vars = [] ∧ Input.okWide C.prog (w.forCall tape i) .any w.heap.size f i ∧
      ((s.pre enc C.prog fn conds false (w.forCall tape i).memory i.args ∧ laidMetH C.prog laid (w.forCall tape i).memory) ∧ sizedMet enc C.prog fn (OpenSpec.ofChange s) false (w.forCall tape i).memory i.args) ∧ Assume.holds {} C.prog (lone (Frame.enter C.prog f i.args .normal) [] (w.forCall tape i)))
    (walk : ∀ (W : World) (base : Nat) (args : Array Value) (ds gs : List (DataW H)) (before : List MemPlace),
      (∀ (j : Nat) t v, fn.params[j]? = some t → args[j]? = some v → Value.okWide C.prog W .any base t v) →
      DataW.Whole enc C.prog fn.params.toList s.vars false W args.toList ds gs before →
      conds.all (PathCond.test C.prog ⟨fn.params.toList, ds, s.plain.varTypes C.prog, gs⟩) = true →
      (DataW.weightsEach C.prog (fn.params.toList ++ s.plain.varTypes C.prog) (ds ++ gs)).all (· ≤ reachBytes) = true → laidMetH C.prog laid W → W.ShapedOpen C.prog →
      Assume.holds {} C.prog (lone (Frame.enter C.prog f args .normal) [] W) →
      Calls C.prog f args W fun e W' => ∃ v, e = .returned v ∧ s.post enc C.prog fn false true false false W args v W') :
    ReturnsInHanded {} C os f .any (fun w args => (s.pre enc C.prog fn conds false w args ∧ laidMetH C.prog laid w) ∧ sizedMet enc C.prog fn (OpenSpec.ofChange s) false w args) (s.post enc C.prog fn false true false false) := by
  refine returnsInHanded_of_calls own started noInit witness ?_
  rintro w tape i _ hsh _ ⟨_, _, _, fn', hfn', _, _, _, _, hval⟩ ⟨⟨⟨ds, gs, before, hw, hc⟩, hx⟩, hz⟩ hholds
  obtain rfl : fn' = fn := Option.some.inj (hfn'.symm.trans hfn)
  refine (walk (w.forCall tape i) w.heap.size i.args ds gs before hval (DataW.Whole.of_heap (w' := w.forCall tape i) (by rfl) hw) hc (hz.weights hw) ((show laidMetH C.prog laid _ from hx).of_heap (by rfl)) hsh hholds).mono ?_
  rintro e W' ⟨v, rfl, hp⟩
  exact ChangeSpec.post_blind hp
end Go.Proofs.YthilicmhdkmipaaGreatDoor
/- Contracts of package lex, sixth part: Word, Name, Type. -/
namespace Go.Proofs.YthilicmhdkmipaaGreatDoor
open Go.RowKit
set_option linter.unusedVariables false

theorem kind_is (n k : Nat) : ((n : Int) == (k : Int)) = decide (n = k) := by
  rw [Bool.eq_iff_iff, beq_iff_eq, decide_eq_true_eq]; omega

set_option maxHeartbeats 400000 in
theorem name_says (s : ByteArray) (hs : s.size ≤ maxLen) (w : World) (hmax : MaxOk w) :
    Calls Tryz.prog 187 #[.string s] w fun e w' => e = .returned (.bool (decide (kindL s.data.toList = 2))) ∧ Below w.heap.size w w' := by
  have H := fun w => kindOf_calls s hs w
  have D := Lib.hid fun w h => isWord_calls s hs w h
  generalize wordsL.contains s.data.toList = c at *
  generalize kindL s.data.toList = n at *
  have C := Lib.hid H
  clear H
  go_enter Tryz.func187, Tryz.ntmps187
  go_wp2_with fail
  refine (D.out _ hmax).mono ?_; rintro e w1 ⟨rfl, rfl⟩
  go_wp2_with fail
  refine (C.out _).mono ?_; rintro e w2 ⟨rfl, b2⟩
  go_wp2
  go_ret
  exact ⟨ret_bool (kind_is n 2), b2⟩

set_option maxHeartbeats 400000 in
theorem type_says (s : ByteArray) (hs : s.size ≤ maxLen) (w : World) (hmax : MaxOk w) :
    Calls Tryz.prog 188 #[.string s] w fun e w' => e = .returned (.bool (decide (kindL s.data.toList = 3))) ∧ Below w.heap.size w w' := by
  have H := fun w => kindOf_calls s hs w
  have D := Lib.hid fun w h => isWord_calls s hs w h
  generalize wordsL.contains s.data.toList = c at *
  generalize kindL s.data.toList = n at *
  have C := Lib.hid H
  clear H
  go_enter Tryz.func188, Tryz.ntmps188
  go_wp2_with fail
  refine (D.out _ hmax).mono ?_; rintro e w1 ⟨rfl, rfl⟩
  go_wp2_with fail
  refine (C.out _).mono ?_; rintro e w2 ⟨rfl, b2⟩
  go_wp2
  go_ret
  exact ⟨ret_bool (kind_is n 3), b2⟩
end Go.Proofs.YthilicmhdkmipaaGreatDoor
/- What the document's own answers of layer 2 (weftwayref02) come to, first part: Word, part, named. -/
namespace Go.Proofs.YthilicmhdkmipaaGreatDoor
open Go.RowKit
set_option linter.unusedVariables false

/-- a row of strings that the call itself has laid -/
def Row (w W : World) (L : List (List UInt8)) : Prop := Hid (∀ k, k < L.length → W.cell? ⟨w.heap.size, k, none⟩ = some (.string (bs (L.getD k [])))) ∧ Below w.heap.size w W
theorem row_laid (w : World) (L : List (List UInt8)) : Row w (w.alloc (.cells (L.map fun l => Value.string (bs l)).toArray 9)) L := by
  refine ⟨Lib.hid fun k hk => ?_, (Below.refl _ _).alloc (Nat.le_refl _) _⟩
  rw [World.cell?_alloc_at (hn := rfl)]
  simp [List.getD, hk]
theorem is_word {l t : List UInt8} {k : Nat} {L : List (List UInt8)} (hk : k < L.length) (ht : t = L.getD k []) (h : (t == l) = true) : L.contains l = true := by
  rw [beq_iff_eq] at h
  subst h
  rw [ht, List.contains_iff_mem]
  simp [List.getD, hk]
theorem no_word {l t : List UInt8} {k : Nat} {L : List (List UInt8)} (hk : k < L.length) (ht : t = L.getD k []) (h0 : (L.take k).contains l = false) (h : (t == l) = false) : (L.take (k + 1)).contains l = false := by
  have e : L.take (k + 1) = L.take k ++ [L.getD k []] := by
    rw [List.take_succ_eq_append_getElem hk]
    congr 2
    simp [List.getD, hk]
  rw [e, List.contains_append, h0, ← ht, List.contains_cons, List.contains_nil, Bool.false_or, Bool.or_false]
  rw [beq_eq_false_iff_ne] at h ⊢
  exact fun e => h e.symm

set_option maxRecDepth 100000 in
set_option maxHeartbeats 1000000 in
theorem refWord_calls (s : ByteArray) (hs : s.size ≤ maxLen) (w : World) :
    Calls Tryz.prog 154 #[.string s] w fun e w' => e = .returned (.bool (wordsL.contains s.data.toList)) ∧ Below w.heap.size w w' := by
  generalize hX : wordsL.contains s.data.toList = X
  have HX := Lib.hid hX
  clear hX
  go_enter Tryz.func154, Tryz.ntmps154
  go_wp2_with fail
  have R := row_laid w wordsL
  show Code.wp _ _ _ _ (w.alloc (.cells (wordsL.map fun l => Value.string (bs l)).toArray 9))
  generalize w.alloc (.cells (wordsL.map fun l => Value.string (bs l)).toArray 9) = W at *
  obtain ⟨R1, R2⟩ := R
  go_loop [4] (fun i => ∃ k : Nat, k ≤ 47 ∧ i = .int .i64 k ∧ Hid ((wordsL.take k).contains s.data.toList = false)) (fun i => 47 - (intOf i).toNat)
  case atStart => exact ⟨0, by omega, rfl, Lib.hid (by simp)⟩
  case round =>
    obtain ⟨k, hk, rfl, ha⟩ := hrel
    by_cases hlt : k < 47
    · have hk2 : k < wordsL.length := by rw [words_len]; exact hlt
      have hcx := R1.out k hk2
      obtain ⟨t, ht⟩ : ∃ t, t = bs (wordsL.getD k []) := ⟨_, rfl⟩
      rw [← ht] at hcx
      have htl : t.data.toList = wordsL.getD k [] := by rw [ht]; rfl
      have Ht := Lib.hid htl
      have HK := Lib.hid hk2
      clear ht htl hk2
      cases he : (t.toList == s.toList)
      · have Hn := Lib.hid (show (t.data.toList == s.data.toList) = false by rw [← ByteArray.toList_eq, ← ByteArray.toList_eq]; exact he)
        go_wp2
        go_round
        case rel => exact ⟨k + 1, by omega, by go_num, Lib.hid (no_word HK.out Ht.out ha.out Hn.out)⟩
        case measure => simp [intOf]; omega
      · have Hn := Lib.hid (show (t.data.toList == s.data.toList) = true by rw [← ByteArray.toList_eq, ← ByteArray.toList_eq]; exact he)
        go_wp2
        go_ret
        exact ⟨ret_bool ((is_word HK.out Ht.out Hn.out).symm.trans HX.out), R2⟩
    · obtain rfl : k = 47 := by omega
      go_wp2
      go_ret
      exact ⟨ret_bool (by have := ha.out; rw [List.take_of_length_le (by rw [words_len]; exact Nat.le_refl _)] at this; exact this.symm.trans HX.out), R2⟩

set_option maxHeartbeats 1000000 in
theorem refPart_calls (c : UInt8) (w : World) :
    Calls Tryz.prog 155 #[.int .u8 (c.toNat : Int)] w fun e w' => e = .returned (.bool (nameB c)) ∧ w = w' := by
  have hb := (c.toNat_lt : c.toNat < 256)
  have h4 := byte95 c
  unfold nameB
  rcases (show (97 ≤ c.toNat ∧ c.toNat ≤ 122) ∨ (65 ≤ c.toNat ∧ c.toNat ≤ 90) ∨ (48 ≤ c.toNat ∧ c.toNat ≤ 57) ∨ (c.toNat < 48 ∨ (57 < c.toNat ∧ c.toNat < 65) ∨ (90 < c.toNat ∧ c.toNat < 97) ∨ 122 < c.toNat) by omega) with h | h | h | h
  · rw [(smallB_iff c).2 h]
    have e1 : (97 : Int) ≤ (c.toNat : Int) := by omega
    have e2 : (c.toNat : Int) ≤ 122 := by omega
    clear h hb
    go_enter Tryz.func155, Tryz.ntmps155
    go_wp2; go_ret; exact ⟨ret_bool (by simp), rfl⟩
  · rw [smallB_no (by omega), (greatB_iff c).2 h]
    have e1 : (65 : Int) ≤ (c.toNat : Int) := by omega
    have e2 : (c.toNat : Int) ≤ 90 := by omega
    clear h hb
    go_enter Tryz.func155, Tryz.ntmps155
    go_wp2; go_ret; exact ⟨ret_bool (by simp), rfl⟩
  · rw [smallB_no (by omega), greatB_no (by omega), (dgt_iff c).2 h]
    have e1 : (48 : Int) ≤ (c.toNat : Int) := by omega
    have e2 : (c.toNat : Int) ≤ 57 := by omega
    clear h hb
    go_enter Tryz.func155, Tryz.ntmps155
    go_wp2; go_ret; exact ⟨ret_bool (by simp), rfl⟩
  · rw [smallB_no (by omega), greatB_no (by omega), dgt_no (by omega)]
    generalize decide (c.toNat = 95) = b4 at *
    rcases h with h | h | h | h
    · have e1 : (c.toNat : Int) < 48 := by omega
      clear h hb
      go_enter Tryz.func155, Tryz.ntmps155
      go_wp2; go_ret; exact ⟨ret_bool (by simp), rfl⟩
    · have e1 : (c.toNat : Int) < 65 := by omega
      have e2 : 57 < (c.toNat : Int) := by omega
      clear h hb
      go_enter Tryz.func155, Tryz.ntmps155
      go_wp2; go_ret; exact ⟨ret_bool (by simp; omega), rfl⟩
    · have e1 : (c.toNat : Int) < 97 := by omega
      have e2 : 90 < (c.toNat : Int) := by omega
      clear h hb
      go_enter Tryz.func155, Tryz.ntmps155
      go_wp2; go_ret; exact ⟨ret_bool (by simp; omega), rfl⟩
    · have e1 : 122 < (c.toNat : Int) := by omega
      clear h hb
      go_enter Tryz.func155, Tryz.ntmps155
      go_wp2; go_ret; exact ⟨ret_bool (by simp; omega), rfl⟩

set_option maxHeartbeats 1000000 in
theorem named_empty (s : ByteArray) (lo hi : Int) (h : s.toList.isEmpty = true) (w : World) :
    Calls Tryz.prog 96 #[.string s, .int .u8 lo, .int .u8 hi] w fun e w' => e = .returned (.bool false) ∧ Below w.heap.size w w' := by
  go_enter Tryz.func96, Tryz.ntmps96
  go_wp2
  go_ret
  exact ⟨rfl, Below.refl _ _⟩

set_option maxHeartbeats 1000000 in
theorem named_long (s : ByteArray) (lo hi : Int) (h0 : 0 < s.size) (hp : (0 : Int) < (s.size : Int)) (he : s.toList.isEmpty = false) (h1 : 16 < (s.size : Int)) (w : World) :
    Calls Tryz.prog 96 #[.string s, .int .u8 lo, .int .u8 hi] w fun e w' => e = .returned (.bool false) ∧ Below w.heap.size w w' := by
  go_enter Tryz.func96, Tryz.ntmps96
  go_wp2
  go_ret
  exact ⟨rfl, Below.refl _ _⟩

set_option maxHeartbeats 1000000 in
theorem named_low (s : ByteArray) (lo hi : Int) (h0 : 0 < s.size) (hp : (0 : Int) < (s.size : Int)) (he : s.toList.isEmpty = false) (h1 : (s.size : Int) ≤ 16) (h2 : (s[0].toNat : Int) < lo) (w : World) :
    Calls Tryz.prog 96 #[.string s, .int .u8 lo, .int .u8 hi] w fun e w' => e = .returned (.bool false) ∧ Below w.heap.size w w' := by
  go_enter Tryz.func96, Tryz.ntmps96
  go_wp2
  go_ret
  exact ⟨rfl, Below.refl _ _⟩

set_option maxHeartbeats 1000000 in
theorem named_high (s : ByteArray) (lo hi : Int) (h0 : 0 < s.size) (hp : (0 : Int) < (s.size : Int)) (he : s.toList.isEmpty = false) (h1 : (s.size : Int) ≤ 16) (h2 : lo ≤ (s[0].toNat : Int)) (h3 : hi < (s[0].toNat : Int)) (w : World) :
    Calls Tryz.prog 96 #[.string s, .int .u8 lo, .int .u8 hi] w fun e w' => e = .returned (.bool false) ∧ Below w.heap.size w w' := by
  go_enter Tryz.func96, Tryz.ntmps96
  go_wp2
  go_ret
  exact ⟨rfl, Below.refl _ _⟩

set_option maxHeartbeats 1000000 in
theorem named_word (s : ByteArray) (lo hi : Int) (h0 : 0 < s.size) (hp : (0 : Int) < (s.size : Int)) (he : s.toList.isEmpty = false) (h1 : (s.size : Int) ≤ 16) (h2 : lo ≤ (s[0].toNat : Int)) (h3 : (s[0].toNat : Int) ≤ hi) (CW : Hid (∀ w : World, Calls Tryz.prog 154 #[.string s] w fun e w' => e = .returned (.bool true) ∧ Below w.heap.size w w')) (w : World) :
    Calls Tryz.prog 96 #[.string s, .int .u8 lo, .int .u8 hi] w fun e w' => e = .returned (.bool false) ∧ Below w.heap.size w w' := by
  go_enter Tryz.func96, Tryz.ntmps96
  go_wp2_with fail
  refine (CW.out _).mono ?_; rintro e w1 ⟨rfl, b1⟩
  go_wp2
  go_ret
  exact ⟨rfl, b1⟩

theorem all_no {s : ByteArray} {p : UInt8 → Bool} {k : Nat} (h : k < s.size) (hd : p s[k] = false) : s.data.toList.all p = false := by
  rw [List.all_eq_false]
  exact ⟨s[k], byte_mem s k h, by rw [hd]; simp⟩

set_option maxHeartbeats 1000000 in
theorem named_loop (s : ByteArray) (lo hi : Int) (h0 : 0 < s.size) (hp : (0 : Int) < (s.size : Int)) (he : s.toList.isEmpty = false) (h1 : (s.size : Int) ≤ 16) (h2 : lo ≤ (s[0].toNat : Int)) (h3 : (s[0].toNat : Int) ≤ hi) (CW : Hid (∀ w : World, Calls Tryz.prog 154 #[.string s] w fun e w' => e = .returned (.bool false) ∧ Below w.heap.size w w')) (w : World) :
    Calls Tryz.prog 96 #[.string s, .int .u8 lo, .int .u8 hi] w fun e w' => e = .returned (.bool (s.data.toList.all nameB)) ∧ Below w.heap.size w w' := by
  generalize hX : s.data.toList.all nameB = X
  have HX := Lib.hid hX
  clear hX
  go_enter Tryz.func96, Tryz.ntmps96
  go_wp2_with fail
  refine (CW.out _).mono ?_; rintro e w1 ⟨rfl, b1⟩
  go_wp2_with fail
  clear h2 h3
  go_loop [7] (fun i => ∃ k : Nat, k ≤ s.size ∧ i = .int .i64 k ∧ Hid ((s.data.toList.take k).all nameB = true)) (fun i => s.size - (intOf i).toNat)
  case atStart => exact ⟨0, Nat.zero_le _, rfl, Lib.hid (by simp)⟩
  case round =>
    obtain ⟨k, hk, rfl, ha⟩ := hrel
    by_cases hlt : k < s.size
    · have hd := fun w => refPart_calls s[k] w
      cases hp2 : nameB s[k]
      · rw [hp2] at hd
        have Hp := Lib.hid hp2
        have Hd := Lib.hid hd
        clear hp2 hd
        go_wp2_with fail
        refine (Hd.out _).mono ?_; rintro e w2 ⟨rfl, rfl⟩
        go_wp2
        go_ret
        exact ⟨ret_bool ((all_no hlt Hp.out).symm.trans HX.out), b1⟩
      · rw [hp2] at hd
        have Hp := Lib.hid hp2
        have Hd := Lib.hid hd
        clear hp2 hd
        go_wp2_with fail
        refine (Hd.out _).mono ?_; rintro e w2 ⟨rfl, rfl⟩
        go_wp2
        go_round
        case rel => exact ⟨k + 1, by omega, by go_num, Lib.hid (all_snoc' hlt ha.out Hp.out)⟩
        case measure => simp [intOf]; omega
    · obtain rfl : k = s.size := by omega
      go_wp2
      go_ret
      exact ⟨ret_bool (by rw [← HX.out, ← ha.out, take_all]), b1⟩

theorem bool_of {P : Bool} {a : Prop} [Decidable a] (h : a ↔ P = true) : decide a = P := by
  rw [Bool.eq_iff_iff, decide_eq_true_eq]; exact h
theorem no_empty : wordsL.contains [] = false := by decide +kernel
theorem kind1 (l : List UInt8) : decide (kindL l = 1) = wordsL.contains l := by
  unfold kindL
  by_cases h0 : l = []
  · subst h0; rw [no_empty]; rfl
  · rw [if_neg h0]
    cases wordsL.contains l
    · rw [if_neg (by simp)]
      split
      · rfl
      · split
        · rfl
        · split
          · rfl
          · split <;> rfl
    · rfl
theorem kind2 (l : List UInt8) : decide (kindL l = 2) = (!wordsL.contains l && (headB smallB l && likeL l)) := by
  unfold kindL
  by_cases h0 : l = []
  · subst h0; rw [no_empty]; rfl
  · rw [if_neg h0]
    cases wordsL.contains l
    · rw [if_neg (by simp)]
      cases headB smallB l && likeL l
      · rw [if_neg (by simp)]
        split
        · rfl
        · split
          · rfl
          · split <;> rfl
      · rfl
    · rfl
theorem kind3 (l : List UInt8) : decide (kindL l = 3) = (!wordsL.contains l && (headB greatB l && likeL l)) := by
  cases l with
  | nil => rw [no_empty]; rfl
  | cons c r =>
    have hne : c :: r ≠ [] := by simp
    cases hc : wordsL.contains (c :: r)
    · cases hs : headB smallB (c :: r)
      · cases hg : (headB greatB (c :: r) && likeL (c :: r))
        · cases hd : (headB dgt (c :: r) && decide (pe (c :: r) = 0))
          · rw [kind_else hne hc (by rw [hs]; rfl) hg hd]; split <;> rfl
          · unfold kindL
            rw [if_neg hne, if_neg (by rw [hc]; simp), if_neg (by rw [hs]; simp), if_neg (by rw [hg]; simp), if_pos hd]; rfl
        · rw [Bool.and_eq_true] at hg
          rw [kind_great hne hc hs hg.1 hg.2]; rfl
      · have h2 : headB greatB (c :: r) = false := (small_not hs).1
        have h3 : headB dgt (c :: r) = false := (small_not hs).2
        rw [h2, Bool.false_and, Bool.and_false]
        cases hl : likeL (c :: r)
        · rw [kind_else hne hc (by rw [hl, Bool.and_false]) (by rw [hl, Bool.and_false]) (by rw [h3]; rfl)]; split <;> rfl
        · rw [kind_small hne hc hs hl]; rfl
    · rw [kind_word hne hc]; rfl

theorem named_calls (s : ByteArray) (hs : s.size ≤ maxLen) (lo hi : Int) (p : UInt8 → Bool) (hp : ∀ c : UInt8, p c = true ↔ lo ≤ (c.toNat : Int) ∧ (c.toNat : Int) ≤ hi) (w : World) :
    Calls Tryz.prog 96 #[.string s, .int .u8 lo, .int .u8 hi] w fun e w' => e = .returned (.bool (!wordsL.contains s.data.toList && (headB p s.data.toList && likeL s.data.toList))) ∧ Below w.heap.size w w' := by
  by_cases h0 : 0 < s.size
  · have hne : s.data.toList ≠ [] := by
      have := drop_byte h0
      rw [List.drop_zero] at this
      rw [this]; simp
    have he : s.toList.isEmpty = false := by rw [ByteArray.toList_eq]; simpa using hne
    have hq : (0 : Int) < (s.size : Int) := by omega
    have CW := fun w => refWord_calls s hs w
    rw [head_byte p s h0]
    unfold likeL
    rw [show s.data.toList.length = s.size from rfl]
    by_cases h1 : s.size ≤ 16
    · have e1 : (s.size : Int) ≤ 16 := by omega
      rw [decide_eq_true h1, Bool.true_and]
      by_cases h2 : lo ≤ (s[0].toNat : Int)
      · by_cases h3 : (s[0].toNat : Int) ≤ hi
        · rw [(hp s[0]).2 ⟨h2, h3⟩, Bool.true_and]
          cases hc : wordsL.contains s.data.toList
          · rw [hc] at CW
            simp only [Bool.not_false, Bool.true_and]
            exact named_loop s lo hi h0 hq he e1 h2 h3 (Lib.hid CW) w
          · rw [hc] at CW
            exact named_word s lo hi h0 hq he e1 h2 h3 (Lib.hid CW) w
        · have : p s[0] = false := by rw [← Bool.not_eq_true, hp]; omega
          rw [this, Bool.false_and, Bool.and_false]
          exact named_high s lo hi h0 hq he e1 h2 (by omega) w
      · have : p s[0] = false := by rw [← Bool.not_eq_true, hp]; omega
        rw [this, Bool.false_and, Bool.and_false]
        exact named_low s lo hi h0 hq he e1 (by omega) w
    · rw [decide_eq_false h1, Bool.false_and, Bool.and_false, Bool.and_false]
      exact named_long s lo hi h0 hq he (by omega) w
  · have hl : s.data.toList = [] := List.eq_nil_of_length_eq_zero (show s.size = 0 by omega)
    rw [hl, show headB p [] = false from rfl, Bool.false_and, Bool.and_false]
    exact named_empty s lo hi (by rw [ByteArray.toList_eq, hl]; rfl) w

set_option maxHeartbeats 400000 in
theorem refName_calls (s : ByteArray) (hs : s.size ≤ maxLen) (w : World) :
    Calls Tryz.prog 57 #[.string s] w fun e w' => e = .returned (.bool (decide (kindL s.data.toList = 2))) ∧ Below w.heap.size w w' := by
  have H := fun w => named_calls s hs 97 122 smallB (fun c => by rw [smallB_iff]; omega) w
  rw [← kind2] at H
  generalize decide (kindL s.data.toList = 2) = b at *
  have C := Lib.hid H
  clear H
  go_enter Tryz.func57, Tryz.ntmps57
  go_wp2_with fail
  refine (C.out _).mono ?_; rintro e w1 ⟨rfl, b1⟩
  go_wp2
  go_ret
  exact ⟨rfl, b1⟩

set_option maxHeartbeats 400000 in
theorem refType_calls (s : ByteArray) (hs : s.size ≤ maxLen) (w : World) :
    Calls Tryz.prog 52 #[.string s] w fun e w' => e = .returned (.bool (decide (kindL s.data.toList = 3))) ∧ Below w.heap.size w w' := by
  have H := fun w => named_calls s hs 65 90 greatB (fun c => by rw [greatB_iff]; omega) w
  rw [← kind3] at H
  generalize decide (kindL s.data.toList = 3) = b at *
  have C := Lib.hid H
  clear H
  go_enter Tryz.func52, Tryz.ntmps52
  go_wp2_with fail
  refine (C.out _).mono ?_; rintro e w1 ⟨rfl, b1⟩
  go_wp2
  go_ret
  exact ⟨rfl, b1⟩
end Go.Proofs.YthilicmhdkmipaaGreatDoor
