/- Contracts of package lex, fourth part: the map in which words are looked for. -/
import Derived.Test.YtbdefkhmomogdaaDoorLexWordIs
import Derived.Maps.OwnOps
import Derived.Maps.Views
import Derived.Lib.SmallJoins
namespace Go.Proofs.YtbdefkhmomogdaaDoor
open Go.RowKit Go.Maps
set_option linter.unusedVariables false

/-- the table that strings.Fields reads starts as the program's text lays it -/
def Tab (w : World) : Prop := Hid (Lib.TabIs Tryd.prog w "strings.asciiSpace" .u8 Lib.asciiSpaceTab ∧ MaxOk w)
theorem asciiAt : Tryd.prog.globalNamed "strings.asciiSpace" = some 0 := by kernel_rfl
theorem Tab.below {w w' : World} (h : Tab w) (hb : Below w.heap.size w w') : Tab w' :=
  Lib.hid ⟨Go.Joins.var_stays asciiAt (show w.var? Tryd.prog "strings.asciiSpace" = _ from h.out.1) hb (Nat.le_refl _), h.out.2.below hb⟩

theorem fields_are : Lib.fields wordText = wordsL := by decide +kernel
theorem text_ascii : wordText.all (fun c => decide (c.toNat < 128)) = true := by decide +kernel

theorem fields_words (s : ByteArray) (hs : s.data.toList = wordText) (w : World) (htab : Tab w) :
    Calls Tryd.prog 29 #[.string s] w fun e w' => e = .returned (.slice (some ⟨w.heap.size, 0, none⟩) 47 47) ∧
      (w'.heap.size = w.heap.size + 1 ∧ (∀ k, k < 47 → w'.cell? ⟨w.heap.size, k, none⟩ = some (.string (bs (wordsL.getD k [])))) ∧ Below w.heap.size w w') := by
  have hsz : s.size < 4294967281 := by
    have : s.size = s.data.toList.length := rfl
    rw [this, hs]; decide +kernel
  refine (Tryd.strings_Fields s w hsz (fun j b hb => ?_) htab.out.1).mono ?_
  · rw [hs] at hb
    simpa using List.all_eq_true.1 text_ascii b (List.mem_of_getElem? hb)
  · rw [hs, fields_are, words_len]
    rintro e w' ⟨rfl, rfl⟩
    refine ⟨rfl, by simp, fun k hk => ?_, (Below.refl _ _).alloc (Nat.le_refl _) _⟩
    have hk2 : k < wordsL.length := by rw [words_len]; exact hk
    rw [World.cell?_alloc_at (hn := rfl)]
    simp [List.getD, hk2, bs]

theorem grown_of {w w' : World} (h : Below w.heap.size w w') : w.grownBy w' none := ⟨h.os, h.tape, h.output, h.size, fun k hk _ => h.block k hk⟩
theorem law : Keyed Tryd.prog 9 := string_keyed Tryd.underlying9
theorem zeroU8 (w : World) : (zeroValue 5).run Tryd.prog w = .ok (.int .u8 0) w := by kernel_rfl
/-- what the map holds once the first k words were put into it -/
def wD : Nat → DataW Unit
  | 0 => .map []
  | k + 1 => (wD k).put (.string (wordsL.getD k [])) (.lit (.int .u8 1))
theorem wD_isMap : ∀ k, IsMap (wD k)
  | 0 => ⟨[], rfl⟩
  | k + 1 => by
    obtain ⟨es, h⟩ := wD_isMap k
    exact ⟨_, by rw [wD, h]; rfl⟩
theorem wD_at (l : List UInt8) (z : DataW Unit) : ∀ k, k ≤ wordsL.length → (wD k).atKey (.string l) z = if (wordsL.take k).contains l = true then .lit (.int .u8 1) else z
  | 0, _ => rfl
  | k + 1, hk => by
    have e : wordsL.take (k + 1) = wordsL.take k ++ [wordsL.getD k []] := by
      rw [List.take_succ_eq_append_getElem (by omega)]
      congr 2
      simp [List.getD, show k < wordsL.length by omega]
    rw [wD, e, List.contains_append]
    by_cases h : l = wordsL.getD k []
    · rw [← h, atKey_put_same (k := .string l) (wD_isMap k) trivial]
      simp
    · rw [atKey_put_other (fun e => h (by injection e)), wD_at l z k (by omega)]
      have : ([wordsL.getD k []].contains l) = false := by rw [List.contains_cons, List.contains_nil, Bool.or_false, beq_eq_false_iff_ne]; exact h
      rw [this, Bool.or_false]
theorem wD_all (l : List UInt8) (z : DataW Unit) : (wD 47).atKey (.string l) z = if wordsL.contains l = true then .lit (.int .u8 1) else z := by
  have := wD_at l z 47 (by rw [words_len]; exact Nat.le_refl _)
  rw [List.take_of_length_le (by rw [words_len]; exact Nat.le_refl _)] at this
  exact this
/-- block b is the map of the words -/
def WordMap (w : World) (b : Nat) : Prop := w.ownsMap Tryd.prog 9 (plainElem Tryd.prog 5) b 47 (wD 47)

set_option maxRecDepth 100000 in
set_option maxHeartbeats 1000000 in
theorem makeWords_calls (w : World) (htab : Tab w) :
    Calls Tryd.prog 18 #[] w fun e w' => e = .returned (.map (some (w.heap.size + 1))) ∧ (WordMap w' (w.heap.size + 1) ∧ Below w.heap.size w w') := by
  have hmm : ∀ w : World, (Instr.makeMap 40 (some (.int .i64 47))).run Tryd.prog w = .ok (.map (some w.heap.size)) (w.alloc (.map #[] 0)) := fun w => rfl
  go_enter Tryd.func18, Tryd.ntmps18
  go_wp2_with fail
  refine (fields_words _ (by kernel_rfl) _ htab).mono ?_
  rintro e w1 ⟨rfl, hz, hc, b1⟩
  go_wp2
  go_loopw [11] (fun i wr => ∃ k : Nat, k ≤ 47 ∧ i = .int .i64 k ∧ wr.ownsMap Tryd.prog 9 (plainElem Tryd.prog 5) (w.heap.size + 1) k (wD k) ∧ Below (w.heap.size + 1) w1 wr)
    (fun i _ => 47 - (intOf i).toNat)
  case atStart => exact ⟨0, by omega, rfl, hz ▸ World.ownsMap_made _ _ _ _, (Below.refl _ _).alloc (by omega) _⟩
  case round =>
    obtain ⟨k, hk, rfl, hown, hnx⟩ := hrel
    by_cases hlt : k < 47
    · obtain ⟨l, hl⟩ : ∃ l, l = bs (wordsL.getD k []) := ⟨_, rfl⟩
      have hcx : wr.cell? ⟨w.heap.size, k, none⟩ = some (.string l) := by rw [hl, ← hc k hlt]; exact hnx.cell (by simp)
      have hkey : keyOf Tryd.prog 9 (.string l) = some (.string (wordsL.getD k [])) := by
        rw [hl]
        refine WideMaps.keyOf_string_mk (P := Tryd.prog) Tryd.underlying9 ?_
        have := words_short k
        unfold maxLen
        rw [bs_size]; omega
      clear hl
      go_wp2_with (first
        | (at_mapUpdate; refine wpList_mapUpdate_own _ rfl _ _ _ 40 rfl 9 5 law Tryd.underlying40 _ (w.heap.size + 1) k _ rfl hown (by unfold maxLen; omega) _ _ _ rfl rfl hkey _ [] (plainElem_int Tryd.underlying5 rfl) ?_)
        | go_in)
      intro w2 hown2 hgrow2
      have R1 : w2.ownsMap Tryd.prog 9 (plainElem Tryd.prog 5) (w.heap.size + 1) (k + 1) (wD (k + 1)) := hown2
      have R2 := hnx.grown hgrow2 (by have := hnx.size; omega) (fun j hj => by cases hj; exact Nat.le_refl _)
      clear hown2 hgrow2 hown hcx
      go_wp2
      go_roundw
      case rel => exact ⟨k + 1, by omega, by go_num, R1, R2⟩
      case measure => simp [intOf]; omega
    · obtain rfl : k = 47 := by omega
      go_wp2
      go_ret
      exact ⟨rfl, hown, b1.trans (hnx.mono (by omega))⟩

theorem WordMap.below {w w' : World} {b : Nat} (h : WordMap w b) (hb : Below w.heap.size w w') : WordMap w' b := World.ownsMap.kept h (grown_of hb) (by simp)
theorem WordMap.look {w : World} {b : Nat} (h : WordMap w b) (s : ByteArray) (hs : s.size ≤ maxLen) :
    (Instr.lookup 40 (.map (some b)) (.string s) false).run Tryd.prog w = .ok (.int .u8 (if wordsL.contains s.data.toList = true then 1 else 0)) w := by
  obtain ⟨c, hrun, hat, _⟩ := World.ownsMap.lookup_int h law Tryd.underlying40 Tryd.underlying5 (zeroU8 _) (WideMaps.keyOf_string_mk (P := Tryd.prog) Tryd.underlying9 hs)
  rw [wD_all] at hat
  rw [hrun]
  split at hat
  · rename_i hc
    injection hat with hat
    injection hat with _ hat
    rw [← hat]; simp at hc ⊢; simp [hc]
  · rename_i hc
    injection hat with hat
    injection hat with _ hat
    rw [← hat]; simp at hc ⊢; simp [hc]
end Go.Proofs.YtbdefkhmomogdaaDoor
