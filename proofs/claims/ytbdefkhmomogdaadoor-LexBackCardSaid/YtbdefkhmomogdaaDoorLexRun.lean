/- Contracts of package lex, seventh part: All. -/
import Derived.Test.YtbdefkhmomogdaaDoorLexKind
import Derived.Test.YtbdefkhmomogdaaDoorLexMap
namespace Go.Proofs.YtbdefkhmomogdaaDoor
open Go.RowKit Go.Maps
set_option linter.unusedVariables false

/-- the cells of tokens, three each -/
def cellsT (ts : List Tok) : List Value := ts.flatMap fun t => [.int .u8 (t.1 : Int), .string (bs t.2.1), .int .i64 (t.2.2 : Int)]
theorem cellsT_snoc (ts : List Tok) (t : Tok) : cellsT (ts ++ [t]) = cellsT ts ++ [.int .u8 (t.1 : Int), .string (bs t.2.1), .int .i64 (t.2.2 : Int)] := by simp [cellsT]
/-- the error of a text, where it is, its tokens as All tells them -/
def errT (l : List UInt8) : Int := if 4000 < l.length then 3 else match (lexL l 0).2 with | some _ => 20 | none => if 1500 < (lexL l 0).1.length then 4 else 0
def posT (l : List UInt8) : Nat := if 4000 < l.length then 0 else match (lexL l 0).2 with | some p => p | none => 0
def toksT (l : List UInt8) : List Tok := if errT l = 0 then (lexL l 0).1 else []

set_option maxHeartbeats 400000 in
theorem clone_calls (s : ByteArray) (hs : s.size ≤ 281474976710656) (w : World) :
    Calls Tryd.prog 22 #[.string s] w fun e w' => e = .returned (.string s) ∧ Below w.heap.size w w' := by
  have C := Lib.hid fun w => Tryd.stringslite_Clone s w hs
  go_enter Tryd.func22, Tryd.ntmps22
  go_wp2_with fail
  refine (C.out _).mono ?_; rintro e w1 ⟨rfl, b1⟩
  go_wp2
  go_ret
  exact ⟨rfl, b1⟩

theorem Tryd.infoTok : (Tryd.prog.info? 30).map (fun i => (i.zero, i.size, i.bytes)) = some (some (.agg #[.int .u8 0, .string ⟨#[]⟩, .int .i64 0]), 3, 32) := by kernel_rfl

/-- what the loop keeps -/
structure Kept (l : List UInt8) (j : Nat) (ts : List Tok) : Prop where
  gap : gapF false (l.drop j) = 0
  sum : lexL l 0 = (ts ++ (lexL (l.drop j) j).1, (lexL (l.drop j) j).2)
  few : ts.length ≤ j
theorem kept_start (l : List UInt8) : Kept l (0 + gapF false (l.drop 0)) [] := by
  rw [List.drop_zero, Nat.zero_add]
  refine ⟨gapF_drop false l, ?_, by simp⟩
  rw [lexL_gap l 0, Nat.zero_add]; rfl
theorem kept_step {l : List UInt8} {j : Nat} {ts : List Tok} (h : Kept l j ts) (hj : j < l.length) (hk : kindL ((l.drop j).take (togL (l.drop j))) ≠ 0) :
    Kept l (j + togL (l.drop j) + gapF false (l.drop (j + togL (l.drop j)))) (ts ++ [(kindL ((l.drop j).take (togL (l.drop j))), (l.drop j).take (togL (l.drop j)), j)]) := by
  have hne : l.drop j ≠ [] := by intro e; have := congrArg List.length e; simp at this; omega
  have hp := togL_pos hne
  refine ⟨?_, ?_, by simp; have := h.few; omega⟩
  · rw [← List.drop_drop]; exact gapF_drop false _
  · rw [h.sum, lexL_step hne h.gap hk, List.drop_drop, lexL_gap (l.drop (j + togL (l.drop j))), List.drop_drop]
    simp
theorem kept_bad {l : List UInt8} {j : Nat} {ts : List Tok} (h : Kept l j ts) (hj : j < l.length) (hk : kindL ((l.drop j).take (togL (l.drop j))) = 0) : (lexL l 0).2 = some j := by
  have hne : l.drop j ≠ [] := by intro e; have := congrArg List.length e; simp at this; omega
  rw [h.sum, lexL_bad hne h.gap hk]
theorem kept_end {l : List UInt8} {ts : List Tok} (h : Kept l l.length ts) : lexL l 0 = (ts, none) := by
  rw [h.sum, List.drop_of_length_le (Nat.le_refl _), lexL_end (by simp)]; simp

theorem owns_mono {w : World} {b b' e size n : Nat} {v : Value} {xs : List Value} (h : w.ownsRow b e size v n xs) (hb : b' ≤ b) : w.ownsRow b' e size v n xs := by
  refine ⟨h.1, ?_⟩
  rcases h.2 with h2 | ⟨g, cap, cur, h1, h2, h3⟩
  · exact .inl h2
  · exact .inr ⟨g, cap, cur, h1, Nat.le_trans hb h2, h3⟩
theorem owns_below {w w' : World} {b e size n : Nat} {v : Value} {xs : List Value} (h : w.ownsRow b e size v n xs) (hb : Below w.heap.size w w') : w'.ownsRow b e size v n xs :=
  h.kept (grown_of hb) (by cases h : v.ownBlock <;> simp)

theorem three_cells (w : World) (a b c : Value) (e : TypeId) : ∀ (j : Nat) (u : Value), [a, b, c][j]? = some u → (w.alloc (.cells #[a, b, c] e)).cell? ((⟨w.heap.size, 0, none⟩ : Addr).add j) = some u := by
  intro j u h
  have e1 : (⟨w.heap.size, 0, none⟩ : Addr).add j = ⟨w.heap.size, j, none⟩ := by simp [Addr.add]; exact fun h => h.symm
  rw [e1, World.cell?_alloc_at (hn := rfl)]
  simpa using h
theorem three_one (n j : Int) (p : ByteArray) : ∀ u ∈ [Value.int .u8 n, Value.string p, Value.int .i64 j], u.oneCell' = true := by
  intro u hu
  simp at hu
  rcases hu with rfl | rfl | rfl <;> rfl

set_option maxHeartbeats 400000 in
theorem all_long (s : ByteArray) (h : 4000 < (s.size : Int)) (w : World) :
    Calls Tryd.prog 10 #[.string s] w fun e w' => e = .returned (.tuple #[.slice none 0 0, .int .i64 0, .int .i64 3]) ∧ w = w' := by
  go_enter Tryd.func10, Tryd.ntmps10
  go_wp2
  exact bodyPost_ret (v := .tuple #[.slice none 0 0, .int .i64 0, .int .i64 3]) (by simp [results, Tryd.results10, go_sem]) rfl ⟨rfl, rfl⟩

set_option maxRecDepth 100000 in
set_option maxHeartbeats 2000000 in
theorem all_short (s : ByteArray) (h : s.size ≤ 4000) (w : World) (htab : Tab w) :
    Calls Tryd.prog 10 #[.string s] w fun e w' => ∃ v, e = .returned (.tuple #[v, .int .i64 (posT s.data.toList), .int .i64 (errT s.data.toList)]) ∧
      w'.ownsRow w.heap.size 30 3 v (toksT s.data.toList).length (cellsT (toksT s.data.toList)) ∧ Below w.heap.size w w' := by
  have hs : s.size ≤ maxLen := by unfold maxLen; omega
  obtain ⟨i0, hi, hz0, hz1, hz2⟩ := info_parts Tryd.infoTok
  have hq : (s.size : Int) ≤ 4000 := by omega
  have C4 := Lib.hid fun (j : Nat) (hj : j ≤ s.size) (w : World) => pastBetween_calls s j hj hs w
  have K0 := Lib.hid (kept_start s.data.toList)
  have hg0 := gapF_le false (s.data.toList.drop 0)
  rw [List.length_drop, show s.data.toList.length = s.size from rfl] at hg0
  generalize hP : posT s.data.toList = P
  generalize hE : errT s.data.toList = E
  generalize hT : toksT s.data.toList = T
  have HP := Lib.hid hP
  have HE := Lib.hid hE
  have HT := Lib.hid hT
  clear hP hE hT
  go_enter Tryd.func10, Tryd.ntmps10
  go_wp2_with fail
  refine (makeWords_calls w htab).mono ?_; rintro e w1 ⟨rfl, m1, b1⟩
  go_wp2_with fail
  refine (C4.out 0 (by omega) _).mono ?_; rintro e w2 ⟨rfl, rfl⟩
  generalize hG : 0 + gapF false (s.data.toList.drop 0) = G at *
  have hGle : G ≤ s.size := by omega
  clear hG hg0
  go_wp2_with fail
  go_loopw [6, 7] (fun v a wr => ∃ (ts : List Tok) (j : Nat), j ≤ s.size ∧ a = .int .i64 j ∧ wr.ownsRow w1.heap.size 30 3 v ts.length (cellsT ts) ∧ Below w1.heap.size w1 wr ∧ Hid (Kept s.data.toList j ts) ∧ ts.length ≤ j)
    (fun _ a _ => s.size - (intOf a).toNat)
  case atStart => exact ⟨[], G, hGle, rfl, World.ownsRow_nil _ _ _ _, Below.refl _ _, K0, by simp⟩
  case round =>
    clear K0 hGle
    obtain ⟨ts, j, hj, rfl, hown, hnx, HK, hfew⟩ := hrel
    by_cases hlt : j < s.size
    · have hne : 0 < (s.extract j s.size).size := by simp; omega
      have hes : (s.extract j s.size).size ≤ maxLen := by unfold maxLen; simp; omega
      have A1 := fun w => together_calls (s.extract j s.size) hne hes w
      rw [ext_drop] at A1
      have hlen : (s.data.toList.drop j).length = s.size - j := by rw [List.length_drop]; rfl
      have hnil : s.data.toList.drop j ≠ [] := by intro e; rw [e] at hlen; simp at hlen; omega
      have t1 := togL_pos hnil
      have t2 := togL_le hnil
      rw [hlen] at t2
      obtain ⟨p, hp⟩ : ∃ p, p = bs ((s.data.toList.drop j).take (togL (s.data.toList.drop j))) := ⟨_, rfl⟩
      have psz : p.size = togL (s.data.toList.drop j) := by rw [hp, bs_size, List.length_take, hlen]; omega
      have pl : p.data.toList = (s.data.toList.drop j).take (togL (s.data.toList.drop j)) := by rw [hp]; rfl
      have A2 := fun w => kindOf_calls p (by unfold maxLen; omega) w
      rw [← hp] at A1
      have C1 := Lib.hid A1
      clear A1 hp hne hes hnil hlen
      have m2 : WordMap wr (w.heap.size + 1) := m1.below hnx
      have hl := m2.look p (by unfold maxLen; omega)
      obtain ⟨v, hv⟩ : ∃ v : Int, v = if wordsL.contains p.data.toList = true then 1 else 0 := ⟨_, rfl⟩
      have hvc : (v != 0) = wordsL.contains p.data.toList := by
        rw [hv]; cases wordsL.contains p.data.toList <;> rfl
      rw [← hv] at hl
      clear hv m2
      generalize wordsL.contains p.data.toList = c at *
      by_cases hk : kindL p.data.toList = 0
      · rw [hk] at A2
        have C2 := Lib.hid A2
        have E1 := Lib.hid (show (lexL s.data.toList 0).2 = some j from kept_bad HK.out hlt (by rw [← pl]; exact hk))
        clear A2 hk pl psz t1 t2
        go_wp2_with fail
        refine (C1.out _).mono ?_; rintro e w3 ⟨rfl, rfl⟩
        go_wp2_with fail
        refine (C2.out _).mono ?_; rintro e w4 ⟨rfl, b4⟩
        go_wp2
        have hE : errT s.data.toList = 20 := by
          unfold errT
          rw [if_neg (show ¬ 4000 < s.data.toList.length from Nat.not_lt.2 h), E1.out]
        have hPo : posT s.data.toList = j := by
          unfold posT
          rw [if_neg (show ¬ 4000 < s.data.toList.length from Nat.not_lt.2 h), E1.out]
        refine bodyPost_ret (v := .tuple #[.slice none 0 0, .int .i64 j, .int .i64 20]) (by simp [results, Tryd.results10, go_sem]) rfl ⟨.slice none 0 0, ?_, ?_, ?_⟩
        · rw [← HP.out, ← HE.out, hE, hPo]
        · rw [← HT.out]
          unfold toksT
          rw [hE, if_neg (by decide)]
          exact World.ownsRow_nil _ _ _ _
        · exact up_trans b1 (hnx.trans (b4.mono hnx.size))
      · have K2 := Lib.hid (kept_step HK.out hlt (by rw [← pl]; exact hk))
        rw [← pl, ← psz] at K2
        have hg := gapF_le false (s.data.toList.drop (j + p.size))
        rw [List.length_drop, show s.data.toList.length = s.size from rfl] at hg
        have A4 : ∀ w : World, Calls Tryd.prog 19 #[.string s, .int .i64 ((j : Int) + (p.size : Int))] w fun e w' => e = .returned (.int .i64 ((j + p.size + gapF false (s.data.toList.drop (j + p.size)) : Nat) : Int)) ∧ w = w' := fun w => C4.out (j + p.size) (by omega) w
        generalize gapF false (s.data.toList.drop (j + p.size)) = G2 at *
        have C3 := Lib.hid fun w => clone_calls p (by omega) w
        have C5 := Lib.hid A4
        have hbs : p = bs p.data.toList := rfl
        generalize hn : kindL p.data.toList = n at *
        have C2 := Lib.hid A2
        have hn0 : ((n : Int) == 0) = false := by rw [beq_eq_false_iff_ne]; omega
        have hn1 : ¬ (n : Int) = 0 := by omega
        have Hbs := Lib.hid hbs
        clear A2 A4 hk pl hn hbs
        rw [← psz] at t1 t2
        clear psz
        go_wp2_with fail
        refine (C1.out _).mono ?_; rintro e w3 ⟨rfl, rfl⟩
        go_wp2_with fail
        refine (C2.out _).mono ?_; rintro e w4 ⟨rfl, b4⟩
        go_wp2_with fail
        refine (C3.out _).mono ?_; rintro e w5 ⟨rfl, b5⟩
        have hown5 := owns_below (owns_below hown b4) b5
        have bel5 := hnx.trans ((up_trans b4 b5).mono hnx.size)
        clear b4 b5 hown hnx
        go_wp2_with (first
          | (at_builtin; refine wpList_append_own _ rfl _ _ 25 rfl w1.heap.size 30 i0 (.agg #[.int .u8 0, .string ⟨#[]⟩, .int .i64 0]) 3 32 Tryd.underlying25 hi hz0 hz1 hz2 rfl (by decide) _ _ _ rfl (hown5.alloc _) ⟨w5.heap.size, 0, none⟩ 1 1 [.int .u8 n, .string p, .int .i64 j] rfl rfl ?c1 ?c2 ?c3 ?c4 ?c5 ?_)
          | fail)
        case c1 => exact three_cells _ _ _ _ _
        case c2 => exact three_one _ _ _
        case c3 => unfold maxLen; omega
        case c4 => omega
        case c5 => have := bel5.size; simp; omega
        intro v' w6 hown6 hgrow6 _
        have bel6 := (bel5.alloc bel5.size _).grown hgrow6 (by have := bel5.size; simp; omega) (fun k hk => (hown5.lt k hk).1)
        have hown7 : w6.ownsRow w1.heap.size 30 3 v' (ts ++ [(n, p.data.toList, j)]).length (cellsT (ts ++ [(n, p.data.toList, j)])) := by
          rw [cellsT_snoc, List.length_append]; exact hown6
        clear hown6 hgrow6 hown5 bel5
        go_wp2_with fail
        refine (C5.out _).mono ?_; rintro e w7 ⟨rfl, rfl⟩
        go_wp2
        go_roundw
        case rel => exact ⟨_, j + p.size + G2, by omega, by go_num, hown7, bel6, K2, K2.out.few⟩
        case measure => simp [intOf]; omega
    · obtain rfl : j = s.size := by omega
      have hL := kept_end (l := s.data.toList) HK.out
      have hbase := hnx.size
      have hlen : ts.length ≤ 4000 := by omega
      obtain ⟨ao, cap, hv⟩ : ∃ ao cap, u6 = .slice ao ts.length cap := by
        rcases hown.2 with ⟨h1, h2⟩ | ⟨g, cap, cur, h1, _⟩
        · exact ⟨_, _, by rw [h1, h2]⟩
        · exact ⟨_, _, h1⟩
      subst hv
      have b3 := up_trans b1 hnx
      have hown2 := owns_mono hown b1.size
      have hE : errT s.data.toList = if 1500 < ts.length then 4 else 0 := by
        unfold errT
        rw [if_neg (show ¬ 4000 < s.data.toList.length from Nat.not_lt.2 h), hL]
      have hPo : posT s.data.toList = 0 := by
        unfold posT
        rw [if_neg (show ¬ 4000 < s.data.toList.length from Nat.not_lt.2 h), hL]
      have hT2 : toksT s.data.toList = if 1500 < ts.length then [] else ts := by
        unfold toksT
        rw [hE, hL]
        by_cases hc : 1500 < ts.length
        · rw [if_pos hc, if_pos hc, if_neg (by decide)]
        · rw [if_neg hc, if_neg hc, if_pos rfl]
      have G1 := Lib.hid hE
      have G2 := Lib.hid hPo
      have G3 := Lib.hid hT2
      clear hE hPo hT2 hL HK hown hnx
      by_cases hc : 1500 < ts.length
      · have ec : 1500 < (ts.length : Int) := by omega
        go_wp2
        refine bodyPost_ret (v := .tuple #[.slice none 0 0, .int .i64 0, .int .i64 4]) (by simp [results, Tryd.results10, go_sem]) rfl ⟨.slice none 0 0, ?_, ?_, b3⟩
        · rw [← HP.out, ← HE.out, G1.out, G2.out, if_pos hc]; rfl
        · rw [← HT.out, G3.out, if_pos hc]
          exact World.ownsRow_nil _ _ _ _
      · have ec : (ts.length : Int) ≤ 1500 := by omega
        go_wp2
        refine bodyPost_ret (v := .tuple #[.slice ao ts.length cap, .int .i64 0, .int .i64 0]) (by simp [results, Tryd.results10, go_sem]) rfl ⟨.slice ao ts.length cap, ?_, ?_, b3⟩
        · rw [← HP.out, ← HE.out, G1.out, G2.out, if_neg hc]; rfl
        · rw [← HT.out, G3.out, if_neg hc]
          exact hown2

theorem all_calls (s : ByteArray) (w : World) (htab : Tab w) :
    Calls Tryd.prog 10 #[.string s] w fun e w' => ∃ v, e = .returned (.tuple #[v, .int .i64 (posT s.data.toList), .int .i64 (errT s.data.toList)]) ∧
      w'.ownsRow w.heap.size 30 3 v (toksT s.data.toList).length (cellsT (toksT s.data.toList)) ∧ Below w.heap.size w w' := by
  by_cases h : s.size ≤ 4000
  · exact all_short s h w htab
  · have h2 : 4000 < s.data.toList.length := Nat.lt_of_not_le h
    refine (all_long s (by omega) w).mono ?_
    rintro e w' ⟨rfl, rfl⟩
    have hE : errT s.data.toList = 3 := by unfold errT; rw [if_pos h2]
    have hP : posT s.data.toList = 0 := by unfold posT; rw [if_pos h2]
    have hT : toksT s.data.toList = [] := by unfold toksT; rw [hE, if_neg (by decide)]
    exact ⟨.slice none 0 0, by rw [hE, hP]; rfl, by rw [hT]; exact World.ownsRow_nil _ _ _ _, Below.refl _ _⟩
end Go.Proofs.YtbdefkhmomogdaaDoor
