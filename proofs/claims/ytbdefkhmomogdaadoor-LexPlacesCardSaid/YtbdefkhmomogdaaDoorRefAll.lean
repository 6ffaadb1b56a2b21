/- What the document's own answers of layer 2 (weftwayref02) come to, fourth part: All. -/
import Derived.Test.YtbdefkhmomogdaaDoorRefEnd
import Derived.Test.YtbdefkhmomogdaaDoorLexRun
namespace Go.Proofs.YtbdefkhmomogdaaDoor
open Go.RowKit
set_option linter.unusedVariables false

theorem lex_blank {c : UInt8} {r : List UInt8} {q : Nat} (h : blankB c = true) : lexL (c :: r) q = lexL r (q + 1) := by
  rw [lexL_gap, gapF_blank h, lexL_gap r, show 1 + gapF false r = gapF false r + 1 from by omega, List.drop_succ_cons]
  congr 1; omega
theorem lex_line {l : List UInt8} {q : Nat} (h : Lib.hasPrefix l [47, 47] = true) : lexL l q = lexL (l.drop (lineL l)) (q + lineL l) := by
  rw [lexL_gap, (gap_remark h).2, lexL_gap (l.drop (lineL l)), List.drop_drop]
  congr 1; omega
theorem Tryd.infoRefTok : (Tryd.prog.info? 31).map (fun i => (i.zero, i.size, i.bytes)) = some (some (.agg #[.int .u8 0, .string ⟨#[]⟩, .int .i64 0]), 3, 32) := by kernel_rfl
/-- what the loop keeps -/
structure Held (l : List UInt8) (j : Nat) (ts : List Tok) : Prop where
  sum : lexL l 0 = (ts ++ (lexL (l.drop j) j).1, (lexL (l.drop j) j).2)
  few : ts.length ≤ j
theorem held_blank {s : ByteArray} {j : Nat} {ts : List Tok} (h : Held s.data.toList j ts) (hj : j < s.size) (hb : blankB s[j] = true) : Held s.data.toList (j + 1) ts := by
  refine ⟨?_, by have := h.few; omega⟩
  rw [h.sum, drop_byte hj, lex_blank hb]
theorem held_line {s : ByteArray} {j : Nat} {ts : List Tok} (h : Held s.data.toList j ts) (hm : Lib.hasPrefix (s.data.toList.drop j) [47, 47] = true) : Held s.data.toList (j + lineL (s.data.toList.drop j)) ts := by
  refine ⟨?_, by have := h.few; omega⟩
  rw [h.sum, lex_line hm, List.drop_drop]
theorem held_kept {l : List UInt8} {j : Nat} {ts : List Tok} (h : Held l j ts) (hg : gapF false (l.drop j) = 0) : Kept l j ts := ⟨hg, h.sum, h.few⟩
theorem held_step {l : List UInt8} {j : Nat} {ts : List Tok} (h : Held l j ts) (hg : gapF false (l.drop j) = 0) (hj : j < l.length) (hk : kindL ((l.drop j).take (togL (l.drop j))) ≠ 0) :
    Held l (j + togL (l.drop j)) (ts ++ [(kindL ((l.drop j).take (togL (l.drop j))), (l.drop j).take (togL (l.drop j)), j)]) := by
  have hne : l.drop j ≠ [] := by intro e; have := congrArg List.length e; simp at this; omega
  have hp := togL_pos hne
  refine ⟨?_, by simp; have := h.few; omega⟩
  rw [h.sum, lexL_step hne hg hk, List.drop_drop]
  simp
theorem held_end {l : List UInt8} {ts : List Tok} (h : Held l l.length ts) : lexL l 0 = (ts, none) := by
  rw [h.sum, List.drop_of_length_le (Nat.le_refl _), lexL_end (by simp)]; simp
theorem ext_cut (s : ByteArray) (a n : Nat) : (s.extract a (a + n)).data.toList = (s.data.toList.drop a).take n := by
  simp only [ByteArray.data_extract, Array.toList_extract, List.extract_eq_take_drop]
  rw [show a + n - a = n from by omega]
theorem is_yes {c : UInt8} {x : Int} (h : (c.toNat : Int) = x) : ((c.toNat : Int) == x) = true := by rw [beq_iff_eq]; exact h
theorem is_no {c : UInt8} {x : Int} (h : ¬ (c.toNat : Int) = x) : ((c.toNat : Int) == x) = false := by rw [beq_eq_false_iff_ne]; exact h
theorem isnt_yes {c : UInt8} {x : Int} (h : ¬ (c.toNat : Int) = x) : ((c.toNat : Int) != x) = true := by rw [bne_iff_ne]; exact h
theorem isnt_no {c : UInt8} {x : Int} (h : (c.toNat : Int) = x) : ((c.toNat : Int) != x) = false := by simp [h]
theorem slash_at {s : ByteArray} {j : Nat} (hj : j < s.size) : Lib.hasPrefix (s.data.toList.drop j) [47, 47] = (decide (s[j].toNat = 47) && headB (fun d => decide (d.toNat = 47)) (s.data.toList.drop (j + 1))) := by
  rw [slashes, drop_byte hj]; rfl

set_option maxHeartbeats 400000 in
theorem refAll_long (s : ByteArray) (h : 4000 < (s.size : Int)) (w : World) :
    Calls Tryd.prog 9 #[.string s] w fun e w' => e = .returned (.tuple #[.slice none 0 0, .int .i64 0, .int .i64 3]) ∧ w = w' := by
  go_enter Tryd.func9, Tryd.ntmps9
  go_wp2
  exact bodyPost_ret (v := .tuple #[.slice none 0 0, .int .i64 0, .int .i64 3]) (by simp [results, Tryd.results9, go_sem]) rfl ⟨rfl, rfl⟩

set_option maxRecDepth 100000 in
set_option maxHeartbeats 8000000 in
theorem refAll_short (s : ByteArray) (h : s.size ≤ 4000) (w : World) :
    Calls Tryd.prog 9 #[.string s] w fun e w' => ∃ v, e = .returned (.tuple #[v, .int .i64 (posT s.data.toList), .int .i64 (errT s.data.toList)]) ∧
      w'.ownsRow w.heap.size 31 3 v (toksT s.data.toList).length (cellsT (toksT s.data.toList)) ∧ Below w.heap.size w w' := by
  obtain ⟨i0, hi, hz0, hz1, hz2⟩ := info_parts Tryd.infoRefTok
  have hq : (s.size : Int) ≤ 4000 := by omega
  generalize hP : posT s.data.toList = P
  generalize hE : errT s.data.toList = E
  generalize hT : toksT s.data.toList = T
  have HP := Lib.hid hP
  have HE := Lib.hid hE
  have HT := Lib.hid hT
  clear hP hE hT
  go_enter Tryd.func9, Tryd.ntmps9
  go_wp2_with fail
  go_loopw [5, 6] (fun v a wr => ∃ (ts : List Tok) (j : Nat), j ≤ s.size ∧ a = .int .i64 j ∧ wr.ownsRow w.heap.size 31 3 v ts.length (cellsT ts) ∧ Below w.heap.size w wr ∧ Hid (Held s.data.toList j ts) ∧ ts.length ≤ j)
    (fun _ a _ => s.size - (intOf a).toNat)
  case atStart => exact ⟨[], 0, by omega, rfl, World.ownsRow_nil _ _ _ _, Below.refl _ _, Lib.hid ⟨by simp, by simp⟩, by simp⟩
  case round =>
    obtain ⟨ts, j, hj, rfl, hown, hnx, HK, hfew⟩ := hrel
    by_cases hlt : j < s.size
    · by_cases hb : blankB s[j] = true
      · have H1 := Lib.hid (held_blank HK.out hlt hb)
        have hc := (blank_iff _).1 hb
        clear hb
        rcases hc with hc | hc | hc | hc
        · have f32 : ((s[j].toNat : Int) == 32) = true := is_yes (by omega)
          clear hc
          go_wp2
          go_roundw
          case rel => exact ⟨ts, j + 1, by omega, by go_num, hown, hnx, H1, H1.out.few⟩
          case measure => simp [intOf]; omega
        · have f32 : ((s[j].toNat : Int) == 32) = false := is_no (by omega)
          have f9 : ((s[j].toNat : Int) == 9) = true := is_yes (by omega)
          clear hc
          go_wp2
          go_roundw
          case rel => exact ⟨ts, j + 1, by omega, by go_num, hown, hnx, H1, H1.out.few⟩
          case measure => simp [intOf]; omega
        · have f32 : ((s[j].toNat : Int) == 32) = false := is_no (by omega)
          have f9 : ((s[j].toNat : Int) == 9) = false := is_no (by omega)
          have f10 : ((s[j].toNat : Int) == 10) = true := is_yes (by omega)
          clear hc
          go_wp2
          go_roundw
          case rel => exact ⟨ts, j + 1, by omega, by go_num, hown, hnx, H1, H1.out.few⟩
          case measure => simp [intOf]; omega
        · have f32 : ((s[j].toNat : Int) == 32) = false := is_no (by omega)
          have f9 : ((s[j].toNat : Int) == 9) = false := is_no (by omega)
          have f10 : ((s[j].toNat : Int) == 10) = false := is_no (by omega)
          have f13 : ((s[j].toNat : Int) == 13) = true := is_yes (by omega)
          clear hc
          go_wp2
          go_roundw
          case rel => exact ⟨ts, j + 1, by omega, by go_num, hown, hnx, H1, H1.out.few⟩
          case measure => simp [intOf]; omega
      · have hb' : blankB s[j] = false := by simpa using hb
        have hnb := mt (blank_iff s[j]).2 hb
        have f32 : ((s[j].toNat : Int) == 32) = false := is_no (by omega)
        have f9 : ((s[j].toNat : Int) == 9) = false := is_no (by omega)
        have f10 : ((s[j].toNat : Int) == 10) = false := is_no (by omega)
        have f13 : ((s[j].toNat : Int) == 13) = false := is_no (by omega)
        have hsl := slash_at hlt
        clear hb hnb
        by_cases hm : Lib.hasPrefix (s.data.toList.drop j) [47, 47] = true
        · obtain ⟨r1, r2⟩ := gap_remark hm
          have r3 := lineL_le (s.data.toList.drop j)
          rw [List.length_drop, show s.data.toList.length = s.size from rfl] at r3
          have H1 := Lib.hid (held_line HK.out hm)
          rw [hm] at hsl
          have hsl2 := (Bool.and_eq_true _ _).mp hsl.symm
          have hj1 : j + 1 < s.size := by omega
          have s1 : s[j].toNat = 47 := by simpa using hsl2.1
          have s2 : s[j + 1].toNat = 47 := by have := hsl2.2; rw [drop_byte hj1] at this; simpa [headB] using this
          have f47 : ((s[j].toNat : Int) == 47) = true := is_yes (by omega)
          have g47 : ((s[j + 1].toNat : Int) == 47) = true := is_yes (by omega)
          have e1 : (j : Int) + 1 < (s.size : Int) := by omega
          clear hsl hsl2 hm r2 s1 s2
          go_wp2_with fail
          go_loop [6] (fun i => ∃ k : Nat, j ≤ k ∧ k ≤ s.size ∧ i = .int .i64 k ∧ Hid (∀ m, j ≤ m → (h : m < s.size) → m < k → decide (s[m].toNat ≠ 10) = true)) (fun i => s.size - (intOf i).toNat)
          case atStart => exact ⟨j, by omega, by omega, rfl, Lib.hid (fun m h1 h h2 => by omega)⟩
          case round =>
            clear f32 f9 f10 f13 f47 g47
            obtain ⟨k, hjk, hk, rfl, hall⟩ := hrel
            by_cases hlk : k < s.size
            · by_cases h10 : s[k].toNat = 10
              · have n10 : ((s[k].toNat : Int) != 10) = false := isnt_no (by omega)
                have Hp : lineL (s.data.toList.drop j) = k - j := pre_from hjk hk hall.out (fun _ => by simp [h10])
                have HQ := Lib.hid Hp
                clear Hp h10
                go_wp2
                go_roundw
                case rel => exact ⟨ts, j + lineL (s.data.toList.drop j), by omega, by have := HQ.out; go_num, hown, hnx, H1, H1.out.few⟩
                case measure => have := HQ.out; simp [intOf]; omega
              · have n10 : ((s[k].toNat : Int) != 10) = true := isnt_yes (by omega)
                have H10 := Lib.hid h10
                clear h10
                go_wp2
                go_round
                case rel => exact ⟨k + 1, by omega, by omega, by go_num, Lib.hid (fun m h1 h h2 => by
                  by_cases e : m = k
                  · subst e; exact decide_eq_true H10.out
                  · exact hall.out m h1 h (by omega))⟩
                case measure => simp [intOf]; omega
            · have e2 : (s.size : Int) ≤ (k : Int) := by omega
              have Hp : lineL (s.data.toList.drop j) = k - j := pre_from hjk hk hall.out (fun h => absurd h hlk)
              have HQ := Lib.hid Hp
              clear Hp
              go_wp2
              go_roundw
              case rel => exact ⟨ts, j + lineL (s.data.toList.drop j), by omega, by have := HQ.out; go_num, hown, hnx, H1, H1.out.few⟩
              case measure => have := HQ.out; simp [intOf]; omega
        · have hg0 : gapF false (s.data.toList.drop j) = 0 := gap_stop hlt hb' (by simpa using hm)
          have hN : ¬ s[j].toNat = 47 ∨ (s[j].toNat = 47 ∧ ¬ j + 1 < s.size) ∨ ∃ (_ : s[j].toNat = 47) (h : j + 1 < s.size), ¬ s[j + 1].toNat = 47 := by
            by_cases d1 : s[j].toNat = 47
            · by_cases d2 : j + 1 < s.size
              · refine .inr (.inr ⟨d1, d2, fun d3 => hm ?_⟩)
                rw [hsl, drop_byte d2]
                simp [headB, d1, d3]
              · exact .inr (.inl ⟨d1, d2⟩)
            · exact .inl d1
          have hlen : (s.data.toList.drop j).length = s.size - j := by rw [List.length_drop]; rfl
          have hnil : s.data.toList.drop j ≠ [] := by intro e; rw [e] at hlen; simp at hlen; omega
          have t1 := togL_pos hnil
          have t2 := togL_le hnil
          rw [hlen] at t2
          have AE := fun w => refEnd_calls s h j hlt w
          have AK := fun w => refKind_calls (s.extract j (j + togL (s.data.toList.drop j))) (by unfold maxLen; simp; omega) w
          have hx := ext_cut s j (togL (s.data.toList.drop j))
          clear hm hsl hb' hlen hnil
          by_cases hk : kindL ((s.data.toList.drop j).take (togL (s.data.toList.drop j))) = 0
          · have E1 := kept_bad (held_kept HK.out hg0) hlt hk
            have hE := Lib.hid (show errT s.data.toList = 20 by
              unfold errT
              rw [if_neg (show ¬ 4000 < s.data.toList.length from Nat.not_lt.2 h), E1])
            have hPo := Lib.hid (show posT s.data.toList = j by
              unfold posT
              rw [if_neg (show ¬ 4000 < s.data.toList.length from Nat.not_lt.2 h), E1])
            rw [hx, hk] at AK
            clear hx hk E1 hg0
            generalize hNN : j + togL (s.data.toList.drop j) = N at *
            have hN1 : j ≤ N := by omega
            have hN2 : N ≤ s.size := by omega
            have CE := Lib.hid AE
            have CK := Lib.hid AK
            clear AE AK hNN t1 t2
            rcases hN with d1 | ⟨d1, d2⟩ | ⟨d1, d2, d3⟩
            · have f47 : ((s[j].toNat : Int) == 47) = false := is_no (by omega)
              clear d1
              go_wp2_with fail
              refine (CE.out _).mono ?_; rintro e w3 ⟨rfl, b3⟩
              go_wp2_with fail
              refine (CK.out _).mono ?_; rintro e w4 ⟨rfl, b4⟩
              go_wp2
              refine bodyPost_ret (v := .tuple #[.slice none 0 0, .int .i64 j, .int .i64 20]) (by simp [results, Tryd.results9, go_sem]) rfl ⟨.slice none 0 0, ?_, ?_, ?_⟩
              · rw [← HP.out, ← HE.out, hE.out, hPo.out]
              · rw [← HT.out]
                unfold toksT
                rw [hE.out, if_neg (by decide)]
                exact World.ownsRow_nil _ _ _ _
              · exact up_trans hnx (up_trans b3 b4)
            · have f47 : ((s[j].toNat : Int) == 47) = true := is_yes (by omega)
              have e1 : (s.size : Int) ≤ (j : Int) + 1 := by omega
              clear d1 d2
              go_wp2_with fail
              refine (CE.out _).mono ?_; rintro e w3 ⟨rfl, b3⟩
              go_wp2_with fail
              refine (CK.out _).mono ?_; rintro e w4 ⟨rfl, b4⟩
              go_wp2
              refine bodyPost_ret (v := .tuple #[.slice none 0 0, .int .i64 j, .int .i64 20]) (by simp [results, Tryd.results9, go_sem]) rfl ⟨.slice none 0 0, ?_, ?_, ?_⟩
              · rw [← HP.out, ← HE.out, hE.out, hPo.out]
              · rw [← HT.out]
                unfold toksT
                rw [hE.out, if_neg (by decide)]
                exact World.ownsRow_nil _ _ _ _
              · exact up_trans hnx (up_trans b3 b4)
            · have f47 : ((s[j].toNat : Int) == 47) = true := is_yes (by omega)
              have g47 : ((s[j + 1].toNat : Int) == 47) = false := is_no (by omega)
              have e1 : (j : Int) + 1 < (s.size : Int) := by omega
              clear d1 d3
              go_wp2_with fail
              refine (CE.out _).mono ?_; rintro e w3 ⟨rfl, b3⟩
              go_wp2_with fail
              refine (CK.out _).mono ?_; rintro e w4 ⟨rfl, b4⟩
              go_wp2
              refine bodyPost_ret (v := .tuple #[.slice none 0 0, .int .i64 j, .int .i64 20]) (by simp [results, Tryd.results9, go_sem]) rfl ⟨.slice none 0 0, ?_, ?_, ?_⟩
              · rw [← HP.out, ← HE.out, hE.out, hPo.out]
              · rw [← HT.out]
                unfold toksT
                rw [hE.out, if_neg (by decide)]
                exact World.ownsRow_nil _ _ _ _
              · exact up_trans hnx (up_trans b3 b4)
          · have K2 := held_step HK.out hg0 hlt hk
            rw [hx] at AK
            rw [← hx] at AK K2 hk
            generalize hn : kindL (s.extract j (j + togL (s.data.toList.drop j))).data.toList = n at *
            generalize hNN : j + togL (s.data.toList.drop j) = N at *
            have hN1 : j ≤ N := by omega
            have HN3 := Lib.hid (show j < N by omega)
            have hN2 : N ≤ s.size := by omega
            have hn0 : ((n : Int) == 0) = false := by rw [beq_eq_false_iff_ne]; omega
            have hn1 : ¬ (n : Int) = 0 := by omega
            have H1 := Lib.hid K2
            have CE := Lib.hid AE
            have CK := Lib.hid AK
            clear AE AK hNN t1 t2 hn hx K2 hk hg0
            rcases hN with d1 | ⟨d1, d2⟩ | ⟨d1, d2, d3⟩
            · have f47 : ((s[j].toNat : Int) == 47) = false := is_no (by omega)
              clear d1
              go_wp2_with fail
              refine (CE.out _).mono ?_; rintro e w3 ⟨rfl, b3⟩
              go_wp2_with fail
              refine (CK.out _).mono ?_; rintro e w4 ⟨rfl, b4⟩
              have hown5 := owns_below (owns_below hown b3) b4
              have bel5 := up_trans hnx (up_trans b3 b4)
              clear b3 b4 hown hnx
              go_wp2_with (first
                | (at_builtin; refine wpList_append_own _ rfl _ _ 22 rfl w.heap.size 31 i0 (.agg #[.int .u8 0, .string ⟨#[]⟩, .int .i64 0]) 3 32 Tryd.underlying22 hi hz0 hz1 hz2 rfl (by decide) _ _ _ rfl (hown5.alloc _) ⟨w4.heap.size, 0, none⟩ 1 1 [.int .u8 n, .string (s.extract j N), .int .i64 j] rfl rfl (three_cells _ _ _ _ _) (three_one _ _ _) (by unfold maxLen; omega) (by omega) (by have := bel5.size; simp; omega) ?_)
                | fail)
              intro v' w6 hown6 hgrow6 _
              have bel6 := (bel5.alloc bel5.size _).grown hgrow6 (by have := bel5.size; simp; omega) (fun k hk => (hown5.lt k hk).1)
              have hown7 : w6.ownsRow w.heap.size 31 3 v' (ts ++ [(n, (s.extract j N).data.toList, j)]).length (cellsT (ts ++ [(n, (s.extract j N).data.toList, j)])) := by
                rw [cellsT_snoc, List.length_append]; exact hown6
              clear hown6 hgrow6 hown5 bel5
              go_wp2
              go_roundw
              case rel => exact ⟨_, N, by omega, by go_num, hown7, bel6, H1, H1.out.few⟩
              case measure => have := HN3.out; simp [intOf]; omega
            · have f47 : ((s[j].toNat : Int) == 47) = true := is_yes (by omega)
              have e1 : (s.size : Int) ≤ (j : Int) + 1 := by omega
              clear d1 d2
              go_wp2_with fail
              refine (CE.out _).mono ?_; rintro e w3 ⟨rfl, b3⟩
              go_wp2_with fail
              refine (CK.out _).mono ?_; rintro e w4 ⟨rfl, b4⟩
              have hown5 := owns_below (owns_below hown b3) b4
              have bel5 := up_trans hnx (up_trans b3 b4)
              clear b3 b4 hown hnx
              go_wp2_with (first
                | (at_builtin; refine wpList_append_own _ rfl _ _ 22 rfl w.heap.size 31 i0 (.agg #[.int .u8 0, .string ⟨#[]⟩, .int .i64 0]) 3 32 Tryd.underlying22 hi hz0 hz1 hz2 rfl (by decide) _ _ _ rfl (hown5.alloc _) ⟨w4.heap.size, 0, none⟩ 1 1 [.int .u8 n, .string (s.extract j N), .int .i64 j] rfl rfl (three_cells _ _ _ _ _) (three_one _ _ _) (by unfold maxLen; omega) (by omega) (by have := bel5.size; simp; omega) ?_)
                | fail)
              intro v' w6 hown6 hgrow6 _
              have bel6 := (bel5.alloc bel5.size _).grown hgrow6 (by have := bel5.size; simp; omega) (fun k hk => (hown5.lt k hk).1)
              have hown7 : w6.ownsRow w.heap.size 31 3 v' (ts ++ [(n, (s.extract j N).data.toList, j)]).length (cellsT (ts ++ [(n, (s.extract j N).data.toList, j)])) := by
                rw [cellsT_snoc, List.length_append]; exact hown6
              clear hown6 hgrow6 hown5 bel5
              go_wp2
              go_roundw
              case rel => exact ⟨_, N, by omega, by go_num, hown7, bel6, H1, H1.out.few⟩
              case measure => have := HN3.out; simp [intOf]; omega
            · have f47 : ((s[j].toNat : Int) == 47) = true := is_yes (by omega)
              have g47 : ((s[j + 1].toNat : Int) == 47) = false := is_no (by omega)
              have e1 : (j : Int) + 1 < (s.size : Int) := by omega
              clear d1 d3
              go_wp2_with fail
              refine (CE.out _).mono ?_; rintro e w3 ⟨rfl, b3⟩
              go_wp2_with fail
              refine (CK.out _).mono ?_; rintro e w4 ⟨rfl, b4⟩
              have hown5 := owns_below (owns_below hown b3) b4
              have bel5 := up_trans hnx (up_trans b3 b4)
              clear b3 b4 hown hnx
              go_wp2_with (first
                | (at_builtin; refine wpList_append_own _ rfl _ _ 22 rfl w.heap.size 31 i0 (.agg #[.int .u8 0, .string ⟨#[]⟩, .int .i64 0]) 3 32 Tryd.underlying22 hi hz0 hz1 hz2 rfl (by decide) _ _ _ rfl (hown5.alloc _) ⟨w4.heap.size, 0, none⟩ 1 1 [.int .u8 n, .string (s.extract j N), .int .i64 j] rfl rfl (three_cells _ _ _ _ _) (three_one _ _ _) (by unfold maxLen; omega) (by omega) (by have := bel5.size; simp; omega) ?_)
                | fail)
              intro v' w6 hown6 hgrow6 _
              have bel6 := (bel5.alloc bel5.size _).grown hgrow6 (by have := bel5.size; simp; omega) (fun k hk => (hown5.lt k hk).1)
              have hown7 : w6.ownsRow w.heap.size 31 3 v' (ts ++ [(n, (s.extract j N).data.toList, j)]).length (cellsT (ts ++ [(n, (s.extract j N).data.toList, j)])) := by
                rw [cellsT_snoc, List.length_append]; exact hown6
              clear hown6 hgrow6 hown5 bel5
              go_wp2
              go_roundw
              case rel => exact ⟨_, N, by omega, by go_num, hown7, bel6, H1, H1.out.few⟩
              case measure => have := HN3.out; simp [intOf]; omega
    · obtain rfl : j = s.size := by omega
      have hL := held_end (l := s.data.toList) HK.out
      have hlen : ts.length ≤ 4000 := by omega
      obtain ⟨ao, cap, hv⟩ : ∃ ao cap, u5 = .slice ao ts.length cap := by
        rcases hown.2 with ⟨h1, h2⟩ | ⟨g, cap, cur, h1, _⟩
        · exact ⟨_, _, by rw [h1, h2]⟩
        · exact ⟨_, _, h1⟩
      subst hv
      have hE : errT s.data.toList = if 1500 < ts.length then 4 else 0 := by
        unfold errT
        rw [if_neg (show ¬ 4000 < s.data.toList.length from Nat.not_lt.2 h), hL]
      have hPo : posT s.data.toList = 0 := by
        unfold posT
        rw [if_neg (show ¬ 4000 < s.data.toList.length from Nat.not_lt.2 h), hL]
      have hT2 : toksT s.data.toList = if 1500 < ts.length then [] else ts := by
        unfold toksT
        rw [hE, hL]
        by_cases hc : 1500 < ts.length
        · rw [if_pos hc, if_pos hc, if_neg (by decide)]
        · rw [if_neg hc, if_neg hc, if_pos rfl]
      have G1 := Lib.hid hE
      have G2 := Lib.hid hPo
      have G3 := Lib.hid hT2
      clear hE hPo hT2 hL HK
      by_cases hc : 1500 < ts.length
      · have ec : 1500 < (ts.length : Int) := by omega
        go_wp2
        refine bodyPost_ret (v := .tuple #[.slice none 0 0, .int .i64 0, .int .i64 4]) (by simp [results, Tryd.results9, go_sem]) rfl ⟨.slice none 0 0, ?_, ?_, hnx⟩
        · rw [← HP.out, ← HE.out, G1.out, G2.out, if_pos hc]; rfl
        · rw [← HT.out, G3.out, if_pos hc]
          exact World.ownsRow_nil _ _ _ _
      · have ec : (ts.length : Int) ≤ 1500 := by omega
        go_wp2
        refine bodyPost_ret (v := .tuple #[.slice ao ts.length cap, .int .i64 0, .int .i64 0]) (by simp [results, Tryd.results9, go_sem]) rfl ⟨.slice ao ts.length cap, ?_, ?_, hnx⟩
        · rw [← HP.out, ← HE.out, G1.out, G2.out, if_neg hc]; rfl
        · rw [← HT.out, G3.out, if_neg hc]
          exact hown

theorem refAll_calls (s : ByteArray) (w : World) :
    Calls Tryd.prog 9 #[.string s] w fun e w' => ∃ v, e = .returned (.tuple #[v, .int .i64 (posT s.data.toList), .int .i64 (errT s.data.toList)]) ∧
      w'.ownsRow w.heap.size 31 3 v (toksT s.data.toList).length (cellsT (toksT s.data.toList)) ∧ Below w.heap.size w w' := by
  by_cases h : s.size ≤ 4000
  · exact refAll_short s h w
  · have h2 : 4000 < s.data.toList.length := Nat.lt_of_not_le h
    refine (refAll_long s (by omega) w).mono ?_
    rintro e w' ⟨rfl, rfl⟩
    have hE : errT s.data.toList = 3 := by unfold errT; rw [if_pos h2]
    have hP : posT s.data.toList = 0 := by unfold posT; rw [if_pos h2]
    have hT : toksT s.data.toList = [] := by unfold toksT; rw [hE, if_neg (by decide)]
    exact ⟨.slice none 0 0, by rw [hE, hP]; rfl, by rw [hT]; exact World.ownsRow_nil _ _ _ _, Below.refl _ _⟩
end Go.Proofs.YtbdefkhmomogdaaDoor
