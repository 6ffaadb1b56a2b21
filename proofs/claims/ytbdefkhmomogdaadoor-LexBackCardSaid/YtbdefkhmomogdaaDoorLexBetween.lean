/- The law's own between: does a text hold blanks and remarks alone? -/
import Derived.Test.YtbdefkhmomogdaaDoorRefAll
namespace Go.Proofs.YtbdefkhmomogdaaDoor
open Go.RowKit
set_option linter.unusedVariables false

set_option maxHeartbeats 4000000 in
theorem between_calls (s : ByteArray) (hs : (s.size : Int) ≤ 6000) (w : World) :
    Calls Tryd.prog 12 #[.string s] w fun e w' => e = .returned (.bool (decide (gapF false s.data.toList = s.size))) ∧ w = w' := by
  generalize hG : gapF false s.data.toList = G
  have HG := Lib.hid hG
  clear hG
  go_enter Tryd.func12, Tryd.ntmps12
  go_wp2_with fail
  go_loop [3, 4] (fun m i => ∃ (k : Nat) (b : Bool), k ≤ s.size ∧ i = .int .i64 k ∧ m = .bool b ∧ Hid (k + gapF b (s.data.toList.drop k) = G)) (fun _ i => s.size - (intOf i).toNat)
  case atStart => exact ⟨0, false, by omega, rfl, rfl, Lib.hid (by rw [List.drop_zero, Nat.zero_add]; exact HG.out)⟩
  case round =>
    clear HG
    obtain ⟨k, b, hk, rfl, rfl, hg⟩ := hrel
    by_cases hlt : k < s.size
    · cases b
      · by_cases hb : blankB s[k] = true
        · have H1 := Lib.hid (show k + 1 + gapF false (s.data.toList.drop (k + 1)) = G by have := hg.out; rw [drop_byte hlt, gapF_blank hb] at this; omega)
          have hc := (blank_iff _).1 hb
          clear hb
          rcases hc with hc | hc | hc | hc
          · have f32 : ((s[k].toNat : Int) != 32) = false := isnt_no (by omega)
            have f47 : ((s[k].toNat : Int) == 47) = false := is_no (by omega)
            clear hc
            go_wp2
            go_round
            case rel => exact ⟨k + 1, false, by omega, by go_num, rfl, H1⟩
            case measure => simp [intOf]; omega
          · have f32 : ((s[k].toNat : Int) != 32) = true := isnt_yes (by omega)
            have f9 : ((s[k].toNat : Int) != 9) = false := isnt_no (by omega)
            have f47 : ((s[k].toNat : Int) == 47) = false := is_no (by omega)
            clear hc
            go_wp2
            go_round
            case rel => exact ⟨k + 1, false, by omega, by go_num, rfl, H1⟩
            case measure => simp [intOf]; omega
          · have f32 : ((s[k].toNat : Int) != 32) = true := isnt_yes (by omega)
            have f9 : ((s[k].toNat : Int) != 9) = true := isnt_yes (by omega)
            have f10 : ((s[k].toNat : Int) != 10) = false := isnt_no (by omega)
            have f47 : ((s[k].toNat : Int) == 47) = false := is_no (by omega)
            clear hc
            go_wp2
            go_round
            case rel => exact ⟨k + 1, false, by omega, by go_num, rfl, H1⟩
            case measure => simp [intOf]; omega
          · have f32 : ((s[k].toNat : Int) != 32) = true := isnt_yes (by omega)
            have f9 : ((s[k].toNat : Int) != 9) = true := isnt_yes (by omega)
            have f10 : ((s[k].toNat : Int) != 10) = true := isnt_yes (by omega)
            have f13 : ((s[k].toNat : Int) != 13) = false := isnt_no (by omega)
            have f47 : ((s[k].toNat : Int) == 47) = false := is_no (by omega)
            clear hc
            go_wp2
            go_round
            case rel => exact ⟨k + 1, false, by omega, by go_num, rfl, H1⟩
            case measure => simp [intOf]; omega
        · have hb' : blankB s[k] = false := by simpa using hb
          have hnb := mt (blank_iff s[k]).2 hb
          have f32 : ((s[k].toNat : Int) != 32) = true := isnt_yes (by omega)
          have f9 : ((s[k].toNat : Int) != 9) = true := isnt_yes (by omega)
          have f10 : ((s[k].toNat : Int) != 10) = true := isnt_yes (by omega)
          have f13 : ((s[k].toNat : Int) != 13) = true := isnt_yes (by omega)
          have hsl := slash_at hlt
          clear hb hnb
          by_cases hm : Lib.hasPrefix (s.data.toList.drop k) [47, 47] = true
          · rw [hm] at hsl
            have hsl2 := (Bool.and_eq_true _ _).mp hsl.symm
            have hj1 : k + 1 < s.size := by
              have := gap_remark hm
              have r3 := lineL_le (s.data.toList.drop k)
              rw [List.length_drop, show s.data.toList.length = s.size from rfl] at r3
              omega
            have s1 : s[k].toNat = 47 := by simpa using hsl2.1
            have s2 : s[k + 1].toNat = 47 := by have := hsl2.2; rw [drop_byte hj1] at this; simpa [headB] using this
            have H1 := Lib.hid (show k + 1 + gapF true (s.data.toList.drop (k + 1)) = G by
              have := hg.out
              rw [drop_byte hlt, gapF, if_neg (by rw [hb']; simp), if_pos ⟨s1, hsl2.2⟩] at this
              omega)
            have f47 : ((s[k].toNat : Int) == 47) = true := is_yes (by omega)
            have g47 : ((s[k + 1].toNat : Int) == 47) = true := is_yes (by omega)
            have e1 : (k : Int) + 1 < (s.size : Int) := by omega
            clear hsl hsl2 hm s1 s2 hb'
            go_wp2
            go_round
            case rel => exact ⟨k + 1, true, by omega, by go_num, rfl, H1⟩
            case measure => simp [intOf]; omega
          · have hN : ¬ s[k].toNat = 47 ∨ (s[k].toNat = 47 ∧ ¬ k + 1 < s.size) ∨ ∃ (_ : s[k].toNat = 47) (h : k + 1 < s.size), ¬ s[k + 1].toNat = 47 := by
              by_cases d1 : s[k].toNat = 47
              · by_cases d2 : k + 1 < s.size
                · refine .inr (.inr ⟨d1, d2, fun d3 => hm ?_⟩)
                  rw [hsl, drop_byte d2]
                  simp [headB, d1, d3]
                · exact .inr (.inl ⟨d1, d2⟩)
              · exact .inl d1
            have H1 := Lib.hid (show k = G by have := hg.out; rw [gap_stop hlt hb' (by simpa using hm)] at this; omega)
            clear hm hsl hb' hg
            rcases hN with d1 | ⟨d1, d2⟩ | ⟨d1, d2, d3⟩
            · have f47 : ((s[k].toNat : Int) == 47) = false := is_no (by omega)
              clear d1
              go_wp2
              go_ret
              exact ⟨ret_bool (by rw [decide_eq_false]; have := H1.out; omega), rfl⟩
            · have f47 : ((s[k].toNat : Int) == 47) = true := is_yes (by omega)
              have e1 : (s.size : Int) ≤ (k : Int) + 1 := by omega
              clear d1 d2
              go_wp2
              go_ret
              exact ⟨ret_bool (by rw [decide_eq_false]; have := H1.out; omega), rfl⟩
            · have f47 : ((s[k].toNat : Int) == 47) = true := is_yes (by omega)
              have g47 : ((s[k + 1].toNat : Int) == 47) = false := is_no (by omega)
              have e1 : (k : Int) + 1 < (s.size : Int) := by omega
              clear d1 d3
              go_wp2
              go_ret
              exact ⟨ret_bool (by rw [decide_eq_false]; have := H1.out; omega), rfl⟩
      · by_cases h10 : s[k].toNat = 10
        · have H1 := Lib.hid (show k + 1 + gapF false (s.data.toList.drop (k + 1)) = G by have := hg.out; rw [drop_byte hlt, gapF, show decide (s[k].toNat ≠ 10) = false from by simp [h10]] at this; omega)
          have f10 : ((s[k].toNat : Int) != 10) = false := isnt_no (by omega)
          clear h10
          go_wp2
          go_round
          case rel => exact ⟨k + 1, false, by omega, by go_num, rfl, H1⟩
          case measure => simp [intOf]; omega
        · have H1 := Lib.hid (show k + 1 + gapF true (s.data.toList.drop (k + 1)) = G by have := hg.out; rw [drop_byte hlt, gapF, show decide (s[k].toNat ≠ 10) = true from by simp [h10]] at this; omega)
          have f10 : ((s[k].toNat : Int) != 10) = true := isnt_yes (by omega)
          clear h10
          go_wp2
          go_round
          case rel => exact ⟨k + 1, true, by omega, by go_num, rfl, H1⟩
          case measure => simp [intOf]; omega
    · obtain rfl : k = s.size := by omega
      have H1 := Lib.hid (show G = s.size by have := hg.out; rw [List.drop_of_length_le (by simp)] at this; cases b <;> simp [gapF] at this <;> omega)
      go_wp2
      go_ret
      exact ⟨ret_bool (by rw [decide_eq_true H1.out]), rfl⟩

theorem gap_take : ∀ (b : Bool) (l : List UInt8), gapF b (l.take (gapF b l)) = gapF b l
  | true, [] => rfl
  | false, [] => rfl
  | true, c :: r => by
    have ih := gap_take (decide (c.toNat ≠ 10)) r
    rw [gapF, show 1 + gapF (decide (c.toNat ≠ 10)) r = gapF (decide (c.toNat ≠ 10)) r + 1 from by omega, List.take_succ_cons, gapF, ih]; omega
  | false, c :: r => by
    by_cases h : blankB c = true
    · have ih := gap_take false r
      rw [gapF_blank h, show 1 + gapF false r = gapF false r + 1 from by omega, List.take_succ_cons, gapF_blank h, ih]; omega
    · by_cases h2 : c.toNat = 47 ∧ headB (fun d => decide (d.toNat = 47)) r = true
      · have ih := gap_take true r
        have e : gapF false (c :: r) = gapF true r + 1 := by rw [gapF, if_neg h, if_pos h2]; omega
        have h3 : headB (fun d => decide (d.toNat = 47)) (r.take (gapF true r)) = true := by
          cases r with
          | nil => cases h2.2
          | cons d t =>
            rw [gapF, show 1 + gapF (decide (d.toNat ≠ 10)) t = gapF (decide (d.toNat ≠ 10)) t + 1 from by omega, List.take_succ_cons]
            exact h2.2
        rw [e, List.take_succ_cons, gapF, if_neg h, if_pos ⟨h2.1, h3⟩, ih]; omega
      · rw [gapF_none (by simpa using h) h2]; rfl
theorem kind_le (l : List UInt8) : kindL l ≤ 5 := by
  unfold kindL
  split
  · omega
  · split
    · omega
    · split
      · omega
      · split
        · omega
        · split
          · omega
          · split <;> omega
theorem lex_pos : ∀ (n : Nat) (l : List UInt8) (p q : Nat), l.length ≤ n → (lexL l p).2 = some q → q ≤ p + l.length
  | n, l, p, q, hn, h => by
    rcases lexL_cases l p with ⟨_, e⟩ | ⟨h1, _, e⟩ | ⟨h1, _, e⟩
    · rw [e] at h; cases h
    · rw [e] at h
      obtain rfl : p + gapF false l = q := by simpa using h
      have := gapF_le false l
      omega
    · rw [e] at h
      have hr := rest_less h1
      have t2 := togL_le h1
      rw [List.length_drop] at t2
      cases n with
      | zero => omega
      | succ n =>
        have ih := lex_pos n _ _ q (by omega) h
        rw [List.length_drop] at ih
        omega
end Go.Proofs.YtbdefkhmomogdaaDoor
