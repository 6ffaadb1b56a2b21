/- LexLetters: letters, digits and _ behind a first letter are one token, or none; digits are one token just if they are a number that may be: the walk. -/
import Derived.Test.YtbdefkhmomogdaaDoorLexAlone
import Derived.Test.YtbdefkhmomogdaaDoorLexLettersMath
import Derived.Test.YtbdefkhmomogdaaDoorRefEnd
import Derived.Laws.IdiomStrings
import Derived.Deep.QuietTactic
import Derived.BigQuiet
namespace Go.Proofs.YtbdefkhmomogdaaDoor
open Go.RowKit
set_option linter.unusedVariables false

/-- string([]byte{x}) is one byte, wherever the slice lies -/
theorem one_byte_at (c : UInt8) (x : Int) (hx : (c.toNat : Int) = x) (W : World) (b : Nat) (h : W.cell? ⟨b, 0, none⟩ = some (.int .u8 x)) :
    (convert 34 9 (.slice (some ⟨b, 0, none⟩) 1 1)).run Tryd.prog W = .ok (.string ⟨#[c]⟩) W := by
  refine run_convert_bytes_back (P := Tryd.prog) W 34 9 5 ⟨b, 0, none⟩ 1 [c] Tryd.underlying34 Tryd.underlying5 Tryd.underlying9 ?_
  intro j hj
  have : j = 0 := by simp at hj; omega
  subst this
  simp [Addr.add, h, hx]
theorem cons_bs (c : UInt8) (l : List UInt8) : (⟨#[c]⟩ : ByteArray) ++ bs l = bs (c :: l) := by apply ByteArray.ext; simp [bs]
def emptyOf (v : Value) : Nat := match v with | .string b => if b.size = 0 then 1 else 0 | _ => 0
theorem size_cons (c : UInt8) (b : ByteArray) : ((⟨#[c]⟩ : ByteArray) ++ b).size = 1 + b.size := by rw [ByteArray.size_append]; rfl
theorem emptyOf_cons (c : UInt8) (b : ByteArray) : emptyOf (.string ((⟨#[c]⟩ : ByteArray) ++ b)) = 0 := by
  unfold emptyOf
  show (if ((⟨#[c]⟩ : ByteArray) ++ b).size = 0 then 1 else 0) = 0
  rw [if_neg (by rw [size_cons]; omega)]
/-- what a digit of the loop is made of -/
theorem dig_parts (m : Nat) (hm : m < 18446744073709551616) : ∃ (q r x : Int), IntKind.u64.wrap ((m : Int).tdiv 10) = q ∧ (m : Int).tmod 10 = r ∧ IntKind.u64.wrap (48 + r) = x ∧ IntKind.u8.wrap x = x ∧
    q = ((m / 10 : Nat) : Int) ∧ ((digB (m % 10)).toNat : Int) = x := by
  have hd : m % 10 < 10 := Nat.mod_lt _ (by omega)
  refine ⟨((m / 10 : Nat) : Int), ((m % 10 : Nat) : Int), 48 + ((m % 10 : Nat) : Int), ?_, ?_, ?_, ?_, rfl, by rw [digB_nat hd]; omega⟩
  · rw [Int.tdiv_eq_ediv_of_nonneg (by omega)]; rw [IntKind.wrap_u64]; omega
  · rw [Int.tmod_eq_emod_of_nonneg (by omega)]; omega
  · rw [IntKind.wrap_u64]; omega
  · rw [IntKind.wrap_u8]; omega

theorem ext_cut1 (s : ByteArray) (a : Nat) : (s.extract a (a + 1)).data.toList = (s.data.toList.drop a).take 1 := by
  simp only [ByteArray.data_extract, Array.toList_extract, List.extract_eq_take_drop]
  rw [show a + 1 - a = 1 from by omega]
/-- a first letter -/
theorem first_parts (z : Nat) (hz : z < 256) (up : Bool) : ∃ (r x : Int) (c : UInt8), (z : Int).tmod 26 = r ∧ IntKind.u8.wrap ((if up then 65 else 97) + r) = x ∧ (c.toNat : Int) = x ∧ (if up then greatB else smallB) c = true := by
  have hd : z % 26 < 26 := Nat.mod_lt _ (by omega)
  refine ⟨((z % 26 : Nat) : Int), (if up then 65 else 97) + ((z % 26 : Nat) : Int), UInt8.ofNat ((if up then 65 else 97) + z % 26), ?_, ?_, ?_, ?_⟩
  · rw [Int.tmod_eq_emod_of_nonneg (by omega)]; omega
  · rw [IntKind.wrap_u8]; cases up <;> simp <;> omega
  · rw [UInt8.toNat_ofNat']; cases up <;> simp <;> omega
  · cases up
    · show smallB _ = true
      rw [smallB_iff, UInt8.toNat_ofNat']; simp; omega
    · show greatB _ = true
      rw [greatB_iff, UInt8.toNat_ofNat']; simp; omega
/-- a letter behind it -/
theorem next_parts (z : Nat) (hz : z < 256) : ∃ (q y : Int) (c : UInt8), (z : Int).tmod 63 = q ∧ IntKind.u8.wrap (q + 1) = y ∧ nameB c = true ∧
    ∀ w : World, (Instr.slice 9 (.string ⟨#[97, 98, 99, 100, 101, 102, 103, 104, 105, 106, 107, 108, 109, 110, 111, 112, 113, 114, 115, 116, 117, 118, 119, 120, 121, 122, 48, 49, 50, 51, 52, 53, 54, 55, 56, 57, 95, 65, 66, 67, 68, 69, 70, 71, 72, 73, 74, 75, 76, 77, 78, 79, 80, 81, 82, 83, 84, 85, 86, 87, 88, 89, 90]⟩) (some (.int .u8 q)) (some (.int .u8 y)) none).run Tryd.prog w = .ok (.string ⟨#[c]⟩) w := by
  have hd : z % 63 < 63 := Nat.mod_lt _ (by omega)
  obtain ⟨c, _, hc, ht⟩ := allL_at (z % 63) hd
  refine ⟨((z % 63 : Nat) : Int), ((z % 63 + 1 : Nat) : Int), c, ?_, ?_, hc, fun w => ?_⟩
  · rw [Int.tmod_eq_emod_of_nonneg (by omega)]; omega
  · rw [IntKind.wrap_u8]; omega
  · have h := run_slice_string (P := Tryd.prog) w 9 (bs allL) .u8 .u8 ((z % 63 : Nat) : Int) ((z % 63 + 1 : Nat) : Int) Tryd.underlying9 (by omega) (by omega) (by rw [bs_size, allL_len]; omega)
    have e : (bs allL).extract (z % 63) (z % 63 + 1) = ⟨#[c]⟩ := by
      rw [← bs_of ((bs allL).extract (z % 63) (z % 63 + 1)), ext_cut1, bs_list, ht]; rfl
    have h2 := h
    simp only [Int.toNat_natCast] at h2
    rw [e] at h2
    exact h2
theorem snoc_bs (l : List UInt8) (c : UInt8) : bs l ++ (⟨#[c]⟩ : ByteArray) = bs (l ++ [c]) := by apply ByteArray.ext; simp [bs]
theorem size_snoc (c : UInt8) (b : ByteArray) : (b ++ (⟨#[c]⟩ : ByteArray)).size = b.size + 1 := by rw [ByteArray.size_append]; rfl
/-- what the loop over letters keeps -/
structure Nm (up : Bool) (k : Nat) (b : ByteArray) (l : List UInt8) : Prop where
  bytes : b = bs l
  len : l.length = k
  head : headB (if up then greatB else smallB) l = true
  all : l.all nameB = true
theorem nm_step {up : Bool} {k : Nat} {b : ByteArray} {l : List UInt8} {c : UInt8} (h : Nm up k b l) (hc : nameB c = true) : Nm up (k + 1) (b ++ ⟨#[c]⟩) (l ++ [c]) := by
  refine ⟨by rw [h.bytes, snoc_bs], by rw [List.length_append, h.len]; rfl, ?_, by rw [List.all_append, h.all]; simp [hc]⟩
  have := h.head
  cases l with
  | nil => cases up <;> cases this
  | cons d r => exact this

set_option maxRecDepth 100000 in
set_option maxHeartbeats 8000000 in
theorem letters_core (w : World) (ao : Option Addr) (len cap : Nat) (up : Bool) (N : Nat) (hN : N < 18446744073709551616) (n : Int) (hn : Hid (n = (N : Int)))
    (hc : Hid (1 ≤ len → ∃ b off, ao = some ⟨b, off, none⟩ ∧ ∀ (w' : World), Below w.heap.size w w' → ∀ j, j < len → ∃ z : Nat, z < 256 ∧ w'.cell? ⟨b, off + j, none⟩ = some (.int .u8 (z : Int))))
    (CD : Hid (∀ l : List UInt8, l.all dgt = true → l ≠ [] → dval l = N → l.length ≤ 20 → ∀ w : World, Tab w → Calls Tryd.prog 10 #[.string (bs l)] w fun e w' => ∃ ao cap,
      e = .returned (.tuple #[.slice ao (if N < 9223372036854775808 then 1 else 0) cap, .int .i64 0, .int .i64 (if N < 9223372036854775808 then 0 else 20)]) ∧ Toks w' w.heap.size (.slice ao (if N < 9223372036854775808 then 1 else 0) cap) (if N < 9223372036854775808 then [(4, l, 0)] else []) ∧ Below w.heap.size w w'))
    (htab : Tab w) :
    Calls Tryd.prog 8 #[.slice ao len cap, .bool up, .int .u64 n] w fun e w' => e = .returned (.bool true) ∧ Below w.heap.size w w' := by
  go_enter Tryd.func8, Tryd.ntmps8
  go_wp2_with fail
  refine (awake_calls w htab).mono ?_; rintro e w0 ⟨rfl, b0⟩
  go_wp2_with fail
  go_loopw [7, 8] (fun d x wr => ∃ (m : Nat) (l : List UInt8) (b : ByteArray), d = .string b ∧ x = .int .u64 (m : Int) ∧ m < 18446744073709551616 ∧ (b.size : Int) ≤ 20 ∧ Hid (b = bs l ∧ Digs N m l) ∧ Below w.heap.size w wr) (fun d x _ => (intOf x).toNat + emptyOf d)
  case atStart => exact ⟨N, [], ⟨#[]⟩, rfl, by rw [hn.out], hN, by decide, Lib.hid ⟨rfl, digs_start N⟩, b0⟩
  case round =>
    obtain ⟨m, l, b, rfl, rfl, hm, hz, hD, hnx⟩ := hrel
    have hbl : b.size = l.length := by rw [hD.out.1]; rfl
    by_cases hgo : 0 < m ∨ l = []
    · have H1 := Lib.hid (digs_step hD.out.2 hN hgo)
      have H2 : Hid ((⟨#[digB (m % 10)]⟩ : ByteArray) ++ b = bs (digB (m % 10) :: l)) := Lib.hid (by rw [hD.out.1, cons_bs])
      rcases Nat.eq_zero_or_pos m with rfl | hmp
      · obtain rfl : l = [] := hgo.resolve_left (by omega)
        obtain rfl : b = ⟨#[]⟩ := hD.out.1
        have hcv := one_byte_at 48 48 rfl
        go_wp2
        go_roundw
        case rel => exact ⟨0, _, _, rfl, rfl, by omega, by decide, Lib.hid ⟨rfl, H1.out⟩, hnx.alloc hnx.size _⟩
        case measure => rw [emptyOf_cons]; simp [intOf]; decide
      · have em : (0 : Int) < (m : Int) := by omega
        obtain ⟨q, rr, x, p1, p2, p3, p4, p5, p6⟩ := dig_parts m hm
        have hcv := one_byte_at _ x p6
        have H5 := Lib.hid p5
        have hfew := H1.out.few
        rw [List.length_cons, ← hbl] at hfew
        generalize digB (m % 10) = c at *
        clear p5 p6 hgo
        go_wp2
        go_roundw
        case rel => exact ⟨m / 10, _, _, rfl, by congr 1, by omega, by rw [size_cons]; omega, Lib.hid ⟨H2.out, H1.out⟩, hnx.alloc hnx.size _⟩
        case measure =>
          rw [emptyOf_cons]
          simp [intOf]
          omega
    · obtain rfl : m = 0 := by omega
      have hne : l ≠ [] := fun e => hgo (.inr e)
      have hem : b.toList.isEmpty = false := by rw [hD.out.1, ByteArray.toList_eq, bs_list]; cases l with | nil => exact absurd rfl hne | cons _ _ => rfl
      have hdv := digits_end hD.out.2
      have C0 := CD.out l hD.out.2.dig hne hdv hD.out.2.few
      rw [← hD.out.1] at C0
      by_cases hs : N < 9223372036854775808
      · rw [if_pos hs, if_pos hs, if_pos hs] at C0
        have C1 := Lib.hid C0
        have es : n < 9223372036854775808 := by rw [hn.out]; omega
        have en0 : 0 ≤ n := by rw [hn.out]; omega
        have ed1 : decide (n < 9223372036854775808) = true := decide_eq_true es
        have ed2 : decide (9223372036854775808 ≤ n) = false := decide_eq_false (by omega)
        clear C0 hgo
        go_wp2_with fail
        refine (C1.out _ (htab.below hnx)).mono ?_; rintro e w1 ⟨ao1, cap1, rfl, k1, b1⟩
        obtain ⟨g, c2, hv, _⟩ := k1.full (by simp)
        simp only [Value.slice.injEq] at hv
        obtain ⟨rfl, hx1, rfl⟩ := hv
        clear hx1
        have p1 : w1.cell? ⟨g, 0, none⟩ = some (.int .u8 4) := (k1.at (i := 0) (t := (4, l, 0)) rfl).1
        have b01 := up_trans hnx b1
        clear k1 b1 hnx hs hN hdv
        rcases (show len < 1 ∨ 30 < len ∨ (1 ≤ len ∧ len ≤ 30) by omega) with hl | hl | ⟨hl1, hl2⟩
        · have el : (len : Int) < 1 := by omega
          go_wp2
          go_ret
          exact ⟨rfl, b01⟩
        · have el : 30 < (len : Int) := by omega
          have el1 : 1 ≤ (len : Int) := by omega
          go_wp2
          go_ret
          exact ⟨rfl, b01⟩
        · have el1 : 1 ≤ (len : Int) := by omega
          have el2 : (len : Int) ≤ 30 := by omega
          obtain ⟨bk, off, hao, hcell'⟩ := hc.out hl1
          subst hao
          have hcell := hcell'
          clear hcell' hc CD C1
          obtain ⟨z0, hz0, hz00'⟩ := hcell w1 b01 0 (by omega)
          have hz00 : w1.cell? ⟨bk, off, none⟩ = some (.int .u8 (z0 : Int)) := hz00'
          clear hz00'
          cases up
          · obtain ⟨r0, x0, c0, f1, f2, f3, f4⟩ := first_parts z0 hz0 false
            have f2' : IntKind.u8.wrap (97 + r0) = x0 := f2
            clear f2
            have hcv0 := one_byte_at c0 x0 f3
            have M0 : Hid (Nm false 1 ⟨#[c0]⟩ [c0]) := Lib.hid ⟨rfl, rfl, f4, by rw [List.all_cons, small_name f4]; rfl⟩
            clear f3 f4
            go_wp2_with fail
            have bW : Below w.heap.size w (w1.alloc (.cells #[.int .u8 x0] 5)) := b01.alloc b01.size _
            generalize w1.alloc (.cells #[.int .u8 x0] 5) = W at *
            clear hcv0 f1 f2' hz00
            go_loopw [14, 15] (fun nm i wq => ∃ (k : Nat) (b2 : ByteArray) (l2 : List UInt8), nm = .string b2 ∧ i = .int .i64 k ∧ 1 ≤ k ∧ k ≤ len ∧ (b2.size : Int) = (k : Int) ∧ Hid (Nm false k b2 l2) ∧ Below w.heap.size w wq) (fun _ i _ => len - (intOf i).toNat)
            case atStart => exact ⟨1, ⟨#[c0]⟩, [c0], rfl, rfl, by omega, by omega, rfl, M0, bW⟩
            case round =>
              clear M0 bW
              obtain ⟨k, b2, l2, rfl, rfl, hk1, hk2, hbs, hM, hnx3⟩ := hrel
              by_cases hkl : k < len
              · obtain ⟨z, hz, hzc⟩ := hcell wr hnx3 k hkl
                obtain ⟨q, y, c, g1, g2, g3, g4⟩ := next_parts z hz
                have M1 := Lib.hid (nm_step hM.out g3)
                have ek : (k : Int) < (len : Int) := by omega
                have hsz2 : ((b2 ++ (⟨#[c]⟩ : ByteArray)).size : Int) = ((k + 1 : Nat) : Int) := by rw [size_snoc]; omega
                have Hsz := Lib.hid hsz2
                clear g3 hsz2
                go_wp2_with fail
                go_quiet (fail)
                have bel4 : Below w.heap.size w (wr.drewN nq) := hnx3.trans ⟨rfl, rfl, rfl, Nat.le_refl _, fun _ _ => rfl⟩
                clear hzc hnx3 g1 g2 g4
                generalize wr.drewN nq = W4 at *
                go_wp2
                go_roundw
                case rel => exact ⟨k + 1, _, _, rfl, by go_num, by omega, by omega, Hsz.out, M1, bel4⟩
                case measure => simp [intOf]; omega
              · obtain rfl : k = len := by omega
                obtain ⟨h1, h2, h3, h4⟩ := hM.out
                have hkd := names_kind false h3 h4
                rw [h2] at hkd
                have hlx := lex_name false h3 h4
                have hbytes : ((⟨#[32]⟩ : ByteArray) ++ b2).data.toList = 32 :: l2 := by rw [h1]; simp [bs]
                have hlen4 : ((⟨#[32]⟩ : ByteArray) ++ b2).data.toList.length ≤ 4000 := by rw [hbytes, List.length_cons]; omega
                have htab4 := htab.below hnx3
                by_cases h16 : k ≤ 16
                · rw [if_pos h16] at hkd
                  have hk0 : kindL l2 ≠ 0 := by rw [hkd]; split <;> simp
                  rw [if_neg hk0] at hlx
                  obtain ⟨e1, e2, e3⟩ := err_of hlen4 (by rw [hbytes]; exact hlx) (by simp)
                  have C2 := fun w h => all_gives ((⟨#[32]⟩ : ByteArray) ++ b2) _ _ _ e2 e3 e1 w h
                  have C3 := fun w h => word_calls b2 (by unfold maxLen; omega) w h
                  rw [show b2.data.toList = l2 from by rw [h1]; rfl] at C3
                  have e16 : (k : Int) ≤ 16 := by omega
                  have htx : bs l2 = b2 := h1.symm
                  by_cases hw : wordsL.contains l2 = true
                  · rw [if_pos hw] at hkd
                    rw [hkd] at C2 C3
                    have D2 := Lib.hid C2
                    have D3 := Lib.hid C3
                    clear C2 C3 hkd hlx hk0 e1 e2 e3 hbytes hlen4 h1 h2 h3 h4 hw hM
                    go_wp2_with fail
                    refine (D2.out _ htab4).mono ?_; rintro e w5 ⟨ao5, cap5, rfl, k5, b5⟩
                    have k6 : Toks w5 _ _ _ := k5
                    obtain ⟨g5, c5, hv5, _⟩ := k5.full (by simp)
                    simp only [Value.slice.injEq] at hv5
                    obtain ⟨rfl, hx5, rfl⟩ := hv5
                    clear hx5 k6
                    have t1 : w5.cell? ⟨g5, 0, none⟩ = some (.int .u8 1) := (k5.at (i := 0) (t := (1, l2, 1)) rfl).1
                    have t2 : w5.cell? ⟨g5, 1, none⟩ = some (.string b2) := by rw [← htx]; exact (k5.at (i := 0) (t := (1, l2, 1)) rfl).2.1
                    have b5' := up_trans hnx3 b5
                    clear k5 b5
                    simp only [List.length_cons, List.length_nil, Nat.zero_add] at *
                    go_wp2_with fail
                    refine (D3.out _ (htab.below b5')).mono ?_; rintro e w6 ⟨rfl, b6⟩
                    go_wp2
                    go_ret
                    exact ⟨rfl, up_trans b5' b6⟩
                  · rw [if_neg hw] at hkd
                    rw [show (if false = true then 3 else 2) = 2 from rfl] at hkd
                    rw [hkd] at C2 C3
                    have D2 := Lib.hid C2
                    have D3 := Lib.hid C3
                    clear C2 C3 hkd hlx hk0 e1 e2 e3 hbytes hlen4 h1 h2 h3 h4 hw hM
                    go_wp2_with fail
                    refine (D2.out _ htab4).mono ?_; rintro e w5 ⟨ao5, cap5, rfl, k5, b5⟩
                    obtain ⟨g5, c5, hv5, _⟩ := k5.full (by simp)
                    simp only [Value.slice.injEq] at hv5
                    obtain ⟨rfl, hx5, rfl⟩ := hv5
                    clear hx5
                    have t1 : w5.cell? ⟨g5, 0, none⟩ = some (.int .u8 2) := (k5.at (i := 0) (t := (2, l2, 1)) rfl).1
                    have t2 : w5.cell? ⟨g5, 1, none⟩ = some (.string b2) := by rw [← htx]; exact (k5.at (i := 0) (t := (2, l2, 1)) rfl).2.1
                    have b5' := up_trans hnx3 b5
                    clear k5 b5
                    simp only [List.length_cons, List.length_nil, Nat.zero_add] at *
                    go_wp2_with fail
                    refine (D3.out _ (htab.below b5')).mono ?_; rintro e w6 ⟨rfl, b6⟩
                    have t1' : w6.cell? ⟨g5, 0, none⟩ = some (.int .u8 2) := (b6.cell (World.block_lt_of_cell? w5 _ t1)).trans t1
                    go_wp2
                    go_ret
                    exact ⟨rfl, up_trans b5' b6⟩
                · rw [if_neg h16] at hkd
                  rw [long_no_word (by omega), if_neg (by simp)] at hkd
                  rw [if_pos hkd] at hlx
                  have e1 : errT ((⟨#[32]⟩ : ByteArray) ++ b2).data.toList = 20 := by
                    unfold errT; rw [if_neg (by omega), hbytes, hlx]
                  have e2 : posT ((⟨#[32]⟩ : ByteArray) ++ b2).data.toList = 1 := by
                    unfold posT; rw [if_neg (by omega), hbytes, hlx]
                  have D2 := Lib.hid fun w h => all_gives ((⟨#[32]⟩ : ByteArray) ++ b2) [] _ _ (toks_none (by rw [e1]; decide)) e2 e1 w h
                  have e16 : 16 < (k : Int) := by omega
                  clear hkd hlx e1 e2 hbytes hlen4 h1 h2 h3 h4 hM
                  go_wp2_with fail
                  refine (D2.out _ htab4).mono ?_; rintro e w5 ⟨ao5, cap5, rfl, k5, b5⟩
                  have b5' := up_trans hnx3 b5
                  go_wp2
                  go_ret
                  exact ⟨rfl, b5'⟩
          · obtain ⟨r0, x0, c0, f1, f2, f3, f4⟩ := first_parts z0 hz0 true
            have f2' : IntKind.u8.wrap (65 + r0) = x0 := f2
            clear f2
            have hcv0 := one_byte_at c0 x0 f3
            have M0 : Hid (Nm true 1 ⟨#[c0]⟩ [c0]) := Lib.hid ⟨rfl, rfl, f4, by rw [List.all_cons, great_name f4]; rfl⟩
            clear f3 f4
            go_wp2_with fail
            have bW : Below w.heap.size w (w1.alloc (.cells #[.int .u8 x0] 5)) := b01.alloc b01.size _
            generalize w1.alloc (.cells #[.int .u8 x0] 5) = W at *
            clear hcv0 f1 f2' hz00
            go_loopw [14, 15] (fun nm i wq => ∃ (k : Nat) (b2 : ByteArray) (l2 : List UInt8), nm = .string b2 ∧ i = .int .i64 k ∧ 1 ≤ k ∧ k ≤ len ∧ (b2.size : Int) = (k : Int) ∧ Hid (Nm true k b2 l2) ∧ Below w.heap.size w wq) (fun _ i _ => len - (intOf i).toNat)
            case atStart => exact ⟨1, ⟨#[c0]⟩, [c0], rfl, rfl, by omega, by omega, rfl, M0, bW⟩
            case round =>
              clear M0 bW
              obtain ⟨k, b2, l2, rfl, rfl, hk1, hk2, hbs, hM, hnx3⟩ := hrel
              by_cases hkl : k < len
              · obtain ⟨z, hz, hzc⟩ := hcell wr hnx3 k hkl
                obtain ⟨q, y, c, g1, g2, g3, g4⟩ := next_parts z hz
                have M1 := Lib.hid (nm_step hM.out g3)
                have ek : (k : Int) < (len : Int) := by omega
                have hsz2 : ((b2 ++ (⟨#[c]⟩ : ByteArray)).size : Int) = ((k + 1 : Nat) : Int) := by rw [size_snoc]; omega
                have Hsz := Lib.hid hsz2
                clear g3 hsz2
                go_wp2_with fail
                go_quiet (fail)
                have bel4 : Below w.heap.size w (wr.drewN nq) := hnx3.trans ⟨rfl, rfl, rfl, Nat.le_refl _, fun _ _ => rfl⟩
                clear hzc hnx3 g1 g2 g4
                generalize wr.drewN nq = W4 at *
                go_wp2
                go_roundw
                case rel => exact ⟨k + 1, _, _, rfl, by go_num, by omega, by omega, Hsz.out, M1, bel4⟩
                case measure => simp [intOf]; omega
              · obtain rfl : k = len := by omega
                obtain ⟨h1, h2, h3, h4⟩ := hM.out
                have hkd := names_kind true h3 h4
                rw [h2] at hkd
                have hlx := lex_name true h3 h4
                have hbytes : ((⟨#[32]⟩ : ByteArray) ++ b2).data.toList = 32 :: l2 := by rw [h1]; simp [bs]
                have hlen4 : ((⟨#[32]⟩ : ByteArray) ++ b2).data.toList.length ≤ 4000 := by rw [hbytes, List.length_cons]; omega
                have htab4 := htab.below hnx3
                by_cases h16 : k ≤ 16
                · rw [if_pos h16] at hkd
                  have hk0 : kindL l2 ≠ 0 := by rw [hkd]; split <;> simp
                  rw [if_neg hk0] at hlx
                  obtain ⟨e1, e2, e3⟩ := err_of hlen4 (by rw [hbytes]; exact hlx) (by simp)
                  have C2 := fun w h => all_gives ((⟨#[32]⟩ : ByteArray) ++ b2) _ _ _ e2 e3 e1 w h
                  have C3 := fun w h => word_calls b2 (by unfold maxLen; omega) w h
                  rw [show b2.data.toList = l2 from by rw [h1]; rfl] at C3
                  have e16 : (k : Int) ≤ 16 := by omega
                  have htx : bs l2 = b2 := h1.symm
                  by_cases hw : wordsL.contains l2 = true
                  · rw [if_pos hw] at hkd
                    rw [hkd] at C2 C3
                    have D2 := Lib.hid C2
                    have D3 := Lib.hid C3
                    clear C2 C3 hkd hlx hk0 e1 e2 e3 hbytes hlen4 h1 h2 h3 h4 hw hM
                    go_wp2_with fail
                    refine (D2.out _ htab4).mono ?_; rintro e w5 ⟨ao5, cap5, rfl, k5, b5⟩
                    have k6 : Toks w5 _ _ _ := k5
                    obtain ⟨g5, c5, hv5, _⟩ := k5.full (by simp)
                    simp only [Value.slice.injEq] at hv5
                    obtain ⟨rfl, hx5, rfl⟩ := hv5
                    clear hx5 k6
                    have t1 : w5.cell? ⟨g5, 0, none⟩ = some (.int .u8 1) := (k5.at (i := 0) (t := (1, l2, 1)) rfl).1
                    have t2 : w5.cell? ⟨g5, 1, none⟩ = some (.string b2) := by rw [← htx]; exact (k5.at (i := 0) (t := (1, l2, 1)) rfl).2.1
                    have b5' := up_trans hnx3 b5
                    clear k5 b5
                    simp only [List.length_cons, List.length_nil, Nat.zero_add] at *
                    go_wp2_with fail
                    refine (D3.out _ (htab.below b5')).mono ?_; rintro e w6 ⟨rfl, b6⟩
                    go_wp2
                    go_ret
                    exact ⟨rfl, up_trans b5' b6⟩
                  · rw [if_neg hw] at hkd
                    rw [show (if true = true then 3 else 2) = 3 from rfl] at hkd
                    rw [hkd] at C2 C3
                    have D2 := Lib.hid C2
                    have D3 := Lib.hid C3
                    clear C2 C3 hkd hlx hk0 e1 e2 e3 hbytes hlen4 h1 h2 h3 h4 hw hM
                    go_wp2_with fail
                    refine (D2.out _ htab4).mono ?_; rintro e w5 ⟨ao5, cap5, rfl, k5, b5⟩
                    obtain ⟨g5, c5, hv5, _⟩ := k5.full (by simp)
                    simp only [Value.slice.injEq] at hv5
                    obtain ⟨rfl, hx5, rfl⟩ := hv5
                    clear hx5
                    have t1 : w5.cell? ⟨g5, 0, none⟩ = some (.int .u8 3) := (k5.at (i := 0) (t := (3, l2, 1)) rfl).1
                    have t2 : w5.cell? ⟨g5, 1, none⟩ = some (.string b2) := by rw [← htx]; exact (k5.at (i := 0) (t := (3, l2, 1)) rfl).2.1
                    have b5' := up_trans hnx3 b5
                    clear k5 b5
                    simp only [List.length_cons, List.length_nil, Nat.zero_add] at *
                    go_wp2_with fail
                    refine (D3.out _ (htab.below b5')).mono ?_; rintro e w6 ⟨rfl, b6⟩
                    have t1' : w6.cell? ⟨g5, 0, none⟩ = some (.int .u8 3) := (b6.cell (World.block_lt_of_cell? w5 _ t1)).trans t1
                    go_wp2
                    go_ret
                    exact ⟨rfl, up_trans b5' b6⟩
                · rw [if_neg h16] at hkd
                  rw [long_no_word (by omega), if_neg (by simp)] at hkd
                  rw [if_pos hkd] at hlx
                  have e1 : errT ((⟨#[32]⟩ : ByteArray) ++ b2).data.toList = 20 := by
                    unfold errT; rw [if_neg (by omega), hbytes, hlx]
                  have e2 : posT ((⟨#[32]⟩ : ByteArray) ++ b2).data.toList = 1 := by
                    unfold posT; rw [if_neg (by omega), hbytes, hlx]
                  have D2 := Lib.hid fun w h => all_gives ((⟨#[32]⟩ : ByteArray) ++ b2) [] _ _ (toks_none (by rw [e1]; decide)) e2 e1 w h
                  have e16 : 16 < (k : Int) := by omega
                  clear hkd hlx e1 e2 hbytes hlen4 h1 h2 h3 h4 hM
                  go_wp2_with fail
                  refine (D2.out _ htab4).mono ?_; rintro e w5 ⟨ao5, cap5, rfl, k5, b5⟩
                  have b5' := up_trans hnx3 b5
                  go_wp2
                  go_ret
                  exact ⟨rfl, b5'⟩
      · rw [if_neg hs, if_neg hs, if_neg hs] at C0
        have C1 := Lib.hid C0
        have es : 9223372036854775808 ≤ n := by rw [hn.out]; omega
        clear C0 hgo
        go_wp2_with fail
        refine (C1.out _ (htab.below hnx)).mono ?_; rintro e w1 ⟨ao1, cap1, rfl, k1, b1⟩
        have b01 := up_trans hnx b1
        clear k1 b1 hnx hs hN hdv
        rcases (show len < 1 ∨ 30 < len ∨ (1 ≤ len ∧ len ≤ 30) by omega) with hl | hl | ⟨hl1, hl2⟩
        · have el : (len : Int) < 1 := by omega
          go_wp2
          go_ret
          exact ⟨rfl, b01⟩
        · have el : 30 < (len : Int) := by omega
          have el1 : 1 ≤ (len : Int) := by omega
          go_wp2
          go_ret
          exact ⟨rfl, b01⟩
        · have el1 : 1 ≤ (len : Int) := by omega
          have el2 : (len : Int) ≤ 30 := by omega
          obtain ⟨bk, off, hao, hcell'⟩ := hc.out hl1
          subst hao
          have hcell := hcell'
          clear hcell' hc CD C1
          obtain ⟨z0, hz0, hz00'⟩ := hcell w1 b01 0 (by omega)
          have hz00 : w1.cell? ⟨bk, off, none⟩ = some (.int .u8 (z0 : Int)) := hz00'
          clear hz00'
          cases up
          · obtain ⟨r0, x0, c0, f1, f2, f3, f4⟩ := first_parts z0 hz0 false
            have f2' : IntKind.u8.wrap (97 + r0) = x0 := f2
            clear f2
            have hcv0 := one_byte_at c0 x0 f3
            have M0 : Hid (Nm false 1 ⟨#[c0]⟩ [c0]) := Lib.hid ⟨rfl, rfl, f4, by rw [List.all_cons, small_name f4]; rfl⟩
            clear f3 f4
            go_wp2_with fail
            have bW : Below w.heap.size w (w1.alloc (.cells #[.int .u8 x0] 5)) := b01.alloc b01.size _
            generalize w1.alloc (.cells #[.int .u8 x0] 5) = W at *
            clear hcv0 f1 f2' hz00
            go_loopw [14, 15] (fun nm i wq => ∃ (k : Nat) (b2 : ByteArray) (l2 : List UInt8), nm = .string b2 ∧ i = .int .i64 k ∧ 1 ≤ k ∧ k ≤ len ∧ (b2.size : Int) = (k : Int) ∧ Hid (Nm false k b2 l2) ∧ Below w.heap.size w wq) (fun _ i _ => len - (intOf i).toNat)
            case atStart => exact ⟨1, ⟨#[c0]⟩, [c0], rfl, rfl, by omega, by omega, rfl, M0, bW⟩
            case round =>
              clear M0 bW
              obtain ⟨k, b2, l2, rfl, rfl, hk1, hk2, hbs, hM, hnx3⟩ := hrel
              by_cases hkl : k < len
              · obtain ⟨z, hz, hzc⟩ := hcell wr hnx3 k hkl
                obtain ⟨q, y, c, g1, g2, g3, g4⟩ := next_parts z hz
                have M1 := Lib.hid (nm_step hM.out g3)
                have ek : (k : Int) < (len : Int) := by omega
                have hsz2 : ((b2 ++ (⟨#[c]⟩ : ByteArray)).size : Int) = ((k + 1 : Nat) : Int) := by rw [size_snoc]; omega
                have Hsz := Lib.hid hsz2
                clear g3 hsz2
                go_wp2_with fail
                go_quiet (fail)
                have bel4 : Below w.heap.size w (wr.drewN nq) := hnx3.trans ⟨rfl, rfl, rfl, Nat.le_refl _, fun _ _ => rfl⟩
                clear hzc hnx3 g1 g2 g4
                generalize wr.drewN nq = W4 at *
                go_wp2
                go_roundw
                case rel => exact ⟨k + 1, _, _, rfl, by go_num, by omega, by omega, Hsz.out, M1, bel4⟩
                case measure => simp [intOf]; omega
              · obtain rfl : k = len := by omega
                obtain ⟨h1, h2, h3, h4⟩ := hM.out
                have hkd := names_kind false h3 h4
                rw [h2] at hkd
                have hlx := lex_name false h3 h4
                have hbytes : ((⟨#[32]⟩ : ByteArray) ++ b2).data.toList = 32 :: l2 := by rw [h1]; simp [bs]
                have hlen4 : ((⟨#[32]⟩ : ByteArray) ++ b2).data.toList.length ≤ 4000 := by rw [hbytes, List.length_cons]; omega
                have htab4 := htab.below hnx3
                by_cases h16 : k ≤ 16
                · rw [if_pos h16] at hkd
                  have hk0 : kindL l2 ≠ 0 := by rw [hkd]; split <;> simp
                  rw [if_neg hk0] at hlx
                  obtain ⟨e1, e2, e3⟩ := err_of hlen4 (by rw [hbytes]; exact hlx) (by simp)
                  have C2 := fun w h => all_gives ((⟨#[32]⟩ : ByteArray) ++ b2) _ _ _ e2 e3 e1 w h
                  have C3 := fun w h => word_calls b2 (by unfold maxLen; omega) w h
                  rw [show b2.data.toList = l2 from by rw [h1]; rfl] at C3
                  have e16 : (k : Int) ≤ 16 := by omega
                  have htx : bs l2 = b2 := h1.symm
                  by_cases hw : wordsL.contains l2 = true
                  · rw [if_pos hw] at hkd
                    rw [hkd] at C2 C3
                    have D2 := Lib.hid C2
                    have D3 := Lib.hid C3
                    clear C2 C3 hkd hlx hk0 e1 e2 e3 hbytes hlen4 h1 h2 h3 h4 hw hM
                    go_wp2_with fail
                    refine (D2.out _ htab4).mono ?_; rintro e w5 ⟨ao5, cap5, rfl, k5, b5⟩
                    have k6 : Toks w5 _ _ _ := k5
                    obtain ⟨g5, c5, hv5, _⟩ := k5.full (by simp)
                    simp only [Value.slice.injEq] at hv5
                    obtain ⟨rfl, hx5, rfl⟩ := hv5
                    clear hx5 k6
                    have t1 : w5.cell? ⟨g5, 0, none⟩ = some (.int .u8 1) := (k5.at (i := 0) (t := (1, l2, 1)) rfl).1
                    have t2 : w5.cell? ⟨g5, 1, none⟩ = some (.string b2) := by rw [← htx]; exact (k5.at (i := 0) (t := (1, l2, 1)) rfl).2.1
                    have b5' := up_trans hnx3 b5
                    clear k5 b5
                    simp only [List.length_cons, List.length_nil, Nat.zero_add] at *
                    go_wp2_with fail
                    refine (D3.out _ (htab.below b5')).mono ?_; rintro e w6 ⟨rfl, b6⟩
                    go_wp2
                    go_ret
                    exact ⟨rfl, up_trans b5' b6⟩
                  · rw [if_neg hw] at hkd
                    rw [show (if false = true then 3 else 2) = 2 from rfl] at hkd
                    rw [hkd] at C2 C3
                    have D2 := Lib.hid C2
                    have D3 := Lib.hid C3
                    clear C2 C3 hkd hlx hk0 e1 e2 e3 hbytes hlen4 h1 h2 h3 h4 hw hM
                    go_wp2_with fail
                    refine (D2.out _ htab4).mono ?_; rintro e w5 ⟨ao5, cap5, rfl, k5, b5⟩
                    obtain ⟨g5, c5, hv5, _⟩ := k5.full (by simp)
                    simp only [Value.slice.injEq] at hv5
                    obtain ⟨rfl, hx5, rfl⟩ := hv5
                    clear hx5
                    have t1 : w5.cell? ⟨g5, 0, none⟩ = some (.int .u8 2) := (k5.at (i := 0) (t := (2, l2, 1)) rfl).1
                    have t2 : w5.cell? ⟨g5, 1, none⟩ = some (.string b2) := by rw [← htx]; exact (k5.at (i := 0) (t := (2, l2, 1)) rfl).2.1
                    have b5' := up_trans hnx3 b5
                    clear k5 b5
                    simp only [List.length_cons, List.length_nil, Nat.zero_add] at *
                    go_wp2_with fail
                    refine (D3.out _ (htab.below b5')).mono ?_; rintro e w6 ⟨rfl, b6⟩
                    have t1' : w6.cell? ⟨g5, 0, none⟩ = some (.int .u8 2) := (b6.cell (World.block_lt_of_cell? w5 _ t1)).trans t1
                    go_wp2
                    go_ret
                    exact ⟨rfl, up_trans b5' b6⟩
                · rw [if_neg h16] at hkd
                  rw [long_no_word (by omega), if_neg (by simp)] at hkd
                  rw [if_pos hkd] at hlx
                  have e1 : errT ((⟨#[32]⟩ : ByteArray) ++ b2).data.toList = 20 := by
                    unfold errT; rw [if_neg (by omega), hbytes, hlx]
                  have e2 : posT ((⟨#[32]⟩ : ByteArray) ++ b2).data.toList = 1 := by
                    unfold posT; rw [if_neg (by omega), hbytes, hlx]
                  have D2 := Lib.hid fun w h => all_gives ((⟨#[32]⟩ : ByteArray) ++ b2) [] _ _ (toks_none (by rw [e1]; decide)) e2 e1 w h
                  have e16 : 16 < (k : Int) := by omega
                  clear hkd hlx e1 e2 hbytes hlen4 h1 h2 h3 h4 hM
                  go_wp2_with fail
                  refine (D2.out _ htab4).mono ?_; rintro e w5 ⟨ao5, cap5, rfl, k5, b5⟩
                  have b5' := up_trans hnx3 b5
                  go_wp2
                  go_ret
                  exact ⟨rfl, b5'⟩
          · obtain ⟨r0, x0, c0, f1, f2, f3, f4⟩ := first_parts z0 hz0 true
            have f2' : IntKind.u8.wrap (65 + r0) = x0 := f2
            clear f2
            have hcv0 := one_byte_at c0 x0 f3
            have M0 : Hid (Nm true 1 ⟨#[c0]⟩ [c0]) := Lib.hid ⟨rfl, rfl, f4, by rw [List.all_cons, great_name f4]; rfl⟩
            clear f3 f4
            go_wp2_with fail
            have bW : Below w.heap.size w (w1.alloc (.cells #[.int .u8 x0] 5)) := b01.alloc b01.size _
            generalize w1.alloc (.cells #[.int .u8 x0] 5) = W at *
            clear hcv0 f1 f2' hz00
            go_loopw [14, 15] (fun nm i wq => ∃ (k : Nat) (b2 : ByteArray) (l2 : List UInt8), nm = .string b2 ∧ i = .int .i64 k ∧ 1 ≤ k ∧ k ≤ len ∧ (b2.size : Int) = (k : Int) ∧ Hid (Nm true k b2 l2) ∧ Below w.heap.size w wq) (fun _ i _ => len - (intOf i).toNat)
            case atStart => exact ⟨1, ⟨#[c0]⟩, [c0], rfl, rfl, by omega, by omega, rfl, M0, bW⟩
            case round =>
              clear M0 bW
              obtain ⟨k, b2, l2, rfl, rfl, hk1, hk2, hbs, hM, hnx3⟩ := hrel
              by_cases hkl : k < len
              · obtain ⟨z, hz, hzc⟩ := hcell wr hnx3 k hkl
                obtain ⟨q, y, c, g1, g2, g3, g4⟩ := next_parts z hz
                have M1 := Lib.hid (nm_step hM.out g3)
                have ek : (k : Int) < (len : Int) := by omega
                have hsz2 : ((b2 ++ (⟨#[c]⟩ : ByteArray)).size : Int) = ((k + 1 : Nat) : Int) := by rw [size_snoc]; omega
                have Hsz := Lib.hid hsz2
                clear g3 hsz2
                go_wp2_with fail
                go_quiet (fail)
                have bel4 : Below w.heap.size w (wr.drewN nq) := hnx3.trans ⟨rfl, rfl, rfl, Nat.le_refl _, fun _ _ => rfl⟩
                clear hzc hnx3 g1 g2 g4
                generalize wr.drewN nq = W4 at *
                go_wp2
                go_roundw
                case rel => exact ⟨k + 1, _, _, rfl, by go_num, by omega, by omega, Hsz.out, M1, bel4⟩
                case measure => simp [intOf]; omega
              · obtain rfl : k = len := by omega
                obtain ⟨h1, h2, h3, h4⟩ := hM.out
                have hkd := names_kind true h3 h4
                rw [h2] at hkd
                have hlx := lex_name true h3 h4
                have hbytes : ((⟨#[32]⟩ : ByteArray) ++ b2).data.toList = 32 :: l2 := by rw [h1]; simp [bs]
                have hlen4 : ((⟨#[32]⟩ : ByteArray) ++ b2).data.toList.length ≤ 4000 := by rw [hbytes, List.length_cons]; omega
                have htab4 := htab.below hnx3
                by_cases h16 : k ≤ 16
                · rw [if_pos h16] at hkd
                  have hk0 : kindL l2 ≠ 0 := by rw [hkd]; split <;> simp
                  rw [if_neg hk0] at hlx
                  obtain ⟨e1, e2, e3⟩ := err_of hlen4 (by rw [hbytes]; exact hlx) (by simp)
                  have C2 := fun w h => all_gives ((⟨#[32]⟩ : ByteArray) ++ b2) _ _ _ e2 e3 e1 w h
                  have C3 := fun w h => word_calls b2 (by unfold maxLen; omega) w h
                  rw [show b2.data.toList = l2 from by rw [h1]; rfl] at C3
                  have e16 : (k : Int) ≤ 16 := by omega
                  have htx : bs l2 = b2 := h1.symm
                  by_cases hw : wordsL.contains l2 = true
                  · rw [if_pos hw] at hkd
                    rw [hkd] at C2 C3
                    have D2 := Lib.hid C2
                    have D3 := Lib.hid C3
                    clear C2 C3 hkd hlx hk0 e1 e2 e3 hbytes hlen4 h1 h2 h3 h4 hw hM
                    go_wp2_with fail
                    refine (D2.out _ htab4).mono ?_; rintro e w5 ⟨ao5, cap5, rfl, k5, b5⟩
                    have k6 : Toks w5 _ _ _ := k5
                    obtain ⟨g5, c5, hv5, _⟩ := k5.full (by simp)
                    simp only [Value.slice.injEq] at hv5
                    obtain ⟨rfl, hx5, rfl⟩ := hv5
                    clear hx5 k6
                    have t1 : w5.cell? ⟨g5, 0, none⟩ = some (.int .u8 1) := (k5.at (i := 0) (t := (1, l2, 1)) rfl).1
                    have t2 : w5.cell? ⟨g5, 1, none⟩ = some (.string b2) := by rw [← htx]; exact (k5.at (i := 0) (t := (1, l2, 1)) rfl).2.1
                    have b5' := up_trans hnx3 b5
                    clear k5 b5
                    simp only [List.length_cons, List.length_nil, Nat.zero_add] at *
                    go_wp2_with fail
                    refine (D3.out _ (htab.below b5')).mono ?_; rintro e w6 ⟨rfl, b6⟩
                    go_wp2
                    go_ret
                    exact ⟨rfl, up_trans b5' b6⟩
                  · rw [if_neg hw] at hkd
                    rw [show (if true = true then 3 else 2) = 3 from rfl] at hkd
                    rw [hkd] at C2 C3
                    have D2 := Lib.hid C2
                    have D3 := Lib.hid C3
                    clear C2 C3 hkd hlx hk0 e1 e2 e3 hbytes hlen4 h1 h2 h3 h4 hw hM
                    go_wp2_with fail
                    refine (D2.out _ htab4).mono ?_; rintro e w5 ⟨ao5, cap5, rfl, k5, b5⟩
                    obtain ⟨g5, c5, hv5, _⟩ := k5.full (by simp)
                    simp only [Value.slice.injEq] at hv5
                    obtain ⟨rfl, hx5, rfl⟩ := hv5
                    clear hx5
                    have t1 : w5.cell? ⟨g5, 0, none⟩ = some (.int .u8 3) := (k5.at (i := 0) (t := (3, l2, 1)) rfl).1
                    have t2 : w5.cell? ⟨g5, 1, none⟩ = some (.string b2) := by rw [← htx]; exact (k5.at (i := 0) (t := (3, l2, 1)) rfl).2.1
                    have b5' := up_trans hnx3 b5
                    clear k5 b5
                    simp only [List.length_cons, List.length_nil, Nat.zero_add] at *
                    go_wp2_with fail
                    refine (D3.out _ (htab.below b5')).mono ?_; rintro e w6 ⟨rfl, b6⟩
                    have t1' : w6.cell? ⟨g5, 0, none⟩ = some (.int .u8 3) := (b6.cell (World.block_lt_of_cell? w5 _ t1)).trans t1
                    go_wp2
                    go_ret
                    exact ⟨rfl, up_trans b5' b6⟩
                · rw [if_neg h16] at hkd
                  rw [long_no_word (by omega), if_neg (by simp)] at hkd
                  rw [if_pos hkd] at hlx
                  have e1 : errT ((⟨#[32]⟩ : ByteArray) ++ b2).data.toList = 20 := by
                    unfold errT; rw [if_neg (by omega), hbytes, hlx]
                  have e2 : posT ((⟨#[32]⟩ : ByteArray) ++ b2).data.toList = 1 := by
                    unfold posT; rw [if_neg (by omega), hbytes, hlx]
                  have D2 := Lib.hid fun w h => all_gives ((⟨#[32]⟩ : ByteArray) ++ b2) [] _ _ (toks_none (by rw [e1]; decide)) e2 e1 w h
                  have e16 : 16 < (k : Int) := by omega
                  clear hkd hlx e1 e2 hbytes hlen4 h1 h2 h3 h4 hM
                  go_wp2_with fail
                  refine (D2.out _ htab4).mono ?_; rintro e w5 ⟨ao5, cap5, rfl, k5, b5⟩
                  have b5' := up_trans hnx3 b5
                  go_wp2
                  go_ret
                  exact ⟨rfl, b5'⟩

theorem wf_u64 {n : Int} (h : (Lit.int .u64 n).wf = true) : 0 ≤ n ∧ n < 18446744073709551616 := by
  have a : IntKind.u64.min = 0 := by decide
  have b : IntKind.u64.max = 18446744073709551615 := by decide
  simp [Lit.wf] at h
  omega
theorem wf_u8 {n : Int} (h : (Lit.int .u8 n).wf = true) : 0 ≤ n ∧ n < 256 := by
  have a : IntKind.u8.min = 0 := by decide
  have b : IntKind.u8.max = 255 := by decide
  simp [Lit.wf] at h
  omega

theorem digits_all (N : Nat) (l : List UInt8) (h1 : l.all dgt = true) (h2 : l ≠ []) (h3 : dval l = N) (h4 : l.length ≤ 20) (w : World) (htab : Tab w) :
    Calls Tryd.prog 10 #[.string (bs l)] w fun e w' => ∃ ao cap,
      e = .returned (.tuple #[.slice ao (if N < 9223372036854775808 then 1 else 0) cap, .int .i64 0, .int .i64 (if N < 9223372036854775808 then 0 else 20)]) ∧ Toks w' w.heap.size (.slice ao (if N < 9223372036854775808 then 1 else 0) cap) (if N < 9223372036854775808 then [(4, l, 0)] else []) ∧ Below w.heap.size w w' := by
  have hl := lex_digits h1 h2
  rw [h3] at hl
  by_cases hN : N < 9223372036854775808
  · rw [if_pos (by omega)] at hl
    obtain ⟨e1, e2, e3⟩ := err_of (l := (bs l).data.toList) (by rw [bs_list]; omega) (by rw [bs_list]; exact hl) (by simp)
    rw [if_pos hN, if_pos hN, if_pos hN]
    exact all_gives (bs l) _ _ _ e2 e3 e1 w htab
  · rw [if_neg (by omega)] at hl
    have e1 : errT (bs l).data.toList = 20 := by
      rw [bs_list]; unfold errT; rw [if_neg (by omega), hl]
    have e2 : posT (bs l).data.toList = 0 := by
      rw [bs_list]; unfold posT; rw [if_neg (by omega), hl]
    rw [if_neg hN, if_neg hN, if_neg hN]
    exact all_gives (bs l) [] _ _ (toks_none (by rw [e1]; decide)) e2 e1 w htab

theorem lexLetters_empty (ao : Option Addr) (cap : Nat) (up : Bool) (n : Int) (h0 : 0 ≤ n) (h1 : n < 18446744073709551616) (w : World) (htab : Tab w) :
    Calls Tryd.prog 8 #[.slice ao 0 cap, .bool up, .int .u64 n] w fun e w' => e = .returned (.bool true) ∧ Below w.heap.size w w' :=
  letters_core w ao 0 cap up n.toNat (by omega) n (Lib.hid (by omega)) (Lib.hid fun h => by omega) (Lib.hid (digits_all n.toNat)) htab

theorem lexLetters_any (b off len cap : Nat) (zs : List Int) (hlen : len ≤ zs.length) (up : Bool) (n : Int) (h0 : 0 ≤ n) (h1 : n < 18446744073709551616) (w : World) (hb : b < w.heap.size)
    (hcell : ∀ j, j < zs.length → w.cell? ⟨b, off + j, none⟩ = some (.int .u8 (zs.getD j 0))) (hwf : ∀ z ∈ zs, (Lit.int .u8 z).wf = true) (htab : Tab w) :
    Calls Tryd.prog 8 #[.slice (some ⟨b, off, none⟩) len cap, .bool up, .int .u64 n] w fun e w' => e = .returned (.bool true) ∧ Below w.heap.size w w' := by
  refine letters_core w _ len cap up n.toNat (by omega) n (Lib.hid (by omega)) (Lib.hid fun _ => ⟨b, off, rfl, fun w' hw j hj => ?_⟩) (Lib.hid (digits_all n.toNat)) htab
  have hj' : j < zs.length := by omega
  obtain ⟨q1, q2⟩ := wf_u8 (hwf (zs.getD j 0) (by simp [List.getD, hj']))
  refine ⟨(zs.getD j 0).toNat, by omega, ?_⟩
  rw [hw.cell (by exact hb), hcell j hj', show (((zs.getD j 0).toNat : Nat) : Int) = zs.getD j 0 from by omega]
end Go.Proofs.YtbdefkhmomogdaaDoor
