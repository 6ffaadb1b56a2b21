/- NumOwn, put together out of its walks. -/
import Derived.Test.YtkfgfjgdhdohhaaDoorOwnTruePos
import Derived.Test.YtkfgfjgdhdohhaaDoorOwnTrueNeg
import Derived.Test.YtkfgfjgdhdohhaaDoorOwnBadPos1
import Derived.Test.YtkfgfjgdhdohhaaDoorOwnBadPos2
import Derived.Test.YtkfgfjgdhdohhaaDoorOwnBadPos3
import Derived.Test.YtkfgfjgdhdohhaaDoorOwnBadNeg1
import Derived.Test.YtkfgfjgdhdohhaaDoorOwnBadNeg2
import Derived.Test.YtkfgfjgdhdohhaaDoorOwnBadNeg3
namespace Go.Proofs.YtkfgfjgdhdohhaaDoor
open Go.RowKit
set_option linter.unusedVariables false

theorem numOwn_walk (a n at_ x : Int) (ha : -9223372036854775808 ≤ a ∧ a ≤ 9223372036854775807) (hn : -9223372036854775808 ≤ n ∧ n ≤ 9223372036854775807) (hat : -9223372036854775808 ≤ at_ ∧ at_ ≤ 9223372036854775807) (hx : 0 ≤ x ∧ x ≤ 255) (w : World) (htab : Hid (Lib.TabIs Tryd.prog w "internal/strconv.uint64pow10" .u64 Lib.pow10Tab)) :
    Calls Tryd.prog 4 #[.int .i64 a, .int .i64 n, .int .i64 at_, .int .u8 x] w fun e w' => e = .returned (.bool true) ∧ Below w.heap.size w w' := by
  obtain ⟨a0, a1⟩ := ha
  have ht := itoa_mk_size a a0 a1
  have hl : (⟨(Lib.itoa a).toArray⟩ : ByteArray).data.toList = Lib.itoa a := rfl
  have hg : Good (⟨(Lib.itoa a).toArray⟩ : ByteArray).data.toList a := good_itoa a
  have hT := own_first a _ hl
  have P : ∀ w w0 : World, Below w.heap.size w w0 → Hid (Lib.TabIs Tryd.prog w "internal/strconv.uint64pow10" .u64 Lib.pow10Tab) → Calls Tryd.prog 8 #[.int .i64 a] w0 fun e w' => e = .returned (.string ⟨(Lib.itoa a).toArray⟩) ∧ Below w0.heap.size w0 w' :=
    fun w w0 hb h => print_calls a a0 a1 w0 (Lib.hid (tab_stays h.out hb))
  generalize (⟨(Lib.itoa a).toArray⟩ : ByteArray) = t at ht hg hT P
  clear hl
  by_cases hfar : n < 0 ∨ 50 < n
  · exact own_far a n at_ x t ht (Lib.hid hg) a0 a1 hfar (Lib.hid P) w htab
  · have n0 : 0 ≤ n := by omega
    have n1 : n ≤ 50 := by omega
    by_cases hX : (48 ≤ x ∧ x ≤ 57) ∨ at_ < 0 ∨ (x = 45 ∧ at_ = 0)
    · have X : ∀ u : ByteArray, u.size ≤ 71 → (48 ≤ x ∧ x ≤ 57) ∨ (x < 48 ∧ at_ < 0) ∨ (57 < x ∧ at_ < 0) ∨ (x < 48 ∧ 0 ≤ at_ ∧ (u.size : Int) < at_) ∨ (57 < x ∧ 0 ≤ at_ ∧ (u.size : Int) < at_) ∨ (x < 48 ∧ (x == 45) = true ∧ at_ = 0) := by
        intro u _
        rw [beq_iff_eq]
        omega
      by_cases hs : 0 ≤ a
      · rcases hT with T | ⟨h1, T0, T1 | ⟨T1, T2⟩⟩
        · exact own_true_pos1 a n at_ x t ht (Lib.hid hg) a0 a1 hs n0 n1 (by omega) (Lib.hid X) (Lib.hid P) w htab
        · exact own_true_pos2 a n at_ x t ht (Lib.hid hg) a0 a1 hs n0 n1 (by omega) h1 (by omega) T0 T1 (Lib.hid X) (Lib.hid P) w htab
        · exact own_true_pos3 a n at_ x t ht (Lib.hid hg) a0 a1 hs n0 n1 (by omega) h1 (by omega) T0 T1 T2 (Lib.hid X) (Lib.hid P) w htab
      · rcases hT with T | ⟨h1, T0, T1 | ⟨T1, T2⟩⟩
        · exact own_true_neg1 a n at_ x t ht (Lib.hid hg) a0 a1 (by omega) n0 n1 (by omega) (Lib.hid X) (Lib.hid P) w htab
        · exact own_true_neg2 a n at_ x t ht (Lib.hid hg) a0 a1 (by omega) n0 n1 (by omega) h1 (by omega) T0 T1 (Lib.hid X) (Lib.hid P) w htab
        · exact own_true_neg3 a n at_ x t ht (Lib.hid hg) a0 a1 (by omega) n0 n1 (by omega) h1 (by omega) T0 T1 T2 (Lib.hid X) (Lib.hid P) w htab
    · obtain ⟨m, rfl⟩ := Int.eq_ofNat_of_zero_le (show 0 ≤ at_ by omega)
      obtain ⟨c, hc⟩ : ∃ c : UInt8, (c.toNat : Int) = x := ⟨UInt8.ofNat x.toNat, by rw [UInt8.toNat_ofNat']; omega⟩
      have hd : dgt c = false := dgt_no (by omega)
      have h45 : ¬ (c = 45 ∧ m = 0) := by
        rintro ⟨rfl, rfl⟩
        have : (45 : UInt8).toNat = 45 := rfl
        omega
      have X : x < 48 ∧ (x == 45) = true ∧ ((m : Int) == 0) = false ∨ x < 48 ∧ (x == 45) = false ∨ 57 < x ∧ (x == 45) = false := by
        rw [beq_iff_eq, beq_eq_false_iff_ne, beq_eq_false_iff_ne]
        omega
      by_cases hs : 0 ≤ a
      · rcases hT with T | ⟨h1, T0, T1 | ⟨T1, T2⟩⟩
        · exact own_bad_pos1 a n x t ht (Lib.hid hg) a0 a1 hs n0 n1 (by omega) m c (by omega) (Lib.hid hc) (Lib.hid hd) (Lib.hid h45) X (Lib.hid P) w htab
        · exact own_bad_pos2 a n x t ht (Lib.hid hg) a0 a1 hs n0 n1 (by omega) h1 (by omega) T0 T1 m c (by omega) (Lib.hid hc) (Lib.hid hd) (Lib.hid h45) X (Lib.hid P) w htab
        · exact own_bad_pos3 a n x t ht (Lib.hid hg) a0 a1 hs n0 n1 (by omega) h1 (by omega) T0 T1 T2 m c (by omega) (Lib.hid hc) (Lib.hid hd) (Lib.hid h45) X (Lib.hid P) w htab
      · rcases hT with T | ⟨h1, T0, T1 | ⟨T1, T2⟩⟩
        · exact own_bad_neg1 a n x t ht (Lib.hid hg) a0 a1 (by omega) n0 n1 (by omega) m c (by omega) (Lib.hid hc) (Lib.hid hd) (Lib.hid h45) X (Lib.hid P) w htab
        · exact own_bad_neg2 a n x t ht (Lib.hid hg) a0 a1 (by omega) n0 n1 (by omega) h1 (by omega) T0 T1 m c (by omega) (Lib.hid hc) (Lib.hid hd) (Lib.hid h45) X (Lib.hid P) w htab
        · exact own_bad_neg3 a n x t ht (Lib.hid hg) a0 a1 (by omega) n0 n1 (by omega) h1 (by omega) T0 T1 T2 m c (by omega) (Lib.hid hc) (Lib.hid hd) (Lib.hid h45) X (Lib.hid P) w htab
end Go.Proofs.YtkfgfjgdhdohhaaDoor
