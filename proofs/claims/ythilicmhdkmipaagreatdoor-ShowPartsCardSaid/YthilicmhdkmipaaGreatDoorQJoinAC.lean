/- Contracts of package num, fifth part: Parse and what it calls. -/
import Derived.Test.YthilicmhdkmipaaGreatDoorQJoinAT
import Derived.Test.YthilicmhdkmipaaGreatDoorShelf
import Derived.Test.YthilicmhdkmipaaGreatDoorQTreeMath
import Derived.Test.YthilicmhdkmipaaGreatDoorChecked
import Derived.Shelf.Abstract
import Derived.Outline
import Derived.IntWalk
import Derived.WalkKit
import Derived.BigQuiet
import Derived.Deep.QuietTactic
namespace Go.Proofs.YthilicmhdkmipaaGreatDoor
open Go.RowKit
set_option linter.unusedVariables false

set_option maxHeartbeats 400000 in
theorem allDigits_calls (s : ByteArray) (hs : s.size ≤ maxLen) (w : World) :
    Calls Tryz.prog 194 #[.string s] w fun e w' => e = .returned (.bool (digs s.data.toList)) ∧ w = w' := by
  unfold maxLen at hs
  go_enter Tryz.func194, Tryz.ntmps194
  go_wp2
  go_loop [6] (fun i => ∃ k : Nat, k ≤ s.size ∧ i = .int .i64 k ∧ Hid ((s.data.toList.take k).all dgt = true)) (fun i => s.size - (intOf i).toNat)
  case atStart => exact ⟨0, Nat.zero_le _, rfl, Lib.hid (by simp)⟩
  case round =>
    obtain ⟨k, hk, rfl, ha⟩ := hrel
    by_cases hlt : k < s.size
    · by_cases hd : dgt s[k] = true
      · obtain ⟨d1, d2⟩ := (dgt_iff _).1 hd
        have Hd := Lib.hid hd
        clear hd
        have e1 : (48 : Int) ≤ (s[k].toNat : Int) := by omega
        have e2 : (s[k].toNat : Int) ≤ 57 := by omega
        go_wp2
        go_round
        case rel => exact ⟨k + 1, by omega, by go_num, Lib.hid (all_snoc hlt ha.out Hd.out)⟩
        case measure => simp [intOf]; omega
      · have hd' : dgt s[k] = false := by simpa using hd
        have Hn := Lib.hid (digs_no s k hlt hd')
        have hcase : s[k].toNat < 48 ∨ 57 < s[k].toNat := by
          have h := mt (dgt_iff s[k]).2 hd
          omega
        clear hd hd'
        rcases hcase with hcase | hcase
        · have e1 : (s[k].toNat : Int) < 48 := by omega
          go_wp2
          go_ret
          exact ⟨ret_bool Hn.out.symm, rfl⟩
        · have e1 : (57 : Int) < (s[k].toNat : Int) := by omega
          go_wp2
          go_ret
          exact ⟨ret_bool Hn.out.symm, rfl⟩
    · obtain rfl : k = s.size := by omega
      go_wp2
      go_ret
      exact ⟨ret_bool (by rw [digs_end ha.out, ByteArray.toList_eq]), rfl⟩

set_option maxHeartbeats 400000 in
theorem sizeOf_calls (s : ByteArray) (hs : s.size ≤ maxLen) (hd : Hid (digs s.data.toList = true)) (w : World) :
    Calls Tryz.prog 195 #[.string s] w fun e w' => e = .returned (.tuple #[.int .u64 (szv s.data.toList), .int .i64 (sze s.data.toList)]) ∧ w = w' := by
  unfold maxLen at hs
  go_enter Tryz.func195, Tryz.ntmps195
  go_wp2
  go_loop [4, 8] (fun n i => ∃ k : Nat, k ≤ s.size ∧ i = .int .i64 k ∧ n = .int .u64 (dval (s.data.toList.take k)) ∧ dval (s.data.toList.take k) ≤ 9223372036854775809) (fun _ i => s.size - (intOf i).toNat)
  case atStart => exact ⟨0, Nat.zero_le _, rfl, rfl, by simp [dval_nil]⟩
  case round =>
    obtain ⟨k, hk, rfl, rfl, hb⟩ := hrel
    by_cases hlt : k < s.size
    · obtain ⟨d1, d2⟩ := all_at hd.out k hlt
      have hst := Lib.hid (dval_step s k hlt d1)
      have hov := Lib.hid (dval_over s k hlt)
      generalize hn : dval (s.data.toList.take k) = n at *
      clear hn
      have e1 : (48 : Int) ≤ (s[k].toNat : Int) := by omega
      have e2 : (s[k].toNat : Int) ≤ 57 := by omega
      by_cases ho : 922337203685477580 < n
      · have Ho := Lib.hid (hov.out ho)
        have eo : (922337203685477580 : Int) < (n : Int) := by omega
        go_wp2
        go_ret2
        exact ⟨ret_two (szv_out Ho.out).symm (sze_out Ho.out).symm, rfl⟩
      · have eo : (n : Int) ≤ 922337203685477580 := by omega
        go_wp2
        go_round
        case rel => exact ⟨k + 1, by omega, by go_num, by rw [hst.out], by have := hst.out; omega⟩
        case measure => simp [intOf]; omega
    · obtain rfl : k = s.size := by omega
      rw [take_all] at hb
      have Hb := Lib.hid hb
      rw [take_all]
      go_wp2
      go_ret2
      exact ⟨ret_two (szv_in Hb.out).symm (sze_in Hb.out).symm, rfl⟩

/-- a text without the sign in front; whether it has one -/
def cutm (l : List UInt8) : List UInt8 := Lib.trimPrefix l [45]
def isM (l : List UInt8) : Bool := Lib.hasPrefix l [45]

set_option maxHeartbeats 400000 in
theorem parse_none (s t : ByteArray) (m : Bool) (hs : t.size ≤ maxLen) (hd : Hid ((⟨(cutm s.data.toList).toArray⟩ : ByteArray) = t)) (hm : Hid (isM s.data.toList = m)) (hn : Hid (digs t.data.toList = false)) (w : World) :
    Calls Tryz.prog 175 #[.string s] w fun e w' => e = .returned (.tuple #[.int .i64 0, .int .i64 2]) ∧ Below w.heap.size w w' := by
  go_enter Tryz.func175, Tryz.ntmps175
  go_wp2_with fail
  refine (Tryz.strings_CutPrefix s ⟨#[45]⟩ _).mono ?_
  rw [show (⟨(Lib.trimPrefix s.data.toList (⟨#[45]⟩ : ByteArray).data.toList).toArray⟩ : ByteArray) = t from hd.out, show Lib.hasPrefix s.data.toList (⟨#[45]⟩ : ByteArray).data.toList = m from hm.out]
  rintro e w1 ⟨rfl, rfl⟩
  go_wp2_with fail
  refine (allDigits_calls t hs _).mono ?_
  rw [hn.out]
  rintro e w2 ⟨rfl, rfl⟩
  go_wp2
  go_ret2
  exact ⟨rfl, Below.refl _ _⟩

set_option maxHeartbeats 400000 in
theorem parse_nought (s t : ByteArray) (hs : t.size ≤ maxLen) (hd : Hid ((⟨(cutm s.data.toList).toArray⟩ : ByteArray) = t)) (hm : Hid (isM s.data.toList = true)) (hn : Hid (digs t.data.toList = true)) (h0 : 0 < t.size) (hc : ((t[0].toNat : Int) == 48) = true) (w : World) :
    Calls Tryz.prog 175 #[.string s] w fun e w' => e = .returned (.tuple #[.int .i64 0, .int .i64 2]) ∧ Below w.heap.size w w' := by
  go_enter Tryz.func175, Tryz.ntmps175
  go_wp2_with fail
  refine (Tryz.strings_CutPrefix s ⟨#[45]⟩ _).mono ?_
  rw [show (⟨(Lib.trimPrefix s.data.toList (⟨#[45]⟩ : ByteArray).data.toList).toArray⟩ : ByteArray) = t from hd.out, show Lib.hasPrefix s.data.toList (⟨#[45]⟩ : ByteArray).data.toList = true from hm.out]
  rintro e w1 ⟨rfl, rfl⟩
  go_wp2_with fail
  refine (allDigits_calls t hs _).mono ?_
  rw [hn.out]
  rintro e w2 ⟨rfl, rfl⟩
  go_wp2
  go_ret2
  exact ⟨rfl, Below.refl _ _⟩

set_option maxHeartbeats 400000 in
theorem parse_over_m (s t : ByteArray) (hs : t.size ≤ maxLen) (hd : Hid ((⟨(cutm s.data.toList).toArray⟩ : ByteArray) = t)) (hm : Hid (isM s.data.toList = true)) (hn : Hid (digs t.data.toList = true)) (h0 : 0 < t.size) (hc : ((t[0].toNat : Int) == 48) = false) (ho : Hid (9223372036854775809 < dval t.data.toList)) (w : World) :
    Calls Tryz.prog 175 #[.string s] w fun e w' => e = .returned (.tuple #[.int .i64 0, .int .i64 10]) ∧ Below w.heap.size w w' := by
  go_enter Tryz.func175, Tryz.ntmps175
  go_wp2_with fail
  refine (Tryz.strings_CutPrefix s ⟨#[45]⟩ _).mono ?_
  rw [show (⟨(Lib.trimPrefix s.data.toList (⟨#[45]⟩ : ByteArray).data.toList).toArray⟩ : ByteArray) = t from hd.out, show Lib.hasPrefix s.data.toList (⟨#[45]⟩ : ByteArray).data.toList = true from hm.out]
  rintro e w1 ⟨rfl, rfl⟩
  go_wp2_with fail
  refine (allDigits_calls t hs _).mono ?_
  rw [hn.out]
  rintro e w2 ⟨rfl, rfl⟩
  go_wp2_with fail
  refine (sizeOf_calls t hs hn _).mono ?_
  rw [szv_out ho.out, sze_out ho.out]
  rintro e w3 ⟨rfl, rfl⟩
  go_wp2
  go_ret2
  exact ⟨rfl, Below.refl _ _⟩

set_option maxHeartbeats 400000 in
theorem parse_over_p (s t : ByteArray) (hs : t.size ≤ maxLen) (hd : Hid ((⟨(cutm s.data.toList).toArray⟩ : ByteArray) = t)) (hm : Hid (isM s.data.toList = false)) (hn : Hid (digs t.data.toList = true)) (ho : Hid (9223372036854775809 < dval t.data.toList)) (w : World) :
    Calls Tryz.prog 175 #[.string s] w fun e w' => e = .returned (.tuple #[.int .i64 0, .int .i64 10]) ∧ Below w.heap.size w w' := by
  go_enter Tryz.func175, Tryz.ntmps175
  go_wp2_with fail
  refine (Tryz.strings_CutPrefix s ⟨#[45]⟩ _).mono ?_
  rw [show (⟨(Lib.trimPrefix s.data.toList (⟨#[45]⟩ : ByteArray).data.toList).toArray⟩ : ByteArray) = t from hd.out, show Lib.hasPrefix s.data.toList (⟨#[45]⟩ : ByteArray).data.toList = false from hm.out]
  rintro e w1 ⟨rfl, rfl⟩
  go_wp2_with fail
  refine (allDigits_calls t hs _).mono ?_
  rw [hn.out]
  rintro e w2 ⟨rfl, rfl⟩
  go_wp2_with fail
  refine (sizeOf_calls t hs hn _).mono ?_
  rw [szv_out ho.out, sze_out ho.out]
  rintro e w3 ⟨rfl, rfl⟩
  go_wp2
  go_ret2
  exact ⟨rfl, Below.refl _ _⟩

set_option maxHeartbeats 400000 in
theorem parse_in_m (s t : ByteArray) (hs : t.size ≤ maxLen) (hd : Hid ((⟨(cutm s.data.toList).toArray⟩ : ByteArray) = t)) (hm : Hid (isM s.data.toList = true)) (hn : Hid (digs t.data.toList = true)) (h0 : 0 < t.size) (hc : ((t[0].toNat : Int) == 48) = false) (ho : Hid (dval t.data.toList ≤ 9223372036854775809)) (w : World) :
    Calls Tryz.prog 175 #[.string s] w fun e w' => e = .returned (.tuple #[.int .i64 (fitv (sv true (dval t.data.toList))), .int .i64 (fite (sv true (dval t.data.toList)))]) ∧ Below w.heap.size w w' := by
  go_enter Tryz.func175, Tryz.ntmps175
  go_wp2_with fail
  refine (Tryz.strings_CutPrefix s ⟨#[45]⟩ _).mono ?_
  rw [show (⟨(Lib.trimPrefix s.data.toList (⟨#[45]⟩ : ByteArray).data.toList).toArray⟩ : ByteArray) = t from hd.out, show Lib.hasPrefix s.data.toList (⟨#[45]⟩ : ByteArray).data.toList = true from hm.out]
  rintro e w1 ⟨rfl, rfl⟩
  go_wp2_with fail
  refine (allDigits_calls t hs _).mono ?_
  rw [hn.out]
  rintro e w2 ⟨rfl, rfl⟩
  go_wp2_with fail
  refine (sizeOf_calls t hs hn _).mono ?_
  rw [szv_in ho.out, sze_in ho.out]
  rintro e w3 ⟨rfl, rfl⟩
  have hx : (0 : Int) ≤ (dval t.data.toList : Int) := by omega
  have hy : (dval t.data.toList : Int) < 18446744073709551616 := by have := ho.out; omega
  go_wp2_with fail
  refine (side_calls true _ hx hy _).mono ?_
  rintro e w4 ⟨rfl, b4⟩
  go_wp2_with fail
  refine (number_calls _ _).mono ?_
  rintro e w5 ⟨rfl, b5⟩
  go_wp2
  go_ret2
  exact ⟨rfl, b4.trans (b5.mono b4.size)⟩

set_option maxHeartbeats 400000 in
theorem parse_in_p (s t : ByteArray) (hs : t.size ≤ maxLen) (hd : Hid ((⟨(cutm s.data.toList).toArray⟩ : ByteArray) = t)) (hm : Hid (isM s.data.toList = false)) (hn : Hid (digs t.data.toList = true)) (ho : Hid (dval t.data.toList ≤ 9223372036854775809)) (w : World) :
    Calls Tryz.prog 175 #[.string s] w fun e w' => e = .returned (.tuple #[.int .i64 (fitv (sv false (dval t.data.toList))), .int .i64 (fite (sv false (dval t.data.toList)))]) ∧ Below w.heap.size w w' := by
  go_enter Tryz.func175, Tryz.ntmps175
  go_wp2_with fail
  refine (Tryz.strings_CutPrefix s ⟨#[45]⟩ _).mono ?_
  rw [show (⟨(Lib.trimPrefix s.data.toList (⟨#[45]⟩ : ByteArray).data.toList).toArray⟩ : ByteArray) = t from hd.out, show Lib.hasPrefix s.data.toList (⟨#[45]⟩ : ByteArray).data.toList = false from hm.out]
  rintro e w1 ⟨rfl, rfl⟩
  go_wp2_with fail
  refine (allDigits_calls t hs _).mono ?_
  rw [hn.out]
  rintro e w2 ⟨rfl, rfl⟩
  go_wp2_with fail
  refine (sizeOf_calls t hs hn _).mono ?_
  rw [szv_in ho.out, sze_in ho.out]
  rintro e w3 ⟨rfl, rfl⟩
  have hx : (0 : Int) ≤ (dval t.data.toList : Int) := by omega
  have hy : (dval t.data.toList : Int) < 18446744073709551616 := by have := ho.out; omega
  go_wp2_with fail
  refine (side_calls false _ hx hy _).mono ?_
  rintro e w4 ⟨rfl, b4⟩
  go_wp2_with fail
  refine (number_calls _ _).mono ?_
  rintro e w5 ⟨rfl, b5⟩
  go_wp2
  go_ret2
  exact ⟨rfl, b4.trans (b5.mono b4.size)⟩

end Go.Proofs.YthilicmhdkmipaaGreatDoor
/- Contracts of package tree, first part: whether two types are the same. -/
namespace Go.Proofs.YthilicmhdkmipaaGreatDoor
open Go.RowKit
set_option linter.unusedVariables false

theorem up_tr {w w1 w2 : World} (a : Below w.heap.size w w1) (b : Below w1.heap.size w1 w2) : Below w.heap.size w w2 := a.trans (b.mono a.size)
theorem box2 (w : World) (a b : Obj) : Below w.heap.size w ((w.alloc a).alloc b) := ((Below.refl _ w).alloc (Nat.le_refl _) _).alloc (by simp) _
theorem box2B {B : Nat} (w : World) (hB : B ≤ w.heap.size) (a b : Obj) : Below B w ((w.alloc a).alloc b) := (box2 w a b).mono hB
theorem old_cells {W w1 : World} (hb : Below W.heap.size W w1) : ∀ b o, b < W.heap.size → w1.cell? ⟨b, o, none⟩ = W.cell? ⟨b, o, none⟩ := fun b o h => hb.cell (p := ⟨b, o, none⟩) h
theorem below_drewN (w : World) (q : Nat) : Below w.heap.size w (w.drewN q) := by
  refine ⟨?_, ?_, ?_, ?_, ?_⟩ <;> first | rfl | simp
theorem get_at {α : Type} {l : List α} {k : Nat} (h : k < l.length) : ∃ a, l[k]? = some a ∧ a ∈ l := ⟨l[k], List.getElem?_eq_getElem h, List.getElem_mem h⟩

/-- the contract of sameType at a first type -/
def SameTAt (B : Nat) (a : PT) : Prop := ∀ (b : PT) (va vb : Value) (w : World), B ≤ w.heap.size → a.In B w va → b.In B w vb →
  Calls Tryz.prog 111 #[.agg #[.int .u8 a.kind, .string a.name, va], .agg #[.int .u8 b.kind, .string b.name, vb]] w fun e w' => e = .returned (.bool (sameT a b)) ∧ Below w.heap.size w w'

theorem sameType_enters : ∀ args w, (callFunc 111 args).run Tryz.prog w = .ok (.enter 111 args) w := enters_of Tryz.func111 (by kernel_rfl) rfl

set_option maxHeartbeats 1000000 in
theorem equalT_calls (B : Nat) (xs ys : List PT) (H : Hid (∀ a, a ∈ xs → SameTAt B a)) (b1 o1 b2 o2 : Nat) (v1 v2 : Value) (w : World) (hB : B ≤ w.heap.size)
    (s1 : SlV B v1 xs.length b1 o1) (r1 : PT.Row B w b1 o1 xs) (s2 : SlV B v2 ys.length b2 o2) (r2 : PT.Row B w b2 o2 ys) :
    Calls Tryz.prog 164 #[v1, v2, .func (.func 111) #[] #[]] w fun e w' => e = .returned (.bool (sameTs xs ys)) ∧ Below w.heap.size w w' := by
  rw [sameTs_all]
  obtain ⟨m1, ao1, cap1, rfl, h1⟩ := s1
  obtain ⟨m2, ao2, cap2, rfl, h2⟩ := s2
  unfold maxLen at m1 m2
  by_cases hn : xs.length = ys.length
  · have hyes := fun h => allW_yes (f := sameT) hn h
    obtain ⟨n, hx⟩ : ∃ n, n = xs.length := ⟨_, rfl⟩
    have hy : n = ys.length := hx.trans hn
    rw [← hx] at m1 h1 ⊢
    rw [← hy] at m2 h2 ⊢
    have Hyes := Lib.hid hyes
    have Hx := Lib.hid hx
    have Hy := Lib.hid hy
    have Hr := Lib.hid r1
    have Hs := Lib.hid r2
    have H1 := Lib.hid h1
    have H2 := Lib.hid h2
    clear hyes hn hx hy r1 r2 h1 h2
    have hE := sameType_enters
    go_enter Tryz.func164, Tryz.ntmps164
    go_wp2_with fail
    go_loopw [17] (fun i wr => ∃ k : Nat, k ≤ n ∧ i = .int .i64 k ∧ Below w.heap.size w wr ∧ Hid (∀ (j : Nat) x y, j < k → xs[j]? = some x → ys[j]? = some y → sameT x y = true))
      (fun i _ => n - (intOf i).toNat)
    case atStart => exact ⟨0, by omega, rfl, Below.refl _ _, Lib.hid fun j x y hj => by omega⟩
    case round =>
      obtain ⟨k, hk, rfl, hbel, HK⟩ := hrel
      have hsz := hbel.size
      have hbB := hbel.mono hB
      by_cases hlt : k < n
      · obtain ⟨a, ha, hin⟩ := get_at (l := xs) (k := k) (by rw [← Hx.out]; exact hlt)
        obtain ⟨b, hb, _⟩ := get_at (l := ys) (k := k) (by rw [← Hy.out]; exact hlt)
        obtain ⟨rfl, hb1⟩ := H1.out.resolve_left (by omega)
        obtain ⟨rfl, hb2⟩ := H2.out.resolve_left (by omega)
        obtain ⟨va, ca, ia⟩ := PT.Row.get (PT.Row.below hbB hb1 Hr.out) ha
        obtain ⟨vb, cb, ib⟩ := PT.Row.get (PT.Row.below hbB hb2 Hs.out) hb
        have g1 : b1 < wr.heap.size := by omega
        have g2 : b2 < wr.heap.size := by omega
        have c1 : wr.cell? ⟨b1, o1 + k * 3, none⟩ = some (.int .u8 a.kind) := ca 0 _ rfl
        have c2 := ca 1 _ rfl
        have c3 := ca 2 _ rfl
        have d1 : wr.cell? ⟨b2, o2 + k * 3, none⟩ = some (.int .u8 b.kind) := cb 0 _ rfl
        have d2 := cb 1 _ rfl
        have d3 := cb 2 _ rfl
        obtain ⟨p1, q1, t1, rfl⟩ := ia.shape
        obtain ⟨p2, q2, t2, rfl⟩ := ib.shape
        have C := Lib.hid (H.out a hin b (.slice p1 q1 t1) (.slice p2 q2 t2))
        have Ia := Lib.hid ia
        have Ib := Lib.hid ib
        have Ha := Lib.hid ha
        have Hb := Lib.hid hb
        clear ha hb ia ib ca cb hin
        go_wp2_with fail
        refine (C.out _ ?_ ?_ ?_).mono ?_
        · simp; omega
        · exact PT.In.below (((Below.refl B _).alloc (by omega) _).alloc (by simp; omega) _) Ia.out
        · exact PT.In.below (((Below.refl B _).alloc (by omega) _).alloc (by simp; omega) _) Ib.out
        rintro e w2 ⟨rfl, b2⟩
        have b3 := ((hbel.alloc (by omega) _).alloc (by simp; omega) _).trans (b2.mono (by simp; omega))
        clear b2 c1 c2 c3 d1 d2 d3
        cases hs : sameT a b
        · have hres := Lib.hid (allW_no Ha.out Hb.out hs)
          clear hs
          go_wp2
          go_ret
          exact ⟨ret_bool hres.out.symm, b3⟩
        · have HK2 := Lib.hid (allW_step HK.out Ha.out Hb.out hs)
          clear hs
          go_wp2
          go_roundw
          case rel => exact ⟨k + 1, by omega, by go_num, b3, HK2⟩
          case measure => simp [intOf]; omega
      · obtain rfl : k = n := by omega
        have hres := Lib.hid (Hyes.out fun j x y hx hy => HK.out j x y (by rw [Hx.out]; exact (List.getElem?_eq_some_iff.1 hx).1) hx hy)
        go_wp2
        go_ret
        exact ⟨ret_bool hres.out.symm, hbel⟩
  · have e1 : ((xs.length : Int) != (ys.length : Int)) = true := by rw [bne_iff_ne]; omega
    rw [allW_len hn]
    clear hn
    go_enter Tryz.func164, Tryz.ntmps164
    go_wp2
    go_ret
    exact ⟨rfl, Below.refl _ _⟩

theorem sameT_step (B : Nat) (k : Int) (n : ByteArray) (xs : List PT) (H : ∀ a, a ∈ xs → SameTAt B a) : SameTAt B (.mk k n xs) := by
  intro b va vb w hB ha hb
  obtain ⟨k2, n2, ys⟩ := b
  obtain ⟨⟨u1, z1⟩, b1, o1, s1, r1⟩ := ha
  obtain ⟨⟨u2, z2⟩, b2, o2, s2, r2⟩ := hb
  obtain ⟨p1, q1, rfl⟩ := s1.shape
  obtain ⟨p2, q2, rfl⟩ := s2.shape
  show Calls Tryz.prog 111 #[.agg #[.int .u8 k, .string n, .slice p1 xs.length q1], .agg #[.int .u8 k2, .string n2, .slice p2 ys.length q2]] w _
  go_enter Tryz.func111, Tryz.ntmps111
  go_wp2_with fail
  · have e1 : k = k2 := by assumption
    have e2 : n.toList = n2.toList := by assumption
    refine (equalT_calls B xs ys (Lib.hid H) b1 o1 b2 o2 _ _ _ (by simp; omega) s1 (PT.Row.below' (((Below.refl B w).alloc hB _).alloc (by simp; omega) _) s1 r1) s2 (PT.Row.below' (((Below.refl B w).alloc hB _).alloc (by simp; omega) _) s2 r2)).mono ?_
    rintro e w' ⟨rfl, b3⟩
    go_wp2
    go_ret
    exact ⟨ret_bool (by rw [sameT_mk, e1, toList_same e2]; simp), (((Below.refl _ w).alloc (Nat.le_refl _) _).alloc (by simp) _).trans (b3.mono (by simp; omega))⟩
  · have e2 : ¬ n.toList = n2.toList := by assumption
    go_ret
    exact ⟨ret_bool (by rw [sameT_mk, toList_diff e2]; simp), ((Below.refl _ w).alloc (Nat.le_refl _) _).alloc (by simp) _⟩
  · have e1 : ¬ k = k2 := by assumption
    go_ret
    exact ⟨ret_bool (by rw [sameT_mk]; simp [e1]), ((Below.refl _ w).alloc (Nat.le_refl _) _).alloc (by simp) _⟩
theorem sameT_calls (B : Nat) (a : PT) : SameTAt B a :=
  PT.rec (motive_1 := SameTAt B) (motive_2 := fun l => ∀ x, x ∈ l → SameTAt B x) (fun k n xs H => sameT_step B k n xs H)
    (fun x h => by cases h) (fun a l ha hl x h => by cases h with | head => exact ha | tail _ h => exact hl x h) a

/-! ### names and places -/
theorem equalN_calls (B : Nat) (xs ys : List ByteArray) (v1 v2 : Value) (w : World) (h1 : NIn B w xs v1) (h2 : NIn B w ys v2) :
    Calls Tryz.prog 165 #[v1, v2] w fun e w' => e = .returned (.bool (allW sameW xs ys)) ∧ Below w.heap.size w w' := by
  obtain ⟨b1, o1, ⟨m1, p1, q1, rfl, k1⟩, r1⟩ := h1
  obtain ⟨b2, o2, ⟨m2, p2, q2, rfl, k2⟩, r2⟩ := h2
  unfold maxLen at m1 m2
  rw [allW_eq]
  by_cases hn : xs.length = ys.length
  · rcases k1 with k1 | ⟨rfl, k1⟩
    · rw [k1] at hn ⊢
      refine (Tryz.slices_Equal_string_empty p1 p2 q1 ys.length q2 w m2).mono ?_
      rintro e w' ⟨rfl, rfl⟩
      have e1 := List.eq_nil_of_length_eq_zero k1
      have e2 := List.eq_nil_of_length_eq_zero hn.symm
      exact ⟨by rw [e1, e2]; rfl, Below.refl _ _⟩
    · rcases k2 with k2 | ⟨rfl, k2⟩
      · have e1 := List.eq_nil_of_length_eq_zero (hn.trans k2)
        have e2 := List.eq_nil_of_length_eq_zero k2
        subst e1 e2
        refine (Tryz.slices_Equal_string_empty _ p2 q1 0 q2 w (by omega)).mono ?_
        rintro e w' ⟨rfl, rfl⟩
        exact ⟨rfl, Below.refl _ _⟩
      · refine (Tryz.slices_Equal_string b1 o1 xs.length q1 b2 o2 ys.length q2 xs ys w (Nat.le_refl _) (Nat.le_refl _) m1 m2 (fun j hj => ?_) (fun j hj => ?_)).mono ?_
        · have := (NRow.get (k := j) (s := xs[j]) r1 (List.getElem?_eq_getElem hj)).2 0 _ rfl
          simpa [List.getD, hj] using this
        · have := (NRow.get (k := j) (s := ys[j]) r2 (List.getElem?_eq_getElem hj)).2 0 _ rfl
          simpa [List.getD, hj] using this
        rintro e w' ⟨rfl, q, rfl⟩
        exact ⟨by rw [List.take_length, List.take_length], below_drewN w q⟩
  · refine (Tryz.slices_Equal_string_lens p1 p2 xs.length q1 ys.length q2 w hn).mono ?_
    rintro e w' ⟨rfl, rfl⟩
    have hne : ¬ xs = ys := fun h => hn (by rw [h])
    exact ⟨by simp [hne], Below.refl _ _⟩
set_option maxHeartbeats 1000000 in
theorem samePl_calls (B : Nat) (a b : PP) (va vb : Value) (w : World) (hB : B ≤ w.heap.size) (ha : a.In B w va) (hb : b.In B w vb) :
    Calls Tryz.prog 166 #[.agg #[.string a.name, va], .agg #[.string b.name, vb]] w fun e w' => e = .returned (.bool (samePl a b)) ∧ Below w.heap.size w w' := by
  obtain ⟨p1, n1, q1, rfl⟩ := ha.2.shape
  obtain ⟨p2, n2, q2, rfl⟩ := hb.2.shape
  go_enter Tryz.func166, Tryz.ntmps166
  go_wp2_with fail
  · have e2 : a.name.toList = b.name.toList := by assumption
    refine (equalN_calls B a.path b.path _ _ _ (ha.2.below (box2B _ hB _ _)) (hb.2.below (box2B _ hB _ _))).mono ?_
    rintro e w' ⟨rfl, b3⟩
    go_wp2
    go_ret
    exact ⟨ret_bool (by rw [samePl, toList_same e2]; simp), up_tr (box2 _ _ _) b3⟩
  · have e2 : ¬ a.name.toList = b.name.toList := by assumption
    go_ret
    exact ⟨ret_bool (by rw [samePl, toList_diff e2]; simp), box2 _ _ _⟩
end Go.Proofs.YthilicmhdkmipaaGreatDoor
