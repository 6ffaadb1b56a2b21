/- Texts of places, and how many of their steps go through. -/
import Derived.Test.YtipiiaghjkhkbaaPathsBuild
import Derived.Test.YtipiiaghjkhkbaaPathsCode1
namespace Go.Proofs.Ytipiiaghjkhkbaa
open Go.RowKit
set_option linter.unusedVariables false

/-- how many steps are '*' -/
def starN (l : List ByteArray) : Nat := l.countP fun s => decide (keyS s = [42])
theorem starN_le (l : List ByteArray) : starN l ≤ l.length := List.countP_le_length
theorem starN_next {l : List ByteArray} {k : Nat} {s : ByteArray} (h : l[k]? = some s) : starN (l.take (k + 1)) = starN (l.take k) + (if keyS s = [42] then 1 else 0) := by
  rw [List.take_add_one, h]
  simp [starN, List.countP_append, List.countP_cons]
/-- a place's text -/
def textL (nm : ByteArray) (l : List ByteArray) : List UInt8 := keyS nm ++ (l.map fun s => 46 :: keyS s).flatten
theorem textL_next {nm : ByteArray} {l : List ByteArray} {k : Nat} {s : ByteArray} (h : l[k]? = some s) : textL nm (l.take (k + 1)) = textL nm (l.take k) ++ (46 :: keyS s) := by
  rw [List.take_add_one, h]
  simp [textL]
theorem keyS_len (s : ByteArray) : (keyS s).length = s.size := rfl
theorem flat_len {l : List ByteArray} {m : Nat} (h : ∀ s, s ∈ l → s.size ≤ m) : ((l.map fun s => (46 : UInt8) :: keyS s).flatten).length ≤ l.length * (m + 1) := by
  induction l with
  | nil => simp
  | cons s l ih =>
    have h1 := h s (by simp)
    have h2 := ih fun t ht => h t (by simp [ht])
    simp only [List.map_cons, List.flatten_cons, List.length_append, List.length_cons, keyS_len]
    rw [Nat.add_mul, Nat.one_mul]
    omega
/-- no longer than is gone through -/
structure Short (x : PP) : Prop where
  name : x.name.size ≤ 1000
  path : x.path.length ≤ 200
  each : ∀ s, s ∈ x.path → s.size ≤ 1000
theorem Short.text {x : PP} (h : Short x) (k : Nat) : (textL x.name (x.path.take k)).length ≤ 1000000 := by
  have h1 := flat_len (l := x.path.take k) (m := 1000) fun s hs => h.each s (List.mem_of_mem_take hs)
  have h2 : (x.path.take k).length ≤ 200 := Nat.le_trans (by simp; omega) h.path
  have h3 := h.name
  simp only [textL, List.length_append, keyS_len]
  have : (x.path.take k).length * (1000 + 1) ≤ 200 * (1000 + 1) := Nat.mul_le_mul_right _ h2
  omega
theorem keyS_add (a b : ByteArray) : keyS (a ++ b) = keyS a ++ keyS b := by simp [keyS]
theorem star_eq {s : ByteArray} (h : keyS s = [42]) : (s.toList == [42]) = true := by rw [beq_iff_eq, ByteArray.toList_eq]; exact h
theorem star_ne {s : ByteArray} (h : ¬ keyS s = [42]) : (s.toList == [42]) = false := by rw [beq_eq_false_iff_ne, Ne, ByteArray.toList_eq]; exact h

set_option maxHeartbeats 1000000 in
theorem through_calls (x : PP) (hm : x.path.length ≤ 1000000) (B : Nat) (v : Value) (w : World) (hB : B ≤ w.heap.size) (hx : x.In B w v) :
    Calls Try.prog 21 #[.agg #[.string x.name, v]] w fun e w' => e = .returned (.int .i64 (starN x.path : Nat)) ∧ Below w.heap.size w w' := by
  obtain ⟨z1, b1, o1, ⟨m1, ao, cap, rfl, c1, h1⟩, r1⟩ := hx
  obtain ⟨n, hn⟩ : ∃ n, n = x.path.length := ⟨_, rfl⟩
  rw [← hn] at m1 h1 c1 hm ⊢
  have Hn := Lib.hid hn
  have Hr := Lib.hid r1
  have H1 := Lib.hid h1
  generalize x.name = nm at *
  generalize hp : x.path = l at *
  clear hn r1 h1 z1 m1
  go_enter Try.func21, Try.ntmps21
  go_wp2_with fail
  go_loopw [9, 3] (fun i c wr => ∃ k : Nat, ∃ q : Nat, k ≤ n ∧ i = .int .i64 k ∧ c = .int .i64 q ∧ q ≤ k ∧ Hid (q = starN (l.take k)) ∧ Below w.heap.size w wr)
    (fun i c _ => n - (intOf i).toNat)
  case atStart => exact ⟨0, 0, by omega, rfl, rfl, Nat.le_refl _, Lib.hid rfl, box1 _ _⟩
  case round =>
    obtain ⟨k, q, hk, rfl, rfl, hq, HQ, hbel⟩ := hrel
    by_cases hlt : k < n
    · obtain ⟨s, hs, _⟩ := get_at (l := l) (k := k) (by rw [← Hn.out]; exact hlt)
      obtain ⟨rfl, hb1⟩ := H1.out.resolve_left (by omega)
      have k0 := (Hr.out.below (fun _ => hb1) (hbel.mono hB) k s hs).2
      have hnx := starN_next hs
      have hk1 : (k : Int) < (n : Int) := by omega
      have hk0 : 0 ≤ (k : Int) := by omega
      by_cases hst : keyS s = [42]
      · rw [if_pos hst, ← HQ.out] at hnx
        have e3 := star_eq hst
        have Hnx := Lib.hid hnx
        clear hst hnx hs
        go_wp2_with fail
        go_roundw
        case rel => exact ⟨k + 1, q + 1, by omega, by go_num, by go_num, by omega, Lib.hid Hnx.out.symm, hbel⟩
        case measure => simp [intOf]; omega
      · rw [if_neg hst, ← HQ.out] at hnx
        have e3 := star_ne hst
        have Hnx := Lib.hid hnx
        clear hst hnx hs
        go_wp2_with fail
        go_roundw
        case rel => exact ⟨k + 1, q, by omega, by go_num, rfl, by omega, Lib.hid Hnx.out.symm, hbel⟩
        case measure => simp [intOf]; omega
    · obtain rfl : k = n := by omega
      have hres := Lib.hid (show q = starN l by rw [HQ.out, Hn.out, List.take_length])
      go_wp2_with fail
      go_ret
      exact ⟨ret_int (by rw [hres.out]), hbel⟩

/-- the text's bytes -/
def textB (x : PP) : ByteArray := ⟨(textL x.name x.path).toArray⟩
theorem dot_cells : Lib.strCells (⟨#[46]⟩ : ByteArray) = Lib.byteCells [46] := rfl
theorem str_cells (s : ByteArray) : Lib.strCells s = Lib.byteCells (keyS s) := rfl

set_option maxHeartbeats 2000000 in
theorem text_calls (x : PP) (hS : Short x) (B : Nat) (v : Value) (w : World) (hB : B ≤ w.heap.size) (hx : x.In B w v) :
    Calls Try.prog 19 #[.agg #[.string x.name, v]] w fun e w' => e = .returned (.string (textB x)) ∧ Below w.heap.size w w' := by
  obtain ⟨z1, b1, o1, ⟨m1, ao, cap, rfl, c1, h1⟩, r1⟩ := hx
  have HS := Lib.hid hS
  have HT : Hid (∀ k, (textL x.name (x.path.take k)).length ≤ 1000000) := Lib.hid hS.text
  have hn1 := hS.name
  have hp1 := hS.path
  unfold textB
  obtain ⟨n, hn⟩ : ∃ n, n = x.path.length := ⟨_, rfl⟩
  have HE : Hid (∀ s, s ∈ x.path → s.size ≤ 1000) := Lib.hid hS.each
  rw [← hn] at m1 h1 c1 hp1 ⊢
  have Hn := Lib.hid hn
  have Hr := Lib.hid r1
  have H1 := Lib.hid h1
  clear HS hS
  generalize x.name = nm at *
  generalize x.path = l at *
  clear hn r1 h1 z1 m1
  go_enter Try.func19, Try.ntmps19
  go_wp2_with fail
  obtain ⟨b, hb⟩ : ∃ b, b = w.heap.size + 1 := ⟨_, rfl⟩
  obtain ⟨W0, hW⟩ : ∃ W, W = (w.alloc (.cells #[.string nm, .slice ao n cap] 24)).alloc (.cells #[.pointer none, .slice none 0 0] 45) := ⟨_, rfl⟩
  have p1 : W0.cell? ⟨w.heap.size, 1, none⟩ = some (.slice ao n cap) := by rw [hW]; go_simp
  have hbu : Lib.IsBuilder 45 5 b b (Lib.byteCells []) W0 := by
    rw [hW, hb]
    have := Lib.fresh_isBuilder 45 5 (w.alloc (.cells #[.string nm, .slice ao n cap] 24))
    simpa [Lib.byteCells] using this
  have z2 : w.heap.size < b := by omega
  have zB : b ≤ W0.heap.size := by rw [hW, hb]; simp
  have bel0 : Below b (w.alloc (.cells #[.string nm, .slice ao n cap] 24)) W0 := by rw [hW]; exact (Below.refl _ _).alloc (by rw [hb]; simp) _
  have bel0 : Below w.heap.size w W0 := (box1 w _).trans (bel0.mono (by omega))
  rw [← hW, ← hb]
  clear hW hb
  refine (writes_calls b b (Lib.byteCells []) nm W0 hbu (by simp [Lib.byteCells]; omega) zB).mono ?_
  rintro e w1 ⟨rfl, hb1, y1⟩
  have p1 := (y1.cell (p := ⟨w.heap.size, 1, none⟩) z2).trans p1
  have bel1 := bel0.trans (y1.mono (by omega))
  have zB1 : b ≤ w1.heap.size := Nat.le_trans zB y1.size
  have HB1 : Hid (Lib.IsBuilder 45 5 b b (Lib.byteCells (textL nm (l.take 0))) w1) := Lib.hid (.inr (by simpa [textL, str_cells, Lib.byteCells] using hb1))
  clear hbu hb1 y1 bel0 zB
  go_wp2_with fail
  go_loopw [12] (fun i wr => ∃ k : Nat, k ≤ n ∧ i = .int .i64 k ∧ b ≤ wr.heap.size ∧ Hid (Lib.IsBuilder 45 5 b b (Lib.byteCells (textL nm (l.take k))) wr) ∧ Hid (Below w.heap.size w wr))
    (fun i _ => n - (intOf i).toNat)
  case atStart => exact ⟨0, by omega, rfl, zB1, HB1, Lib.hid bel1⟩
  case round =>
    obtain ⟨k, hk, rfl, hbz, hbu, hbel⟩ := hrel
    by_cases hlt : k < n
    · obtain ⟨s, hs, hin⟩ := get_at (l := l) (k := k) (by rw [← Hn.out]; exact hlt)
      obtain ⟨rfl, hbb⟩ := H1.out.resolve_left (by omega)
      have k0 := (Hr.out.below (fun _ => hbb) (hbel.out.mono hB) k s hs).2
      have hk1 : (k : Int) < (n : Int) := by omega
      have hk0 : 0 ≤ (k : Int) := by omega
      have hsz := HE.out s hin
      have Hnx := Lib.hid (textL_next (nm := nm) hs)
      have htl := HT.out k
      clear hs hin
      go_wp2_with fail
      refine (writes_calls b b _ ⟨#[46]⟩ wr hbu.out (by rw [Lib.byteCells_length]; show _ + 1 ≤ _; omega) hbz).mono ?_
      rintro e w2 ⟨rfl, hb2, y2⟩
      have zB2 : b ≤ w2.heap.size := Nat.le_trans hbz y2.size
      have Hb2 : Hid (Lib.IsBuilder 45 5 b b (Lib.byteCells (textL nm (l.take k) ++ [46])) w2) := Lib.hid (.inr (by rw [Lib.byteCells_append]; exact hb2))
      have bel2 := Lib.hid (hbel.out.trans (y2.mono (by omega)))
      clear hb2 y2
      go_wp2_with fail
      refine (writes_calls b b _ s w2 Hb2.out (by rw [Lib.byteCells_length, List.length_append]; show _ + 1 + _ ≤ _; omega) zB2).mono ?_
      rintro e w3 ⟨rfl, hb3, y3⟩
      have Hb3 : Hid (Lib.IsBuilder 45 5 b b (Lib.byteCells (textL nm (l.take (k + 1)))) w3) := Lib.hid (.inr (by
        rw [Hnx.out, show (46 :: keyS s) = [46] ++ keyS s from rfl, ← List.append_assoc, Lib.byteCells_append _ (keyS s)]; exact hb3))
      have bel3 := Lib.hid (bel2.out.trans (y3.mono (by omega)))
      have zB3 : b ≤ w3.heap.size := Nat.le_trans zB2 y3.size
      clear hb3 y3
      go_wp2_with fail
      go_roundw
      case rel => exact ⟨k + 1, by omega, by go_num, zB3, Hb3, bel3⟩
      case measure => simp [intOf]; omega
    · obtain rfl : k = n := by omega
      have Hb2 : Hid (Lib.IsBuilder 45 5 b b (Lib.byteCells (textL nm l)) wr) := Lib.hid (by have := hbu.out; rwa [Hn.out, List.take_length] at this)
      go_wp2_with fail
      refine (Try.Builder_String_any b b (textL nm l) wr Hb2.out hbz).mono ?_
      rintro e w2 ⟨rfl, y2⟩
      have bel2 := hbel.out.trans (y2.mono (by omega))
      go_wp2_with fail
      go_ret
      exact ⟨rfl, bel2⟩

set_option maxHeartbeats 2000000 in
theorem refText_calls (x : PP) (hS : Short x) (B : Nat) (v : Value) (w : World) (hB : B ≤ w.heap.size) (hx : x.In B w v) :
    Calls Try.prog 20 #[.agg #[.string x.name, v]] w fun e w' => e = .returned (.string (textB x)) ∧ Below w.heap.size w w' := by
  obtain ⟨z1, b1, o1, ⟨m1, ao, cap, rfl, c1, h1⟩, r1⟩ := hx
  have HT : Hid (∀ k, (textL x.name (x.path.take k)).length ≤ 1000000) := Lib.hid hS.text
  have hn1 := hS.name
  have hp1 := hS.path
  unfold textB
  obtain ⟨n, hn⟩ : ∃ n, n = x.path.length := ⟨_, rfl⟩
  have HE : Hid (∀ s, s ∈ x.path → s.size ≤ 1000) := Lib.hid hS.each
  rw [← hn] at m1 h1 c1 hp1 ⊢
  have Hn := Lib.hid hn
  have Hr := Lib.hid r1
  have H1 := Lib.hid h1
  clear hS
  generalize x.name = nm at *
  generalize x.path = l at *
  clear hn r1 h1 z1 m1
  go_enter Try.func20, Try.ntmps20
  go_wp2_with fail
  go_loopw [4, 3] (fun i t wr => ∃ (k : Nat) (q : ByteArray), k ≤ n ∧ i = .int .i64 k ∧ t = .string q ∧ q.size ≤ 1000000 ∧ w.heap.size < wr.heap.size ∧ wr.cell? ⟨w.heap.size, 1, none⟩ = some (.slice ao n cap) ∧ Hid (keyS q = textL nm (l.take k)) ∧ Hid (Below w.heap.size w wr))
    (fun i t _ => n - (intOf i).toNat)
  case atStart => exact ⟨0, nm, by omega, rfl, rfl, by omega, by simp, by go_simp, Lib.hid (by simp [textL]), Lib.hid (box1 _ _)⟩
  case round =>
    obtain ⟨k, q, hk, rfl, rfl, hq, hz, p1, HQ, hbel⟩ := hrel
    by_cases hlt : k < n
    · obtain ⟨s, hs, hin⟩ := get_at (l := l) (k := k) (by rw [← Hn.out]; exact hlt)
      obtain ⟨rfl, hbb⟩ := H1.out.resolve_left (by omega)
      have k0 := (Hr.out.below (fun _ => hbb) (hbel.out.mono hB) k s hs).2
      have hk1 : (k : Int) < (n : Int) := by omega
      have hk0 : 0 ≤ (k : Int) := by omega
      have hsz := HE.out s hin
      have Hnx := Lib.hid (textL_next (nm := nm) hs)
      have htl := HT.out (k + 1)
      clear hs hin
      have HK : Hid (keyS (q ++ ⟨#[46]⟩ ++ s) = textL nm (l.take (k + 1))) := Lib.hid (by rw [keyS_add, keyS_add, HQ.out, Hnx.out, List.append_assoc]; rfl)
      have hsz2 : (q ++ (⟨#[46]⟩ : ByteArray) ++ s).size ≤ 1000000 := by rw [← keyS_len, HK.out]; exact htl
      go_wp2_with fail
      go_roundw
      case rel => exact ⟨k + 1, q ++ ⟨#[46]⟩ ++ s, by omega, by go_num, rfl, hsz2, hz, p1, HK, hbel⟩
      case measure => simp [intOf]; omega
    · obtain rfl : k = n := by omega
      have hres : (⟨(textL nm l).toArray⟩ : ByteArray) = q := by
        apply key_same.1
        rw [HQ.out, Hn.out, List.take_length]
        rfl
      go_wp2_with fail
      go_ret
      exact ⟨by rw [hres]; rfl, hbel.out⟩
end Go.Proofs.Ytipiiaghjkhkbaa
