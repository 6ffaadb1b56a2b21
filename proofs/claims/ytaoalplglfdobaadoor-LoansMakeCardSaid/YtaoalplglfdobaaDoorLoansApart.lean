/- loans.apart: the text that no other place has. -/
import Derived.Test.YtaoalplglfdobaaDoorLoansMarkMath
import Derived.Test.YtaoalplglfdobaaDoorBuilderWrite
import Derived.Test.YtaoalplglfdobaaDoorShelf
import Derived.Test.YtaoalplglfdobaaDoorHead
import Derived.Lib.AppendIntMem
import Derived.OwnWalk
namespace Go.Proofs.YtaoalplglfdobaaDoor
open Go.RowKit
set_option linter.unusedVariables false

/-- the table of tens lies below block B, in this world and all that are the same there -/
def Tb (B : Nat) (w : World) : Prop := Lib.TabBelow Tryd.prog B w "internal/strconv.uint64pow10" .u64 Lib.pow10Tab
theorem Tb.below {B : Nat} {w w' : World} (h : Tb B w) (k : Below B w w') : Tb B w' := fun w2 k2 => h w2 (k.trans k2)
theorem Tb.mono {B B' : Nat} {w : World} (h : Tb B w) (hB : B ≤ B') : Tb B' w := fun w2 k2 => h w2 (k2.mono hB)
def IsB (B b : Nat) (l : List UInt8) (w : World) : Prop := Lib.IsBuilder 76 5 B b (Lib.byteCells l) w
theorem builder_stays {T e : TypeId} {B b : Nat} {p : Value} {bs : List Value} {w w' : World} (h : Lib.BuilderAt T e B b p bs w) (k : Below w.heap.size w w') : Lib.BuilderAt T e B b p bs w' := by
  have hlt := h.lt
  obtain ⟨hB, v, hb, hown, hne⟩ := h
  exact ⟨hB, v, (k.block b hlt).trans hb, hown.kept (row := none) ⟨k.os, k.tape, k.output, k.size, fun j hj _ => k.block j hj⟩ (by
    cases v.ownBlock with
    | none => exact .inl rfl
    | some x => exact .inr (by simp)), hne⟩
theorem IsB.stays {B b : Nat} {l : List UInt8} {w w' : World} (h : IsB B b l w) (k : Below w.heap.size w w') : IsB B b l w' := h.imp (fun h => builder_stays h k) fun h => builder_stays h k
theorem IsB.wrote {B b : Nat} {l : List UInt8} {s : ByteArray} {w : World} (h : Lib.BuilderAt 76 5 B b (.pointer (some ⟨b, 0, none⟩)) (Lib.byteCells l ++ Lib.strCells s) w) : IsB B b (l ++ s.data.toList) w := by
  rw [Lib.strCells_eq] at h
  exact .inr (by unfold Lib.byteCells at *; rw [List.map_append]; exact h)
theorem IsB.cells {B b : Nat} {l : List UInt8} {w : World} (h : IsB B b l w) : Lib.IsBuilder 76 5 B b (Lib.byteCells l) w := h
theorem IsB.new {w : World} : IsB w.heap.size w.heap.size [] (w.alloc (.cells #[.pointer none, .slice none 0 0] 76)) :=
  .inl ⟨Nat.le_refl _, .slice none 0 0, heap_alloc_new w _, World.ownsRow_nil _ _ _ _, by simp [Value.ownBlock]⟩

set_option maxRecDepth 100000 in
set_option maxHeartbeats 1000000 in
theorem apart1_calls (B b : Nat) (l : List UInt8) (s : ByteArray) (w : World) (h : IsB B b l w) (hT : Tb B w) (hlen : l.length + s.size + 30 ≤ 140737488355328) (hBw : B ≤ w.heap.size) :
    Calls Tryd.prog 51 #[.string s, .pointer (some ⟨b, 0, none⟩)] w fun e w' => e = .returned (.tuple #[]) ∧ IsB B b (l ++ pieceS s) w' ∧ Below B w w' := by
  have hd := digits_len s.size (by omega)
  have HI := Lib.hid (Tryd.strconv_Itoa s.size (by omega) (by omega) w hT.here)
  rw [show (⟨(Lib.itoa (s.size : Int)).toArray⟩ : ByteArray) = ⟨(Lib.decDigits s.size).toArray⟩ from by rw [Lib.itoa_nonneg]] at HI
  have HP : Hid (l ++ Lib.decDigits s.size ++ [46] ++ s.data.toList = l ++ pieceS s) := Lib.hid (by unfold pieceS; simp)
  obtain ⟨D, hD⟩ : ∃ D : ByteArray, D = ⟨(Lib.decDigits s.size).toArray⟩ := ⟨_, rfl⟩
  have hD1 : D.data.toList = Lib.decDigits s.size := by rw [hD]
  have hD2 : D.size ≤ 20 := by rw [hD]; show (Lib.decDigits s.size).toArray.size ≤ 20; rw [List.size_toArray]; exact hd
  rw [← hD] at HI
  have HD := Lib.hid hD1
  have H := Lib.hid h
  have hz : 0 ≤ (s.size : Int) := by omega
  have hz2 : (s.size : Int) ≤ 9223372036854775807 := by omega
  have hl46 : (ByteArray.mk #[46]).size = 1 := rfl
  clear hD hD1 hd h
  go_enter Tryd.func51, Tryd.ntmps51
  go_wp2_with fail
  refine HI.out.mono ?_
  rintro e w1 ⟨rfl, k, os, hw1⟩
  have b1 : Below w.heap.size w w1 := by rw [hw1]; exact below_grow w k os
  have H1 := Lib.hid (H.out.stays b1)
  have B1 := Lib.hid (b1.mono hBw)
  have z1 : B ≤ w1.heap.size := Nat.le_trans hBw b1.size
  clear hw1 b1 H HI
  go_wp2_with fail
  refine (writeString_calls B b _ D w1 H1.out.cells (by rw [Lib.byteCells_length]; omega) z1).mono ?_
  rintro e w2 ⟨rfl, h2, b2⟩
  have H2 := Lib.hid (IsB.wrote h2)
  have B2 := Lib.hid (B1.out.trans b2)
  have z2 : B ≤ w2.heap.size := Nat.le_trans z1 b2.size
  clear h2 b2 B1 H1
  go_wp2_with fail
  refine (writeString_calls B b _ ⟨#[46]⟩ w2 H2.out.cells (by rw [Lib.byteCells_length, List.length_append, HD.out, hl46, Lib.decDigits_length]; have := Lib.nDigits_le20 s.size (by omega); omega) z2).mono ?_
  rintro e w3 ⟨rfl, h3, b3⟩
  have H3 := Lib.hid (IsB.wrote h3)
  have B3 := Lib.hid (B2.out.trans b3)
  have z3 : B ≤ w3.heap.size := Nat.le_trans z2 b3.size
  clear h3 b3 B2 H2
  go_wp2_with fail
  refine (writeString_calls B b _ s w3 H3.out.cells (by rw [Lib.byteCells_length, List.length_append, List.length_append, HD.out, Lib.decDigits_length]; have := Lib.nDigits_le20 s.size (by omega); show _ + (1 : Nat) + _ ≤ _; omega) z3).mono ?_
  rintro e w4 ⟨rfl, h4, b4⟩
  have H4 := Lib.hid (IsB.wrote h4)
  have B4 := Lib.hid (B3.out.trans b4)
  clear h4 b4 B3 H3
  go_wp2_with fail
  go_end0
  refine ⟨rfl, ?_, B4.out⟩
  rw [← HP.out, ← HD.out]
  exact H4.out
theorem apart1_enters : ∀ args w, (callFunc 51 args).run Tryd.prog w = .ok (.enter 51 args) w := enters_of Tryd.func51 (by kernel_rfl) rfl

theorem piece_len (s : ByteArray) : s.size + 1 ≤ (pieceS s).length := by
  have : s.data.toList.length = s.size := by rw [Array.length_toList]; rfl
  unfold pieceS
  rw [List.length_append, List.length_cons, this]
  omega
theorem cut_len {sx : ByteArray} {l : List ByteArray} (k : Nat) (s : ByteArray) (hk : l[k]? = some s) (hlen : (apartS ⟨sx, l⟩).length + 60 ≤ 140737488355328) : (pieceS sx ++ piecesS (l.take k)).length + s.size + 30 ≤ 140737488355328 := by
  obtain ⟨hlt, he⟩ := List.getElem?_eq_some_iff.1 hk
  have e1 : l = l.take k ++ s :: l.drop (k + 1) := (List.take_append_drop k l).symm.trans (by rw [List.drop_eq_getElem_cons hlt, he])
  have e2 : apartS ⟨sx, l⟩ = pieceS sx ++ piecesS (l.take k) ++ (pieceS s ++ piecesS (l.drop (k + 1))) := by
    have e3 : piecesS l = piecesS (l.take k) ++ (pieceS s ++ piecesS (l.drop (k + 1))) := by
      conv => lhs; rw [e1]
      unfold piecesS
      rw [List.flatMap_append, List.flatMap_cons]
    show pieceS sx ++ piecesS l = _
    rw [e3, List.append_assoc]
  have h1 := piece_len s
  rw [e2, List.length_append, List.length_append («as» := pieceS s)] at hlen
  omega
theorem head_len {sx : ByteArray} {l : List ByteArray} (hlen : (apartS ⟨sx, l⟩).length + 60 ≤ 140737488355328) : sx.size + 30 ≤ 140737488355328 := by
  have h1 := piece_len sx
  have e2 : apartS ⟨sx, l⟩ = pieceS sx ++ piecesS l := rfl
  rw [e2, List.length_append] at hlen
  omega
set_option maxRecDepth 100000 in
set_option maxHeartbeats 1000000 in
theorem apart_calls (B : Nat) (x : PP) (v : Value) (w : World) (hB : B ≤ w.heap.size) (hx : x.In B w v) (hT : Tb B w) (hlen : (apartS x).length + 60 ≤ 140737488355328) :
    Calls Tryd.prog 49 #[.agg #[.string x.name, v]] w fun e w' => e = .returned (.string ⟨(apartS x).toArray⟩) ∧ Below w.heap.size w w' := by
  have hE := apart1_enters
  obtain ⟨ao, cap, rfl⟩ := hx.shape
  obtain ⟨hn, b, o, hs, hr⟩ := hx
  obtain ⟨sx, l⟩ := x
  obtain ⟨n, hnl⟩ : ∃ n, n = l.length := ⟨_, rfl⟩
  have Hr := Lib.hid hr
  have HA : Hid (l.take n = l) := Lib.hid (by rw [hnl]; exact List.take_length)
  obtain ⟨hm, _, _, he, hc, h1⟩ := hs
  cases he
  rw [show (PP.mk sx l).path = l from rfl, ← hnl] at h1 hm hc ⊢
  unfold maxLen at hm
  have H1 := Lib.hid h1
  have Hn := Lib.hid hnl
  have HLT : Hid (∀ k s, l[k]? = some s → (pieceS sx ++ piecesS (l.take k)).length + s.size + 30 ≤ 140737488355328) := Lib.hid fun k s hk => cut_len k s hk hlen
  have HL0 : Hid (sx.size + 30 ≤ 140737488355328) := Lib.hid (head_len hlen)
  have HAP : Hid (apartS ⟨sx, l⟩ = pieceS sx ++ piecesS l) := Lib.hid rfl
  have HTL := Lib.hid fun k s (h : l[k]? = some s) => pieces_take h
  have hT := Lib.hid hT
  generalize apartS ⟨sx, l⟩ = R at *
  clear h1 hr hnl hn hc hlen
  go_enter Tryd.func49, Tryd.ntmps49
  go_wp2_with fail
  obtain ⟨W0, hW⟩ : ∃ W, W = (w.alloc (.cells #[.string sx, .slice ao n cap] 25)).alloc (.cells #[.pointer none, .slice none 0 0] 76) := ⟨_, rfl⟩
  have f1 : W0.cell? ⟨w.heap.size, 1, none⟩ = some (.slice ao n cap) := by rw [hW]; go_simp
  have h0 : IsB (w.heap.size + 1) (w.heap.size + 1) [] W0 := by
    rw [hW]
    have e : (w.alloc (.cells #[.string sx, .slice ao n cap] 25)).heap.size = w.heap.size + 1 := by simp
    rw [← e]
    exact IsB.new
  have bel0 : Below w.heap.size w W0 := by rw [hW]; exact box2 _ _ _
  have z0 : w.heap.size + 1 ≤ W0.heap.size := by rw [hW]; simp
  rw [← hW]
  clear hW
  have hT0 := (hT.out.below (bel0.mono hB)).mono (Nat.le_trans hB (Nat.le_succ w.heap.size))
  refine (apart1_calls (w.heap.size + 1) (w.heap.size + 1) [] sx W0 h0 hT0 (by have := HL0.out; simp only [List.length_nil]; omega) z0).mono ?_
  rintro e W1 ⟨rfl, h1, b1⟩
  have f1 := (b1.cell (p := ⟨w.heap.size, 1, none⟩) (by show w.heap.size < _; omega)).trans f1
  have hIs : IsB (w.heap.size + 1) (w.heap.size + 1) (pieceS sx ++ piecesS (l.take 0)) W1 := by simpa [piecesS] using h1
  have z1 : w.heap.size + 1 ≤ W1.heap.size := Nat.le_trans z0 b1.size
  have hT1 := Lib.hid (hT0.below b1)
  have bel1 := Lib.hid (bel0.trans (b1.mono (Nat.le_succ _)))
  have HIs := Lib.hid hIs
  clear h0 bel0 z0 hT0 h1 b1 hIs
  go_wp2_with fail
  go_loopw [15] (fun i wr => ∃ k : Nat, k ≤ n ∧ i = .int .i64 k ∧ Hid (Below (w.heap.size + 1) W1 wr) ∧ Hid (IsB (w.heap.size + 1) (w.heap.size + 1) (pieceS sx ++ piecesS (l.take k)) wr))
    (fun i _ => n - (intOf i).toNat)
  case atStart => exact ⟨0, by omega, rfl, Lib.hid (Below.refl _ _), HIs⟩
  case round =>
    obtain ⟨k, hk, rfl, hbel, HK⟩ := hrel
    have hk0 : 0 ≤ (k : Int) := by omega
    by_cases hlt : k < n
    · obtain ⟨y, hy, _⟩ := get_at (l := l) (k := k) (by rw [← Hn.out]; exact hlt)
      obtain ⟨rfl, hbb⟩ := H1.out.resolve_left (by omega)
      have hk1 : (k : Int) < (n : Int) := by omega
      have c0 := ((bel1.out.trans (hbel.out.mono (Nat.le_succ _))).cell (p := ⟨b, o + k, none⟩) (by show b < _; omega)).trans (Hr.out k y hy).2
      have HLk := HLT.out k y hy
      have HT' := Lib.hid (HTL.out k y hy)
      have hC := Lib.hid (apart1_calls (w.heap.size + 1) (w.heap.size + 1) _ y wr HK.out (hT1.out.below hbel.out) HLk (Nat.le_trans z1 hbel.out.size))
      clear hy HLk
      go_wp2_with fail
      refine hC.out.mono ?_
      rintro e w3 ⟨rfl, h3, b3⟩
      have HB := Lib.hid (hbel.out.trans b3)
      have H3 : Hid (IsB (w.heap.size + 1) (w.heap.size + 1) (pieceS sx ++ piecesS (l.take (k + 1))) w3) := Lib.hid (by rw [HT'.out, ← List.append_assoc]; exact h3)
      clear h3 b3 c0 hC
      go_wp2_with fail
      go_roundw
      case rel => exact ⟨k + 1, by omega, by go_num, HB, H3⟩
      case measure => simp [intOf]; omega
    · obtain rfl : n = k := by omega
      have hz := Nat.le_trans z1 hbel.out.size
      have HR : Hid (pieceS sx ++ piecesS (l.take n) = R) := Lib.hid (by rw [HA.out, HAP.out])
      go_wp2_with fail
      refine (Tryd.Builder_String_any (w.heap.size + 1) (w.heap.size + 1) _ wr HK.out hz).mono ?_
      rintro e w4 ⟨rfl, b4⟩
      have HB := Lib.hid (bel1.out.trans ((hbel.out.trans b4).mono (Nat.le_succ _)))
      clear b4
      rw [HR.out]
      go_wp2_with fail
      go_ret
      exact ⟨rfl, HB.out⟩
end Go.Proofs.YtaoalplglfdobaaDoor
