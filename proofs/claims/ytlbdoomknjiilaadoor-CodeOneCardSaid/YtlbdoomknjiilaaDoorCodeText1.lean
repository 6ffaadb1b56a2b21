/- Text's parts: a builder's bytes, the closure that puts a field, a path's and slots' texts. -/
import Derived.Test.YtlbdoomknjiilaaDoorCodeFit3
import Derived.Test.YtlbdoomknjiilaaDoorBuilderWrite
import Derived.Test.YtlbdoomknjiilaaDoorShelf
import Derived.Lib.Join
import Derived.OwnWalk
namespace Go.Proofs.YtlbdoomknjiilaaDoor
open Go.RowKit
set_option linter.unusedVariables false

/-- block b is a builder, whose bytes, in memory from B on, are l -/
def IsB (B b : Nat) (l : List UInt8) (w : World) : Prop := Lib.IsBuilder 84 5 B b (Lib.byteCells l) w
theorem builder_stays {T e : TypeId} {B b : Nat} {p : Value} {bs : List Value} {w w' : World} (h : Lib.BuilderAt T e B b p bs w) (k : Below w.heap.size w w') : Lib.BuilderAt T e B b p bs w' := by
  have hlt := h.lt
  obtain ⟨hB, v, hb, hown, hne⟩ := h
  exact ⟨hB, v, (k.block b hlt).trans hb, hown.kept (row := none) ⟨k.os, k.tape, k.output, k.size, fun j hj _ => k.block j hj⟩ (by
    cases v.ownBlock with
    | none => exact .inl rfl
    | some x => exact .inr (by simp)), hne⟩
theorem IsB.stays {B b : Nat} {l : List UInt8} {w w' : World} (h : IsB B b l w) (k : Below w.heap.size w w') : IsB B b l w' := h.imp (fun h => builder_stays h k) fun h => builder_stays h k
theorem IsB.wrote {B b : Nat} {l : List UInt8} {s : ByteArray} {w : World} (h : Lib.BuilderAt 84 5 B b (.pointer (some ⟨b, 0, none⟩)) (Lib.byteCells l ++ Lib.strCells s) w) : IsB B b (l ++ s.data.toList) w := by
  rw [Lib.strCells_eq] at h
  exact .inr (by unfold Lib.byteCells at *; rw [List.map_append]; exact h)
theorem IsB.cells {B b : Nat} {l : List UInt8} {w : World} (h : IsB B b l w) : Lib.IsBuilder 84 5 B b (Lib.byteCells l) w := h
theorem IsB.new {w : World} : IsB w.heap.size w.heap.size [] (w.alloc (.cells #[.pointer none, .slice none 0 0] 84)) :=
  .inl ⟨Nat.le_refl _, .slice none 0 0, heap_alloc_new w _, World.ownsRow_nil _ _ _ _, by simp [Value.ownBlock]⟩
theorem one_at (w : World) (v : Value) (t : TypeId) : ∀ (j : Nat) u, [v][j]? = some u → (w.alloc (.cells #[v] t)).cell? (Addr.add ⟨w.heap.size, 0, none⟩ j) = some u := by
  intro j u h
  match j, h with
  | 0, h => cases h; show (w.alloc (.cells #[v] t)).cell? ⟨w.heap.size, 0, none⟩ = _; go_simp
theorem one_oneS (s : ByteArray) : ∀ u ∈ [Value.string s], u.oneCell' = true := by
  intro u hu
  rw [List.mem_singleton] at hu
  subst hu; rfl
theorem one_oneI (k : IntKind) (i : Int) : ∀ u ∈ [Value.int k i], u.oneCell' = true := by
  intro u hu
  rw [List.mem_singleton] at hu
  subst hu; rfl
set_option maxHeartbeats 1000000 in
set_option maxRecDepth 100000 in
theorem writeByte_calls (B b : Nat) (l : List UInt8) (w : World) (h : IsB B b l w) (hlen : l.length + 1 ≤ 140737488355328) (hBw : B ≤ w.heap.size) :
    Calls Tryd.prog 43 #[.pointer (some ⟨b, 0, none⟩), .int .u8 32] w fun e w' => e = .returned .nilIface ∧ IsB B b (l ++ [32]) w' ∧ Below B w w' := by
  obtain ⟨i0, hi, hz0, hz1, hz2⟩ := info_parts infoByte
  go_enter Tryd.func43, Tryd.ntmps43
  go_wp2_with (go_at_call 57; refine (copyCheck_calls B b _ _ h).mono ?_)
  rintro e w1 ⟨rfl, h1, hb1⟩
  obtain ⟨hB, v, hbk, hown, hne⟩ := h1
  have c0 : w1.cell? ⟨b, 0, none⟩ = some (.pointer (some ⟨b, 0, none⟩)) := by rw [Lib.cell_of_heap hbk]; rfl
  have c1 : w1.cell? ⟨b, 1, none⟩ = some v := by rw [Lib.cell_of_heap hbk]; rfl
  have hlt : b < w1.heap.size := by
    rcases Nat.lt_or_ge b w1.heap.size with h' | h'
    · exact h'
    · simp [Array.getElem?_eq_none h'] at hbk
  rw [Lib.byteCells_length] at hown
  go_wp2_with (first
    | (at_builtin; refine wpList_append_own _ rfl _ _ 82 rfl B 5 i0 (.int .u8 0) 1 1 Tryd.underlying82 hi hz0 hz1 hz2 rfl (by decide) _ _ _ rfl (hown.alloc _) ⟨w1.heap.size, 0, none⟩ 1 1 [.int .u8 32] rfl rfl ?c1 ?c2 ?c3 ?c4 ?c5 ?_)
    | fail)
  case c1 => first | exact one_at _ _ _ | simp
  case c2 => first | exact one_oneI _ _ | rfl
  case c3 => unfold maxLen; omega
  case c4 => omega
  case c5 => have := hb1.size; simp; omega
  intro v' w2 hown' hgrow _
  have hb2 : w2.heap[b]? = some (.cells #[.pointer (some ⟨b, 0, none⟩), v] 84 (0, 0)) := by
    rw [hgrow.block b (by simp; omega) (fun e => hne e.symm), Below.block (box1 w1 _) b hlt]
    exact hbk
  have d0 : w2.cell? ⟨b, 0, none⟩ = some (.pointer (some ⟨b, 0, none⟩)) := by rw [Lib.cell_of_heap hb2]; rfl
  have d1 : w2.cell? ⟨b, 1, none⟩ = some v := by rw [Lib.cell_of_heap hb2]; rfl
  have f1 : w2.frozen? ⟨b, 1, none⟩ = false := Lib.frozen_of_heap hb2 1
  obtain ⟨ao, n', cap, rfl⟩ : ∃ ao n' cap, v' = .slice ao n' cap := by
    rcases hown'.2 with ⟨hv, _⟩ | ⟨g, cap, cur, hv, _⟩
    · exact ⟨_, _, _, hv⟩
    · exact ⟨_, _, _, hv⟩
  go_wp2
  go_ret
  refine ⟨rfl, ?_, ?_⟩
  · have := Lib.BuilderAt.put (T := 84) (e := 5) hB hb2 (bs' := Lib.byteCells (l ++ [32])) (by
      have e : Lib.byteCells (l ++ [32]) = Lib.byteCells l ++ [.int .u8 32] := by unfold Lib.byteCells; rw [List.map_append]; rfl
      rw [e]
      simpa [Lib.byteCells_length] using hown') neB5
    exact .inr this
  · exact ((hb1.trans (((Below.refl _ w1).alloc (Nat.le_refl _) _).mono (by have := hb1.size; omega))).grown hgrow (by have := hb1.size; simp; omega) (fun k hk => (hown.lt k hk).1)).setCell (p := ⟨b, 1, none⟩) hB _

/-- what is put behind l -/
def putT (l : List UInt8) (has : Bool) (s : List UInt8) : List UInt8 := if has && !s.isEmpty then l ++ 32 :: s else l
theorem put_enters : ∀ args w, (callFunc 42 args).run Tryd.prog w = .ok (.enter 42 args) w := enters_of Tryd.func42 (by kernel_rfl) rfl
set_option maxRecDepth 100000 in
set_option maxHeartbeats 1000000 in
theorem put_calls (B b : Nat) (l : List UInt8) (has : Bool) (s : ByteArray) (w : World) (h : IsB B b l w) (hlen : l.length + s.size + 30 ≤ 140737488355328) (hBw : B ≤ w.heap.size) :
    Calls Tryd.prog 42 #[.bool has, .string s, .pointer (some ⟨b, 0, none⟩)] w fun e w' => e = .returned (.tuple #[]) ∧ IsB B b (putT l has s.data.toList) w' ∧ Below B w w' := by
  unfold putT
  have H := Lib.hid h
  clear h
  have el : s.toList.isEmpty = s.data.toList.isEmpty := by rw [ByteArray.toList_eq]
  cases has with
  | false =>
    go_enter Tryd.func42, Tryd.ntmps42
    go_wp2_with fail
    go_end0
    exact ⟨rfl, by first | exact H.out | (rw [if_neg (by simp)]; exact H.out), Below.refl _ _⟩
  | true =>
    cases he : s.data.toList.isEmpty with
    | true =>
      rw [he] at el
      have e2 : (!s.toList.isEmpty) = false := by rw [el]; rfl
      go_enter Tryd.func42, Tryd.ntmps42
      go_wp2_with fail
      go_end0
      exact ⟨rfl, by first | exact H.out | (rw [if_neg (by simp)]; exact H.out), Below.refl _ _⟩
    | false =>
      rw [he] at el
      have e2 : (!s.toList.isEmpty) = true := by rw [el]; rfl
      clear he
      go_enter Tryd.func42, Tryd.ntmps42
      go_wp2_with fail
      refine (writeByte_calls B b l w H.out (by omega) hBw).mono ?_
      rintro e w1 ⟨rfl, h1, b1⟩
      have H1 := Lib.hid h1
      have B1 := Lib.hid b1
      have z1 : B ≤ w1.heap.size := Nat.le_trans hBw b1.size
      clear h1 b1
      go_wp2_with fail
      refine (writeString_calls B b _ s w1 H1.out.cells (by rw [Lib.byteCells_length, List.length_append, List.length_singleton]; omega) z1).mono ?_
      rintro e w2 ⟨rfl, h2, b2⟩
      have H2 := Lib.hid (IsB.wrote h2)
      have B2 := Lib.hid (B1.out.trans b2)
      clear h2 b2
      go_wp2_with fail
      go_end0
      refine ⟨rfl, ?_, B2.out⟩
      have := H2.out
      rw [List.append_assoc] at this
      exact this
end Go.Proofs.YtlbdoomknjiilaaDoor
