/- The writer: a builder and a gap in one block; (*strings.Builder).WriteString where the builder lies in a writer. -/
import Derived.Test.YthilicmhdkmipaaGreatDoorIJoinAI
import Derived.Test.YthilicmhdkmipaaGreatDoorChecked
import Derived.WalkKit
import Derived.Laws.Rows
import Derived.Lib.Builder
import Derived.Lib.AppendStr
import Derived.Lib.Strings
import Derived.Lib.UnsafeStr
import Derived.OwnWalk
import Derived.Laws.Externs
namespace Go.Proofs.YthilicmhdkmipaaGreatDoor
open Go.RowKit
set_option linter.unusedVariables false

theorem infoByteW : (Tryz.prog.info? 5).map (fun i => (i.zero, i.size, i.bytes)) = some (some (.int .u8 0), 1, 1) := by kernel_rfl
theorem sizeBuilderW : (Tryz.prog.info? 136).map (·.size) = some 2 := by kernel_rfl
theorem liesBuilderW : liesAt Tryz.prog Tryz.prog.depth 140 (3 / Tryz.prog.cellsOf 140) 0 136 1 = true := by kernel_rfl
theorem neWB : (140 : TypeId) ≠ 5 := by decide

/-- block R is a writer: its text so far T, in memory from B on; g stands ahead of its next token -/
def IsW (B R : Nat) (T : TkB) (g : ByteArray) (w : World) : Prop :=
  B ≤ R ∧ ∃ p v, (p = .pointer none ∨ p = .pointer (some ⟨R, 0, none⟩)) ∧ w.heap[R]? = some (.cells #[p, v, .string g] 140 (0, 0)) ∧ w.ownsRow B 5 1 v T.length (Lib.byteCells T)
/-- a block that is no row of bytes -/
def NotB (w : World) (b : Nat) : Prop := ∀ cs fr, w.heap[b]? ≠ some (.cells cs 5 fr)
/-- nothing but what the writer has, and rows of bytes that lie from B on, has turned -/
structure WBut (B R : Nat) (w w' : World) : Prop where
  bel : Below B w w'
  size : w.heap.size ≤ w'.heap.size
  keep : ∀ b, b < w.heap.size → b ≠ R → NotB w b → w'.heap[b]? = w.heap[b]?
theorem WBut.refl (B R : Nat) (w : World) : WBut B R w w := ⟨Below.refl B w, Nat.le_refl _, fun _ _ _ _ => rfl⟩
theorem WBut.trans {B R : Nat} {a b c : World} (h : WBut B R a b) (k : WBut B R b c) : WBut B R a c :=
  ⟨h.bel.trans k.bel, Nat.le_trans h.size k.size, fun i h1 h2 h3 => by
    have e := h.keep i h1 h2 h3
    exact (k.keep i (Nat.lt_of_lt_of_le h1 h.size) h2 (fun cs fr => by rw [e]; exact h3 cs fr)).trans e⟩
theorem WBut.of {B R : Nat} {w w' : World} (h : Below w.heap.size w w') (hB : B ≤ w.heap.size) : WBut B R w w' := ⟨h.mono hB, h.size, fun b hb _ _ => h.block b hb⟩
/-- a block that a call on the writer leaves as it is -/
structure Safe (R : Nat) (w : World) (G : Nat) : Prop where
  lt : G < w.heap.size
  ne : G ≠ R
  no : NotB w G
theorem Safe.but {B R G : Nat} {w w' : World} (h : Safe R w G) (k : WBut B R w w') : Safe R w' G :=
  ⟨Nat.lt_of_lt_of_le h.lt k.size, h.ne, fun cs fr => by rw [k.keep G h.lt h.ne h.no]; exact h.no cs fr⟩
theorem Safe.cell {B R G : Nat} {w w' : World} (h : Safe R w G) (k : WBut B R w w') (i : Nat) : w'.cell? ⟨G, i, none⟩ = w.cell? ⟨G, i, none⟩ := World.cell?_of_block (k.keep G h.lt h.ne h.no)
theorem Safe.new {R : Nat} {w : World} {cs : Array Value} {t : TypeId} (ht : t ≠ 5) (hR : R < w.heap.size) : Safe R (w.alloc (.cells cs t)) w.heap.size :=
  ⟨by simp, by omega, fun c fr h => by
    rw [heap_alloc_new w (.cells cs t)] at h
    injection h with h
    injection h with h1 h2 h3
    exact ht h2⟩
theorem IsW.lt {B R : Nat} {T : TkB} {g : ByteArray} {w : World} (h : IsW B R T g w) : R < w.heap.size := by
  obtain ⟨_, p, v, _, hb, _⟩ := h
  exact (Array.getElem?_eq_some_iff.1 hb).1
theorem IsW.stays {B R : Nat} {T : TkB} {g : ByteArray} {w w' : World} (h : IsW B R T g w) (k : Below w.heap.size w w') : IsW B R T g w' := by
  have hl := h.lt
  obtain ⟨hB, p, v, hp, hb, ho⟩ := h
  refine ⟨hB, p, v, hp, (k.block R hl).trans hb, ho.kept (row := none) ⟨k.os, k.tape, k.output, k.size, fun j hj _ => k.block j hj⟩ (by
    cases v.ownBlock with
    | none => exact .inl rfl
    | some x => exact .inr (by simp))⟩
theorem IsW.owner {B R n : Nat} {xs : List Value} {v : Value} {cs : Array Value} {fr : Nat × Nat} {w : World} (hb : w.heap[R]? = some (.cells cs 140 fr)) (ho : w.ownsRow B 5 1 v n xs) : v.ownBlock ≠ some R := by
  rcases ho.2 with ⟨rfl, _⟩ | ⟨x, cap, cur, rfl, _, hx, _⟩
  · simp [Value.ownBlock]
  · intro e
    simp only [Value.ownBlock, Option.some.injEq] at e
    subst e
    rw [hb] at hx
    injection hx with hx
    injection hx with h1 h2 h3
    exact neWB h2
theorem own_bytes {B n b : Nat} {xs : List Value} {v : Value} {w : World} (ho : w.ownsRow B 5 1 v n xs) (h : v.ownBlock = some b) : ¬ NotB w b := by
  rcases ho.2 with ⟨rfl, _⟩ | ⟨x, cap, cur, rfl, _, hx, _⟩
  · simp [Value.ownBlock] at h
  · simp only [Value.ownBlock, Option.some.injEq] at h
    subst h
    exact fun hn => hn _ _ hx
/-- what copyCheck leaves -/
structure Checked (R : Nat) (v g : Value) (w w' : World) : Prop where
  cells : w'.heap[R]? = some (.cells #[.pointer (some ⟨R, 0, none⟩), v, g] 140 (0, 0))
  rest : ∀ b, b ≠ R → w'.heap[b]? = w.heap[b]?
  size : w'.heap.size = w.heap.size
  bel : ∀ B, B ≤ R → Below B w w'
set_option maxHeartbeats 1000000 in
set_option maxRecDepth 100000 in
theorem copyCheckW (R : Nat) (p v g : Value) (w : World) (hp : p = .pointer none ∨ p = .pointer (some ⟨R, 0, none⟩)) (hb : w.heap[R]? = some (.cells #[p, v, g] 140 (0, 0))) :
    Calls Tryz.prog 178 #[.pointer (some ⟨R, 0, none⟩)] w fun e w' => e = .returned (.tuple #[]) ∧ Checked R v g w w' := by
  obtain ⟨j, hj, hjs⟩ := Option.map_eq_some_iff.1 sizeBuilderW
  have c0 : w.cell? ⟨R, 0, none⟩ = some p := by rw [Lib.cell_of_heap hb]; rfl
  have f0 : w.frozen? ⟨R, 0, none⟩ = false := Lib.frozen_of_heap hb 0
  have hsh : w.shape? R = some (140, 3) := by simp [World.shape?, hb]
  rcases hp with rfl | rfl
  · have HS : Hid (Checked R v g w (w.setCell ⟨R, 0, none⟩ (.pointer (some ⟨R, 0, none⟩)))) := Lib.hid ⟨heap_setCell_same w R 0 _ _ _ hb, fun b h => Below.heap_setCell _ _ _ _ h, by simp, fun B h => (Below.refl B w).setCell (p := ⟨R, 0, none⟩) h _⟩
    go_enter Tryz.func178, Tryz.ntmps178
    go_wp2
    rw [Lib.run_to_unsafe w ⟨R, 0, none⟩ Tryz.underlying134 Tryz.underlying236 hj (by rw [hjs]; decide) hsh (Nat.zero_lt_succ 2)]
    simp only [Result.andThen]
    rw [Oper.upon_value]
    go_wp2
    rw [run_callFunc_extern Tryz.func199 (by kernel_rfl) (by kernel_rfl) (by kernel_rfl) (e := Extern.AbiNoEscape.same) (by kernel_rfl)]
    rw [Lib.run_noEscape]
    simp only [Result.andThen]
    rw [Oper.upon_value]
    go_wp2
    rw [Lib.run_from_unsafe w ⟨R, 0, none⟩ Tryz.underlying236 Tryz.underlying134 hj hsh liesBuilderW]
    simp only [Result.andThen]
    rw [Oper.upon_value]
    go_wp2
    go_end0
    exact ⟨rfl, HS.out⟩
  · have HS : Hid (Checked R v g w w) := Lib.hid ⟨hb, fun _ _ => rfl, rfl, fun B _ => Below.refl B w⟩
    go_enter Tryz.func178, Tryz.ntmps178
    go_wp2
    rw [Lib.run_neq_ptr_same w _ Tryz.underlying134 hj]
    go_wp2
    go_end0
    exact ⟨rfl, HS.out⟩
set_option maxHeartbeats 1000000 in
set_option maxRecDepth 100000 in
/-- (*strings.Builder).WriteString, where the builder is a writer's -/
theorem writeW_calls (B R : Nat) (T : TkB) (g s : ByteArray) (w : World) (h : IsW B R T g w) (hlen : T.length + s.size ≤ 140737488355328) (hBw : B ≤ w.heap.size) :
    Calls Tryz.prog 156 #[.pointer (some ⟨R, 0, none⟩), .string s] w fun e w' => e = .returned (.tuple #[.int .i64 s.size, .nilIface]) ∧ IsW B R (T ++ kT s) g w' ∧ WBut B R w w' := by
  have hRlt := h.lt
  obtain ⟨hB, p, v, hp, hb, hown⟩ := h
  have hne := IsW.owner hb hown
  obtain ⟨i0, hi, hz0, hz1, hz2⟩ := info_parts infoByteW
  have hbytes := Lib.byteCells_length T
  go_enter Tryz.func156, Tryz.ntmps156
  go_wp2_with (go_at_call 178; refine (copyCheckW R p v (.string g) _ hp hb).mono ?_)
  rintro e w1 ⟨rfl, h1⟩
  have hbk := h1.cells
  have hown1 : w1.ownsRow B 5 1 v T.length (Lib.byteCells T) := hown.kept (row := some R) ⟨(h1.bel 0 (Nat.zero_le _)).os, (h1.bel 0 (Nat.zero_le _)).tape, (h1.bel 0 (Nat.zero_le _)).output, by rw [h1.size]; exact Nat.le_refl _, fun j hj hn => h1.rest j (fun e => hn (by rw [e]))⟩ (by
    right; intro e; exact hne (by simpa using e))
  have c0 : w1.cell? ⟨R, 0, none⟩ = some (.pointer (some ⟨R, 0, none⟩)) := by rw [Lib.cell_of_heap hbk]; rfl
  have c1 : w1.cell? ⟨R, 1, none⟩ = some v := by rw [Lib.cell_of_heap hbk]; rfl
  have hs1 := h1.size
  go_wp2_with (at_builtin; refine Lib.wpList_append_own_string _ rfl _ _ 82 9 rfl B 5 i0 Tryz.underlying82 Tryz.underlying9 hi hz0 hz1 hz2 _ _ _ rfl hown1 s rfl ?c3 ?c4 ?c5 ?_)
  case c3 => unfold maxLen; omega
  case c4 => omega
  case c5 => omega
  intro v' w2 hown' hgrow _
  have hb2 : w2.heap[R]? = some (.cells #[.pointer (some ⟨R, 0, none⟩), v, .string g] 140 (0, 0)) := by
    rw [hgrow.block R (by omega) (fun e => hne e.symm)]
    exact hbk
  have d0 : w2.cell? ⟨R, 0, none⟩ = some (.pointer (some ⟨R, 0, none⟩)) := by rw [Lib.cell_of_heap hb2]; rfl
  have d1 : w2.cell? ⟨R, 1, none⟩ = some v := by rw [Lib.cell_of_heap hb2]; rfl
  have f1 : w2.frozen? ⟨R, 1, none⟩ = false := Lib.frozen_of_heap hb2 1
  obtain ⟨ao, n', cap, rfl⟩ : ∃ ao n' cap, v' = .slice ao n' cap := by
    rcases hown'.2 with ⟨hv, _⟩ | ⟨g, cap, cur, hv, _⟩
    · exact ⟨_, _, _, hv⟩
    · exact ⟨_, _, _, hv⟩
  have HG := Lib.hid hgrow
  have HO := Lib.hid hown'
  have H1 := Lib.hid h1
  have HOW := Lib.hid hown
  have HB2 := Lib.hid hb2
  have HNE := Lib.hid hne
  have HB := Lib.hid hb
  clear hgrow hown' h1 hown hown1 hb2 hbk hne
  go_wp2
  go_ret2
  have hne2 := IsW.owner HB2.out HO.out
  have hc3 : (w2.setCell ⟨R, 1, none⟩ (.slice ao n' cap)).heap[R]? = some (.cells #[.pointer (some ⟨R, 0, none⟩), .slice ao n' cap, .string g] 140 (0, 0)) := heap_setCell_same w2 R 1 _ _ _ HB2.out
  have hlen2 : (T ++ kT s).length = T.length + s.size := by rw [List.length_append]; rfl
  have hcells : Lib.byteCells (T ++ kT s) = Lib.byteCells T ++ Lib.strCells s := by rw [Lib.strCells_eq]; unfold Lib.byteCells; rw [List.map_append]; rfl
  refine ⟨rfl, ⟨hB, _, _, .inr rfl, hc3, ?_⟩, ⟨?_, ?_, fun b h1 h2 h3 => ?_⟩⟩
  · rw [hlen2, hcells]
    exact HO.out.kept (row := some R) ⟨rfl, rfl, rfl, by simp, fun j _ hn => Below.heap_setCell _ _ _ _ (fun e => hn (by simpa using e))⟩ (by
      right; intro e; exact hne2 (by simpa using e))
  · exact (((H1.out.bel B hB).grown HG.out (by rw [H1.out.size]; exact hBw) (fun k hk => (HOW.out.lt k hk).1)).setCell (p := ⟨R, 1, none⟩) hB _)
  · have := HG.out.size; simp; omega
  · rw [Below.heap_setCell _ _ _ _ (by simpa using h2), HG.out.block b (by omega) (fun e => own_bytes HOW.out e.symm h3), H1.out.rest b h2]
end Go.Proofs.YthilicmhdkmipaaGreatDoor

