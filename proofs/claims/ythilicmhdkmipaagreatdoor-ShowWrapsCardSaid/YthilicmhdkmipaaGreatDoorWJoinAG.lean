/- The document's own way of saying what is whole: expressions (made by gen_refW4.py). -/
import Derived.Test.YthilicmhdkmipaaGreatDoorWJoinAV
import Derived.Test.YthilicmhdkmipaaGreatDoorWTreeRefEA
import Derived.Test.YthilicmhdkmipaaGreatDoorWTreeRefEB
import Derived.Test.YthilicmhdkmipaaGreatDoorWTreeRefEC
import Derived.Test.YthilicmhdkmipaaGreatDoorWJoinAE
import Derived.Test.YthilicmhdkmipaaGreatDoorWTreeGreat
namespace Go.Proofs.YthilicmhdkmipaaGreatDoor
open Go.RowKit
set_option linter.unusedVariables false

end Go.Proofs.YthilicmhdkmipaaGreatDoor
/- TreeParts: the walk. -/
namespace Go.Proofs.YthilicmhdkmipaaGreatDoor
open Go.RowKit
set_option linter.unusedVariables false

theorem cellsAt_new (w : World) (cs : List Value) (T : TypeId) : CellsAt (w.alloc (.cells cs.toArray T)) w.heap.size 0 cs := fun i v h => by
  rw [Nat.zero_add, World.cell?_alloc_at (hn := rfl)]
  simpa using h
set_option maxHeartbeats 1000000 in
theorem topWholeT_calls (B : Nat) (t : PT) (p : Option Addr) (n q : Nat) (w : World) (hB : B ≤ w.heap.size) (hm : MaxOk w) (ht : t.In B w (.slice p n q)) :
    Calls Tryz.prog 65 #[.agg #[.int .u8 t.kind, .string t.name, .slice p n q]] w fun e w' => e = .returned (.bool (rT 40 t)) ∧ Below w.heap.size w w' := by
  have C : Hid (Calls Tryz.prog 74 #[.iface 155 (.agg #[.pointer (some ⟨w.heap.size, 0, none⟩), .int .u8 0]), .int .i64 40] (w.alloc (.cells #[.int .u8 t.kind, .string t.name, .slice p n q] 31))
      fun e w' => e = .returned (.bool (rT 40 t)) ∧ Below (w.alloc (.cells #[.int .u8 t.kind, .string t.name, .slice p n q] 31)).heap.size (w.alloc (.cells #[.int .u8 t.kind, .string t.name, .slice p n q] 31)) w') := by
    have h := wholeT_calls 40 (by omega) B t 0 w.heap.size 0 (.slice p n q) (w.alloc (.cells #[.int .u8 t.kind, .string t.name, .slice p n q] 31)) (by omega) (by simp; omega) (hm.alloc _) (by simp)
      (cellsAt_new w _ _) (PT.In.below ((box1 w _).mono hB) ht)
    rw [wholeT_eq] at h
    exact Lib.hid h
  generalize rT 40 t = res at *
  go_enter Tryz.func65, Tryz.ntmps65
  go_wp2_with fail
  refine C.out.mono ?_; rintro e w1 ⟨rfl, b1⟩
  have bel1 := Lib.hid (up_tr (box1 _ _) b1)
  clear b1 C
  go_wp2
  go_ret
  exact ⟨rfl, bel1.out⟩
set_option maxHeartbeats 1000000 in
theorem topWholeE_calls (B : Nat) (op iv : Int) (nm sc : ByteArray) (pl : PP) (es : List PE) (ps : Int) (p0 : Option Addr) (n0 q0 : Nat) (p1 : Option Addr) (n1 q1 : Nat) (w : World) (hB : B ≤ w.heap.size) (hm : MaxOk w)
    (he : PE.In B w (.mk op iv nm sc pl es ps) ⟨.slice p0 n0 q0, .slice p1 n1 q1⟩) :
    Calls Tryz.prog 68 #[.agg #[.int .u8 op, .int .i64 iv, .string nm, .string sc, .string pl.name, .slice p0 n0 q0, .slice p1 n1 q1, .int .i64 ps]] w fun e w' => e = .returned (.bool (!lentB (.mk op iv nm sc pl es ps) && rE 40 (.mk op iv nm sc pl es ps))) ∧ Below w.heap.size w w' := by
  have C : Hid (Calls Tryz.prog 74 #[.iface 160 (.agg #[.pointer (some ⟨w.heap.size, 0, none⟩), .int .u8 0]), .int .i64 40] (w.alloc (.cells #[.int .u8 op, .int .i64 iv, .string nm, .string sc, .string pl.name, .slice p0 n0 q0, .slice p1 n1 q1, .int .i64 ps] 37))
      fun e w' => e = .returned (.bool (!lentB (.mk op iv nm sc pl es ps) && rE 40 (.mk op iv nm sc pl es ps))) ∧ Below (w.alloc (.cells #[.int .u8 op, .int .i64 iv, .string nm, .string sc, .string pl.name, .slice p0 n0 q0, .slice p1 n1 q1, .int .i64 ps] 37)).heap.size (w.alloc (.cells #[.int .u8 op, .int .i64 iv, .string nm, .string sc, .string pl.name, .slice p0 n0 q0, .slice p1 n1 q1, .int .i64 ps] 37)) w') := by
    have hin := PE.In.below ((box1 w (.cells #[.int .u8 op, .int .i64 iv, .string nm, .string sc, .string pl.name, .slice p0 n0 q0, .slice p1 n1 q1, .int .i64 ps] 37)).mono hB) he
    have h := wholeE_calls 40 (by omega) B (.mk op iv nm sc pl es ps) 0 w.heap.size 0 ⟨.slice p0 n0 q0, .slice p1 n1 q1⟩ (w.alloc (.cells #[.int .u8 op, .int .i64 iv, .string nm, .string sc, .string pl.name, .slice p0 n0 q0, .slice p1 n1 q1, .int .i64 ps] 37)) (by omega) (by simp; omega) (hm.alloc _) (by simp)
      (cellsAt_new w _ _) hin
    rw [wholeE_eq 40 _ _ 0 hin (by omega), show decide (0 = 1) = false from rfl, Bool.or_false] at h
    exact Lib.hid h
  generalize (!lentB (.mk op iv nm sc pl es ps) && rE 40 (.mk op iv nm sc pl es ps)) = res at *
  go_enter Tryz.func68, Tryz.ntmps68
  go_wp2_with fail
  refine C.out.mono ?_; rintro e w1 ⟨rfl, b1⟩
  have bel1 := Lib.hid (up_tr (box1 _ _) b1)
  clear b1 C
  go_wp2
  go_ret
  exact ⟨rfl, bel1.out⟩
set_option maxHeartbeats 1000000 in
theorem topWholeP_calls (B : Nat) (x : PP) (p : Option Addr) (n q : Nat) (w : World) (hB : B ≤ w.heap.size) (hm : MaxOk w) (hx : x.In B w (.slice p n q)) :
    Calls Tryz.prog 71 #[.agg #[.string x.name, .slice p n q]] w fun e w' => e = .returned (.bool (plB x)) ∧ Below w.heap.size w w' := by
  have C : Hid (∀ w', Below w.heap.size w w' → Calls Tryz.prog 108 #[.agg #[.string x.name, .slice p n q]] w' fun e w'' => e = .returned (.bool (plB x)) ∧ Below w'.heap.size w' w'') :=
    Lib.hid fun w' hw => isPlace_calls B x _ w' (by have := hw.size; omega) (hm.below hw) (hx.below (hw.mono hB))
  generalize plB x = res at *
  go_enter Tryz.func71, Tryz.ntmps71
  go_wp2_with fail
  refine (C.out _ (box1 _ _)).mono ?_; rintro e w1 ⟨rfl, b1⟩
  have bel1 := Lib.hid (up_tr (box1 _ _) b1)
  clear b1 C
  go_wp2
  go_ret
  exact ⟨rfl, bel1.out⟩

end Go.Proofs.YthilicmhdkmipaaGreatDoor
