/- The document's test of an instruction, class by class; the document's Instr (made by gen_codedoc.py). -/
import Derived.Test.YtlbdoomknjiilaaDoorCodeRefIA
import Derived.Test.YtlbdoomknjiilaaDoorCodeRefIB1
import Derived.Test.YtlbdoomknjiilaaDoorCodeRefIB2
import Derived.Test.YtlbdoomknjiilaaDoorCodeRefIB3
import Derived.Test.YtlbdoomknjiilaaDoorCodeRefIC
import Derived.Test.YtlbdoomknjiilaaDoorCodeRefID
import Derived.Test.YtlbdoomknjiilaaDoorCodeRefIS
namespace Go.Proofs.YtlbdoomknjiilaaDoor
open Go.RowKit
set_option linter.unusedVariables false

theorem size_nil : (⟨#[]⟩ : ByteArray).size = 0 := rfl

theorem doc_Live (u : UU) (f : FF) (x : JJ) (w : List UInt8) (hw : w.isEmpty = false) (h : rowR x.op = ⟨w, 1, 0, 0, false, false, false⟩) :
    docJ u f x = ((liveP x.a f.slots) && (decide ((0 : Int) = 0) && (decide (x.b = 0) && (decide (x.c = 0) && (decide (x.slots.length = 0) && (decide (x.path.length = 0) && (decide (x.int = 0) && (decide (x.name.size = 0) && (decide (x.names = 0)))))))))) := by
  unfold docJ knownB leftB
  rw [h]
  simp only [hw, fitsB, liveP]
  generalize pathB x.path = pp
  generalize nameB x.name = nn
  generalize slotsB x.slots f.code.length = ss
  rw [Bool.eq_iff_iff]
  simp
  try grind

theorem doc_Const (u : UU) (f : FF) (x : JJ) (w : List UInt8) (hw : w.isEmpty = false) (h : rowR x.op = ⟨w, 5, 0, 6, false, false, false⟩) :
    docJ u f x = ((constP x.a x.int) && (decide ((0 : Int) = 0) && (decide (x.b = 0) && (decide (x.c = 0) && (decide (x.slots.length = 0) && (decide (x.path.length = 0) && (decide ((0 : Int) = 0) && (decide (x.name.size = 0) && (decide (x.names = 0)))))))))) := by
  unfold docJ knownB leftB
  rw [h]
  simp only [hw, fitsB, constP, withinB, constB]
  generalize pathB x.path = pp
  generalize nameB x.name = nn
  generalize slotsB x.slots f.code.length = ss
  rw [Bool.eq_iff_iff]
  simp
  try grind

theorem doc_Place (u : UU) (f : FF) (x : JJ) (w : List UInt8) (hw : w.isEmpty = false) (h : rowR x.op = ⟨w, 1, 0, 0, true, false, false⟩) :
    docJ u f x = (pathB x.path && (placeP x.a f.slots) && (decide ((0 : Int) = 0) && (decide (x.b = 0) && (decide (x.c = 0) && (decide (x.slots.length = 0) && (decide (0 = 0) && (decide (x.int = 0) && (decide (x.name.size = 0) && (decide (x.names = 0)))))))))) := by
  unfold docJ knownB leftB
  rw [h]
  simp only [hw, fitsB, placeP]
  generalize pathB x.path = pp
  generalize nameB x.name = nn
  generalize slotsB x.slots f.code.length = ss
  rw [Bool.eq_iff_iff]
  simp
  try grind

theorem doc_Unary (u : UU) (f : FF) (x : JJ) (w : List UInt8) (hw : w.isEmpty = false) (h : rowR x.op = ⟨w, 7, 0, 0, false, false, false⟩) :
    docJ u f x = ((unaryP x.a) && (decide ((0 : Int) = 0) && (decide (x.b = 0) && (decide (x.c = 0) && (decide (x.slots.length = 0) && (decide (x.path.length = 0) && (decide (x.int = 0) && (decide (x.name.size = 0) && (decide (x.names = 0)))))))))) := by
  unfold docJ knownB leftB
  rw [h]
  simp only [hw, fitsB, unaryP, withinB]
  generalize pathB x.path = pp
  generalize nameB x.name = nn
  generalize slotsB x.slots f.code.length = ss
  rw [Bool.eq_iff_iff]
  simp
  try grind

theorem doc_Binary (u : UU) (f : FF) (x : JJ) (w : List UInt8) (hw : w.isEmpty = false) (h : rowR x.op = ⟨w, 8, 0, 0, false, false, false⟩) :
    docJ u f x = ((binaryP x.a) && (decide ((0 : Int) = 0) && (decide (x.b = 0) && (decide (x.c = 0) && (decide (x.slots.length = 0) && (decide (x.path.length = 0) && (decide (x.int = 0) && (decide (x.name.size = 0) && (decide (x.names = 0)))))))))) := by
  unfold docJ knownB leftB
  rw [h]
  simp only [hw, fitsB, binaryP, withinB]
  generalize pathB x.path = pp
  generalize nameB x.name = nn
  generalize slotsB x.slots f.code.length = ss
  rw [Bool.eq_iff_iff]
  simp
  try grind

theorem doc_Struct (u : UU) (f : FF) (x : JJ) (w : List UInt8) (hw : w.isEmpty = false) (h : rowR x.op = ⟨w, 0, 9, 0, false, false, true⟩) :
    docJ u f x = (nameB x.name && (structP x.b) && (decide (x.a = 0) && (decide ((0 : Int) = 0) && (decide (x.c = 0) && (decide (x.slots.length = 0) && (decide (x.path.length = 0) && (decide (x.int = 0) && (decide ((⟨#[]⟩ : ByteArray).size = 0) && (decide (x.names = 0)))))))))) := by
  unfold docJ knownB leftB
  rw [h]
  simp only [hw, fitsB, structP, withinB, size_nil]
  generalize pathB x.path = pp
  generalize nameB x.name = nn
  generalize slotsB x.slots f.code.length = ss
  rw [Bool.eq_iff_iff]
  simp
  try grind

theorem doc_Enum (u : UU) (f : FF) (x : JJ) (w : List UInt8) (hw : w.isEmpty = false) (h : rowR x.op = ⟨w, 10, 11, 0, false, false, true⟩) :
    docJ u f x = (nameB x.name && (enumP x.a x.b) && (decide ((0 : Int) = 0) && (decide ((0 : Int) = 0) && (decide (x.c = 0) && (decide (x.slots.length = 0) && (decide (x.path.length = 0) && (decide (x.int = 0) && (decide ((⟨#[]⟩ : ByteArray).size = 0) && (decide (x.names = 0)))))))))) := by
  unfold docJ knownB leftB
  rw [h]
  simp only [hw, fitsB, enumP, withinB, size_nil]
  generalize pathB x.path = pp
  generalize nameB x.name = nn
  generalize slotsB x.slots f.code.length = ss
  rw [Bool.eq_iff_iff]
  simp
  try grind

theorem doc_Jump (u : UU) (f : FF) (x : JJ) (w : List UInt8) (hw : w.isEmpty = false) (h : rowR x.op = ⟨w, 2, 0, 0, false, false, false⟩) :
    docJ u f x = ((jumpP x.a f.code.length) && (decide ((0 : Int) = 0) && (decide (x.b = 0) && (decide (x.c = 0) && (decide (x.slots.length = 0) && (decide (x.path.length = 0) && (decide (x.int = 0) && (decide (x.name.size = 0) && (decide (x.names = 0)))))))))) := by
  unfold docJ knownB leftB
  rw [h]
  simp only [hw, fitsB, jumpP, withinB]
  generalize pathB x.path = pp
  generalize nameB x.name = nn
  generalize slotsB x.slots f.code.length = ss
  rw [Bool.eq_iff_iff]
  simp
  try grind

theorem doc_Switch (u : UU) (f : FF) (x : JJ) (w : List UInt8) (hw : w.isEmpty = false) (h : rowR x.op = ⟨w, 0, 0, 0, false, true, true⟩) :
    docJ u f x = (nameB x.name && slotsB x.slots f.code.length && (decide (x.a = 0) && (decide (x.b = 0) && (decide (x.c = 0) && (decide (0 = 0) && (decide (x.path.length = 0) && (decide (x.int = 0) && (decide ((⟨#[]⟩ : ByteArray).size = 0) && (decide (x.names = 0)))))))))) := by
  unfold docJ knownB leftB
  rw [h]
  simp only [hw, fitsB, size_nil]
  generalize pathB x.path = pp
  generalize nameB x.name = nn
  generalize slotsB x.slots f.code.length = ss
  rw [Bool.eq_iff_iff]
  simp
  try grind

theorem doc_Call (u : UU) (f : FF) (x : JJ) (w : List UInt8) (hw : w.isEmpty = false) (h : rowR x.op = ⟨w, 3, 4, 0, false, false, false⟩) :
    docJ u f x = ((callP x.a x.b u.funcs.length (paramsAt u x.a)) && (decide ((0 : Int) = 0) && (decide ((0 : Int) = 0) && (decide (x.c = 0) && (decide (x.slots.length = 0) && (decide (x.path.length = 0) && (decide (x.int = 0) && (decide (x.name.size = 0) && (decide (x.names = 0)))))))))) := by
  unfold docJ knownB leftB
  rw [h]
  simp only [hw, fitsB, callP, withinB]
  generalize pathB x.path = pp
  generalize nameB x.name = nn
  generalize slotsB x.slots f.code.length = ss
  rw [Bool.eq_iff_iff]
  simp
  try grind

theorem doc_None (u : UU) (f : FF) (x : JJ) (w : List UInt8) (hw : w.isEmpty = false) (h : rowR x.op = ⟨w, 0, 0, 0, false, false, false⟩) :
    docJ u f x = (yesP && (decide (x.a = 0) && (decide (x.b = 0) && (decide (x.c = 0) && (decide (x.slots.length = 0) && (decide (x.path.length = 0) && (decide (x.int = 0) && (decide (x.name.size = 0) && (decide (x.names = 0)))))))))) := by
  unfold docJ knownB leftB
  rw [h]
  simp only [hw, fitsB, yesP]
  generalize pathB x.path = pp
  generalize nameB x.name = nn
  generalize slotsB x.slots f.code.length = ss
  rw [Bool.eq_iff_iff]
  simp
  try grind

theorem doc_Wrap (u : UU) (f : FF) (x : JJ) (w : List UInt8) (hw : w.isEmpty = false) (h : rowR x.op = ⟨w, 12, 0, 0, false, false, false⟩) :
    docJ u f x = ((wrapP x.a) && (decide ((0 : Int) = 0) && (decide (x.b = 0) && (decide (x.c = 0) && (decide (x.slots.length = 0) && (decide (x.path.length = 0) && (decide (x.int = 0) && (decide (x.name.size = 0) && (decide (x.names = 0)))))))))) := by
  unfold docJ knownB leftB
  rw [h]
  simp only [hw, fitsB, wrapP, withinB]
  generalize pathB x.path = pp
  generalize nameB x.name = nn
  generalize slotsB x.slots f.code.length = ss
  rw [Bool.eq_iff_iff]
  simp
  try grind

theorem doc_Unwrap (u : UU) (f : FF) (x : JJ) (w : List UInt8) (hw : w.isEmpty = false) (h : rowR x.op = ⟨w, 13, 0, 0, false, false, false⟩) :
    docJ u f x = ((unwrapP x.a) && (decide ((0 : Int) = 0) && (decide (x.b = 0) && (decide (x.c = 0) && (decide (x.slots.length = 0) && (decide (x.path.length = 0) && (decide (x.int = 0) && (decide (x.name.size = 0) && (decide (x.names = 0)))))))))) := by
  unfold docJ knownB leftB
  rw [h]
  simp only [hw, fitsB, unwrapP]
  generalize pathB x.path = pp
  generalize nameB x.name = nn
  generalize slotsB x.slots f.code.length = ss
  rw [Bool.eq_iff_iff]
  simp
  try grind

theorem doc_Chan (u : UU) (f : FF) (x : JJ) (w : List UInt8) (hw : w.isEmpty = false) (h : rowR x.op = ⟨w, 0, 0, 14, false, false, false⟩) :
    docJ u f x = ((chanP x.int) && (decide (x.a = 0) && (decide (x.b = 0) && (decide (x.c = 0) && (decide (x.slots.length = 0) && (decide (x.path.length = 0) && (decide ((0 : Int) = 0) && (decide (x.name.size = 0) && (decide (x.names = 0)))))))))) := by
  unfold docJ knownB leftB
  rw [h]
  simp only [hw, fitsB, chanP, withinB]
  generalize pathB x.path = pp
  generalize nameB x.name = nn
  generalize slotsB x.slots f.code.length = ss
  rw [Bool.eq_iff_iff]
  simp
  try grind

theorem doc_Lock (u : UU) (f : FF) (x : JJ) (w : List UInt8) (hw : w.isEmpty = false) (h : rowR x.op = ⟨w, 1, 1, 0, true, false, false⟩) :
    docJ u f x = (pathB x.path && (lockP x.a x.b f.slots) && (decide ((0 : Int) = 0) && (decide ((0 : Int) = 0) && (decide (x.c = 0) && (decide (x.slots.length = 0) && (decide (0 = 0) && (decide (x.int = 0) && (decide (x.name.size = 0) && (decide (x.names = 0)))))))))) := by
  unfold docJ knownB leftB
  rw [h]
  simp only [hw, fitsB, lockP]
  generalize pathB x.path = pp
  generalize nameB x.name = nn
  generalize slotsB x.slots f.code.length = ss
  rw [Bool.eq_iff_iff]
  simp
  try grind

set_option maxRecDepth 100000 in
set_option maxHeartbeats 4000000 in
theorem refUnknown (a1 a2 a3 a4 a5 a6 : Option Addr) (n1 n2 n3 n4 n5 n6 c1 c2 c3 c4 c5 c6 : Nat) (mn op xa xb xc xi sl : Int) (nm : ByteArray) (k b o : Nat) (w : World) (hk : k < n1) (hm : n1 ≤ maxLen) (ha : a1 = some ⟨b, o, none⟩) (hb : b < w.heap.size)
    (g2 : w.cell? ⟨b, o + k * 4 + 2, none⟩ = some (.int .i64 sl)) (g3 : w.cell? ⟨b, o + k * 4 + 3, none⟩ = some (.slice a3 n3 c3))
    (hop : op = 0 ∨ 35 ≤ op) :
    Calls Tryd.prog 16 #[.agg #[.slice a1 n1 c1, .int .i64 mn, .slice a2 n2 c2], .int .i64 k, .agg #[.int .u8 op, .int .i64 xa, .int .i64 xb, .int .i64 xc, .slice a4 n4 c4, .slice a5 n5 c5, .int .i64 xi, .string nm, .slice a6 n6 c6]] w fun e w' => e = .returned (.int .i64 170) ∧ Below w.heap.size w w' := by

  have d1 : (op == 1) = false := by rw [beq_eq_false_iff_ne]; omega
  have d2 : (op == 2) = false := by rw [beq_eq_false_iff_ne]; omega
  have d3 : (op == 3) = false := by rw [beq_eq_false_iff_ne]; omega
  have d4 : (op == 4) = false := by rw [beq_eq_false_iff_ne]; omega
  have d5 : (op == 5) = false := by rw [beq_eq_false_iff_ne]; omega
  have d6 : (op == 6) = false := by rw [beq_eq_false_iff_ne]; omega
  have d7 : (op == 7) = false := by rw [beq_eq_false_iff_ne]; omega
  have d8 : (op == 8) = false := by rw [beq_eq_false_iff_ne]; omega
  have d9 : (op == 9) = false := by rw [beq_eq_false_iff_ne]; omega
  have d10 : (op == 10) = false := by rw [beq_eq_false_iff_ne]; omega
  have d11 : (op == 11) = false := by rw [beq_eq_false_iff_ne]; omega
  have d12 : (op == 12) = false := by rw [beq_eq_false_iff_ne]; omega
  have d13 : (op == 13) = false := by rw [beq_eq_false_iff_ne]; omega
  have d14 : (op == 14) = false := by rw [beq_eq_false_iff_ne]; omega
  have d15 : (op == 15) = false := by rw [beq_eq_false_iff_ne]; omega
  have d16 : (op == 16) = false := by rw [beq_eq_false_iff_ne]; omega
  have d17 : (op == 17) = false := by rw [beq_eq_false_iff_ne]; omega
  have d18 : (op == 18) = false := by rw [beq_eq_false_iff_ne]; omega
  have d19 : (op == 19) = false := by rw [beq_eq_false_iff_ne]; omega
  have d20 : (op == 20) = false := by rw [beq_eq_false_iff_ne]; omega
  have d21 : (op == 21) = false := by rw [beq_eq_false_iff_ne]; omega
  have d22 : (op == 22) = false := by rw [beq_eq_false_iff_ne]; omega
  have d23 : (op == 23) = false := by rw [beq_eq_false_iff_ne]; omega
  have d24 : (op == 24) = false := by rw [beq_eq_false_iff_ne]; omega
  have d25 : (op == 25) = false := by rw [beq_eq_false_iff_ne]; omega
  have d26 : (op == 26) = false := by rw [beq_eq_false_iff_ne]; omega
  have d27 : (op == 27) = false := by rw [beq_eq_false_iff_ne]; omega
  have d28 : (op == 28) = false := by rw [beq_eq_false_iff_ne]; omega
  have d29 : (op == 29) = false := by rw [beq_eq_false_iff_ne]; omega
  have d30 : (op == 30) = false := by rw [beq_eq_false_iff_ne]; omega
  have d31 : (op == 31) = false := by rw [beq_eq_false_iff_ne]; omega
  have d32 : (op == 32) = false := by rw [beq_eq_false_iff_ne]; omega
  have d33 : (op == 33) = false := by rw [beq_eq_false_iff_ne]; omega
  have d34 : (op == 34) = false := by rw [beq_eq_false_iff_ne]; omega
  subst ha
  unfold maxLen at hm
  have hk0 : 0 ≤ (k : Int) := by omega
  have hk1 : (k : Int) < (n1 : Int) := by omega
  clear hop
  go_enter Tryd.func16, Tryd.ntmps16
  go_wp2_with fail
  obtain ⟨W0, hW⟩ : ∃ W, W = (w.alloc (.cells #[.slice (some ⟨b, o, none⟩) n1 c1, .int .i64 mn, .slice a2 n2 c2] 25)).alloc (.cells #[.int .u8 op, .int .i64 xa, .int .i64 xb, .int .i64 xc, .slice a4 n4 c4, .slice a5 n5 c5, .int .i64 xi, .string nm, .slice a6 n6 c6] 34) := ⟨_, rfl⟩
  have bel0 : Below w.heap.size w W0 := by rw [hW]; exact box2 _ _ _
  have ov : ∀ (m : Over W0) (p q : Nat) (v : Value), W0.cell? ⟨p, q, none⟩ = some v → m.w.cell? ⟨p, q, none⟩ = some v := fun m p q v h => (m.cells _ _ (World.block_lt_of_cell? W0 _ h)).trans h
  have q2 := fun m => ov m _ _ _ (cell_over g2 bel0)
  have q3 := fun m => ov m _ _ _ (cell_over g3 bel0)
  have u0 := fun m => ov m w.heap.size 0 (.slice (some ⟨b, o, none⟩) n1 c1) (by rw [hW]; go_simp)
  have i0 := fun m => ov m (w.heap.size + 1) 0 (.int .u8 op) (by rw [hW]; go_simp)
  have i1 := fun m => ov m (w.heap.size + 1) 1 (.int .i64 xa) (by rw [hW]; go_simp)
  have i2 := fun m => ov m (w.heap.size + 1) 2 (.int .i64 xb) (by rw [hW]; go_simp)
  have i3 := fun m => ov m (w.heap.size + 1) 3 (.int .i64 xc) (by rw [hW]; go_simp)
  have i4 := fun m => ov m (w.heap.size + 1) 4 (.slice a4 n4 c4) (by rw [hW]; go_simp)
  have i5 := fun m => ov m (w.heap.size + 1) 5 (.slice a5 n5 c5) (by rw [hW]; go_simp)
  have i6 := fun m => ov m (w.heap.size + 1) 6 (.int .i64 xi) (by rw [hW]; go_simp)
  have i7 := fun m => ov m (w.heap.size + 1) 7 (.string nm) (by rw [hW]; go_simp)
  have i8 := fun m => ov m (w.heap.size + 1) 8 (.slice a6 n6 c6) (by rw [hW]; go_simp)
  have z0 : w.heap.size + 1 < W0.heap.size := by rw [hW]; simp
  rw [← hW]
  clear hW ov
  refine wp_region_over (by kernel_rfl) (by kernel_rfl) ?_
  repeat (go_big_quiet_step (fail))
  refine wpQuiet_nil ?_
  rintro _ ⟨m, rfl⟩
  have H0 := Lib.hid (bel0.trans (m.h.mono bel0.size))
  have z1 : w.heap.size + 1 < m.w.heap.size := Nat.lt_of_lt_of_le z0 m.h.size
  have i0 := i0 m
  have i1 := i1 m
  have i2 := i2 m
  have i3 := i3 m
  have i4 := i4 m
  have i5 := i5 m
  have i6 := i6 m
  have i7 := i7 m
  have i8 := i8 m
  have u0 := u0 m
  generalize m.w = w1 at *
  clear q2 q3 bel0 z0 m
  go_upto_region 6 with (fail)
  obtain ⟨W1, hW⟩ : ∃ W, W = w1.alloc (.cells #[.int .u8 op, .int .i64 xa, .int .i64 xb, .int .i64 xc, .slice a4 n4 c4, .slice a5 n5 c5, .int .i64 xi, .string nm, .slice a6 n6 c6] 34) := ⟨_, rfl⟩
  have H1 : Hid (Below w.heap.size w W1) := by rw [hW]; exact hid_upR H0 (box1 _ _)
  have zw : w1.heap.size < W1.heap.size := by rw [hW]; simp
  have u0 := step_of hW u0
  have i0 := step_of hW i0
  have i1 := step_of hW i1
  have i2 := step_of hW i2
  have i3 := step_of hW i3
  have i4 := step_of hW i4
  have i5 := step_of hW i5
  have i6 := step_of hW i6
  have i7 := step_of hW i7
  have i8 := step_of hW i8
  have y0 : W1.cell? ⟨w1.heap.size, 0, none⟩ = some (.int .u8 op) := by rw [hW]; go_simp
  have y1 : W1.cell? ⟨w1.heap.size, 1, none⟩ = some (.int .i64 xa) := by rw [hW]; go_simp
  have y2 : W1.cell? ⟨w1.heap.size, 2, none⟩ = some (.int .i64 xb) := by rw [hW]; go_simp
  have y3 : W1.cell? ⟨w1.heap.size, 3, none⟩ = some (.int .i64 xc) := by rw [hW]; go_simp
  have y4 : W1.cell? ⟨w1.heap.size, 4, none⟩ = some (.slice a4 n4 c4) := by rw [hW]; go_simp
  have y5 : W1.cell? ⟨w1.heap.size, 5, none⟩ = some (.slice a5 n5 c5) := by rw [hW]; go_simp
  have y6 : W1.cell? ⟨w1.heap.size, 6, none⟩ = some (.int .i64 xi) := by rw [hW]; go_simp
  have y7 : W1.cell? ⟨w1.heap.size, 7, none⟩ = some (.string nm) := by rw [hW]; go_simp
  have y8 : W1.cell? ⟨w1.heap.size, 8, none⟩ = some (.slice a6 n6 c6) := by rw [hW]; go_simp
  have fz : ∀ o, W1.frozen? ⟨w1.heap.size, o, none⟩ = false := by rw [hW]; intro o; go_simp
  have z2 : w.heap.size + 1 < W1.heap.size := by omega
  have z3 : w.heap.size < W1.heap.size := by omega
  have J := Lib.hid (Below.refl W1.heap.size W1)
  have zy : w.heap.size ≤ w1.heap.size := by omega
  rw [← hW]
  clear hW H0 z1

  as_aux_lemma =>
    go_wp2_with fail
    go_ret
    exact ⟨rfl, H1.out⟩
set_option maxRecDepth 100000 in
set_option maxHeartbeats 4000000 in
theorem refOut (a1 a2 a4 a5 a6 : Option Addr) (n1 n2 n4 n5 n6 c1 c2 c4 c5 c6 : Nat) (mn fn op xa xb xc xi : Int) (nm : ByteArray) (w : World) (h : ¬ (0 ≤ fn ∧ fn < n1)) :
    Calls Tryd.prog 16 #[.agg #[.slice a1 n1 c1, .int .i64 mn, .slice a2 n2 c2], .int .i64 fn, .agg #[.int .u8 op, .int .i64 xa, .int .i64 xb, .int .i64 xc, .slice a4 n4 c4, .slice a5 n5 c5, .int .i64 xi, .string nm, .slice a6 n6 c6]] w fun e w' => e = .returned (.int .i64 170) ∧ Below w.heap.size w w' := by
  by_cases h0 : fn < 0
  · clear h
    go_enter Tryd.func16, Tryd.ntmps16
    go_wp2_with fail
    go_ret
    exact ⟨rfl, box2 _ _ _⟩
  · have h1 : (n1 : Int) ≤ fn := by omega
    have h2 : 0 ≤ fn := by omega
    clear h
    go_enter Tryd.func16, Tryd.ntmps16
    go_wp2_with fail
    go_ret
    exact ⟨rfl, box2 _ _ _⟩

set_option maxRecDepth 100000 in
set_option maxHeartbeats 4000000 in
theorem refIn_calls (B : Nat) (u : UU) (vu : VU) (k : Nat) (f : FF) (hf : u.funcs[k]? = some f) (x : JJ) (v : VJ) (w : World) (hB : B ≤ w.heap.size) (hu : u.In B w vu) (hx : x.In B w v) :
    Calls Tryd.prog 16 #[u.val vu, .int .i64 k, x.val v] w fun e w' => e = .returned (.int .i64 (errB (docJ u f x))) ∧ Below w.heap.size w w' := by
  obtain ⟨b, o, ⟨hm, ao, cap, hv, hc, h4⟩, hr⟩ := hu.1
  have hk := some_lt hf
  obtain ⟨hao, hbB⟩ := h4.resolve_left (by omega)
  obtain ⟨vc, hcs, hfi⟩ := hr k f hf
  have g2 : w.cell? ⟨b, o + k * 4 + 2, none⟩ = some (.int .i64 f.slots) := hcs 2 _ rfl
  have g3 : w.cell? ⟨b, o + k * 4 + 3, none⟩ = some vc := hcs 3 _ rfl
  have hb := Nat.lt_of_lt_of_le hbB hB
  have KP : Hid (∀ W, Hid (Below w.heap.size w W) → _) := Lib.hid fun W (h : Hid (Below w.heap.size w W)) => refPath_calls B x.path v.p W (Nat.le_trans hB h.out.size) (hx.below (h.out.mono hB)).2.2.2.1
  have KN := Lib.hid fun W => refName_calls x.name W
  have hpp : ∀ j : Nat, 0 ≤ x.a ∧ x.a < u.funcs.length → w.cell? ⟨b, o + x.a.toNat * 4 + 1, none⟩ = some (.int .i64 (paramsAt u x.a)) := fun _ h => by
    obtain ⟨q, hq⟩ : ∃ q : Nat, x.a = q := ⟨x.a.toNat, by omega⟩
    obtain ⟨g, hg, _⟩ := get_at (l := u.funcs) (k := q) (by omega)
    obtain ⟨vg, hcg, _⟩ := hr q g hg
    rw [hq, paramsAt_eq hg, Int.toNat_natCast]
    exact hcg 1 _ rfl
  obtain ⟨a1, c1, a2, c2, rfl⟩ := hu.shape
  obtain ⟨a3, c3, rfl⟩ := GIn.shape hfi.2
  obtain ⟨hop, _, hz, hp, hn⟩ := hx
  obtain ⟨b4, o4, ⟨hm4, ao4, cap4, hv4, hc4, h44⟩, hr4⟩ := hz
  have hrow : x.slots.length ≠ 0 → ao4 = some ⟨b4, o4, none⟩ ∧ b4 < w.heap.size ∧ ∀ (j : Nat) i, x.slots[j]? = some i → w.cell? ⟨b4, o4 + j, none⟩ = some (.int .i64 i) := fun h => ⟨(h44.resolve_left h).1, Nat.lt_of_lt_of_le (h44.resolve_left h).2 hB, fun j i hj => by
    have := hr4 j i hj
    rw [Nat.mul_one] at this
    exact this⟩
  obtain ⟨s, p, n⟩ := v
  obtain rfl : s = _ := hv4
  obtain ⟨a5, c5, rfl⟩ := hp.shape'
  obtain ⟨b6, o6, h6⟩ := hn
  obtain ⟨a6, c6, rfl⟩ := h6.shape
  obtain ⟨rfl, _, rfl⟩ := Value.slice.inj hv
  clear hr4 h44 hr hcs h6 hp hfi hu
  obtain ⟨op, xa, xb, xc, sl, pa, xi, nm, m⟩ := x
  unfold UU.val JJ.val
  dsimp only at *
  have hcase : op = 0 ∨ 35 ≤ op ∨ ∃ j : Nat, 1 ≤ j ∧ j ≤ 34 ∧ op = j := by
    by_cases h0 : op = 0
    · exact .inl h0
    · by_cases h35 : 35 ≤ op
      · exact .inr (.inl h35)
      · exact .inr (.inr ⟨op.toNat, by omega, by omega, by omega⟩)
  have unk : (op = 0 ∨ 35 ≤ op) → rowR op = noRow := by
    rintro (rfl | h)
    · rfl
    · unfold rowR
      rw [List.getElem?_eq_none (by show 35 ≤ op.toNat; omega)]
      rfl
  rcases hcase with h0 | h35 | ⟨j, hj1, hj2, rfl⟩
  · rw [show docJ u f ⟨op, xa, xb, xc, sl, pa, xi, nm, m⟩ = false from by unfold docJ knownB; rw [unk (.inl h0)]; rfl]
    exact refUnknown _ a2 a3 ao4 a5 a6 _ _ _ _ _ _ _ c2 c3 cap4 c5 c6 _ _ _ _ _ _ _ _ k b o w hk hm hao hb g2 g3 (.inl h0)
  · rw [show docJ u f ⟨op, xa, xb, xc, sl, pa, xi, nm, m⟩ = false from by unfold docJ knownB; rw [unk (.inr h35)]; rfl]
    exact refUnknown _ a2 a3 ao4 a5 a6 _ _ _ _ _ _ _ c2 c3 cap4 c5 c6 _ _ _ _ _ _ _ _ k b o w hk hm hao hb g2 g3 (.inr h35)
  · clear unk
    match j, hj1, hj2 with
    | 1, _, _ =>
      have h := doc_Live u f ⟨1, xa, xb, xc, sl, pa, xi, nm, m⟩ _ rfl rfl
      exact (refLive_1 _ a2 a3 ao4 a5 a6 _ _ _ _ _ _ _ c2 c3 cap4 c5 c6 _ _ _ _ _ f.slots _ k b o _ _ _ w hk hm hao hb g2 g3 (Lib.hid fun W _ => blank_calls ao4 a5 a6 sl.length pa.length m cap4 c5 c6 1 0 xb xc xi nm W) KP KN).mono fun e w' hh => ⟨hh.1.trans (congrArg (fun t => Ending.returned (Value.int .i64 (errB t))) h.symm), hh.2⟩
    | 2, _, _ =>
      have h := doc_Live u f ⟨2, xa, xb, xc, sl, pa, xi, nm, m⟩ _ rfl rfl
      exact (refLive_2 _ a2 a3 ao4 a5 a6 _ _ _ _ _ _ _ c2 c3 cap4 c5 c6 _ _ _ _ _ f.slots _ k b o _ _ _ w hk hm hao hb g2 g3 (Lib.hid fun W _ => blank_calls ao4 a5 a6 sl.length pa.length m cap4 c5 c6 2 0 xb xc xi nm W) KP KN).mono fun e w' hh => ⟨hh.1.trans (congrArg (fun t => Ending.returned (Value.int .i64 (errB t))) h.symm), hh.2⟩
    | 3, _, _ =>
      have h := doc_Const u f ⟨3, xa, xb, xc, sl, pa, xi, nm, m⟩ _ rfl rfl
      exact (refConst_3 _ a2 a3 ao4 a5 a6 _ _ _ _ _ _ _ c2 c3 cap4 c5 c6 _ _ _ _ _ f.slots _ k b o _ _ _ w hk hm hao hb g2 g3 (Lib.hid fun W _ => blank_calls ao4 a5 a6 sl.length pa.length m cap4 c5 c6 3 0 xb xc 0 nm W) KP KN).mono fun e w' hh => ⟨hh.1.trans (congrArg (fun t => Ending.returned (Value.int .i64 (errB t))) h.symm), hh.2⟩
    | 4, _, _ =>
      have h := doc_Place u f ⟨4, xa, xb, xc, sl, pa, xi, nm, m⟩ _ rfl rfl
      exact (refPlace_4 _ a2 a3 ao4 a5 a6 _ _ _ _ _ _ _ c2 c3 cap4 c5 c6 _ _ _ _ _ f.slots _ k b o _ _ _ w hk hm hao hb g2 g3 (Lib.hid fun W _ => blank_calls ao4 none a6 sl.length 0 m cap4 0 c6 4 0 xb xc xi nm W) KP KN).mono fun e w' hh => ⟨hh.1.trans (congrArg (fun t => Ending.returned (Value.int .i64 (errB t))) h.symm), hh.2⟩
    | 5, _, _ =>
      have h := doc_Place u f ⟨5, xa, xb, xc, sl, pa, xi, nm, m⟩ _ rfl rfl
      exact (refPlace_5 _ a2 a3 ao4 a5 a6 _ _ _ _ _ _ _ c2 c3 cap4 c5 c6 _ _ _ _ _ f.slots _ k b o _ _ _ w hk hm hao hb g2 g3 (Lib.hid fun W _ => blank_calls ao4 none a6 sl.length 0 m cap4 0 c6 5 0 xb xc xi nm W) KP KN).mono fun e w' hh => ⟨hh.1.trans (congrArg (fun t => Ending.returned (Value.int .i64 (errB t))) h.symm), hh.2⟩
    | 6, _, _ =>
      have h := doc_Place u f ⟨6, xa, xb, xc, sl, pa, xi, nm, m⟩ _ rfl rfl
      exact (refPlace_6 _ a2 a3 ao4 a5 a6 _ _ _ _ _ _ _ c2 c3 cap4 c5 c6 _ _ _ _ _ f.slots _ k b o _ _ _ w hk hm hao hb g2 g3 (Lib.hid fun W _ => blank_calls ao4 none a6 sl.length 0 m cap4 0 c6 6 0 xb xc xi nm W) KP KN).mono fun e w' hh => ⟨hh.1.trans (congrArg (fun t => Ending.returned (Value.int .i64 (errB t))) h.symm), hh.2⟩
    | 7, _, _ =>
      have h := doc_Place u f ⟨7, xa, xb, xc, sl, pa, xi, nm, m⟩ _ rfl rfl
      exact (refPlace_7 _ a2 a3 ao4 a5 a6 _ _ _ _ _ _ _ c2 c3 cap4 c5 c6 _ _ _ _ _ f.slots _ k b o _ _ _ w hk hm hao hb g2 g3 (Lib.hid fun W _ => blank_calls ao4 none a6 sl.length 0 m cap4 0 c6 7 0 xb xc xi nm W) KP KN).mono fun e w' hh => ⟨hh.1.trans (congrArg (fun t => Ending.returned (Value.int .i64 (errB t))) h.symm), hh.2⟩
    | 8, _, _ =>
      have h := doc_Place u f ⟨8, xa, xb, xc, sl, pa, xi, nm, m⟩ _ rfl rfl
      exact (refPlace_8 _ a2 a3 ao4 a5 a6 _ _ _ _ _ _ _ c2 c3 cap4 c5 c6 _ _ _ _ _ f.slots _ k b o _ _ _ w hk hm hao hb g2 g3 (Lib.hid fun W _ => blank_calls ao4 none a6 sl.length 0 m cap4 0 c6 8 0 xb xc xi nm W) KP KN).mono fun e w' hh => ⟨hh.1.trans (congrArg (fun t => Ending.returned (Value.int .i64 (errB t))) h.symm), hh.2⟩
    | 9, _, _ =>
      have h := doc_Unary u f ⟨9, xa, xb, xc, sl, pa, xi, nm, m⟩ _ rfl rfl
      exact (refUnary_9 _ a2 a3 ao4 a5 a6 _ _ _ _ _ _ _ c2 c3 cap4 c5 c6 _ _ _ _ _ f.slots _ k b o _ _ _ w hk hm hao hb g2 g3 (Lib.hid fun W _ => blank_calls ao4 a5 a6 sl.length pa.length m cap4 c5 c6 9 0 xb xc xi nm W) KP KN).mono fun e w' hh => ⟨hh.1.trans (congrArg (fun t => Ending.returned (Value.int .i64 (errB t))) h.symm), hh.2⟩
    | 10, _, _ =>
      have h := doc_Binary u f ⟨10, xa, xb, xc, sl, pa, xi, nm, m⟩ _ rfl rfl
      exact (refBinary_10 _ a2 a3 ao4 a5 a6 _ _ _ _ _ _ _ c2 c3 cap4 c5 c6 _ _ _ _ _ f.slots _ k b o _ _ _ w hk hm hao hb g2 g3 (Lib.hid fun W _ => blank_calls ao4 a5 a6 sl.length pa.length m cap4 c5 c6 10 0 xb xc xi nm W) KP KN).mono fun e w' hh => ⟨hh.1.trans (congrArg (fun t => Ending.returned (Value.int .i64 (errB t))) h.symm), hh.2⟩
    | 11, _, _ =>
      have h := doc_Struct u f ⟨11, xa, xb, xc, sl, pa, xi, nm, m⟩ _ rfl rfl
      exact (refStruct_11 _ a2 a3 ao4 a5 a6 _ _ _ _ _ _ _ c2 c3 cap4 c5 c6 _ _ _ _ _ f.slots _ k b o _ _ _ w hk hm hao hb g2 g3 (Lib.hid fun W _ => blank_calls ao4 a5 a6 sl.length pa.length m cap4 c5 c6 11 xa 0 xc xi ⟨#[]⟩ W) KP KN).mono fun e w' hh => ⟨hh.1.trans (congrArg (fun t => Ending.returned (Value.int .i64 (errB t))) h.symm), hh.2⟩
    | 12, _, _ =>
      have h := doc_Enum u f ⟨12, xa, xb, xc, sl, pa, xi, nm, m⟩ _ rfl rfl
      exact (refEnum_12 _ a2 a3 ao4 a5 a6 _ _ _ _ _ _ _ c2 c3 cap4 c5 c6 _ _ _ _ _ f.slots _ k b o _ _ _ w hk hm hao hb g2 g3 (Lib.hid fun W _ => blank_calls ao4 a5 a6 sl.length pa.length m cap4 c5 c6 12 0 0 xc xi ⟨#[]⟩ W) KP KN).mono fun e w' hh => ⟨hh.1.trans (congrArg (fun t => Ending.returned (Value.int .i64 (errB t))) h.symm), hh.2⟩
    | 13, _, _ =>
      have h := doc_Struct u f ⟨13, xa, xb, xc, sl, pa, xi, nm, m⟩ _ rfl rfl
      exact (refStruct_13 _ a2 a3 ao4 a5 a6 _ _ _ _ _ _ _ c2 c3 cap4 c5 c6 _ _ _ _ _ f.slots _ k b o _ _ _ w hk hm hao hb g2 g3 (Lib.hid fun W _ => blank_calls ao4 a5 a6 sl.length pa.length m cap4 c5 c6 13 xa 0 xc xi ⟨#[]⟩ W) KP KN).mono fun e w' hh => ⟨hh.1.trans (congrArg (fun t => Ending.returned (Value.int .i64 (errB t))) h.symm), hh.2⟩
    | 14, _, _ =>
      have h := doc_Jump u f ⟨14, xa, xb, xc, sl, pa, xi, nm, m⟩ _ rfl rfl
      exact (refJump_14 _ a2 a3 ao4 a5 a6 _ _ _ _ _ _ _ c2 c3 cap4 c5 c6 _ _ _ _ _ f.slots _ k b o _ _ _ w hk hm hao hb g2 g3 (Lib.hid fun W _ => blank_calls ao4 a5 a6 sl.length pa.length m cap4 c5 c6 14 0 xb xc xi nm W) KP KN).mono fun e w' hh => ⟨hh.1.trans (congrArg (fun t => Ending.returned (Value.int .i64 (errB t))) h.symm), hh.2⟩
    | 15, _, _ =>
      have h := doc_Jump u f ⟨15, xa, xb, xc, sl, pa, xi, nm, m⟩ _ rfl rfl
      exact (refJump_15 _ a2 a3 ao4 a5 a6 _ _ _ _ _ _ _ c2 c3 cap4 c5 c6 _ _ _ _ _ f.slots _ k b o _ _ _ w hk hm hao hb g2 g3 (Lib.hid fun W _ => blank_calls ao4 a5 a6 sl.length pa.length m cap4 c5 c6 15 0 xb xc xi nm W) KP KN).mono fun e w' hh => ⟨hh.1.trans (congrArg (fun t => Ending.returned (Value.int .i64 (errB t))) h.symm), hh.2⟩
    | 16, _, _ =>
      have h := doc_Switch u f ⟨16, xa, xb, xc, sl, pa, xi, nm, m⟩ _ rfl rfl
      exact (refSwitch_16 _ a2 a3 ao4 a5 a6 _ _ _ _ _ _ _ c2 c3 cap4 c5 c6 _ _ _ _ _ f.slots _ k b o _ _ _ w hk hm hao hb g2 g3 sl rfl b4 o4 hrow (Lib.hid fun W _ => blank_calls none a5 a6 0 pa.length m 0 c5 c6 16 xa xb xc xi ⟨#[]⟩ W) KP KN).mono fun e w' hh => ⟨hh.1.trans (congrArg (fun t => Ending.returned (Value.int .i64 (errB t))) h.symm), hh.2⟩
    | 17, _, _ =>
      have h := doc_Call u f ⟨17, xa, xb, xc, sl, pa, xi, nm, m⟩ _ rfl rfl
      exact (refCall_17 _ a2 a3 ao4 a5 a6 _ _ _ _ _ _ _ c2 c3 cap4 c5 c6 _ _ _ _ _ f.slots _ k b o _ _ _ w hk hm hao hb g2 g3 (paramsAt u xa) (hpp 0) (Lib.hid fun W _ => blank_calls ao4 a5 a6 sl.length pa.length m cap4 c5 c6 17 0 0 xc xi nm W) KP KN).mono fun e w' hh => ⟨hh.1.trans (congrArg (fun t => Ending.returned (Value.int .i64 (errB t))) h.symm), hh.2⟩
    | 18, _, _ =>
      have h := doc_None u f ⟨18, xa, xb, xc, sl, pa, xi, nm, m⟩ _ rfl rfl
      exact (refNone_18 _ a2 a3 ao4 a5 a6 _ _ _ _ _ _ _ c2 c3 cap4 c5 c6 _ _ _ _ _ f.slots _ k b o _ _ _ w hk hm hao hb g2 g3 (Lib.hid fun W _ => blank_calls ao4 a5 a6 sl.length pa.length m cap4 c5 c6 18 xa xb xc xi nm W) KP KN).mono fun e w' hh => ⟨hh.1.trans (congrArg (fun t => Ending.returned (Value.int .i64 (errB t))) h.symm), hh.2⟩
    | 19, _, _ =>
      have h := doc_Wrap u f ⟨19, xa, xb, xc, sl, pa, xi, nm, m⟩ _ rfl rfl
      exact (refWrap_19 _ a2 a3 ao4 a5 a6 _ _ _ _ _ _ _ c2 c3 cap4 c5 c6 _ _ _ _ _ f.slots _ k b o _ _ _ w hk hm hao hb g2 g3 (Lib.hid fun W _ => blank_calls ao4 a5 a6 sl.length pa.length m cap4 c5 c6 19 0 xb xc xi nm W) KP KN).mono fun e w' hh => ⟨hh.1.trans (congrArg (fun t => Ending.returned (Value.int .i64 (errB t))) h.symm), hh.2⟩
    | 20, _, _ =>
      have h := doc_Unwrap u f ⟨20, xa, xb, xc, sl, pa, xi, nm, m⟩ _ rfl rfl
      exact (refUnwrap_20 _ a2 a3 ao4 a5 a6 _ _ _ _ _ _ _ c2 c3 cap4 c5 c6 _ _ _ _ _ f.slots _ k b o _ _ _ w hk hm hao hb g2 g3 (Lib.hid fun W _ => blank_calls ao4 a5 a6 sl.length pa.length m cap4 c5 c6 20 0 xb xc xi nm W) KP KN).mono fun e w' hh => ⟨hh.1.trans (congrArg (fun t => Ending.returned (Value.int .i64 (errB t))) h.symm), hh.2⟩
    | 21, _, _ =>
      have h := doc_Place u f ⟨21, xa, xb, xc, sl, pa, xi, nm, m⟩ _ rfl rfl
      exact (refPlace_21 _ a2 a3 ao4 a5 a6 _ _ _ _ _ _ _ c2 c3 cap4 c5 c6 _ _ _ _ _ f.slots _ k b o _ _ _ w hk hm hao hb g2 g3 (Lib.hid fun W _ => blank_calls ao4 none a6 sl.length 0 m cap4 0 c6 21 0 xb xc xi nm W) KP KN).mono fun e w' hh => ⟨hh.1.trans (congrArg (fun t => Ending.returned (Value.int .i64 (errB t))) h.symm), hh.2⟩
    | 22, _, _ =>
      have h := doc_Place u f ⟨22, xa, xb, xc, sl, pa, xi, nm, m⟩ _ rfl rfl
      exact (refPlace_22 _ a2 a3 ao4 a5 a6 _ _ _ _ _ _ _ c2 c3 cap4 c5 c6 _ _ _ _ _ f.slots _ k b o _ _ _ w hk hm hao hb g2 g3 (Lib.hid fun W _ => blank_calls ao4 none a6 sl.length 0 m cap4 0 c6 22 0 xb xc xi nm W) KP KN).mono fun e w' hh => ⟨hh.1.trans (congrArg (fun t => Ending.returned (Value.int .i64 (errB t))) h.symm), hh.2⟩
    | 23, _, _ =>
      have h := doc_Place u f ⟨23, xa, xb, xc, sl, pa, xi, nm, m⟩ _ rfl rfl
      exact (refPlace_23 _ a2 a3 ao4 a5 a6 _ _ _ _ _ _ _ c2 c3 cap4 c5 c6 _ _ _ _ _ f.slots _ k b o _ _ _ w hk hm hao hb g2 g3 (Lib.hid fun W _ => blank_calls ao4 none a6 sl.length 0 m cap4 0 c6 23 0 xb xc xi nm W) KP KN).mono fun e w' hh => ⟨hh.1.trans (congrArg (fun t => Ending.returned (Value.int .i64 (errB t))) h.symm), hh.2⟩
    | 24, _, _ =>
      have h := doc_Place u f ⟨24, xa, xb, xc, sl, pa, xi, nm, m⟩ _ rfl rfl
      exact (refPlace_24 _ a2 a3 ao4 a5 a6 _ _ _ _ _ _ _ c2 c3 cap4 c5 c6 _ _ _ _ _ f.slots _ k b o _ _ _ w hk hm hao hb g2 g3 (Lib.hid fun W _ => blank_calls ao4 none a6 sl.length 0 m cap4 0 c6 24 0 xb xc xi nm W) KP KN).mono fun e w' hh => ⟨hh.1.trans (congrArg (fun t => Ending.returned (Value.int .i64 (errB t))) h.symm), hh.2⟩
    | 25, _, _ =>
      have h := doc_Place u f ⟨25, xa, xb, xc, sl, pa, xi, nm, m⟩ _ rfl rfl
      exact (refPlace_25 _ a2 a3 ao4 a5 a6 _ _ _ _ _ _ _ c2 c3 cap4 c5 c6 _ _ _ _ _ f.slots _ k b o _ _ _ w hk hm hao hb g2 g3 (Lib.hid fun W _ => blank_calls ao4 none a6 sl.length 0 m cap4 0 c6 25 0 xb xc xi nm W) KP KN).mono fun e w' hh => ⟨hh.1.trans (congrArg (fun t => Ending.returned (Value.int .i64 (errB t))) h.symm), hh.2⟩
    | 26, _, _ =>
      have h := doc_Place u f ⟨26, xa, xb, xc, sl, pa, xi, nm, m⟩ _ rfl rfl
      exact (refPlace_26 _ a2 a3 ao4 a5 a6 _ _ _ _ _ _ _ c2 c3 cap4 c5 c6 _ _ _ _ _ f.slots _ k b o _ _ _ w hk hm hao hb g2 g3 (Lib.hid fun W _ => blank_calls ao4 none a6 sl.length 0 m cap4 0 c6 26 0 xb xc xi nm W) KP KN).mono fun e w' hh => ⟨hh.1.trans (congrArg (fun t => Ending.returned (Value.int .i64 (errB t))) h.symm), hh.2⟩
    | 27, _, _ =>
      have h := doc_Chan u f ⟨27, xa, xb, xc, sl, pa, xi, nm, m⟩ _ rfl rfl
      exact (refChan_27 _ a2 a3 ao4 a5 a6 _ _ _ _ _ _ _ c2 c3 cap4 c5 c6 _ _ _ _ _ f.slots _ k b o _ _ _ w hk hm hao hb g2 g3 (Lib.hid fun W _ => blank_calls ao4 a5 a6 sl.length pa.length m cap4 c5 c6 27 xa xb xc 0 nm W) KP KN).mono fun e w' hh => ⟨hh.1.trans (congrArg (fun t => Ending.returned (Value.int .i64 (errB t))) h.symm), hh.2⟩
    | 28, _, _ =>
      have h := doc_Place u f ⟨28, xa, xb, xc, sl, pa, xi, nm, m⟩ _ rfl rfl
      exact (refPlace_28 _ a2 a3 ao4 a5 a6 _ _ _ _ _ _ _ c2 c3 cap4 c5 c6 _ _ _ _ _ f.slots _ k b o _ _ _ w hk hm hao hb g2 g3 (Lib.hid fun W _ => blank_calls ao4 none a6 sl.length 0 m cap4 0 c6 28 0 xb xc xi nm W) KP KN).mono fun e w' hh => ⟨hh.1.trans (congrArg (fun t => Ending.returned (Value.int .i64 (errB t))) h.symm), hh.2⟩
    | 29, _, _ =>
      have h := doc_Place u f ⟨29, xa, xb, xc, sl, pa, xi, nm, m⟩ _ rfl rfl
      exact (refPlace_29 _ a2 a3 ao4 a5 a6 _ _ _ _ _ _ _ c2 c3 cap4 c5 c6 _ _ _ _ _ f.slots _ k b o _ _ _ w hk hm hao hb g2 g3 (Lib.hid fun W _ => blank_calls ao4 none a6 sl.length 0 m cap4 0 c6 29 0 xb xc xi nm W) KP KN).mono fun e w' hh => ⟨hh.1.trans (congrArg (fun t => Ending.returned (Value.int .i64 (errB t))) h.symm), hh.2⟩
    | 30, _, _ =>
      have h := doc_Lock u f ⟨30, xa, xb, xc, sl, pa, xi, nm, m⟩ _ rfl rfl
      exact (refLock_30 _ a2 a3 ao4 a5 a6 _ _ _ _ _ _ _ c2 c3 cap4 c5 c6 _ _ _ _ _ f.slots _ k b o _ _ _ w hk hm hao hb g2 g3 (Lib.hid fun W _ => blank_calls ao4 none a6 sl.length 0 m cap4 0 c6 30 0 0 xc xi nm W) KP KN).mono fun e w' hh => ⟨hh.1.trans (congrArg (fun t => Ending.returned (Value.int .i64 (errB t))) h.symm), hh.2⟩
    | 31, _, _ =>
      have h := doc_None u f ⟨31, xa, xb, xc, sl, pa, xi, nm, m⟩ _ rfl rfl
      exact (refNone_31 _ a2 a3 ao4 a5 a6 _ _ _ _ _ _ _ c2 c3 cap4 c5 c6 _ _ _ _ _ f.slots _ k b o _ _ _ w hk hm hao hb g2 g3 (Lib.hid fun W _ => blank_calls ao4 a5 a6 sl.length pa.length m cap4 c5 c6 31 xa xb xc xi nm W) KP KN).mono fun e w' hh => ⟨hh.1.trans (congrArg (fun t => Ending.returned (Value.int .i64 (errB t))) h.symm), hh.2⟩
    | 32, _, _ =>
      have h := doc_None u f ⟨32, xa, xb, xc, sl, pa, xi, nm, m⟩ _ rfl rfl
      exact (refNone_32 _ a2 a3 ao4 a5 a6 _ _ _ _ _ _ _ c2 c3 cap4 c5 c6 _ _ _ _ _ f.slots _ k b o _ _ _ w hk hm hao hb g2 g3 (Lib.hid fun W _ => blank_calls ao4 a5 a6 sl.length pa.length m cap4 c5 c6 32 xa xb xc xi nm W) KP KN).mono fun e w' hh => ⟨hh.1.trans (congrArg (fun t => Ending.returned (Value.int .i64 (errB t))) h.symm), hh.2⟩
    | 33, _, _ =>
      have h := doc_Call u f ⟨33, xa, xb, xc, sl, pa, xi, nm, m⟩ _ rfl rfl
      exact (refCall_33 _ a2 a3 ao4 a5 a6 _ _ _ _ _ _ _ c2 c3 cap4 c5 c6 _ _ _ _ _ f.slots _ k b o _ _ _ w hk hm hao hb g2 g3 (paramsAt u xa) (hpp 0) (Lib.hid fun W _ => blank_calls ao4 a5 a6 sl.length pa.length m cap4 c5 c6 33 0 0 xc xi nm W) KP KN).mono fun e w' hh => ⟨hh.1.trans (congrArg (fun t => Ending.returned (Value.int .i64 (errB t))) h.symm), hh.2⟩
    | 34, _, _ =>
      have h := doc_None u f ⟨34, xa, xb, xc, sl, pa, xi, nm, m⟩ _ rfl rfl
      exact (refNone_34 _ a2 a3 ao4 a5 a6 _ _ _ _ _ _ _ c2 c3 cap4 c5 c6 _ _ _ _ _ f.slots _ k b o _ _ _ w hk hm hao hb g2 g3 (Lib.hid fun W _ => blank_calls ao4 a5 a6 sl.length pa.length m cap4 c5 c6 34 xa xb xc xi nm W) KP KN).mono fun e w' hh => ⟨hh.1.trans (congrArg (fun t => Ending.returned (Value.int .i64 (errB t))) h.symm), hh.2⟩
    | 0, h, _ => exact absurd h (by omega)
    | n + 35, _, h => exact absurd h (by omega)
theorem refInstr_calls (B : Nat) (u : UU) (vu : VU) (fn : Int) (x : JJ) (v : VJ) (w : World) (hB : B ≤ w.heap.size) (hu : u.In B w vu) (hx : x.In B w v) :
    Calls Tryd.prog 16 #[u.val vu, .int .i64 fn, x.val v] w fun e w' => e = .returned (.int .i64 (errB (instrB u fn x))) ∧ Below w.heap.size w w' := by
  by_cases h : 0 ≤ fn ∧ fn < u.funcs.length
  · obtain ⟨k, rfl⟩ : ∃ k : Nat, fn = k := ⟨fn.toNat, by omega⟩
    obtain ⟨f, hf, hfm⟩ := get_at (l := u.funcs) (k := k) (by omega)
    rw [instrB_in hf, ← docJ_eq]
    exact refIn_calls B u vu k f hf x v w hB hu hx
  · rw [instrB_out h]
    obtain ⟨a1, c1, a2, c2, rfl⟩ := hu.shape
    obtain ⟨a4, c4, a5, c5, a6, c6, rfl⟩ := hx.shape
    exact refOut a1 a2 a4 a5 a6 _ _ _ _ _ c1 c2 c4 c5 c6 _ _ _ _ _ _ _ _ w h
end Go.Proofs.YtlbdoomknjiilaaDoor
