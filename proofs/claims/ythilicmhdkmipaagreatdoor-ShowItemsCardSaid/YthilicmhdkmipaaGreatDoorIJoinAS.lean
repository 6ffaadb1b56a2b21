/- Items and programs as parts; tree.Whole, Depth, Size of a program. -/
import Derived.Test.YthilicmhdkmipaaGreatDoorIJoinAP
import Derived.Test.YthilicmhdkmipaaGreatDoorITreeItemHas2
import Derived.Test.YthilicmhdkmipaaGreatDoorITreeRefEA
import Derived.Test.YthilicmhdkmipaaGreatDoorITreeRefEB
import Derived.Test.YthilicmhdkmipaaGreatDoorITreeRefEC
import Derived.Test.YthilicmhdkmipaaGreatDoorIJoinAO
import Derived.Test.YthilicmhdkmipaaGreatDoorITreeGreat
namespace Go.Proofs.YthilicmhdkmipaaGreatDoor
open Go.RowKit Go.Shelf
set_option linter.unusedVariables false
attribute [local go_sem] Oper.semAt_some

set_option maxHeartbeats 1000000 in
theorem itemWeight_calls (a : Value) (hs : Sized) (w : World) : Calls Tryz.prog 261 #[.agg #[a]] w fun e w' => e = .returned (.int .i64 (1 : Nat)) ∧ Below w.heap.size w w' := by
  first
  | exact (show False from hs).elim
  | skip
    go_enter Tryz.func261, Tryz.ntmps261
    go_wp2
    go_ret
    exact ⟨rfl, alloc_below _ _⟩

set_option maxHeartbeats 1000000 in
theorem progWeight_calls (a : Value) (hs : Sized) (w : World) : Calls Tryz.prog 280 #[.agg #[a]] w fun e w' => e = .returned (.int .i64 (0 : Nat)) ∧ Below w.heap.size w w' := by
  first
  | exact (show False from hs).elim
  | skip
    go_enter Tryz.func280, Tryz.ntmps280
    go_wp2
    go_ret
    exact ⟨rfl, alloc_below _ _⟩

theorem partI_fits (v : Value) (w : World) : (method 410 281 v "weftway/tree.fits").run Tryz.prog w = .ok (259, v) w := by kernel_rfl
theorem partI_weight (v : Value) (h : Sized) (w : World) : (method 410 281 v "weftway/tree.weight").run Tryz.prog w = .ok (261, v) w := by first | exact (show False from h).elim | kernel_rfl
theorem partI_has (v : Value) (args : Array Value) (w : World) : (callMethod (.iface 281 v) "weftway/tree.has" args).run Tryz.prog w = .ok (.enter 260 (#[v] ++ args)) w := by kernel_rfl
theorem partI_ef (v : Value) (w : World) : (callFunc 259 #[v]).run Tryz.prog w = .ok (.enter 259 #[v]) w := by kernel_rfl
theorem partI_ew (v : Value) (h : Sized) (w : World) : (callFunc 261 #[v]).run Tryz.prog w = .ok (.enter 261 #[v]) w := by first | exact (show False from h).elim | kernel_rfl
theorem partP_fits (v : Value) (w : World) : (method 410 108 v "weftway/tree.fits").run Tryz.prog w = .ok (241, v) w := by kernel_rfl
theorem partP_weight (v : Value) (h : Sized) (w : World) : (method 410 108 v "weftway/tree.weight").run Tryz.prog w = .ok (280, v) w := by first | exact (show False from h).elim | kernel_rfl
theorem partP_has (v : Value) (args : Array Value) (w : World) : (callMethod (.iface 108 v) "weftway/tree.has" args).run Tryz.prog w = .ok (.enter 242 (#[v] ++ args)) w := by kernel_rfl
theorem partP_ef (v : Value) (w : World) : (callFunc 241 #[v]).run Tryz.prog w = .ok (.enter 241 #[v]) w := by kernel_rfl
theorem partP_ew (v : Value) (h : Sized) (w : World) : (callFunc 280 #[v]).run Tryz.prog w = .ok (.enter 280 #[v]) w := by first | exact (show False from h).elim | kernel_rfl
theorem allPS {B : Nat} {W0 : World} (hB : B ≤ W0.heap.size) (hm : MaxOk W0) {l : List PS} {v : Value} {b o : Nat} (s : SlV B v l.length b o) (r : PS.Row B W0 b o l) : AllP W0 (ptr1 301 b o 15 l.length) (rtSs l) := by
  rw [rtSs_map]
  refine AllP.ptr1 fun k x hk hx => ?_
  obtain ⟨_, ao, cap, _, hsl⟩ := s
  obtain ⟨_, hb1⟩ := hsl.resolve_left (by omega)
  obtain ⟨vx, cx, ix⟩ := PS.Row.get r hx
  exact partS hB hm x b (o + k * 15) vx (by omega) cx ix
theorem AllP.one {W0 : World} {v : Value} {t : RT} (h : Part W0 v t) : AllP W0 [v] [t] := by
  refine ⟨rfl, fun k v' t' hv ht => ?_⟩
  cases k with
  | zero =>
    obtain rfl := Option.some.inj hv
    obtain rfl := Option.some.inj ht
    exact h
  | succ k => simp at hv
/-- an item in memory is a part -/
theorem partI {B : Nat} {W0 : World} (hB : B ≤ W0.heap.size) (hm : MaxOk W0) (x : PI) (b o : Nat) (v : VI) (hb : b < W0.heap.size) (hc : CellsAt W0 b o (x.cells v)) (ht : x.In B W0 v) :
    Part W0 (.iface 281 (.agg #[.pointer (some ⟨b, o, none⟩)])) (rtI x) := by
  obtain ⟨a1, n1, c1, a2, n2, c2, a3, n3, c3, a4, n4, c4, a5, n5, c5, rfl⟩ := ht.shape
  obtain ⟨kd, nm, fs, ty, bo, ret, pos⟩ := x
  have ht0 := ht
  obtain ⟨⟨hu, _, _⟩, ⟨b1, o1, s1, r1⟩, hty, ⟨b3, o3, s3, r3⟩, hre⟩ := ht
  have hk := u8_lt hu
  obtain ⟨_, _, i1, i2⟩ := iSh_names kd
  have cs : PI.cells ⟨kd, nm, fs, ty, bo, ret, pos⟩ ⟨.slice a1 n1 c1, .slice a2 n2 c2, .slice a3 n3 c3, ⟨.slice a4 n4 c4, .slice a5 n5 c5⟩⟩ = [.int .u8 kd, .string nm, .slice a1 n1 c1, .int .u8 ty.kind, .string ty.name, .slice a2 n2 c2, .slice a3 n3 c3, .int .u8 ret.op, .int .i64 ret.int, .string ret.name, .string ret.second, .string ret.place.name, .slice a4 n4 c4, .slice a5 n5 c5, .int .i64 ret.pos, .int .i64 pos] := rfl
  rw [cs] at hc
  have all : AllP W0 (kvF b1 o1 (iSh kd).fields fs.length ++ (([.iface 155 (.agg #[.pointer (some ⟨b, o + 3, none⟩), .int .u8 ((iSh kd).rest : Nat)])] : List Value) ++ (ptr1 301 b3 o3 15 bo.length ++ ([.iface 160 (.agg #[.pointer (some ⟨b, o + 7, none⟩), .int .u8 ((iSh kd).rest : Nat)])] : List Value))))
      (fs.map (fun f => rtT f.type (iSh kd).fields) ++ ([rtT ty (iSh kd).rest] ++ (rtSs bo ++ [rtE ret (iSh kd).rest]))) := by
    refine AllP.append ⟨by rw [kvF_len, List.length_map], fun k v t hv hh => ?_⟩ ((AllP.one (partT hB hm ty _ b (o + 3) (.slice a2 n2 c2) i2 hb ?_ hty)).append ((allPS hB hm s3 r3).append (AllP.one (partE hB hm ret _ b (o + 7) ⟨.slice a4 n4 c4, .slice a5 n5 c5⟩ i2 hb ?_ hre))))
    · have hkk : k < fs.length := by have := (List.getElem?_eq_some_iff.1 hv).1; rwa [kvF_len] at this
      rw [kvF_get hkk] at hv
      obtain rfl := Option.some.inj hv
      rw [List.getElem?_map] at hh
      obtain ⟨f, hf, rfl⟩ := Option.map_eq_some_iff.1 hh
      obtain ⟨_, ao, cap, _, hsl⟩ := s1
      have hsl2 : fs.length = 0 ∨ (ao = some ⟨b1, o1, none⟩ ∧ b1 < B) := hsl
      obtain ⟨_, hb1⟩ := hsl2.resolve_left (by omega)
      obtain ⟨vx, cx, ix⟩ := PF.Row.get r1 hf
      refine partT hB hm f.type _ b1 (o1 + k * 4 + 1) vx i1 (by omega) ?_ ix.2
      intro i v hi
      rw [show o1 + k * 4 + 1 + i = o1 + k * 4 + (i + 1) from by omega]
      exact cx (i + 1) v (by rw [PF.cells, List.getElem?_cons_succ]; exact hi)
    · intro i v hi
      rcases i with _ | _ | _ | i <;> simp [PT.cells] at hi <;> subst hi
      · exact hc 3 _ rfl
      · exact hc 4 _ rfl
      · exact hc 5 _ rfl
    · intro i v hi
      rcases i with _ | _ | _ | _ | _ | _ | _ | _ | i <;> simp [PE.cells] at hi <;> subst hi
      · exact hc 7 _ rfl
      · exact hc 8 _ rfl
      · exact hc 9 _ rfl
      · exact hc 10 _ rfl
      · exact hc 11 _ rfl
      · exact hc 12 _ rfl
      · exact hc 13 _ rfl
      · exact hc 14 _ rfl
  exact Part.mk 281 _ 259 260 261 _ _ _ _ (partI_fits _) (fun a w => partI_has _ a w) (partI_weight _) (partI_ef _) (partI_ew _)
    (fun W h => itemFits_calls B kd nm fs ty bo ret pos a1 a2 a3 a4 a5 n1 n2 n3 n4 n5 c1 c2 c3 c4 c5 b o W (by have := h.size; omega) (hm.below h) (by have := h.size; omega) (hc.below hb h) (PI.In.below (h.mono hB) ht0))
    (fun hs W h => itemWeight_calls _ hs W)
    (fun lo W g1 g2 g3 => itemHas_hands B lo kd nm fs ty bo ret pos a1 a2 a3 a4 a5 n1 n2 n3 n4 n5 c1 c2 c3 c4 c5 b o W hk (by omega) g2 (by omega) (hc.below hb g3) b1 o1 b3 o3 s1 s3)
    all.1 all.2
/-- a program in memory, its Items' slice in a cell, is a part -/
theorem partP {B : Nat} {W0 : World} (hB : B ≤ W0.heap.size) (hm : MaxOk W0) (p : List PI) (ao : Option Addr) (n c b : Nat) (hb : b < W0.heap.size) (hc : W0.cell? ⟨b, 0, none⟩ = some (.slice ao n c)) (hp : ProgIn B W0 p (.slice ao n c)) :
    Part W0 (.iface 108 (.agg #[.pointer (some ⟨b, 0, none⟩)])) (rtP p) := by
  obtain ⟨b1, o1, s1, r1⟩ := hp
  obtain rfl : n = p.length := s1.len
  have all : AllP W0 (ptr1 281 b1 o1 16 p.length) (p.map rtI) := by
    refine AllP.ptr1 fun k x hk hx => ?_
    obtain ⟨_, _, _, _, hsl⟩ := s1
    obtain ⟨_, hb1⟩ := hsl.resolve_left (by omega)
    obtain ⟨vx, cx, ix⟩ := PI.Row.get r1 hx
    exact partI hB hm x b1 (o1 + k * 16) vx (by omega) cx ix
  exact Part.mk 108 _ 241 242 280 _ _ _ _ (partP_fits _) (fun a w => partP_has _ a w) (partP_weight _) (partP_ef _) (partP_ew _)
    (fun W h => progFits_calls ao p.length c b W (by have := h.size; omega) ((h.cell (p := ⟨b, 0, none⟩) hb).trans hc))
    (fun hs W h => progWeight_calls _ hs W)
    (fun lo W g1 g2 g3 => progHas_hands B lo p.length b1 o1 ao c b W (by omega) g2 (by omega) ((g3.cell (p := ⟨b, 0, none⟩) hb).trans hc) s1)
    all.1 all.2

/-! ### of a program, at the top -/
theorem partTop {B : Nat} {w : World} (hB : B ≤ w.heap.size) (hm : MaxOk w) (p : List PI) (ao : Option Addr) (n c : Nat) (hp : ProgIn B w p (.slice ao n c)) :
    Part (w.alloc (.cells #[.slice ao n c] 24)) (.iface 108 (.agg #[.pointer (some ⟨w.heap.size, 0, none⟩)])) (rtP p) := by
  refine partP (B := B) (by simp; omega) (hm.alloc _) p ao n c _ (by simp) (by go_simp) ?_
  obtain ⟨b, o, s, r⟩ := hp
  exact ⟨b, o, s, PI.Row.below' ((box1 w _).mono hB) s r⟩
set_option maxHeartbeats 1000000 in
theorem topWhole_calls (B : Nat) (p : List PI) (ao : Option Addr) (n c : Nat) (w : World) (hB : B ≤ w.heap.size) (hm : MaxOk w) (hp : ProgIn B w p (.slice ao n c)) :
    Calls Tryz.prog 29 #[.agg #[.slice ao n c]] w fun e w' => e = .returned (.bool (wholeR 40 (rtP p))) ∧ Below w.heap.size w w' := by
  have C := Lib.hid (wholeR_calls _ 40 (by omega) _ _ _ (partTop hB hm p ao n c hp) (Below.refl _ _))
  clear hp hm
  generalize wholeR 40 (rtP p) = q at *
  go_enter Tryz.func29, Tryz.ntmps29
  go_wp2_with fail
  refine C.out.mono ?_; rintro e w1 ⟨rfl, b1⟩
  go_wp2
  go_ret
  exact ⟨rfl, up_tr (box1 w _) b1⟩
end Go.Proofs.YthilicmhdkmipaaGreatDoor
/- The document's own way of saying what is whole: expressions (made by gen_refW4.py). -/
namespace Go.Proofs.YthilicmhdkmipaaGreatDoor
open Go.RowKit
set_option linter.unusedVariables false

end Go.Proofs.YthilicmhdkmipaaGreatDoor
/- TreeParts: the walk. -/
namespace Go.Proofs.YthilicmhdkmipaaGreatDoor
open Go.RowKit
set_option linter.unusedVariables false

theorem cellsAt_new (w : World) (cs : List Value) (T : TypeId) : CellsAt (w.alloc (.cells cs.toArray T)) w.heap.size 0 cs := fun i v h => by
  rw [Nat.zero_add, World.cell?_alloc_at (hn := rfl)]
  simpa using h
set_option maxHeartbeats 1000000 in
theorem topWholeT_calls (B : Nat) (t : PT) (p : Option Addr) (n q : Nat) (w : World) (hB : B ≤ w.heap.size) (hm : MaxOk w) (ht : t.In B w (.slice p n q)) :
    Calls Tryz.prog 65 #[.agg #[.int .u8 t.kind, .string t.name, .slice p n q]] w fun e w' => e = .returned (.bool (rT 40 t)) ∧ Below w.heap.size w w' := by
  have C : Hid (Calls Tryz.prog 74 #[.iface 155 (.agg #[.pointer (some ⟨w.heap.size, 0, none⟩), .int .u8 0]), .int .i64 40] (w.alloc (.cells #[.int .u8 t.kind, .string t.name, .slice p n q] 31))
      fun e w' => e = .returned (.bool (rT 40 t)) ∧ Below (w.alloc (.cells #[.int .u8 t.kind, .string t.name, .slice p n q] 31)).heap.size (w.alloc (.cells #[.int .u8 t.kind, .string t.name, .slice p n q] 31)) w') := by
    have h := wholeT_calls 40 (by omega) B t 0 w.heap.size 0 (.slice p n q) (w.alloc (.cells #[.int .u8 t.kind, .string t.name, .slice p n q] 31)) (by omega) (by simp; omega) (hm.alloc _) (by simp)
      (cellsAt_new w _ _) (PT.In.below ((box1 w _).mono hB) ht)
    rw [wholeT_eq] at h
    exact Lib.hid h
  generalize rT 40 t = res at *
  go_enter Tryz.func65, Tryz.ntmps65
  go_wp2_with fail
  refine C.out.mono ?_; rintro e w1 ⟨rfl, b1⟩
  have bel1 := Lib.hid (up_tr (box1 _ _) b1)
  clear b1 C
  go_wp2
  go_ret
  exact ⟨rfl, bel1.out⟩
set_option maxHeartbeats 1000000 in
theorem topWholeE_calls (B : Nat) (op iv : Int) (nm sc : ByteArray) (pl : PP) (es : List PE) (ps : Int) (p0 : Option Addr) (n0 q0 : Nat) (p1 : Option Addr) (n1 q1 : Nat) (w : World) (hB : B ≤ w.heap.size) (hm : MaxOk w)
    (he : PE.In B w (.mk op iv nm sc pl es ps) ⟨.slice p0 n0 q0, .slice p1 n1 q1⟩) :
    Calls Tryz.prog 68 #[.agg #[.int .u8 op, .int .i64 iv, .string nm, .string sc, .string pl.name, .slice p0 n0 q0, .slice p1 n1 q1, .int .i64 ps]] w fun e w' => e = .returned (.bool (!lentB (.mk op iv nm sc pl es ps) && rE 40 (.mk op iv nm sc pl es ps))) ∧ Below w.heap.size w w' := by
  have C : Hid (Calls Tryz.prog 74 #[.iface 160 (.agg #[.pointer (some ⟨w.heap.size, 0, none⟩), .int .u8 0]), .int .i64 40] (w.alloc (.cells #[.int .u8 op, .int .i64 iv, .string nm, .string sc, .string pl.name, .slice p0 n0 q0, .slice p1 n1 q1, .int .i64 ps] 37))
      fun e w' => e = .returned (.bool (!lentB (.mk op iv nm sc pl es ps) && rE 40 (.mk op iv nm sc pl es ps))) ∧ Below (w.alloc (.cells #[.int .u8 op, .int .i64 iv, .string nm, .string sc, .string pl.name, .slice p0 n0 q0, .slice p1 n1 q1, .int .i64 ps] 37)).heap.size (w.alloc (.cells #[.int .u8 op, .int .i64 iv, .string nm, .string sc, .string pl.name, .slice p0 n0 q0, .slice p1 n1 q1, .int .i64 ps] 37)) w') := by
    have hin := PE.In.below ((box1 w (.cells #[.int .u8 op, .int .i64 iv, .string nm, .string sc, .string pl.name, .slice p0 n0 q0, .slice p1 n1 q1, .int .i64 ps] 37)).mono hB) he
    have h := wholeE_calls 40 (by omega) B (.mk op iv nm sc pl es ps) 0 w.heap.size 0 ⟨.slice p0 n0 q0, .slice p1 n1 q1⟩ (w.alloc (.cells #[.int .u8 op, .int .i64 iv, .string nm, .string sc, .string pl.name, .slice p0 n0 q0, .slice p1 n1 q1, .int .i64 ps] 37)) (by omega) (by simp; omega) (hm.alloc _) (by simp)
      (cellsAt_new w _ _) hin
    rw [wholeE_eq 40 _ _ 0 hin (by omega), show decide (0 = 1) = false from rfl, Bool.or_false] at h
    exact Lib.hid h
  generalize (!lentB (.mk op iv nm sc pl es ps) && rE 40 (.mk op iv nm sc pl es ps)) = res at *
  go_enter Tryz.func68, Tryz.ntmps68
  go_wp2_with fail
  refine C.out.mono ?_; rintro e w1 ⟨rfl, b1⟩
  have bel1 := Lib.hid (up_tr (box1 _ _) b1)
  clear b1 C
  go_wp2
  go_ret
  exact ⟨rfl, bel1.out⟩
set_option maxHeartbeats 1000000 in
theorem topWholeP_calls (B : Nat) (x : PP) (p : Option Addr) (n q : Nat) (w : World) (hB : B ≤ w.heap.size) (hm : MaxOk w) (hx : x.In B w (.slice p n q)) :
    Calls Tryz.prog 71 #[.agg #[.string x.name, .slice p n q]] w fun e w' => e = .returned (.bool (plB x)) ∧ Below w.heap.size w w' := by
  have C : Hid (∀ w', Below w.heap.size w w' → Calls Tryz.prog 108 #[.agg #[.string x.name, .slice p n q]] w' fun e w'' => e = .returned (.bool (plB x)) ∧ Below w'.heap.size w' w'') :=
    Lib.hid fun w' hw => isPlace_calls B x _ w' (by have := hw.size; omega) (hm.below hw) (hx.below (hw.mono hB))
  generalize plB x = res at *
  go_enter Tryz.func71, Tryz.ntmps71
  go_wp2_with fail
  refine (C.out _ (box1 _ _)).mono ?_; rintro e w1 ⟨rfl, b1⟩
  have bel1 := Lib.hid (up_tr (box1 _ _) b1)
  clear b1 C
  go_wp2
  go_ret
  exact ⟨rfl, bel1.out⟩

end Go.Proofs.YthilicmhdkmipaaGreatDoor
/- awake, first part: the program of the chapter's example in memory; small. -/
namespace Go.Proofs.YthilicmhdkmipaaGreatDoor
open Go.RowKit Go.Shelf
set_option linter.unusedVariables false

def smallI (pos : Int) : PI := ⟨3, ⟨#[109, 97, 105, 110]⟩, [], .mk 1 ByteArray.empty [], [], .mk 1 0 ByteArray.empty ByteArray.empty ⟨ByteArray.empty, []⟩ [] 0, pos⟩
def smallCells (pos : Int) : List Value := [.int .u8 3, .string ⟨#[109, 97, 105, 110]⟩, .slice none 0 0, .int .u8 1, .string ByteArray.empty, .slice none 0 0, .slice none 0 0, .int .u8 1, .int .i64 0, .string ByteArray.empty, .string ByteArray.empty, .string ByteArray.empty, .slice none 0 0, .slice none 0 0, .int .i64 0, .int .i64 pos]
theorem nil_sl (B : Nat) : SlV B (.slice none 0 0) 0 0 0 := ⟨by unfold maxLen; simp, none, 0, rfl, .inl rfl⟩
theorem small_in {B g : Nat} {W : World} {pos : Int} (hp : I64 pos) (hg : g < B) (hc : CellsAt W g 0 (smallCells pos)) : ProgIn B W [smallI pos] (.slice (some ⟨g, 0, none⟩) 1 1) := by
  refine ⟨g, 0, ⟨by unfold maxLen; simp, _, 1, rfl, .inr ⟨rfl, hg⟩⟩, ⟨⟨.slice none 0 0, .slice none 0 0, .slice none 0 0, ⟨.slice none 0 0, .slice none 0 0⟩⟩, hc, ?_⟩, trivial⟩
  refine ⟨⟨(by unfold U8; decide : U8 3), hp, by simp [smallI, ByteArray.size]; unfold maxLen; omega⟩, ⟨0, 0, nil_sl B, trivial⟩, ?_, ⟨0, 0, nil_sl B, trivial⟩, ?_⟩
  · exact ⟨⟨by unfold U8; decide, by decide⟩, 0, 0, nil_sl B, trivial⟩
  · exact ⟨⟨by unfold U8; decide, by unfold I64; decide, by unfold I64; decide, by decide, by decide⟩, ⟨by decide, 0, 0, nil_sl B, trivial⟩, 0, 0, nil_sl B, trivial⟩
end Go.Proofs.YthilicmhdkmipaaGreatDoor
