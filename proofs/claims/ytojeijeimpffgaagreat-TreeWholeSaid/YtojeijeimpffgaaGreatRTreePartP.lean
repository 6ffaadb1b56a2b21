/- Items and programs as parts; tree.Whole, Depth, Size of a program. -/
import Derived.Test.YtojeijeimpffgaaGreatRTreePartS
import Derived.Test.YtojeijeimpffgaaGreatRTreeItemHas2
namespace Go.Proofs.YtojeijeimpffgaaGreat
open Go.RowKit Go.Shelf
set_option linter.unusedVariables false
attribute [local go_sem] Oper.semAt_some

set_option maxHeartbeats 1000000 in
theorem itemWeight_calls (a : Value) (w : World) : Calls Tryz.prog 176 #[.agg #[a]] w fun e w' => e = .returned (.int .i64 (1 : Nat)) ∧ Below w.heap.size w w' := by
  go_enter Tryz.func176, Tryz.ntmps176
  go_wp2
  go_ret
  exact ⟨rfl, alloc_below _ _⟩
set_option maxHeartbeats 1000000 in
theorem progWeight_calls (a : Value) (w : World) : Calls Tryz.prog 155 #[.agg #[a]] w fun e w' => e = .returned (.int .i64 (0 : Nat)) ∧ Below w.heap.size w w' := by
  go_enter Tryz.func155, Tryz.ntmps155
  go_wp2
  go_ret
  exact ⟨rfl, alloc_below _ _⟩
theorem partI_fits (v : Value) (w : World) : (method 311 181 v "weftway/tree.fits").run Tryz.prog w = .ok (174, v) w := by kernel_rfl
theorem partI_weight (v : Value) (w : World) : (method 311 181 v "weftway/tree.weight").run Tryz.prog w = .ok (176, v) w := by kernel_rfl
theorem partI_has (v : Value) (args : Array Value) (w : World) : (callMethod (.iface 181 v) "weftway/tree.has" args).run Tryz.prog w = .ok (.enter 175 (#[v] ++ args)) w := by kernel_rfl
theorem partI_ef (v : Value) (w : World) : (callFunc 174 #[v]).run Tryz.prog w = .ok (.enter 174 #[v]) w := by kernel_rfl
theorem partI_ew (v : Value) (w : World) : (callFunc 176 #[v]).run Tryz.prog w = .ok (.enter 176 #[v]) w := by kernel_rfl
theorem partP_fits (v : Value) (w : World) : (method 311 60 v "weftway/tree.fits").run Tryz.prog w = .ok (153, v) w := by kernel_rfl
theorem partP_weight (v : Value) (w : World) : (method 311 60 v "weftway/tree.weight").run Tryz.prog w = .ok (155, v) w := by kernel_rfl
theorem partP_has (v : Value) (args : Array Value) (w : World) : (callMethod (.iface 60 v) "weftway/tree.has" args).run Tryz.prog w = .ok (.enter 154 (#[v] ++ args)) w := by kernel_rfl
theorem partP_ef (v : Value) (w : World) : (callFunc 153 #[v]).run Tryz.prog w = .ok (.enter 153 #[v]) w := by kernel_rfl
theorem partP_ew (v : Value) (w : World) : (callFunc 155 #[v]).run Tryz.prog w = .ok (.enter 155 #[v]) w := by kernel_rfl
theorem allPS {B : Nat} {W0 : World} (hB : B ≤ W0.heap.size) (hm : MaxOk W0) {l : List PS} {v : Value} {b o : Nat} (s : SlV B v l.length b o) (r : PS.Row B W0 b o l) : AllP W0 (ptr1 202 b o 15 l.length) (rtSs l) := by
  rw [rtSs_map]
  refine AllP.ptr1 fun k x hk hx => ?_
  obtain ⟨_, ao, cap, _, hsl⟩ := s
  obtain ⟨_, hb1⟩ := hsl.resolve_left (by omega)
  obtain ⟨vx, cx, ix⟩ := PS.Row.get r hx
  exact partS hB hm x b (o + k * 15) vx (by omega) cx ix
theorem AllP.one {W0 : World} {v : Value} {t : RT} (h : Part W0 v t) : AllP W0 [v] [t] := by
  refine ⟨rfl, fun k v' t' hv ht => ?_⟩
  cases k with
  | zero =>
    obtain rfl := Option.some.inj hv
    obtain rfl := Option.some.inj ht
    exact h
  | succ k => simp at hv
/-- an item in memory is a part -/
theorem partI {B : Nat} {W0 : World} (hB : B ≤ W0.heap.size) (hm : MaxOk W0) (x : PI) (b o : Nat) (v : VI) (hb : b < W0.heap.size) (hc : CellsAt W0 b o (x.cells v)) (ht : x.In B W0 v) :
    Part W0 (.iface 181 (.agg #[.pointer (some ⟨b, o, none⟩)])) (rtI x) := by
  obtain ⟨a1, n1, c1, a2, n2, c2, a3, n3, c3, a4, n4, c4, a5, n5, c5, rfl⟩ := ht.shape
  obtain ⟨kd, nm, fs, ty, bo, ret, pos⟩ := x
  have ht0 := ht
  obtain ⟨⟨hu, _, _⟩, ⟨b1, o1, s1, r1⟩, hty, ⟨b3, o3, s3, r3⟩, hre⟩ := ht
  have hk := u8_lt hu
  obtain ⟨_, _, i1, i2⟩ := iSh_names kd
  have cs : PI.cells ⟨kd, nm, fs, ty, bo, ret, pos⟩ ⟨.slice a1 n1 c1, .slice a2 n2 c2, .slice a3 n3 c3, ⟨.slice a4 n4 c4, .slice a5 n5 c5⟩⟩ = [.int .u8 kd, .string nm, .slice a1 n1 c1, .int .u8 ty.kind, .string ty.name, .slice a2 n2 c2, .slice a3 n3 c3, .int .u8 ret.op, .int .i64 ret.int, .string ret.name, .string ret.second, .string ret.place.name, .slice a4 n4 c4, .slice a5 n5 c5, .int .i64 ret.pos, .int .i64 pos] := rfl
  rw [cs] at hc
  have all : AllP W0 (kvF b1 o1 (iSh kd).fields fs.length ++ (([.iface 111 (.agg #[.pointer (some ⟨b, o + 3, none⟩), .int .u8 ((iSh kd).rest : Nat)])] : List Value) ++ (ptr1 202 b3 o3 15 bo.length ++ ([.iface 114 (.agg #[.pointer (some ⟨b, o + 7, none⟩), .int .u8 ((iSh kd).rest : Nat)])] : List Value))))
      (fs.map (fun f => rtT f.type (iSh kd).fields) ++ ([rtT ty (iSh kd).rest] ++ (rtSs bo ++ [rtE ret (iSh kd).rest]))) := by
    refine AllP.append ⟨by rw [kvF_len, List.length_map], fun k v t hv hh => ?_⟩ ((AllP.one (partT hB hm ty _ b (o + 3) (.slice a2 n2 c2) i2 hb ?_ hty)).append ((allPS hB hm s3 r3).append (AllP.one (partE hB hm ret _ b (o + 7) ⟨.slice a4 n4 c4, .slice a5 n5 c5⟩ i2 hb ?_ hre))))
    · have hkk : k < fs.length := by have := (List.getElem?_eq_some_iff.1 hv).1; rwa [kvF_len] at this
      rw [kvF_get hkk] at hv
      obtain rfl := Option.some.inj hv
      rw [List.getElem?_map] at hh
      obtain ⟨f, hf, rfl⟩ := Option.map_eq_some_iff.1 hh
      obtain ⟨_, ao, cap, _, hsl⟩ := s1
      have hsl2 : fs.length = 0 ∨ (ao = some ⟨b1, o1, none⟩ ∧ b1 < B) := hsl
      obtain ⟨_, hb1⟩ := hsl2.resolve_left (by omega)
      obtain ⟨vx, cx, ix⟩ := PF.Row.get r1 hf
      refine partT hB hm f.type _ b1 (o1 + k * 4 + 1) vx i1 (by omega) ?_ ix.2
      intro i v hi
      rw [show o1 + k * 4 + 1 + i = o1 + k * 4 + (i + 1) from by omega]
      exact cx (i + 1) v (by rw [PF.cells, List.getElem?_cons_succ]; exact hi)
    · intro i v hi
      rcases i with _ | _ | _ | i <;> simp [PT.cells] at hi <;> subst hi
      · exact hc 3 _ rfl
      · exact hc 4 _ rfl
      · exact hc 5 _ rfl
    · intro i v hi
      rcases i with _ | _ | _ | _ | _ | _ | _ | _ | i <;> simp [PE.cells] at hi <;> subst hi
      · exact hc 7 _ rfl
      · exact hc 8 _ rfl
      · exact hc 9 _ rfl
      · exact hc 10 _ rfl
      · exact hc 11 _ rfl
      · exact hc 12 _ rfl
      · exact hc 13 _ rfl
      · exact hc 14 _ rfl
  exact Part.mk 181 _ 174 175 176 _ _ _ _ (partI_fits _) (fun a w => partI_has _ a w) (partI_weight _) (partI_ef _) (partI_ew _)
    (fun W h => itemFits_calls B kd nm fs ty bo ret pos a1 a2 a3 a4 a5 n1 n2 n3 n4 n5 c1 c2 c3 c4 c5 b o W (by have := h.size; omega) (hm.below h) (by have := h.size; omega) (hc.below hb h) (PI.In.below (h.mono hB) ht0))
    (fun W h => itemWeight_calls _ W)
    (fun lo W g1 g2 g3 => itemHas_hands B lo kd nm fs ty bo ret pos a1 a2 a3 a4 a5 n1 n2 n3 n4 n5 c1 c2 c3 c4 c5 b o W hk (by omega) g2 (by omega) (hc.below hb g3) b1 o1 b3 o3 s1 s3)
    all.1 all.2
/-- a program in memory, its Items' slice in a cell, is a part -/
theorem partP {B : Nat} {W0 : World} (hB : B ≤ W0.heap.size) (hm : MaxOk W0) (p : List PI) (ao : Option Addr) (n c b : Nat) (hb : b < W0.heap.size) (hc : W0.cell? ⟨b, 0, none⟩ = some (.slice ao n c)) (hp : ProgIn B W0 p (.slice ao n c)) :
    Part W0 (.iface 60 (.agg #[.pointer (some ⟨b, 0, none⟩)])) (rtP p) := by
  obtain ⟨b1, o1, s1, r1⟩ := hp
  obtain rfl : n = p.length := s1.len
  have all : AllP W0 (ptr1 181 b1 o1 16 p.length) (p.map rtI) := by
    refine AllP.ptr1 fun k x hk hx => ?_
    obtain ⟨_, _, _, _, hsl⟩ := s1
    obtain ⟨_, hb1⟩ := hsl.resolve_left (by omega)
    obtain ⟨vx, cx, ix⟩ := PI.Row.get r1 hx
    exact partI hB hm x b1 (o1 + k * 16) vx (by omega) cx ix
  exact Part.mk 60 _ 153 154 155 _ _ _ _ (partP_fits _) (fun a w => partP_has _ a w) (partP_weight _) (partP_ef _) (partP_ew _)
    (fun W h => progFits_calls ao p.length c b W (by have := h.size; omega) ((h.cell (p := ⟨b, 0, none⟩) hb).trans hc))
    (fun W h => progWeight_calls _ W)
    (fun lo W g1 g2 g3 => progHas_hands B lo p.length b1 o1 ao c b W (by omega) g2 (by omega) ((g3.cell (p := ⟨b, 0, none⟩) hb).trans hc) s1)
    all.1 all.2

/-! ### of a program, at the top -/
theorem partTop {B : Nat} {w : World} (hB : B ≤ w.heap.size) (hm : MaxOk w) (p : List PI) (ao : Option Addr) (n c : Nat) (hp : ProgIn B w p (.slice ao n c)) :
    Part (w.alloc (.cells #[.slice ao n c] 24)) (.iface 60 (.agg #[.pointer (some ⟨w.heap.size, 0, none⟩)])) (rtP p) := by
  refine partP (B := B) (by simp; omega) (hm.alloc _) p ao n c _ (by simp) (by go_simp) ?_
  obtain ⟨b, o, s, r⟩ := hp
  exact ⟨b, o, s, PI.Row.below' ((box1 w _).mono hB) s r⟩
set_option maxHeartbeats 1000000 in
theorem topWhole_calls (B : Nat) (p : List PI) (ao : Option Addr) (n c : Nat) (w : World) (hB : B ≤ w.heap.size) (hm : MaxOk w) (hp : ProgIn B w p (.slice ao n c)) :
    Calls Tryz.prog 7 #[.agg #[.slice ao n c]] w fun e w' => e = .returned (.bool (wholeR 40 (rtP p))) ∧ Below w.heap.size w w' := by
  have C := Lib.hid (wholeR_calls _ 40 (by omega) _ _ _ (partTop hB hm p ao n c hp) (Below.refl _ _))
  clear hp hm
  generalize wholeR 40 (rtP p) = q at *
  go_enter Tryz.func7, Tryz.ntmps7
  go_wp2_with fail
  refine C.out.mono ?_; rintro e w1 ⟨rfl, b1⟩
  go_wp2
  go_ret
  exact ⟨rfl, up_tr (box1 w _) b1⟩
set_option maxHeartbeats 1000000 in
theorem topDepth_calls (B : Nat) (p : List PI) (ao : Option Addr) (n c : Nat) (w : World) (hB : B ≤ w.heap.size) (hm : MaxOk w) (hp : ProgIn B w p (.slice ao n c)) (hd : depthR (rtP p) ≤ 1000000) :
    Calls Tryz.prog 9 #[.agg #[.slice ao n c]] w fun e w' => e = .returned (.int .i64 (depthR (rtP p) : Nat)) ∧ Below w.heap.size w w' := by
  have C := Lib.hid (depthR_calls (partTop hB hm p ao n c hp) _ (Below.refl _ _) hd)
  clear hp hm
  generalize depthR (rtP p) = q at *
  go_enter Tryz.func9, Tryz.ntmps9
  go_wp2_with fail
  refine C.out.mono ?_; rintro e w1 ⟨rfl, b1⟩
  go_wp2
  go_ret
  exact ⟨rfl, up_tr (box1 w _) b1⟩
set_option maxHeartbeats 1000000 in
theorem topSize_calls (B : Nat) (p : List PI) (ao : Option Addr) (n c : Nat) (w : World) (hB : B ≤ w.heap.size) (hm : MaxOk w) (hp : ProgIn B w p (.slice ao n c)) (hd : sizeR (rtP p) ≤ 1000000) :
    Calls Tryz.prog 11 #[.agg #[.slice ao n c]] w fun e w' => e = .returned (.int .i64 (sizeR (rtP p) : Nat)) ∧ Below w.heap.size w w' := by
  have C := Lib.hid (sizeR_calls (partTop hB hm p ao n c hp) _ (Below.refl _ _) hd)
  clear hp hm
  generalize sizeR (rtP p) = q at *
  go_enter Tryz.func11, Tryz.ntmps11
  go_wp2_with fail
  refine C.out.mono ?_; rintro e w1 ⟨rfl, b1⟩
  go_wp2
  go_ret
  exact ⟨rfl, up_tr (box1 w _) b1⟩
end Go.Proofs.YtojeijeimpffgaaGreat

