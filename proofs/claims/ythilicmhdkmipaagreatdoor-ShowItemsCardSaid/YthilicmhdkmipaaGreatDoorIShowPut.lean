/- The writer's own: tokens, lists with commas between, a line's end. -/
import Derived.Test.YthilicmhdkmipaaGreatDoorIShowWriter
import Derived.Deep.Cut
import Derived.Deep.CutRange
import Derived.StillTailTactics
namespace Go.Proofs.YthilicmhdkmipaaGreatDoor
open Go.RowKit
set_option linter.unusedVariables false

/-- from a text T0, with G0 ahead of the next token, the tokens ts were written -/
def AtW (B R : Nat) (T0 G0 : TkB) (ts : List TkB) (w : World) : Prop := IsW B R (T0 ++ puts G0 ts) ⟨(gapA G0 ts).toArray⟩ w
/-- the text isn't too long -/
def Lim (T0 G0 : TkB) (ts : List TkB) : Prop := (T0 ++ puts G0 ts).length ≤ 1000000000
theorem puts_len (g : TkB) (a b : List TkB) : (puts g a).length ≤ (puts g (a ++ b)).length := by rw [puts_append, List.length_append]; omega
theorem Lim.less {T0 G0 : TkB} {a b : List TkB} (h : Lim T0 G0 (a ++ b)) : Lim T0 G0 a := by
  unfold Lim at *
  have := puts_len G0 a b
  rw [List.length_append] at *
  omega
theorem AtW.stays {B R : Nat} {T0 G0 : TkB} {ts : List TkB} {w w' : World} (h : AtW B R T0 G0 ts w) (k : Below w.heap.size w w') : AtW B R T0 G0 ts w' := IsW.stays h k
theorem AtW.lt {B R : Nat} {T0 G0 : TkB} {ts : List TkB} {w : World} (h : AtW B R T0 G0 ts w) : R < w.heap.size := IsW.lt h
/-- the gap's cell -/
theorem IsW.gap {B R : Nat} {T : TkB} {g : ByteArray} {w : World} (h : IsW B R T g w) : w.cell? ⟨R, 2, none⟩ = some (.string g) ∧ w.frozen? ⟨R, 2, none⟩ = false := by
  obtain ⟨_, p, v, _, hb, _⟩ := h
  exact ⟨by rw [Lib.cell_of_heap hb]; rfl, Lib.frozen_of_heap hb 2⟩
theorem IsW.setGap {B R : Nat} {T : TkB} {g g' : ByteArray} {w : World} (h : IsW B R T g w) : IsW B R T g' (w.setCell ⟨R, 2, none⟩ (.string g')) ∧ WBut B R w (w.setCell ⟨R, 2, none⟩ (.string g')) := by
  obtain ⟨hB, p, v, hp, hb, ho⟩ := h
  have hne := IsW.owner hb ho
  refine ⟨⟨hB, p, v, hp, heap_setCell_same w R 2 _ _ _ hb, ho.kept (row := some R) ⟨rfl, rfl, rfl, by simp, fun j _ hn => Below.heap_setCell _ _ _ _ (fun e => hn (by simpa using e))⟩ (by
    right; intro e; exact hne (by simpa using e))⟩, (Below.refl B w).setCell (p := ⟨R, 2, none⟩) hB _, by simp, fun b _ h2 _ => Below.heap_setCell _ _ _ _ (by simpa using h2)⟩
theorem kT_mk (l : TkB) : kT ⟨l.toArray⟩ = l := by unfold kT; simp
/-- one token more -/
theorem puts_one (T0 G0 : TkB) (ts : List TkB) (t : TkB) : T0 ++ puts G0 (ts ++ [t]) = T0 ++ puts G0 ts ++ gapA G0 ts ++ t := by
  rw [puts_append, puts, puts]; simp
theorem gapA_one (G0 : TkB) (ts : List TkB) (t : TkB) : gapA G0 (ts ++ [t]) = [32] := by
  rw [gapA_append]; rfl
set_option maxRecDepth 100000 in
set_option maxHeartbeats 2000000 in
theorem put_calls (B R : Nat) (toks : List ByteArray) (S o cap : Nat) (T0 G0 : TkB) (ts : List TkB) (w : World) (hB : B ≤ w.heap.size) (hn : toks.length ≤ 1000000) (hA : AtW B R T0 G0 ts w) (hS : Safe R w S) (hr : NRow w S o toks) (hL : Lim T0 G0 (ts ++ toks.map kT)) :
    Calls Tryz.prog 98 #[.pointer (some ⟨R, 0, none⟩), .slice (some ⟨S, o, none⟩) toks.length cap] w fun e w' => e = .returned (.tuple #[]) ∧ AtW B R T0 G0 (ts ++ toks.map kT) w' ∧ WBut B R w w' := by
  obtain ⟨n, hx⟩ : ∃ n, n = toks.length := ⟨_, rfl⟩
  rw [← hx] at hn ⊢
  have Hx := Lib.hid hx
  have HR := Lib.hid hr
  have HS := Lib.hid hS
  have HL := Lib.hid hL
  have HA := Lib.hid hA
  clear hx hr hS hL hA
  go_enter Tryz.func98, Tryz.ntmps98
  go_wp2_with fail
  go_loopw [8] (fun i wr => ∃ k : Nat, k ≤ n ∧ i = .int .i64 k ∧ Hid (AtW B R T0 G0 (ts ++ (toks.map kT).take k) wr) ∧ Hid (WBut B R w wr) ∧ Hid (Safe R wr S))
    (fun i _ => n - (intOf i).toNat)
  case atStart => exact ⟨0, by omega, rfl, Lib.hid (by simpa using HA.out), Lib.hid (WBut.refl B R w), HS⟩
  case round =>
    obtain ⟨k, hk, rfl, Hw, Hb, Hs⟩ := hrel
    by_cases hlt : k < n
    · obtain ⟨a, ha, hin⟩ := (⟨toks[k]'(by rw [← Hx.out]; exact hlt), List.getElem?_eq_getElem _, List.getElem_mem _⟩ : ∃ a, toks[k]? = some a ∧ a ∈ toks)
      have hcell : ∀ j v, w.cell? ⟨S, j, none⟩ = some v → wr.cell? ⟨S, j, none⟩ = some v := fun j v h => (HS.out.cell Hb.out j).trans h
      obtain ⟨hsa, ca⟩ := NRow.get HR.out ha
      have c0 : wr.cell? ⟨S, o + k, none⟩ = some (.string a) := by
        have := hcell _ _ (ca 0 _ rfl)
        simpa using this
      have hSlt : S < wr.heap.size := Hs.out.lt
      have hRlt : R < wr.heap.size := Hw.out.lt
      have hBr : B ≤ wr.heap.size := Nat.le_trans hB Hb.out.size
      obtain ⟨gp, hgp⟩ : ∃ gp : ByteArray, gp = ⟨(gapA G0 (ts ++ (toks.map kT).take k)).toArray⟩ := ⟨_, rfl⟩
      obtain ⟨T, hT⟩ : ∃ T, T = T0 ++ puts G0 (ts ++ (toks.map kT).take k) := ⟨_, rfl⟩
      have hI : IsW B R T gp wr := by rw [hT, hgp]; exact Hw.out
      have htake : ts ++ (toks.map kT).take (k + 1) = (ts ++ (toks.map kT).take k) ++ [kT a] := by
        rw [List.append_assoc]
        congr 1
        rw [List.take_add_one, List.getElem?_map, ha]
        rfl
      have hnext : T0 ++ puts G0 (ts ++ (toks.map kT).take (k + 1)) = T ++ kT gp ++ kT a := by
        rw [htake, puts_one, hT, hgp, kT_mk (gapA G0 _)]
      have hgapn : gapA G0 (ts ++ (toks.map kT).take (k + 1)) = [32] := by rw [htake, gapA_one]
      have hlen : (T ++ kT gp ++ kT a).length ≤ 1000000000 := by
        rw [← hnext]
        have h1 : Lim T0 G0 ((ts ++ (toks.map kT).take (k + 1)) ++ (toks.map kT).drop (k + 1)) := by
          rw [List.append_assoc, List.take_append_drop]; exact HL.out
        exact h1.less
      rw [List.length_append, List.length_append] at hlen
      have hl1 : (kT gp).length = gp.size := rfl
      have hl2 : (kT a).length = a.size := rfl
      obtain ⟨cg, fg⟩ := hI.gap
      have HI := Lib.hid hI
      have HN := Lib.hid hnext
      have HG := Lib.hid hgapn
      clear hcell ca ha hin hgp hT htake hnext hgapn hI Hw
      go_upto_region 3 with (fail)
      go_still_tail 7, (by kernel_rfl)
      go_wp2_with fail
      refine (writeW_calls B R T gp gp wr.drew (IsW.stays HI.out (Below.refl _ wr).drew) (by omega) (by simpa using hBr)).mono ?_
      rintro e w1 ⟨rfl, h1, b1⟩
      have H1 := Lib.hid h1
      have B1 : Hid (WBut B R wr w1) := Lib.hid ((WBut.of (Below.refl _ wr).drew hBr).trans b1)
      have z1 : B ≤ w1.heap.size := Nat.le_trans hBr B1.out.size
      clear h1 b1
      go_wp2_with fail
      refine (writeW_calls B R (T ++ kT gp) gp a w1 H1.out (by rw [List.length_append]; omega) z1).mono ?_
      rintro e w2 ⟨rfl, h2, b2⟩
      have H2 := Lib.hid h2
      have B2 : Hid (WBut B R wr w2) := Lib.hid (B1.out.trans b2)
      obtain ⟨cg2, fg2⟩ := h2.gap
      have hR2 : R < w2.heap.size := h2.lt
      clear h2 b2 c0 cg fg
      go_wp2
      have h3 := H2.out.setGap (g' := ⟨#[32]⟩)
      go_roundw
      case rel =>
        refine ⟨k + 1, by omega, by go_num, Lib.hid ?_, Lib.hid (Hb.out.trans (B2.out.trans h3.2)), Lib.hid (Hs.out.but (B2.out.trans h3.2))⟩
        unfold AtW
        rw [HN.out, HG.out]
        exact h3.1
      case measure => simp [intOf]; omega
    · obtain rfl : k = n := by omega
      have hall : (toks.map kT).take k = toks.map kT := List.take_of_length_le (by rw [List.length_map, Hx.out]; exact Nat.le_refl _)
      go_wp2
      go_end0
      exact ⟨rfl, by rw [← hall]; exact Hw.out, Hb.out⟩
end Go.Proofs.YthilicmhdkmipaaGreatDoor

