/- The document's own copies: statements. -/
import Derived.Test.YtojeijeimpffgaaGreatRJoinJ
import Derived.Test.YtojeijeimpffgaaGreatRJoinA
import Derived.Deep.RegionHeld3
import Derived.Deep.RegionLaw
import Derived.OneCell
import Derived.Deep.Cut
import Derived.Deep.CutRange
namespace Go.Proofs.YtojeijeimpffgaaGreat
open Go.RowKit
set_option linter.unusedVariables false

mutual
/-- without its places in the text, where at is false -/
def erS (at' : Bool) : PS → PS
  | .mk op n s ns t i p es bo el ar pos => .mk op n s ns t i p (erEs at' es) (erSs at' bo) (erSs at' el) (erAs at' ar) (if at' then pos else 0)
def erA (at' : Bool) : PA → PA
  | .mk x n bo => .mk x n (erSs at' bo)
def erSs (at' : Bool) : List PS → List PS
  | [] => []
  | t :: l => erS at' t :: erSs at' l
def erAs (at' : Bool) : List PA → List PA
  | [] => []
  | t :: l => erA at' t :: erAs at' l
end
theorem erSs_map (at' : Bool) : ∀ (l : List PS), erSs at' l = l.map (erS at')
  | [] => rfl
  | t :: l => by rw [erSs, erSs_map at' l]; rfl
theorem erAs_map (at' : Bool) : ∀ (l : List PA), erAs at' l = l.map (erA at')
  | [] => rfl
  | t :: l => by rw [erAs, erAs_map at' l]; rfl
mutual
/-- no list in it is longer than can be copied -/
def FewS : PS → Prop
  | .mk op n s ns t i p es bo el ar pos => ns.length ≤ 1000000 ∧ FewT 1000000 t ∧ p.path.length ≤ 1000000 ∧ (es.length ≤ 1000000 ∧ ∀ e, e ∈ es → FewE 1000000 e) ∧ (bo.length ≤ 1000000 ∧ FewSs bo) ∧ (el.length ≤ 1000000 ∧ FewSs el) ∧ (ar.length ≤ 1000000 ∧ FewAs ar)
def FewA : PA → Prop
  | .mk x n bo => bo.length ≤ 1000000 ∧ FewSs bo
def FewSs : List PS → Prop
  | [] => True
  | t :: l => FewS t ∧ FewSs l
def FewAs : List PA → Prop
  | [] => True
  | t :: l => FewA t ∧ FewAs l
end
theorem FewSs.get : ∀ {l : List PS} {t : PS}, FewSs l → t ∈ l → FewS t
  | a :: l, t, h, ht => by
    rw [FewSs] at h
    rcases List.mem_cons.1 ht with rfl | h1
    · exact h.1
    · exact FewSs.get h.2 h1
theorem FewAs.get : ∀ {l : List PA} {t : PA}, FewAs l → t ∈ l → FewA t
  | a :: l, t, h, ht => by
    rw [FewAs] at h
    rcases List.mem_cons.1 ht with rfl | h1
    · exact h.1
    · exact FewAs.get h.2 h1
theorem infoStmt : (Tryz.prog.info? 92).map (fun i => (i.zero, i.size, i.bytes)) = some (some (.agg #[.int .u8 0, .string ⟨#[]⟩, .string ⟨#[]⟩, .slice none 0 0, .int .u8 0, .string ⟨#[]⟩, .slice none 0 0, .int .i64 0, .string ⟨#[]⟩, .slice none 0 0, .slice none 0 0, .slice none 0 0, .slice none 0 0, .slice none 0 0, .int .i64 0]), 15, 264) := by kernel_rfl
theorem infoArm : (Tryz.prog.info? 96).map (fun i => (i.zero, i.size, i.bytes)) = some (some (.agg #[.string ⟨#[]⟩, .string ⟨#[]⟩, .slice none 0 0]), 3, 56) := by kernel_rfl
/-- rows that lie in blocks from m on -/
def EsIn (m : Nat) (W : World) (l : List PE) (v : Value) : Prop := ∃ b o, SlV W.heap.size v l.length b o ∧ PE.Row W.heap.size (only (fun i => decide (m ≤ i)) W) b o l
def SsIn (m : Nat) (W : World) (l : List PS) (v : Value) : Prop := ∃ b o, SlV W.heap.size v l.length b o ∧ PS.Row W.heap.size (only (fun i => decide (m ≤ i)) W) b o l
def AsIn (m : Nat) (W : World) (l : List PA) (v : Value) : Prop := ∃ b o, SlV W.heap.size v l.length b o ∧ PA.Row W.heap.size (only (fun i => decide (m ≤ i)) W) b o l
def FsIn (m : Nat) (W : World) (l : List PF) (v : Value) : Prop := ∃ b o, SlV W.heap.size v l.length b o ∧ PF.Row W.heap.size (only (fun i => decide (m ≤ i)) W) b o l
theorem EsIn.up {m m' S : Nat} {W W' : World} {l : List PE} {v : Value} (h : EsIn m W l v) (k : Kp S W W') (hm : S < m) (hm' : m' ≤ m) : EsIn m' W' l v := by
  obtain ⟨b, o, h1, h2⟩ := h
  exact ⟨b, o, h1.up k.1, PE.Row.reads k.1 (k.reads hm hm') h2⟩
theorem SsIn.up {m m' S : Nat} {W W' : World} {l : List PS} {v : Value} (h : SsIn m W l v) (k : Kp S W W') (hm : S < m) (hm' : m' ≤ m) : SsIn m' W' l v := by
  obtain ⟨b, o, h1, h2⟩ := h
  exact ⟨b, o, h1.up k.1, PS.Row.reads k.1 (k.reads hm hm') h2⟩
theorem AsIn.up {m m' S : Nat} {W W' : World} {l : List PA} {v : Value} (h : AsIn m W l v) (k : Kp S W W') (hm : S < m) (hm' : m' ≤ m) : AsIn m' W' l v := by
  obtain ⟨b, o, h1, h2⟩ := h
  exact ⟨b, o, h1.up k.1, PA.Row.reads k.1 (k.reads hm hm') h2⟩
theorem FsIn.up {m m' S : Nat} {W W' : World} {l : List PF} {v : Value} (h : FsIn m W l v) (k : Kp S W W') (hm : S < m) (hm' : m' ≤ m) : FsIn m' W' l v := by
  obtain ⟨b, o, h1, h2⟩ := h
  exact ⟨b, o, h1.up k.1, PF.Row.reads k.1 (k.reads hm hm') h2⟩
/-- statements can be copied: the answer is a row of them in new memory alone -/
def CopySsAt (at' : Bool) (l : List PS) : Prop := ∀ (B b o : Nat) (v : Value) (w : World), B ≤ w.heap.size → SlV B v l.length b o → PS.Row B w b o l →
  Calls Tryz.prog 25 #[v, .bool at'] w fun e w' => ∃ ua uc, e = .returned (.slice ua l.length uc) ∧ Hid (SsIn w.heap.size w' (erSs at' l) (.slice ua l.length uc)) ∧ Below w.heap.size w w'
theorem slv_len {B : Nat} {a : Option Addr} {n c m b o : Nat} (h : SlV B (.slice a n c) m b o) : n = m ∧ n ≤ maxLen ∧ (n = 0 ∨ (a = some ⟨b, o, none⟩ ∧ b < B)) := by
  obtain ⟨h1, a', c', e, h2⟩ := h
  obtain ⟨e1, e2, e3⟩ := Value.slice.inj e
  subst e1; subst e2; subst e3
  exact ⟨rfl, h1, h2⟩
attribute [local go_sem ↓] Go.wp_at_zero Go.wp_at_succ
set_option maxRecDepth 100000 in
set_option maxHeartbeats 6400000 in
theorem copyS_step (at' : Bool) (l : List PS) (hl : l.length ≤ 1000000) (hfew : FewSs l) (ih : ∀ l' : List PS, SizeOf.sizeOf l' < SizeOf.sizeOf l → l'.length ≤ 1000000 → FewSs l' → CopySsAt at' l') : CopySsAt at' l := by
  intro B b1 o1 v w hB hv hr
  obtain ⟨m1, ao, cap, rfl, h1⟩ := hv
  obtain ⟨i0, hi, hz0, hz1, hz2⟩ := info_parts infoStmt
  obtain ⟨j0, hj, jz0, jz1, jz2⟩ := info_parts infoExpr
  obtain ⟨a0, ha, az0, az1, az2⟩ := info_parts infoArm
  obtain ⟨q0, hq, qz0, qz1, qz2⟩ := info_parts infoName
  unfold maxLen at m1
  obtain ⟨n, hn⟩ : ∃ n, n = l.length := ⟨_, rfl⟩
  rw [← hn] at m1 h1 hl
  have Hn := Lib.hid hn
  have H1 := Lib.hid h1
  have Hr := Lib.hid hr
  have Hfew := Lib.hid hfew
  have IH := Lib.hid ih
  rw [← hn]
  clear hn h1 hr hfew ih
  go_enter Tryz.func25, Tryz.ntmps25
  go_wp2_with fail
  go_loopw [5, 6] (fun o i wr => ∃ (k : Nat) (u : Value), k ≤ n ∧ o = u ∧ i = .int .i64 k ∧ w.heap.size ≤ wr.heap.size ∧ Hid (srtS.Held w.heap.size 92 (erSs at' l) k u wr ∧ Below w.heap.size w wr))
    (fun _ i _ => n - (intOf i).toNat)
  case atStart => exact ⟨0, .slice none 0 0, Nat.zero_le _, rfl, rfl, Nat.le_refl _, Lib.hid ⟨Srt.Held.nil _ _ _ _ _, Below.refl _ _⟩⟩
  case round =>
    obtain ⟨k, u, hk, hou, rfl, hz, HH⟩ := hrel
    have hou' := hou.symm
    subst hou'
    obtain ⟨wo, hwo⟩ : ∃ W : World, W = wr := ⟨_, rfl⟩
    subst hwo
    by_cases hlt : k < n
    · obtain ⟨t, ht, hin⟩ := get_at (l := l) (k := k) (by rw [← Hn.out]; exact hlt)
      obtain ⟨rfl, hb1⟩ := H1.out.resolve_left (by omega)
      obtain ⟨held, hbel⟩ := HH.out
      obtain ⟨vt, ct, it⟩ := PS.Row.get (PS.Row.below (hbel.mono hB) (fun _ => hb1) Hr.out) ht
      obtain ⟨op, nm, sc, ns, ty, int, pl, es, bo, el, ar, pos⟩ := t
      obtain ⟨d1, n1, c1, d2, n2, c2, d3, n3, c3, d4, n4, c4, d5, n5, c5, d6, n6, c6, d7, n7, c7, rfl⟩ := it.shape
      have hf := Hfew.out.get hin
      rw [FewS] at hf
      obtain ⟨fns, fty, fpl, ⟨fe1, fe2⟩, ⟨fb1, fb2⟩, ⟨fl1, fl2⟩, fa1, fa2⟩ := hf
      obtain ⟨hsc, hns, hty, hpl, ⟨b2, o2, s2, r2⟩, ⟨b3, o3, s3, r3⟩, ⟨b4, o4, s4, r4⟩, b5, o5, s5, r5⟩ := it
      obtain ⟨z4, y4, x4⟩ := slv_len s2
      obtain ⟨z5, y5, x5⟩ := slv_len s3
      obtain ⟨z6, y6, x6⟩ := slv_len s4
      obtain ⟨z7, y7, x7⟩ := slv_len s5
      have g1 : b1 < wo.heap.size := by omega
      have e0 : wo.cell? ⟨b1, o1 + k * 15, none⟩ = some (.int .u8 op) := ct 0 _ rfl
      have e1 : wo.cell? ⟨b1, o1 + k * 15 + 1, none⟩ = some (.string nm) := ct 1 _ rfl
      have e2 : wo.cell? ⟨b1, o1 + k * 15 + 2, none⟩ = some (.string sc) := ct 2 _ rfl
      have e3 : wo.cell? ⟨b1, o1 + k * 15 + 3, none⟩ = some (.slice d1 n1 c1) := ct 3 _ rfl
      have e4 : wo.cell? ⟨b1, o1 + k * 15 + 4, none⟩ = some (.int .u8 ty.kind) := ct 4 _ rfl
      have e5 : wo.cell? ⟨b1, o1 + k * 15 + 5, none⟩ = some (.string ty.name) := ct 5 _ rfl
      have e6 : wo.cell? ⟨b1, o1 + k * 15 + 6, none⟩ = some (.slice d2 n2 c2) := ct 6 _ rfl
      have e7 : wo.cell? ⟨b1, o1 + k * 15 + 7, none⟩ = some (.int .i64 int) := ct 7 _ rfl
      have e8 : wo.cell? ⟨b1, o1 + k * 15 + 8, none⟩ = some (.string pl.name) := ct 8 _ rfl
      have e9 : wo.cell? ⟨b1, o1 + k * 15 + 9, none⟩ = some (.slice d3 n3 c3) := ct 9 _ rfl
      have e10 : wo.cell? ⟨b1, o1 + k * 15 + 10, none⟩ = some (.slice d4 n4 c4) := ct 10 _ rfl
      have e11 : wo.cell? ⟨b1, o1 + k * 15 + 11, none⟩ = some (.slice d5 n5 c5) := ct 11 _ rfl
      have e12 : wo.cell? ⟨b1, o1 + k * 15 + 12, none⟩ = some (.slice d6 n6 c6) := ct 12 _ rfl
      have e13 : wo.cell? ⟨b1, o1 + k * 15 + 13, none⟩ = some (.slice d7 n7 c7) := ct 13 _ rfl
      have e14 : wo.cell? ⟨b1, o1 + k * 15 + 14, none⟩ = some (.int .i64 pos) := ct 14 _ rfl
      have hk0 : (0 : Int) ≤ (k : Int) := Int.natCast_nonneg _
      have hk1 : (k : Int) < (n : Int) := by omega
      have hlt1 : SizeOf.sizeOf bo < SizeOf.sizeOf l ∧ SizeOf.sizeOf el < SizeOf.sizeOf l ∧ ∀ x n1 b, PA.mk x n1 b ∈ ar → SizeOf.sizeOf b < SizeOf.sizeOf l := by
        have h0 := List.sizeOf_lt_of_mem hin
        simp only [PS.mk.sizeOf_spec] at h0
        refine ⟨by omega, by omega, fun x n1 b hm => ?_⟩
        have h2 := List.sizeOf_lt_of_mem hm
        simp only [PA.mk.sizeOf_spec] at h2
        omega
      have ht' : (erSs at' l)[k]? = some (erS at' (.mk op nm sc ns ty int pl es bo el ar pos)) := by rw [erSs_map, List.getElem?_map, ht]; rfl
      have Hheld := Lib.hid held
      have Hbel := Lib.hid hbel
      have Hct := Lib.hid ct
      have HNS := Lib.hid hns
      have HTY := Lib.hid hty
      have HPL := Lib.hid hpl
      have HE := Lib.hid r2
      have HBO := Lib.hid (And.intro s3 r3)
      have HEL := Lib.hid (And.intro s4 r4)
      have HAR := Lib.hid r5
      have Z4 := Lib.hid z4
      have Z7 := Lib.hid z7
      have X4 := Lib.hid x4
      have X7 := Lib.hid x7
      have HSC := Lib.hid hsc
      have FE2 := Lib.hid fe2
      have FB2 := Lib.hid fb2
      have FL2 := Lib.hid fl2
      have FA2 := Lib.hid fa2
      have FTY := Lib.hid fty
      have HLT := Lib.hid hlt1
      have HT := Lib.hid ht'
      have n4max : n4 ≤ 1000000 := by omega
      have n7max : n7 ≤ 1000000 := by omega
      clear held hbel ct hns hty hpl s2 r2 s3 r3 s4 r4 s5 r5 z4 z5 z6 z7 x4 x5 x6 x7 hsc fe2 fb2 fl2 fa2 fty hlt1 ht ht' hin y4 y5 y6 y7
      go_upto_region 7 with (fail)
      go_cut [7] from 11 to 123 (fun s7 wx => ∃ p1 q1, s7 = .pointer (some ⟨wo.heap.size, 0, none⟩) ∧ wo.heap.size < wx.heap.size ∧ Hid (wx.heap[wo.heap.size]? = some (.cells #[.int .u8 op, .string nm, .string sc, .slice p1 ns.length q1, .int .u8 ty.kind, .string ty.name, .slice d2 n2 c2, .int .i64 int, .string pl.name, .slice d3 n3 c3, .slice none 0 0, .slice d5 n5 c5, .slice d6 n6 c6, .slice none 0 0, .int .i64 pos] 92 (0, 0))) ∧ Hid (NIn wx.heap.size (only (fun i => decide (wo.heap.size + 1 ≤ i)) wx) ns (.slice p1 ns.length q1)) ∧ Hid (Below wo.heap.size wo wx))
      case first =>
        have WB : Hid (Below wo.heap.size wo (wo.alloc (.cells #[.int .u8 op, .string nm, .string sc, .slice none 0 0, .int .u8 ty.kind, .string ty.name, .slice d2 n2 c2, .int .i64 int, .string pl.name, .slice d3 n3 c3, .slice none 0 0, .slice d5 n5 c5, .slice d6 n6 c6, .slice none 0 0, .int .i64 pos] 92))) := Lib.hid ((Below.refl _ wo).alloc (Nat.le_refl _) _)
        have hx3 : (wo.alloc (.cells #[.int .u8 op, .string nm, .string sc, .slice none 0 0, .int .u8 ty.kind, .string ty.name, .slice d2 n2 c2, .int .i64 int, .string pl.name, .slice d3 n3 c3, .slice none 0 0, .slice d5 n5 c5, .slice d6 n6 c6, .slice none 0 0, .int .i64 pos] 92)).cell? ⟨b1, o1 + k * 15 + 3, none⟩ = some (.slice d1 n1 c1) := by go_simp
        have hBw : B ≤ wo.heap.size := by omega
        go_region_law
          (refine step_append_names (by rfl) _ _ _ (by rfl) (by rfl) 9 q0 _ Tryz.underlying40 hq qz0 qz1 qz2 rfl (by rfl) (by simp <;> omega) (HNS.out.below (by first | exact WB.out.mono hBw | exact (WB.out.mono hBw).drew)) fns ?_
           intro ua uc wd hN1 bel1
           have r3 : wd.cell? ⟨wo.heap.size, 3, none⟩ = some (.slice none 0 0) := (bel1.cell (p := ⟨wo.heap.size, 3, none⟩) (by simp <;> omega)).trans (by go_simp)
           have f3 : wd.frozen? ⟨wo.heap.size, 3, none⟩ = false := (bel1.frozen (p := ⟨wo.heap.size, 3, none⟩) (by simp <;> omega)).trans (by go_simp)
           have HN1 := Lib.hid hN1
           have Hbx := Lib.hid ((bel1.block wo.heap.size (by simp)).trans (heap_alloc_new wo (.cells #[.int .u8 op, .string nm, .string sc, .slice none 0 0, .int .u8 ty.kind, .string ty.name, .slice d2 n2 c2, .int .i64 int, .string pl.name, .slice d3 n3 c3, .slice none 0 0, .slice d5 n5 c5, .slice d6 n6 c6, .slice none 0 0, .int .i64 pos] 92)))
           have HB1 : Hid (Below wo.heap.size wo wd) := Lib.hid (WB.out.drew.trans (bel1.mono (by simp)))
           clear hN1 bel1)
        all_goals
          go_wp2_with fail
          go_meet
          case rel =>
            exact ⟨ua, uc, rfl, by have := HB1.out.size; have := World.block_lt_of_cell? wd _ r3; simpa using this, Lib.hid (by simpa using box_set (i := 3) Hbx.out (.slice ua ns.length uc)), Lib.hid (NIn.reads (by simp) (Kp.reads ((Kp.refl wo.heap.size wd).set _) (by simp) (by simp)) HN1.out), Lib.hid (HB1.out.setCell (by simp) _)⟩
      case rest =>
        obtain ⟨p1, q1, rfl, hs1, HBox, HN, HB1⟩ := hcut
        obtain ⟨wa, hwa⟩ : ∃ W, W = wc := ⟨_, rfl⟩
        rw [← hwa] at hs1 HBox HN HB1
        rw [← hwa]
        clear hwa
        have b1a := HB1.out
        have hct := CellsAt.below g1 Hct.out b1a
        have hBw : B ≤ wo.heap.size := by omega
        have x4 : wa.cell? ⟨b1, o1 + k * 15 + 4, none⟩ = some (.int .u8 ty.kind) := hct 4 _ rfl
        have x5 : wa.cell? ⟨b1, o1 + k * 15 + 5, none⟩ = some (.string ty.name) := hct 5 _ rfl
        have x6 : wa.cell? ⟨b1, o1 + k * 15 + 6, none⟩ = some (.slice d2 n2 c2) := hct 6 _ rfl
        have x8 : wa.cell? ⟨b1, o1 + k * 15 + 8, none⟩ = some (.string pl.name) := hct 8 _ rfl
        have x9 : wa.cell? ⟨b1, o1 + k * 15 + 9, none⟩ = some (.slice d3 n3 c3) := hct 9 _ rfl
        have y4 : wa.cell? ⟨wo.heap.size, 4, none⟩ = some (.int .u8 ty.kind) := cell_of_row wa _ 4 _ _ _ HBox.out
        have y5 : wa.cell? ⟨wo.heap.size, 5, none⟩ = some (.string ty.name) := cell_of_row wa _ 5 _ _ _ HBox.out
        have y6 : wa.cell? ⟨wo.heap.size, 6, none⟩ = some (.slice d2 n2 c2) := cell_of_row wa _ 6 _ _ _ HBox.out
        have y8 : wa.cell? ⟨wo.heap.size, 8, none⟩ = some (.string pl.name) := cell_of_row wa _ 8 _ _ _ HBox.out
        have y9 : wa.cell? ⟨wo.heap.size, 9, none⟩ = some (.slice d3 n3 c3) := cell_of_row wa _ 9 _ _ _ HBox.out
        have f4 : wa.frozen? ⟨wo.heap.size, 4, none⟩ = false := box_frozen HBox.out
        have f5 : wa.frozen? ⟨wo.heap.size, 5, none⟩ = false := box_frozen HBox.out
        have f6 : wa.frozen? ⟨wo.heap.size, 6, none⟩ = false := box_frozen HBox.out
        have f8 : wa.frozen? ⟨wo.heap.size, 8, none⟩ = false := box_frozen HBox.out
        have f9 : wa.frozen? ⟨wo.heap.size, 9, none⟩ = false := box_frozen HBox.out
        have CT : Hid (Calls Tryz.prog 24 #[.agg #[.int .u8 ty.kind, .string ty.name, .slice d2 n2 c2]] wa.drew fun e w' => ∃ v', e = .returned (.agg #[.int .u8 ty.kind, .string ty.name, v']) ∧ FreshT wa.heap.size w' ty v' ∧ Below wa.heap.size wa w') :=
          Lib.hid ((copyT_calls FTY.out B _ wa.drew (show B ≤ wa.heap.size by omega) (PT.In.below (b1a.mono hBw).drew HTY.out)).mono fun e w' ⟨v', h1, h2, h3⟩ => ⟨v', h1, h2, ((Below.refl _ wa).drew).trans h3⟩)
        have CP : Hid (∀ W, Below wa.heap.size wa W → Calls Tryz.prog 52 #[.agg #[.string pl.name, .slice d3 n3 c3]] W fun e w' => ∃ v', e = .returned (.agg #[.string pl.name, v']) ∧ pl.In w'.heap.size (only (fun i => decide (W.heap.size ≤ i)) w') v' ∧ Below W.heap.size W w') :=
          Lib.hid fun W hW => copyP_calls pl fpl B _ W (by have := hW.size; omega) (PP.In.below HPL.out ((b1a.mono hBw).trans (hW.mono (by omega))))
        clear hct b1a
        go_upto_region 8 with (fail)
        go_cut [7] from 11 to 123 (fun s7 wx => ∃ p2 m2 q2 p3 m3 q3, s7 = .pointer (some ⟨wo.heap.size, 0, none⟩) ∧ wo.heap.size < wx.heap.size ∧ Hid (wx.heap[wo.heap.size]? = some (.cells #[.int .u8 op, .string nm, .string sc, .slice p1 ns.length q1, .int .u8 ty.kind, .string ty.name, .slice p2 m2 q2, .int .i64 int, .string pl.name, .slice p3 m3 q3, .slice none 0 0, .slice d5 n5 c5, .slice d6 n6 c6, .slice none 0 0, .int .i64 pos] 92 (0, 0))) ∧ Hid (NIn wx.heap.size (only (fun i => decide (wo.heap.size + 1 ≤ i)) wx) ns (.slice p1 ns.length q1)) ∧ Hid (ty.In wx.heap.size (only (fun i => decide (wo.heap.size + 1 ≤ i)) wx) (.slice p2 m2 q2)) ∧ Hid (pl.In wx.heap.size (only (fun i => decide (wo.heap.size + 1 ≤ i)) wx) (.slice p3 m3 q3)) ∧ Hid (Below wo.heap.size wo wx))
        case first =>
          go_region_law
            (first
              | (go_simp; go_at_call 24; refine CT.out.mono ?_
                 rintro e w1 ⟨v2, rfl, hf1, u1⟩
                 obtain ⟨p2, m2, q2, rfl⟩ := PT.In.shape hf1
                 have X : ∀ i, w1.cell? ⟨b1, i, none⟩ = wa.cell? ⟨b1, i, none⟩ := fun i => u1.cell (show b1 < wa.heap.size by omega)
                 have Y : ∀ i, w1.cell? ⟨wo.heap.size, i, none⟩ = wa.cell? ⟨wo.heap.size, i, none⟩ := fun i => u1.cell (show wo.heap.size < wa.heap.size by omega)
                 have F : ∀ i, w1.frozen? ⟨wo.heap.size, i, none⟩ = wa.frozen? ⟨wo.heap.size, i, none⟩ := fun i => u1.frozen (show wo.heap.size < wa.heap.size by omega)
                 have x8 := (X _).trans x8
                 have x9 := (X _).trans x9
                 have U1 := Lib.hid u1
                 have HF1 := Lib.hid hf1
                 clear X Y F u1 hf1)
              | (go_simp; go_at_call 52; refine (CP.out w1 U1.out).mono ?_
                 rintro e w2 ⟨v3, rfl, hf2, bel2⟩
                 obtain ⟨p3, m3, q3, rfl⟩ := NIn.shape hf2.2
                 have u2 : Below wa.heap.size wa w2 := U1.out.trans (bel2.mono U1.out.size)
                 have Y : ∀ i, w2.cell? ⟨wo.heap.size, i, none⟩ = wa.cell? ⟨wo.heap.size, i, none⟩ := fun i => u2.cell (show wo.heap.size < wa.heap.size by omega)
                 have F : ∀ i, w2.frozen? ⟨wo.heap.size, i, none⟩ = wa.frozen? ⟨wo.heap.size, i, none⟩ := fun i => u2.frozen (show wo.heap.size < wa.heap.size by omega)
                 have y4 := (Y 4).trans y4
                 have y5 := (Y 5).trans y5
                 have y6 := (Y 6).trans y6
                 have y8 := (Y 8).trans y8
                 have y9 := (Y 9).trans y9
                 have f4 := (F 4).trans f4
                 have f5 := (F 5).trans f5
                 have f6 := (F 6).trans f6
                 have f8 := (F 8).trans f8
                 have f9 := (F 9).trans f9
                 have U2 := Lib.hid u2
                 have HF2 := Lib.hid hf2
                 have BL2 := Lib.hid bel2
                 clear Y F u2 hf2 bel2))
          all_goals
            go_wp2_with fail
            go_meet
            case rel =>
              have zz := U2.out.size
              have zy := BL2.out.size
              have zx := U1.out.size
              have hb := (U2.out.block wo.heap.size hs1).trans HBox.out
              exact ⟨p2, m2, q2, p3, m3, q3, rfl, by simp; omega, Lib.hid (by simpa using box_set (i := 9) (box_set (i := 8) (box_set (i := 6) (box_set (i := 5) (box_set (i := 4) hb (.int .u8 ty.kind)) (.string ty.name)) (.slice p2 m2 q2)) (.string pl.name)) (.slice p3 m3 q3)), Lib.hid (NIn.reads (by simp; omega) (Kp.reads ((((((Kp.of U2.out).set _).set _).set _).set _).set _) (by simp) (by simp)) HN.out), Lib.hid (PT.In.reads (by simp; omega) (Kp.reads ((((((Kp.of BL2.out).set _).set _).set _).set _).set _) hs1 hs1) HF1.out), Lib.hid (PP.In.reads (by simp) (Kp.reads ((((((Kp.refl wo.heap.size w2).set _).set _).set _).set _).set _) (show wo.heap.size < w1.heap.size by omega) (show wo.heap.size + 1 ≤ w1.heap.size by omega)) HF2.out), Lib.hid ((((((HB1.out.trans (U2.out.mono (by omega))).setCell (by simp) _).setCell (by simp) _).setCell (by simp) _).setCell (by simp) _).setCell (by simp) _)⟩
        case rest =>
          obtain ⟨p2, m2, q2, p3, m3, q3, rfl, hs2, HBox2, HN2, HT2, HP2, HB2⟩ := hcut
          obtain ⟨wb, hwb⟩ : ∃ W, W = wc := ⟨_, rfl⟩
          rw [← hwb] at hs2 HBox2 HN2 HT2 HP2 HB2
          rw [← hwb]
          clear hwb CT CP x4 x5 x6 x8 x9 y4 y5 y6 y8 y9 f4 f5 f6 f8 f9 HBox HN HB1 hs1
          have hBw : B ≤ wo.heap.size := by omega
          have x10 : wb.cell? ⟨b1, o1 + k * 15 + 10, none⟩ = some (.slice d4 n4 c4) := CellsAt.below g1 Hct.out HB2.out 10 _ rfl
          have y10 : wb.cell? ⟨wo.heap.size, 10, none⟩ = some (.slice none 0 0) := cell_of_row wb _ 10 _ _ _ HBox2.out
          have f10 : wb.frozen? ⟨wo.heap.size, 10, none⟩ = false := box_frozen HBox2.out
          go_wp2_with fail
          go_loopw [8] (fun i wy => ∃ (kk : Nat) (uu : Value), kk ≤ n4 ∧ i = .int .i64 kk ∧ wb.heap.size ≤ wy.heap.size ∧ wy.cell? ⟨b1, o1 + k * 15 + 10, none⟩ = some (.slice d4 n4 c4) ∧ wy.cell? ⟨wo.heap.size, 10, none⟩ = some uu ∧ wy.frozen? ⟨wo.heap.size, 10, none⟩ = false ∧ Hid (wy.heap[wo.heap.size]? = some (.cells #[.int .u8 op, .string nm, .string sc, .slice p1 ns.length q1, .int .u8 ty.kind, .string ty.name, .slice p2 m2 q2, .int .i64 int, .string pl.name, .slice p3 m3 q3, uu, .slice d5 n5 c5, .slice d6 n6 c6, .slice none 0 0, .int .i64 pos] 92 (0, 0))) ∧ Hid (srtE.Held wb.heap.size 45 (erEs at' es) kk uu wy ∧ Kp wo.heap.size wb wy ∧ Below wo.heap.size wo wy))
            (fun i _ => n4 - (intOf i).toNat)
          case atStart => exact ⟨0, .slice none 0 0, Nat.zero_le _, rfl, Nat.le_refl _, x10, y10, f10, HBox2, Lib.hid ⟨Srt.Held.nil _ _ _ _ _, Kp.refl _ _, HB2.out⟩⟩
          case round =>
            obtain ⟨kk, uu, hkk, rfl, hzz, c10, d10, g10, HBx, HH2⟩ := hrel
            clear x10 y10 f10
            by_cases hlt2 : kk < n4
            · obtain ⟨te, hte, hine⟩ := get_at (l := es) (k := kk) (by have := Z4.out; omega)
              obtain ⟨rfl, hb2⟩ := X4.out.resolve_left (by omega)
              obtain ⟨⟨vs, hvs, hown, hall⟩, hkp, hbel2⟩ := HH2.out
              obtain ⟨vt2, ct2, it2⟩ := PE.Row.get (PE.Row.below (hbel2.mono hBw) hb2 HE.out) hte
              obtain ⟨ta, tn, tc, ya, yn, yc, rfl⟩ := it2.shape
              have g2 : b2 < wr.heap.size := by omega
              have w0 : wr.cell? ⟨b2, o2 + kk * 8, none⟩ = some (.int .u8 te.op) := ct2 0 _ rfl
              have w1 : wr.cell? ⟨b2, o2 + kk * 8 + 1, none⟩ = some (.int .i64 te.int) := ct2 1 _ rfl
              have w2 : wr.cell? ⟨b2, o2 + kk * 8 + 2, none⟩ = some (.string te.name) := ct2 2 _ rfl
              have w3 : wr.cell? ⟨b2, o2 + kk * 8 + 3, none⟩ = some (.string te.second) := ct2 3 _ rfl
              have w4 : wr.cell? ⟨b2, o2 + kk * 8 + 4, none⟩ = some (.string te.place.name) := ct2 4 _ rfl
              have w5 : wr.cell? ⟨b2, o2 + kk * 8 + 5, none⟩ = some (.slice ta tn tc) := ct2 5 _ rfl
              have w6 : wr.cell? ⟨b2, o2 + kk * 8 + 6, none⟩ = some (.slice ya yn yc) := ct2 6 _ rfl
              have w7 : wr.cell? ⟨b2, o2 + kk * 8 + 7, none⟩ = some (.int .i64 te.pos) := ct2 7 _ rfl
              have hj0 : (0 : Int) ≤ (kk : Int) := Int.natCast_nonneg _
              have hj1 : (kk : Int) < (n4 : Int) := by omega
              have nb := own_ne hown (b := b1) (by omega)
              have nS := own_ne hown (b := wo.heap.size) (by omega)
              have Hall := Lib.hid hall
              have Hown := Lib.hid hown
              have Hkp := Lib.hid hkp
              have Hbel2 := Lib.hid hbel2
              have Hit := Lib.hid (it2.below (w' := wr.drew) ((Below.refl B wr).drew))
              have HT2e := Lib.hid (show (erEs at' es)[kk]? = some (erE at' te) by rw [erEs_get, hte]; rfl)
              clear hall hown it2 ct2 hkp hbel2 hte
              go_wp2_with fail
              go_region_law
                (first
                  | (go_simp; go_at_call 26; refine ((copyE_calls at' (FE2.out te hine)) B ⟨.slice ta tn tc, .slice ya yn yc⟩ wr.drew (show B ≤ wr.heap.size by omega) Hit.out).mono ?_
                     rintro e wq ⟨x1, rfl, hf1, bel1⟩
                     obtain ⟨xa, xn, xc, za, zn, zc, rfl⟩ := PE.In.shape hf1
                     have z1 : wr.heap.size ≤ wq.heap.size := bel1.size
                     have q0 : wq.cell? ⟨b1, o1 + k * 15 + 10, none⟩ = some (.slice (some ⟨b2, o2, none⟩) n4 c4) := by rw [bel1.cell (show b1 < wr.heap.size by omega)]; exact c10
                     have q6 : wq.cell? ⟨wo.heap.size, 10, none⟩ = some uu := by rw [bel1.cell (show wo.heap.size < wr.heap.size by omega)]; exact d10
                     have q5 : wq.frozen? ⟨wo.heap.size, 10, none⟩ = false := by rw [bel1.frozen (show wo.heap.size < wr.heap.size by omega)]; exact g10
                     have q7 := World.new_ne wq _ q6
                     have q8 : ∀ o : Obj, (wq.alloc o).cell? ⟨wo.heap.size, 10, none⟩ = some uu := fun o => (((Below.refl _ wq).alloc (Nat.le_refl _) o).cell (show wo.heap.size < wq.heap.size by omega)).trans q6
                     have Hown1 := Lib.hid (own_below Hown.out (show Below wr.heap.size wr wq from ((Below.refl _ wr).drew).trans bel1)))
                  | (refine step_append_lies _ (by rfl) _ _ _ (by rfl) wb.heap.size 45 j0 _ 8 120 Tryz.underlying43 hj jz0 jz1 jz2 rfl (by omega) uu kk _ (by rfl) (Hown1.out.alloc _) ⟨wq.heap.size, 0, none⟩ 1 1 [.int .u8 (erE at' te).op, .int .i64 (erE at' te).int, .string (erE at' te).name, .string (erE at' te).second, .string (erE at' te).place.name, .slice xa xn xc, .slice za zn zc, .int .i64 (erE at' te).pos] (by rfl) (by rfl) (World.news_of_block (cs := #[.int .u8 (erE at' te).op, .int .i64 (erE at' te).int, .string (erE at' te).name, .string (erE at' te).second, .string (erE at' te).place.name, .slice xa xn xc, .slice za zn zc, .int .i64 (erE at' te).pos]) (t := 45) (fr := (0, 0)) (heap_alloc_new wq _)) (by simp [Value.oneCell'])
                      (by omega) (by unfold maxLen; omega) (by omega) (by simp; omega) (wq.heap.size + 1) (by simp) ?_
                     intro gg cap1 wd hown1 hgrow hat hlt3
                     have r0 : wd.cell? ⟨b1, o1 + k * 15 + 10, none⟩ = some (.slice (some ⟨b2, o2, none⟩) n4 c4) := grown_cell hgrow q0 nb
                     have r6 : wd.cell? ⟨wo.heap.size, 10, none⟩ = some uu := grown_cell hgrow q6 nS
                     have r5 : wd.frozen? ⟨wo.heap.size, 10, none⟩ = false := grown_frozen hgrow q5 (by simp <;> omega) nS))
              all_goals
                have HBd := Lib.hid (((hgrow.block wo.heap.size (by simp; omega) nS).trans (Below.heap_alloc wq _ wo.heap.size (by omega))).trans ((bel1.block wo.heap.size (by simp; omega)).trans HBx.out))
                have Hnx := Lib.hid (Srt.held_next (S := srtE) HT2e.out hvs Hall.out Hown.out hzz (show Below wr.heap.size wr wq from ((Below.refl _ wr).drew).trans bel1) hf1 hgrow hat hown1)
                have z2 : wq.heap.size + 1 ≤ wd.heap.size := by have := hgrow.size; simpa using this
                clear hown1 hgrow hat Hall Hown Hown1 Hit q7 q8 bel1 hf1 q0 q5 q6
                go_wp2_with fail
                go_round
                case rel =>
                  obtain ⟨y1, y2⟩ := Hnx.out
                  refine ⟨kk + 1, .slice (some ⟨gg, 0, none⟩) (kk + 1) cap1, by omega, by go_num, by simp; omega, ?_, ?_, ?_, Lib.hid (by simpa using box_set (i := 10) HBd.out (.slice (some ⟨gg, 0, none⟩) (kk + 1) cap1)), Lib.hid ⟨y1.keep (by simp) (fun i h1 h2 => Below.heap_setCell _ _ _ i (by simp; omega)), ⟨by simp; omega, fun i h1 h2 => ((Below.heap_setCell _ _ _ i (by simp; omega)).trans (y2.block i h2)).trans (Hkp.out.2 i h1 h2)⟩, (Hbel2.out.trans (y2.mono (by omega))).setCell (by simp) _⟩⟩
                  all_goals go_simp
                case measure => simp [intOf]; omega
            · obtain rfl : kk = n4 := by omega
              obtain ⟨hE, hkp, hbel2⟩ := HH2.out
              obtain ⟨p4, q4, rfl⟩ := hE.shape
              obtain ⟨we, hwe⟩ : ∃ W : World, W = wr := ⟨_, rfl⟩
              subst hwe
              have hsz2 := hkp.1
              have HES : Hid (EsIn (wo.heap.size + 1) we (erEs at' es) (.slice p4 kk q4)) := Lib.hid (by
                obtain ⟨b, o, h1, h2⟩ := hE.all (m := wo.heap.size + 1) (by rw [erEs_len]; exact Z4.out) (by unfold maxLen; omega) (by omega)
                exact ⟨b, o, h1, rowE_all h2⟩)
              have HN3 : Hid (NIn we.heap.size (only (fun i => decide (wo.heap.size + 1 ≤ i)) we) ns (.slice p1 ns.length q1)) := Lib.hid (NIn.reads hsz2 (hkp.reads (by omega) (Nat.le_refl _)) HN2.out)
              have HT3 : Hid (ty.In we.heap.size (only (fun i => decide (wo.heap.size + 1 ≤ i)) we) (.slice p2 m2 q2)) := Lib.hid (PT.In.reads hsz2 (hkp.reads (by omega) (Nat.le_refl _)) HT2.out)
              have HP3 : Hid (pl.In we.heap.size (only (fun i => decide (wo.heap.size + 1 ≤ i)) we) (.slice p3 m3 q3)) := Lib.hid (PP.In.reads hsz2 (hkp.reads (by omega) (Nat.le_refl _)) HP2.out)
              have HB3 := Lib.hid hbel2
              have hs3 : wo.heap.size < we.heap.size := by omega
              have x11 : we.cell? ⟨b1, o1 + k * 15 + 11, none⟩ = some (.slice d5 n5 c5) := CellsAt.below g1 Hct.out HB3.out 11 _ rfl
              have x12 : we.cell? ⟨b1, o1 + k * 15 + 12, none⟩ = some (.slice d6 n6 c6) := CellsAt.below g1 Hct.out HB3.out 12 _ rfl
              have y11 : we.cell? ⟨wo.heap.size, 11, none⟩ = some (.slice d5 n5 c5) := cell_of_row we _ 11 _ _ _ HBx.out
              have y12 : we.cell? ⟨wo.heap.size, 12, none⟩ = some (.slice d6 n6 c6) := cell_of_row we _ 12 _ _ _ HBx.out
              have f11 : we.frozen? ⟨wo.heap.size, 11, none⟩ = false := box_frozen HBx.out
              have f12 : we.frozen? ⟨wo.heap.size, 12, none⟩ = false := box_frozen HBx.out
              have CB : Hid (Calls Tryz.prog 25 #[.slice d5 n5 c5, .bool at'] we.drew fun e w' => ∃ ua uc, e = .returned (.slice ua bo.length uc) ∧ Hid (SsIn we.drew.heap.size w' (erSs at' bo) (.slice ua bo.length uc)) ∧ Below we.drew.heap.size we.drew w') :=
                Lib.hid ((IH.out bo HLT.out.1 fb1 FB2.out B _ _ _ we.drew (by have := ((Below.refl we.heap.size we).drew).size; omega) HBO.out.1 (PS.Row.below' ((HB3.out.mono hBw).trans (((Below.refl we.heap.size we).drew).mono (by omega))) HBO.out.1 HBO.out.2)))
              have CL : Hid (∀ W, Below we.heap.size we W → Calls Tryz.prog 25 #[.slice d6 n6 c6, .bool at'] W fun e w' => ∃ ua uc, e = .returned (.slice ua el.length uc) ∧ Hid (SsIn W.heap.size w' (erSs at' el) (.slice ua el.length uc)) ∧ Below W.heap.size W w') :=
                Lib.hid (fun W hW => (IH.out el HLT.out.2.1 fl1 FL2.out B _ _ _ W (by have := hW.size; omega) HEL.out.1 (PS.Row.below' ((HB3.out.mono hBw).trans (hW.mono (by omega))) HEL.out.1 HEL.out.2)))
              clear hE hkp hbel2 HH2 HN2 HT2 HP2 HB2 HBox2 d10 g10
              go_upto_region 13 with (fail)
              go_cut [7] from 11 to 123 (fun s7 wx => ∃ p5 q5 p6 q6, s7 = .pointer (some ⟨wo.heap.size, 0, none⟩) ∧ wo.heap.size < wx.heap.size ∧ Hid (wx.heap[wo.heap.size]? = some (.cells #[.int .u8 op, .string nm, .string sc, .slice p1 ns.length q1, .int .u8 ty.kind, .string ty.name, .slice p2 m2 q2, .int .i64 int, .string pl.name, .slice p3 m3 q3, .slice p4 kk q4, .slice p5 bo.length q5, .slice p6 el.length q6, .slice none 0 0, .int .i64 pos] 92 (0, 0))) ∧ Hid (NIn wx.heap.size (only (fun i => decide (wo.heap.size + 1 ≤ i)) wx) ns (.slice p1 ns.length q1)) ∧ Hid (ty.In wx.heap.size (only (fun i => decide (wo.heap.size + 1 ≤ i)) wx) (.slice p2 m2 q2)) ∧ Hid (pl.In wx.heap.size (only (fun i => decide (wo.heap.size + 1 ≤ i)) wx) (.slice p3 m3 q3)) ∧ Hid (EsIn (wo.heap.size + 1) wx (erEs at' es) (.slice p4 kk q4)) ∧ Hid (SsIn (wo.heap.size + 1) wx (erSs at' bo) (.slice p5 bo.length q5)) ∧ Hid (SsIn (wo.heap.size + 1) wx (erSs at' el) (.slice p6 el.length q6)) ∧ Hid (Below wo.heap.size wo wx))
              case first =>
                go_region_law
                  (first
                    | (go_simp; go_at_call 25; (with_reducible refine CB.out.mono ?_)
                       rintro e w1 ⟨p5, q5, rfl, hf1, u0⟩
                       have u1 : Below we.heap.size we w1 := ((Below.refl _ we).drew).trans u0
                       have x12 : w1.cell? ⟨b1, o1 + k * 15 + 12, none⟩ = some (.slice d6 n6 c6) := (u1.cell (show b1 < we.heap.size by omega)).trans x12
                       have U1 := Lib.hid u1
                       clear u1 u0)
                    | (go_simp; go_at_call 25; (with_reducible refine (CL.out w1 U1.out).mono ?_)
                       rintro e w2 ⟨p6, q6, rfl, hf2, bel2⟩
                       have u2 : Below we.heap.size we w2 := U1.out.trans (bel2.mono U1.out.size)
                       have y11 : w2.cell? ⟨wo.heap.size, 11, none⟩ = some (.slice d5 n5 c5) := (u2.cell (show wo.heap.size < we.heap.size by omega)).trans y11
                       have y12 : w2.cell? ⟨wo.heap.size, 12, none⟩ = some (.slice d6 n6 c6) := (u2.cell (show wo.heap.size < we.heap.size by omega)).trans y12
                       have f11 : w2.frozen? ⟨wo.heap.size, 11, none⟩ = false := (u2.frozen (show wo.heap.size < we.heap.size by omega)).trans f11
                       have f12 : w2.frozen? ⟨wo.heap.size, 12, none⟩ = false := (u2.frozen (show wo.heap.size < we.heap.size by omega)).trans f12
                       have U2 := Lib.hid u2
                       have BL2 := Lib.hid bel2
                       clear u2 bel2))
                all_goals
                  go_wp2_with fail
                  go_meet
                  case rel =>
                    have zz := U2.out.size
                    have zy := BL2.out.size
                    have zx := U1.out.size
                    have hb := (U2.out.block wo.heap.size hs3).trans HBx.out
                    have K0 : Kp wo.heap.size we ((w2.setCell ⟨wo.heap.size, 11, none⟩ (.slice p5 bo.length q5)).setCell ⟨wo.heap.size, 12, none⟩ (.slice p6 el.length q6)) := ((Kp.of U2.out).set _).set _
                    have K1 : Kp wo.heap.size w1 ((w2.setCell ⟨wo.heap.size, 11, none⟩ (.slice p5 bo.length q5)).setCell ⟨wo.heap.size, 12, none⟩ (.slice p6 el.length q6)) := ((Kp.of BL2.out).set _).set _
                    have K2 : Kp wo.heap.size w2 ((w2.setCell ⟨wo.heap.size, 11, none⟩ (.slice p5 bo.length q5)).setCell ⟨wo.heap.size, 12, none⟩ (.slice p6 el.length q6)) := ((Kp.refl wo.heap.size w2).set _).set _
                    exact ⟨p5, q5, p6, q6, rfl, by simp; omega, Lib.hid (by simpa using box_set (i := 12) (box_set (i := 11) hb (.slice p5 bo.length q5)) (.slice p6 el.length q6)), Lib.hid (NIn.reads K0.1 (K0.reads (by omega) (Nat.le_refl _)) HN3.out), Lib.hid (PT.In.reads K0.1 (K0.reads (by omega) (Nat.le_refl _)) HT3.out), Lib.hid (PP.In.reads K0.1 (K0.reads (by omega) (Nat.le_refl _)) HP3.out), Lib.hid (HES.out.up K0 (by omega) (Nat.le_refl _)), Lib.hid (hf1.out.up K1 (show wo.heap.size < we.heap.size by omega) (show wo.heap.size + 1 ≤ we.heap.size by omega)), Lib.hid (hf2.out.up K2 (show wo.heap.size < w1.heap.size by omega) (show wo.heap.size + 1 ≤ w1.heap.size by omega)), Lib.hid (((HB3.out.trans (U2.out.mono (by omega))).setCell (by simp) _).setCell (by simp) _)⟩
              case rest =>
                obtain ⟨p5, q5, p6, q6, rfl, hs4, HBox4, HN4, HT4, HP4, HE4, HBO4, HEL4, HB4⟩ := hcut
                obtain ⟨wf, hwf⟩ : ∃ W, W = wc := ⟨_, rfl⟩
                rw [← hwf] at hs4 HBox4 HN4 HT4 HP4 HE4 HBO4 HEL4 HB4
                rw [← hwf]
                clear hwf CB CL x11 x12 y11 y12 f11 f12 HBx HN3 HT3 HP3 HES HB3 hs3 hsz2
                have x13 : wf.cell? ⟨b1, o1 + k * 15 + 13, none⟩ = some (.slice d7 n7 c7) := CellsAt.below g1 Hct.out HB4.out 13 _ rfl
                have y13 : wf.cell? ⟨wo.heap.size, 13, none⟩ = some (.slice none 0 0) := cell_of_row wf _ 13 _ _ _ HBox4.out
                have f13 : wf.frozen? ⟨wo.heap.size, 13, none⟩ = false := box_frozen HBox4.out
                go_wp2_with fail
                go_loopw [9] (fun i wy => ∃ (kj : Nat) (uu : Value), kj ≤ n7 ∧ i = .int .i64 kj ∧ wf.heap.size ≤ wy.heap.size ∧ wy.cell? ⟨b1, o1 + k * 15 + 13, none⟩ = some (.slice d7 n7 c7) ∧ wy.cell? ⟨wo.heap.size, 13, none⟩ = some uu ∧ wy.frozen? ⟨wo.heap.size, 13, none⟩ = false ∧ Hid (wy.heap[wo.heap.size]? = some (.cells #[.int .u8 op, .string nm, .string sc, .slice p1 ns.length q1, .int .u8 ty.kind, .string ty.name, .slice p2 m2 q2, .int .i64 int, .string pl.name, .slice p3 m3 q3, .slice p4 kk q4, .slice p5 bo.length q5, .slice p6 el.length q6, uu, .int .i64 pos] 92 (0, 0))) ∧ Hid (srtA.Held wf.heap.size 96 (erAs at' ar) kj uu wy ∧ Kp wo.heap.size wf wy ∧ Below wo.heap.size wo wy))
                  (fun i _ => n7 - (intOf i).toNat)
                case atStart => exact ⟨0, .slice none 0 0, Nat.zero_le _, rfl, Nat.le_refl _, x13, y13, f13, HBox4, Lib.hid ⟨Srt.Held.nil _ _ _ _ _, Kp.refl _ _, HB4.out⟩⟩
                case round =>
                  obtain ⟨kj, uu, hkj, rfl, hzy, c13, d13, g13, HBx, HH2⟩ := hrel
                  clear x13 y13 f13
                  by_cases hlt4 : kj < n7
                  · obtain ⟨tx, htx, hinx⟩ := get_at (l := ar) (k := kj) (by have := Z7.out; omega)
                    obtain ⟨rfl, hb5⟩ := X7.out.resolve_left (by omega)
                    obtain ⟨⟨vs, hvs, hown, hall⟩, hkp, hbel2⟩ := HH2.out
                    obtain ⟨vt2, ct2, it2⟩ := PA.Row.get (PA.Row.below (hbel2.mono hBw) (fun _ => hb5) HAR.out) htx
                    obtain ⟨vn, an, bb⟩ := tx
                    obtain ⟨ya, yn, yc, rfl⟩ := it2.shape
                    obtain ⟨hva, b6, o6, s6, r6⟩ := it2
                    have hfa := FA2.out.get hinx
                    rw [FewA] at hfa
                    have g5 : b5 < wr.heap.size := by omega
                    have w0 : wr.cell? ⟨b5, o5 + kj * 3, none⟩ = some (.string vn) := ct2 0 _ rfl
                    have w1 : wr.cell? ⟨b5, o5 + kj * 3 + 1, none⟩ = some (.string an) := ct2 1 _ rfl
                    have w2 : wr.cell? ⟨b5, o5 + kj * 3 + 2, none⟩ = some (.slice ya yn yc) := ct2 2 _ rfl
                    have hj0 : (0 : Int) ≤ (kj : Int) := Int.natCast_nonneg _
                    have hj1 : (kj : Int) < (n7 : Int) := by omega
                    have nb := own_ne hown (b := b1) (by omega)
                    have nS := own_ne hown (b := wo.heap.size) (by omega)
                    have nA := own_ne' hown (b := wr.heap.size) (Nat.le_refl _)
                    have Hall := Lib.hid hall
                    have Hown := Lib.hid hown
                    have Hkp := Lib.hid hkp
                    have Hbel2 := Lib.hid hbel2
                    have HVA := Lib.hid hva
                    have HTX := Lib.hid (show (erAs at' ar)[kj]? = some (.mk vn an (erSs at' bb)) by rw [erAs_map, List.getElem?_map, htx]; simp [erA])
                    have CA : Hid (Calls Tryz.prog 25 #[.slice ya yn yc, .bool at'] (wr.alloc (Obj.cells #[.string vn, .string an, .slice ya yn yc] 96)) fun e w' => ∃ ua uc, e = .returned (.slice ua bb.length uc) ∧ Hid (SsIn (wr.heap.size + 1) w' (erSs at' bb) (.slice ua bb.length uc)) ∧ Below (wr.heap.size + 1) (wr.alloc (Obj.cells #[.string vn, .string an, .slice ya yn yc] 96)) w') := by
                      have h := IH.out bb (HLT.out.2.2 _ _ _ hinx) hfa.1 hfa.2 B _ _ _ (wr.alloc (Obj.cells #[.string vn, .string an, .slice ya yn yc] 96)) (by simp; omega) s6 (PS.Row.below' ((Below.refl B wr).alloc (by omega) _) s6 r6)
                      rw [show (wr.alloc (Obj.cells #[.string vn, .string an, .slice ya yn yc] 96)).heap.size = wr.heap.size + 1 from by simp] at h
                      exact Lib.hid h
                    clear hall hown ct2 hkp hbel2 htx hva s6 r6 hfa hinx
                    go_wp2_with (first
                        | (go_at_call 25; (with_reducible refine CA.out.mono ?_)
                           rintro e wq ⟨xa, xc, rfl, hf1, bel1⟩
                           have z1 : wr.heap.size + 1 ≤ wq.heap.size := by have := bel1.size; simpa using this
                           have u1 : Below wr.heap.size wr wq := ((Below.refl _ wr).alloc (Nat.le_refl _) _).trans (bel1.mono (by omega))
                           have q0 : wq.cell? ⟨b1, o1 + k * 15 + 13, none⟩ = some (.slice (some ⟨b5, o5, none⟩) n7 c7) := (u1.cell (show b1 < wr.heap.size by omega)).trans c13
                           have q6 : wq.cell? ⟨wo.heap.size, 13, none⟩ = some uu := (u1.cell (show wo.heap.size < wr.heap.size by omega)).trans d13
                           have q5 : wq.frozen? ⟨wo.heap.size, 13, none⟩ = false := (u1.frozen (show wo.heap.size < wr.heap.size by omega)).trans g13
                           have k0 : wq.cell? ⟨wr.heap.size, 0, none⟩ = some (.string vn) := (bel1.cell (p := ⟨wr.heap.size, 0, none⟩) (by simp)).trans (by go_simp)
                           have k1 : wq.cell? ⟨wr.heap.size, 1, none⟩ = some (.string an) := (bel1.cell (p := ⟨wr.heap.size, 1, none⟩) (by simp)).trans (by go_simp)
                           have k2 : wq.cell? ⟨wr.heap.size, 2, none⟩ = some (.slice ya yn yc) := (bel1.cell (p := ⟨wr.heap.size, 2, none⟩) (by simp)).trans (by go_simp)
                           have k3 : wq.frozen? ⟨wr.heap.size, 2, none⟩ = false := (bel1.frozen (p := ⟨wr.heap.size, 2, none⟩) (by simp)).trans (by go_simp)
                           have Hown1 := Lib.hid (ownsRow_setCell_other (own_below Hown.out u1) (a := ⟨wr.heap.size, 2, none⟩) nA.symm (.slice xa bb.length xc))
                           have Hu1 := Lib.hid u1
                           clear u1 bel1)
                        | (at_builtin; refine wpList_append_lies _ rfl _ _ 90 rfl wf.heap.size 96 a0 _ 3 56 Tryz.underlying90 ha az0 az1 az2 rfl (by decide) _ _ _ rfl (Hown1.out.alloc _) ⟨wq.heap.size, 0, none⟩ 1 1 [.string vn, .string an, .slice xa bb.length xc] rfl rfl ?c1 ?c2 ?c3 ?c4 ?c5 ?c6 (wq.heap.size + 1) ?c7 ?_)
                        | fail)
                    case c1 => exact World.news_of_block (cs := #[.string vn, .string an, .slice xa bb.length xc]) (t := 96) (fr := (0, 0)) (by have h := heap_alloc_new (wq.setCell ⟨wr.heap.size, 2, none⟩ (.slice xa bb.length xc)) (.cells #[.string vn, .string an, .slice xa bb.length xc] 96); simpa using h)
                    case c2 => simp [Value.oneCell']
                    case c3 => omega
                    case c4 => unfold maxLen; omega
                    case c5 => omega
                    case c6 => simp; omega
                    case c7 => simp
                    intro gg cap1 wd hown1 hgrow hat hlt5
                    have t0 : (wq.setCell ⟨wr.heap.size, 2, none⟩ (.slice xa bb.length xc)).cell? ⟨b1, o1 + k * 15 + 13, none⟩ = some (.slice (some ⟨b5, o5, none⟩) n7 c7) := (World.cell?_of_block (Below.heap_setCell wq _ _ b1 (by simp; omega))).trans q0
                    have t6 : (wq.setCell ⟨wr.heap.size, 2, none⟩ (.slice xa bb.length xc)).cell? ⟨wo.heap.size, 13, none⟩ = some uu := (World.cell?_of_block (Below.heap_setCell wq _ _ wo.heap.size (by simp; omega))).trans q6
                    have t5 : (wq.setCell ⟨wr.heap.size, 2, none⟩ (.slice xa bb.length xc)).frozen? ⟨wo.heap.size, 13, none⟩ = false := (World.frozen?_of_block (Below.heap_setCell wq _ _ wo.heap.size (by simp; omega))).trans q5
                    have r0 : wd.cell? ⟨b1, o1 + k * 15 + 13, none⟩ = some (.slice (some ⟨b5, o5, none⟩) n7 c7) := grown_cell hgrow t0 nb
                    have r6 : wd.cell? ⟨wo.heap.size, 13, none⟩ = some uu := grown_cell hgrow t6 nS
                    have r5 : wd.frozen? ⟨wo.heap.size, 13, none⟩ = false := grown_frozen hgrow t5 (by simp <;> omega) nS
                    have HBd := Lib.hid (((hgrow.block wo.heap.size (by simp; omega) nS).trans (Below.heap_alloc (wq.setCell ⟨wr.heap.size, 2, none⟩ (.slice xa bb.length xc)) _ wo.heap.size (by simp; omega))).trans ((Below.heap_setCell wq _ _ wo.heap.size (by simp; omega)).trans ((Hu1.out.block wo.heap.size (by omega)).trans HBx.out)))
                    have hpa : PA.In (wq.setCell ⟨wr.heap.size, 2, none⟩ (.slice xa bb.length xc)).heap.size (only (fun i => decide (wr.heap.size ≤ i)) (wq.setCell ⟨wr.heap.size, 2, none⟩ (.slice xa bb.length xc))) (.mk vn an (erSs at' bb)) (.slice xa bb.length xc) := ⟨HVA.out, hf1.out.up ((Kp.refl wr.heap.size wq).set _) (by omega) (by omega)⟩
                    have Hnx := Lib.hid (Srt.held_next (S := srtA) HTX.out hvs Hall.out Hown.out hzy (Hu1.out.setCell (p := ⟨wr.heap.size, 2, none⟩) (Nat.le_refl _) _) hpa hgrow (by simpa using hat) hown1)
                    have z2 : wq.heap.size + 1 ≤ wd.heap.size := by have := hgrow.size; simpa using this
                    clear hown1 hgrow hat t0 t6 t5 hpa k0 k1 k2 k3 q0 q6 q5 Hown1 Hall Hown
                    go_wp2_with fail
                    go_round
                    case rel =>
                      obtain ⟨y1, y2⟩ := Hnx.out
                      refine ⟨kj + 1, .slice (some ⟨gg, 0, none⟩) (kj + 1) cap1, by omega, by go_num, by simp; omega, ?_, ?_, ?_, Lib.hid (by simpa using box_set (i := 13) HBd.out (.slice (some ⟨gg, 0, none⟩) (kj + 1) cap1)), Lib.hid ⟨y1.keep (by simp) (fun i h1 h2 => Below.heap_setCell _ _ _ i (by simp; omega)), ⟨by simp; omega, fun i h1 h2 => ((Below.heap_setCell _ _ _ i (by simp; omega)).trans (y2.block i h2)).trans (Hkp.out.2 i h1 h2)⟩, (Hbel2.out.trans (y2.mono (by omega))).setCell (by simp) _⟩⟩
                      all_goals go_simp
                    case measure => simp [intOf]; omega
                  · obtain rfl : kj = n7 := by omega
                    obtain ⟨hA, hkp, hbel2⟩ := HH2.out
                    obtain ⟨p7, q7, rfl⟩ := hA.shape
                    obtain ⟨wg, hwg⟩ : ∃ W : World, W = wr := ⟨_, rfl⟩
                    subst hwg
                    have hsz5 := hkp.1
                    have hg : wo.heap.size < wg.heap.size := by omega
                    have HA5 : Hid (AsIn (wo.heap.size + 1) wg (erAs at' ar) (.slice p7 kj q7)) := Lib.hid (by
                      obtain ⟨b, o, h1, h2⟩ := hA.all (m := wo.heap.size + 1) (by rw [erAs_map, List.length_map]; exact Z7.out) (by unfold maxLen; omega) (by omega)
                      exact ⟨b, o, h1, rowA_all h2⟩)
                    have y0 : wg.cell? ⟨wo.heap.size, 0, none⟩ = some (.int .u8 op) := cell_of_row wg _ 0 _ _ _ HBx.out
                    have y1 : wg.cell? ⟨wo.heap.size, 1, none⟩ = some (.string nm) := cell_of_row wg _ 1 _ _ _ HBx.out
                    have y2 : wg.cell? ⟨wo.heap.size, 2, none⟩ = some (.string sc) := cell_of_row wg _ 2 _ _ _ HBx.out
                    have y3 : wg.cell? ⟨wo.heap.size, 3, none⟩ = some (.slice p1 ns.length q1) := cell_of_row wg _ 3 _ _ _ HBx.out
                    have y4 : wg.cell? ⟨wo.heap.size, 4, none⟩ = some (.int .u8 ty.kind) := cell_of_row wg _ 4 _ _ _ HBx.out
                    have y5 : wg.cell? ⟨wo.heap.size, 5, none⟩ = some (.string ty.name) := cell_of_row wg _ 5 _ _ _ HBx.out
                    have y6 : wg.cell? ⟨wo.heap.size, 6, none⟩ = some (.slice p2 m2 q2) := cell_of_row wg _ 6 _ _ _ HBx.out
                    have y7 : wg.cell? ⟨wo.heap.size, 7, none⟩ = some (.int .i64 int) := cell_of_row wg _ 7 _ _ _ HBx.out
                    have y8 : wg.cell? ⟨wo.heap.size, 8, none⟩ = some (.string pl.name) := cell_of_row wg _ 8 _ _ _ HBx.out
                    have y9 : wg.cell? ⟨wo.heap.size, 9, none⟩ = some (.slice p3 m3 q3) := cell_of_row wg _ 9 _ _ _ HBx.out
                    have y10 : wg.cell? ⟨wo.heap.size, 10, none⟩ = some (.slice p4 kk q4) := cell_of_row wg _ 10 _ _ _ HBx.out
                    have y11 : wg.cell? ⟨wo.heap.size, 11, none⟩ = some (.slice p5 bo.length q5) := cell_of_row wg _ 11 _ _ _ HBx.out
                    have y12 : wg.cell? ⟨wo.heap.size, 12, none⟩ = some (.slice p6 el.length q6) := cell_of_row wg _ 12 _ _ _ HBx.out
                    have y13 : wg.cell? ⟨wo.heap.size, 13, none⟩ = some (.slice p7 kj q7) := cell_of_row wg _ 13 _ _ _ HBx.out
                    have y14 : wg.cell? ⟨wo.heap.size, 14, none⟩ = some (.int .i64 pos) := cell_of_row wg _ 14 _ _ _ HBx.out
                    have f14 : wg.frozen? ⟨wo.heap.size, 14, none⟩ = false := box_frozen HBx.out
                    obtain ⟨vs, hvs, hown, hall⟩ := Hheld.out
                    have nS := own_ne' hown (b := wo.heap.size) (Nat.le_refl _)
                    have Hown := Lib.hid hown
                    have Hall := Lib.hid hall
                    have Hbel2 := Lib.hid hbel2
                    have HFr : Hid (∀ W1 ps, Kp wo.heap.size wg W1 → I64 ps → PS.In W1.heap.size (only (fun i => decide (wo.heap.size ≤ i)) W1) (.mk op nm sc ns ty int pl (erEs at' es) (erSs at' bo) (erSs at' el) (erAs at' ar) ps) ⟨.slice p1 ns.length q1, .slice p2 m2 q2, .slice p3 m3 q3, .slice p4 kk q4, .slice p5 bo.length q5, .slice p6 el.length q6, .slice p7 kj q7⟩) := Lib.hid (fun W1 ps K hps =>
                      ⟨⟨HSC.out.1, HSC.out.2.1, hps, HSC.out.2.2.2⟩, NIn.reads (hkp.trans K).1 ((hkp.trans K).reads (Nat.lt_succ_self _) (Nat.le_succ _)) HN4.out, PT.In.reads (hkp.trans K).1 ((hkp.trans K).reads (Nat.lt_succ_self _) (Nat.le_succ _)) HT4.out, PP.In.reads (hkp.trans K).1 ((hkp.trans K).reads (Nat.lt_succ_self _) (Nat.le_succ _)) HP4.out, HE4.out.up (hkp.trans K) (Nat.lt_succ_self _) (Nat.le_succ _), HBO4.out.up (hkp.trans K) (Nat.lt_succ_self _) (Nat.le_succ _), HEL4.out.up (hkp.trans K) (Nat.lt_succ_self _) (Nat.le_succ _), HA5.out.up K (Nat.lt_succ_self _) (Nat.le_succ _)⟩)
                    clear hA hkp hbel2 hown hall HH2 d13 g13
                    cases at' with
                    | true =>
                      have Hown1 := Lib.hid (own_below Hown.out Hbel2.out)
                      go_wp2_with (first
                        | (at_builtin; refine wpList_append_lies _ rfl _ _ 39 rfl w.heap.size 92 i0 _ 15 264 Tryz.underlying39 hi hz0 hz1 hz2 rfl (by decide) _ _ _ rfl (Hown1.out.alloc _) ⟨wg.heap.size, 0, none⟩ 1 1 [.int .u8 op, .string nm, .string sc, .slice p1 ns.length q1, .int .u8 ty.kind, .string ty.name, .slice p2 m2 q2, .int .i64 int, .string pl.name, .slice p3 m3 q3, .slice p4 kk q4, .slice p5 bo.length q5, .slice p6 el.length q6, .slice p7 kj q7, .int .i64 pos] rfl rfl ?c1 ?c2 ?c3 ?c4 ?c5 ?c6 (wg.heap.size + 1) ?c7 ?_)
                        | fail)
                      case c1 => exact World.news_of_block (cs := #[.int .u8 op, .string nm, .string sc, .slice p1 ns.length q1, .int .u8 ty.kind, .string ty.name, .slice p2 m2 q2, .int .i64 int, .string pl.name, .slice p3 m3 q3, .slice p4 kk q4, .slice p5 bo.length q5, .slice p6 el.length q6, .slice p7 kj q7, .int .i64 pos]) (t := 92) (fr := (0, 0)) (by have h := heap_alloc_new wg (.cells #[.int .u8 op, .string nm, .string sc, .slice p1 ns.length q1, .int .u8 ty.kind, .string ty.name, .slice p2 m2 q2, .int .i64 int, .string pl.name, .slice p3 m3 q3, .slice p4 kk q4, .slice p5 bo.length q5, .slice p6 el.length q6, .slice p7 kj q7, .int .i64 pos] 92); simpa using h)
                      case c2 => simp [Value.oneCell']
                      case c3 => omega
                      case c4 => unfold maxLen; omega
                      case c5 => omega
                      case c6 => simp <;> omega
                      case c7 => simp
                      intro gg cap1 wd hown1 hgrow hat hlt5
                      have HT' := HT.out
                      simp only [erS, if_true] at HT'
                      have Hnx := Lib.hid (Srt.held_next (S := srtS) HT' hvs Hall.out Hown.out hz (Hbel2.out) (HFr.out wg pos (Kp.refl _ _) HSC.out.2.2.1) hgrow (by simpa using hat) hown1)
                      have z2 : wg.heap.size + 1 ≤ wd.heap.size := by have := hgrow.size; simpa using this
                      clear hown1 hgrow hat Hown1 Hall Hown HT'
                      go_wp2_with fail
                      go_round
                      case rel =>
                        obtain ⟨z1, z3⟩ := Hnx.out
                        exact ⟨k + 1, .slice (some ⟨gg, 0, none⟩) (k + 1) cap1, by omega, rfl, by go_num, by omega, Lib.hid ⟨z1, Hbel.out.trans z3⟩⟩
                      case measure => simp [intOf]; omega
                    | false =>
                      have Hown1 := Lib.hid (ownsRow_setCell_other (own_below Hown.out Hbel2.out) (a := ⟨wo.heap.size, 14, none⟩) nS.symm (.int .i64 0))
                      go_wp2_with (first
                        | (at_builtin; refine wpList_append_lies _ rfl _ _ 39 rfl w.heap.size 92 i0 _ 15 264 Tryz.underlying39 hi hz0 hz1 hz2 rfl (by decide) _ _ _ rfl (Hown1.out.alloc _) ⟨wg.heap.size, 0, none⟩ 1 1 [.int .u8 op, .string nm, .string sc, .slice p1 ns.length q1, .int .u8 ty.kind, .string ty.name, .slice p2 m2 q2, .int .i64 int, .string pl.name, .slice p3 m3 q3, .slice p4 kk q4, .slice p5 bo.length q5, .slice p6 el.length q6, .slice p7 kj q7, .int .i64 0] rfl rfl ?c1 ?c2 ?c3 ?c4 ?c5 ?c6 (wg.heap.size + 1) ?c7 ?_)
                        | fail)
                      case c1 => exact World.news_of_block (cs := #[.int .u8 op, .string nm, .string sc, .slice p1 ns.length q1, .int .u8 ty.kind, .string ty.name, .slice p2 m2 q2, .int .i64 int, .string pl.name, .slice p3 m3 q3, .slice p4 kk q4, .slice p5 bo.length q5, .slice p6 el.length q6, .slice p7 kj q7, .int .i64 0]) (t := 92) (fr := (0, 0)) (by have h := heap_alloc_new (wg.setCell ⟨wo.heap.size, 14, none⟩ (.int .i64 0)) (.cells #[.int .u8 op, .string nm, .string sc, .slice p1 ns.length q1, .int .u8 ty.kind, .string ty.name, .slice p2 m2 q2, .int .i64 int, .string pl.name, .slice p3 m3 q3, .slice p4 kk q4, .slice p5 bo.length q5, .slice p6 el.length q6, .slice p7 kj q7, .int .i64 0] 92); simpa using h)
                      case c2 => simp [Value.oneCell']
                      case c3 => omega
                      case c4 => unfold maxLen; omega
                      case c5 => omega
                      case c6 => simp <;> omega
                      case c7 => simp
                      intro gg cap1 wd hown1 hgrow hat hlt5
                      have HT' := HT.out
                      simp only [erS, Bool.false_eq_true, if_false] at HT'
                      have Hnx := Lib.hid (Srt.held_next (S := srtS) HT' hvs Hall.out Hown.out hz (Hbel2.out.setCell (Nat.le_refl _) _) (HFr.out (wg.setCell ⟨wo.heap.size, 14, none⟩ (.int .i64 0)) 0 ((Kp.refl wo.heap.size wg).set _) (rfl : I64 0)) hgrow (by simpa using hat) hown1)
                      have z2 : wg.heap.size + 1 ≤ wd.heap.size := by have := hgrow.size; simpa using this
                      clear hown1 hgrow hat Hown1 Hall Hown HT'
                      go_wp2_with fail
                      go_round
                      case rel =>
                        obtain ⟨z1, z3⟩ := Hnx.out
                        exact ⟨k + 1, .slice (some ⟨gg, 0, none⟩) (k + 1) cap1, by omega, rfl, by go_num, by omega, Lib.hid ⟨z1, Hbel.out.trans z3⟩⟩
                      case measure => simp [intOf]; omega
    · obtain rfl : k = n := by omega
      obtain ⟨held, hbel⟩ := HH.out
      obtain ⟨p8, q8, rfl⟩ := held.shape
      have Hheld := Lib.hid held
      have Hbel := Lib.hid hbel
      clear held hbel HH
      go_wp2_with fail
      go_ret
      refine ⟨p8, q8, rfl, Lib.hid ?_, Hbel.out⟩
      obtain ⟨b, o, h1, h2⟩ := Hheld.out.all (m := w.heap.size) (by rw [erSs_map, List.length_map]; exact Hn.out) (by unfold maxLen; omega) (Nat.le_refl _)
      exact ⟨b, o, h1, rowS_all h2⟩
/-- statements, however they stand in one another -/
theorem copyS_calls (at' : Bool) : ∀ {l : List PS}, l.length ≤ 1000000 → FewSs l → CopySsAt at' l := by
  intro l
  generalize hn : SizeOf.sizeOf l = n
  induction n using Nat.strongRecOn generalizing l with
  | _ n ih => intro h1 h2; exact copyS_step at' l h1 h2 (fun l' hl' a b => ih _ (hn ▸ hl') rfl a b)
end Go.Proofs.YtojeijeimpffgaaGreat

