/- The document's own copies: items, programs. -/
import Derived.Test.YtojeijeimpffgaaGreatRTreeCopyS
namespace Go.Proofs.YtojeijeimpffgaaGreat
open Go.RowKit
set_option linter.unusedVariables false

/-- without its places in the text, where at is false -/
def erI (at' : Bool) (x : PI) : PI := ⟨x.kind, x.name, x.fields, x.result, erSs at' x.body, erE at' x.ret, if at' then x.pos else 0⟩
/-- no list in it is longer than can be copied -/
def FewI (x : PI) : Prop := (x.fields.length ≤ 1000000 ∧ ∀ f, f ∈ x.fields → FewT 1000000 f.type) ∧ FewT 1000000 x.result ∧ (x.body.length ≤ 1000000 ∧ FewSs x.body) ∧ FewE 1000000 x.ret
theorem infoItem : (Tryz.prog.info? 47).map (fun i => (i.zero, i.size, i.bytes)) = some (some (.agg #[.int .u8 0, .string ⟨#[]⟩, .slice none 0 0, .int .u8 0, .string ⟨#[]⟩, .slice none 0 0, .slice none 0 0, .int .u8 0, .int .i64 0, .string ⟨#[]⟩, .string ⟨#[]⟩, .string ⟨#[]⟩, .slice none 0 0, .slice none 0 0, .int .i64 0, .int .i64 0]), 16, 248) := by kernel_rfl
attribute [local go_sem ↓] Go.wp_at_zero Go.wp_at_succ
set_option maxRecDepth 100000 in
set_option maxHeartbeats 6400000 in
theorem copyI_calls (at' : Bool) (l : List PI) (hl : l.length ≤ 1000000) (hfew : ∀ x, x ∈ l → FewI x) (B : Nat) (v : Value) (w : World) (hB : B ≤ w.heap.size) (hp : ProgIn B w l v) :
    Calls Tryz.prog 6 #[.agg #[v], .bool at'] w fun e w' => ∃ ua uc, e = .returned (.agg #[.slice ua l.length uc]) ∧ Hid (ProgIn w'.heap.size (only (fun i => decide (w.heap.size ≤ i)) w') (l.map (erI at')) (.slice ua l.length uc)) ∧ Below w.heap.size w w' := by
  obtain ⟨b1, o1, ⟨m1, ao, cap, rfl, h1⟩, hr⟩ := hp
  obtain ⟨i0, hi, hz0, hz1, hz2⟩ := info_parts infoItem
  unfold maxLen at m1
  obtain ⟨n, hn⟩ : ∃ n, n = l.length := ⟨_, rfl⟩
  rw [← hn] at m1 h1 hl
  have Hn := Lib.hid hn
  have H1 := Lib.hid h1
  have Hr := Lib.hid hr
  have Hfew := Lib.hid hfew
  rw [← hn]
  clear hn h1 hr hfew
  go_enter Tryz.func6, Tryz.ntmps6
  go_wp2_with fail
  go_loopw [6] (fun i wr => ∃ (k : Nat) (u : Value), k ≤ n ∧ i = .int .i64 k ∧ w.heap.size + 2 < wr.heap.size ∧ wr.cell? ⟨w.heap.size, 0, none⟩ = some (.slice ao n cap) ∧ wr.cell? ⟨w.heap.size + 2, 0, none⟩ = some u ∧ wr.frozen? ⟨w.heap.size + 2, 0, none⟩ = false ∧ Hid (srtI.Held (w.heap.size + 3) 47 (l.map (erI at')) k u wr ∧ Below w.heap.size w wr ∧ wr.heap[w.heap.size + 1]? = some (.cells #[.slice none 0 0] 24 (0, 0))))
    (fun i _ => n - (intOf i).toNat)
  case atStart =>
    refine ⟨0, .slice none 0 0, Nat.zero_le _, rfl, by simp, ?_, ?_, ?_, Lib.hid ⟨Srt.Held.nil _ _ _ _ _, ?_, ?_⟩⟩
    · go_simp
    · go_simp
    · go_simp
    · exact (((Below.refl _ w).alloc (Nat.le_refl _) _).alloc (by simp) _).alloc (by simp; omega) _
    · rw [Below.heap_alloc _ _ _ (by simp)]
      exact (by simp : w.heap.size + 1 = (w.alloc (Obj.cells #[.slice ao n cap] 24)).heap.size) ▸ heap_alloc_new _ _
  case round =>
    obtain ⟨k, u, hk, rfl, hz, c0, d0, g0, HH⟩ := hrel
    obtain ⟨wo, hwo⟩ : ∃ W : World, W = wr := ⟨_, rfl⟩
    subst hwo
    by_cases hlt : k < n
    · obtain ⟨t, ht, hin⟩ := get_at (l := l) (k := k) (by rw [← Hn.out]; exact hlt)
      obtain ⟨rfl, hb1⟩ := H1.out.resolve_left (by omega)
      obtain ⟨held, hbel, hres⟩ := HH.out
      obtain ⟨vt, ct, it⟩ := PI.Row.get (PI.Row.below (hbel.mono hB) hb1 Hr.out) ht
      obtain ⟨kd, nm, fs, ty, bo, ret, pos⟩ := t
      obtain ⟨d1, n1, c1, d2, n2, c2, d3, n3, c3, d4, n4, c4, d5, n5, c5, rfl⟩ := it.shape
      obtain ⟨⟨ff1, ff2⟩, fty, ⟨fb1, fb2⟩, fre⟩ := Hfew.out _ hin
      obtain ⟨hsc, ⟨b2, o2, s2, r2⟩, hty, ⟨b3, o3, s3, r3⟩, hre⟩ := it
      have g1 : b1 < wo.heap.size := by omega
      have e0 : wo.cell? ⟨b1, o1 + k * 16, none⟩ = some (.int .u8 kd) := ct 0 _ rfl
      have e1 : wo.cell? ⟨b1, o1 + k * 16 + 1, none⟩ = some (.string nm) := ct 1 _ rfl
      have e2 : wo.cell? ⟨b1, o1 + k * 16 + 2, none⟩ = some (.slice d1 n1 c1) := ct 2 _ rfl
      have e3 : wo.cell? ⟨b1, o1 + k * 16 + 3, none⟩ = some (.int .u8 ty.kind) := ct 3 _ rfl
      have e4 : wo.cell? ⟨b1, o1 + k * 16 + 4, none⟩ = some (.string ty.name) := ct 4 _ rfl
      have e5 : wo.cell? ⟨b1, o1 + k * 16 + 5, none⟩ = some (.slice d2 n2 c2) := ct 5 _ rfl
      have e6 : wo.cell? ⟨b1, o1 + k * 16 + 6, none⟩ = some (.slice d3 n3 c3) := ct 6 _ rfl
      have e7 : wo.cell? ⟨b1, o1 + k * 16 + 7, none⟩ = some (.int .u8 ret.op) := ct 7 _ rfl
      have e8 : wo.cell? ⟨b1, o1 + k * 16 + 8, none⟩ = some (.int .i64 ret.int) := ct 8 _ rfl
      have e9 : wo.cell? ⟨b1, o1 + k * 16 + 9, none⟩ = some (.string ret.name) := ct 9 _ rfl
      have e10 : wo.cell? ⟨b1, o1 + k * 16 + 10, none⟩ = some (.string ret.second) := ct 10 _ rfl
      have e11 : wo.cell? ⟨b1, o1 + k * 16 + 11, none⟩ = some (.string ret.place.name) := ct 11 _ rfl
      have e12 : wo.cell? ⟨b1, o1 + k * 16 + 12, none⟩ = some (.slice d4 n4 c4) := ct 12 _ rfl
      have e13 : wo.cell? ⟨b1, o1 + k * 16 + 13, none⟩ = some (.slice d5 n5 c5) := ct 13 _ rfl
      have e14 : wo.cell? ⟨b1, o1 + k * 16 + 14, none⟩ = some (.int .i64 ret.pos) := ct 14 _ rfl
      have e15 : wo.cell? ⟨b1, o1 + k * 16 + 15, none⟩ = some (.int .i64 pos) := ct 15 _ rfl
      have hk0 : (0 : Int) ≤ (k : Int) := Int.natCast_nonneg _
      have hk1 : (k : Int) < (n : Int) := by omega
      have ht' : (l.map (erI at'))[k]? = some (erI at' ⟨kd, nm, fs, ty, bo, ret, pos⟩) := by rw [List.getElem?_map, ht]; rfl
      have Hheld := Lib.hid held
      have Hbel := Lib.hid hbel
      have Hres := Lib.hid hres
      have HFS := Lib.hid (And.intro s2 r2)
      have HTY := Lib.hid hty
      have HBO := Lib.hid (And.intro s3 r3)
      have HRE := Lib.hid hre
      have HSC := Lib.hid hsc
      have FF := Lib.hid (And.intro ff1 ff2)
      have FTY := Lib.hid fty
      have FB := Lib.hid (And.intro fb1 fb2)
      have FRE := Lib.hid fre
      have HT := Lib.hid ht'
      have hBw : B ≤ wo.heap.size := by omega
      clear held hbel hres ct hty s2 r2 s3 r3 hre hsc ff1 ff2 fty fb1 fb2 fre ht ht' hin
      go_upto_region 6 with (fail)
      obtain ⟨wa, hwa⟩ : ∃ W, W = wo.alloc (Obj.cells #[.int .u8 kd, .string nm, .slice d1 n1 c1, .int .u8 ty.kind, .string ty.name, .slice d2 n2 c2, .slice d3 n3 c3, .int .u8 ret.op, .int .i64 ret.int, .string ret.name, .string ret.second, .string ret.place.name, .slice d4 n4 c4, .slice d5 n5 c5, .int .i64 ret.pos, .int .i64 pos] 47) := ⟨_, rfl⟩
      rw [← hwa]
      have HB1 : Hid (Below wo.heap.size wo wa) := Lib.hid (hwa ▸ (Below.refl _ wo).alloc (Nat.le_refl _) _)
      have HBox : Hid (wa.heap[wo.heap.size]? = some (.cells #[.int .u8 kd, .string nm, .slice d1 n1 c1, .int .u8 ty.kind, .string ty.name, .slice d2 n2 c2, .slice d3 n3 c3, .int .u8 ret.op, .int .i64 ret.int, .string ret.name, .string ret.second, .string ret.place.name, .slice d4 n4 c4, .slice d5 n5 c5, .int .i64 ret.pos, .int .i64 pos] 47 (0, 0))) := Lib.hid (hwa ▸ heap_alloc_new wo _)
      have hs1 : wo.heap.size < wa.heap.size := by rw [hwa]; simp
      clear hwa e0 e1 e2 e3 e4 e5 e6 e7 e8 e9 e10 e11 e12 e13 e14 e15
      have y2 : wa.cell? ⟨wo.heap.size, 2, none⟩ = some (.slice d1 n1 c1) := cell_of_row wa _ 2 _ _ _ HBox.out
      have y3 : wa.cell? ⟨wo.heap.size, 3, none⟩ = some (.int .u8 ty.kind) := cell_of_row wa _ 3 _ _ _ HBox.out
      have y4 : wa.cell? ⟨wo.heap.size, 4, none⟩ = some (.string ty.name) := cell_of_row wa _ 4 _ _ _ HBox.out
      have y5 : wa.cell? ⟨wo.heap.size, 5, none⟩ = some (.slice d2 n2 c2) := cell_of_row wa _ 5 _ _ _ HBox.out
      have f2 : wa.frozen? ⟨wo.heap.size, 2, none⟩ = false := box_frozen HBox.out
      have f3 : wa.frozen? ⟨wo.heap.size, 3, none⟩ = false := box_frozen HBox.out
      have f4 : wa.frozen? ⟨wo.heap.size, 4, none⟩ = false := box_frozen HBox.out
      have f5 : wa.frozen? ⟨wo.heap.size, 5, none⟩ = false := box_frozen HBox.out
      have CF : Hid (Calls Tryz.prog 23 #[.slice d1 n1 c1] wa.drew fun e w' => ∃ v', e = .returned v' ∧ Hid (FsIn wa.heap.size w' fs v') ∧ Below wa.heap.size wa.drew w') :=
        Lib.hid ((copyF_calls fs FF.out.1 FF.out.2 B b2 o2 _ wa.drew (show B ≤ wa.heap.size from by have := HB1.out.size; omega) HFS.out.1 (PF.Row.below' ((HB1.out.mono hBw).drew) HFS.out.1 HFS.out.2)).mono fun e w' ⟨v', h1, h2, h3⟩ => ⟨v', h1, Lib.hid h2, h3⟩)
      have CT : Hid (∀ W, Below wa.heap.size wa W → Calls Tryz.prog 24 #[.agg #[.int .u8 ty.kind, .string ty.name, .slice d2 n2 c2]] W fun e w' => ∃ v', e = .returned (.agg #[.int .u8 ty.kind, .string ty.name, v']) ∧ FreshT W.heap.size w' ty v' ∧ Below W.heap.size W w') :=
        Lib.hid fun W hW => copyT_calls FTY.out B _ W (by have := HB1.out.size; have := hW.size; omega) (PT.In.below ((HB1.out.mono hBw).trans (hW.mono (by have := HB1.out.size; omega))) HTY.out)
      go_cut [7] from 8 to 46 (fun s7 wx => ∃ p1 m1' q1 p2 m2 q2, s7 = .pointer (some ⟨wo.heap.size, 0, none⟩) ∧ wo.heap.size < wx.heap.size ∧ Hid (wx.heap[wo.heap.size]? = some (.cells #[.int .u8 kd, .string nm, .slice p1 m1' q1, .int .u8 ty.kind, .string ty.name, .slice p2 m2 q2, .slice d3 n3 c3, .int .u8 ret.op, .int .i64 ret.int, .string ret.name, .string ret.second, .string ret.place.name, .slice d4 n4 c4, .slice d5 n5 c5, .int .i64 ret.pos, .int .i64 pos] 47 (0, 0))) ∧ Hid (FsIn (wo.heap.size + 1) wx fs (.slice p1 m1' q1)) ∧ Hid (ty.In wx.heap.size (only (fun i => decide (wo.heap.size + 1 ≤ i)) wx) (.slice p2 m2 q2)) ∧ Hid (Below wo.heap.size wo wx))
      case first =>
        go_region_law
          (first
            | (go_simp; go_at_call 23; (with_reducible refine CF.out.mono ?_)
               rintro e w1 ⟨v1, rfl, hf1, u0⟩
               obtain ⟨b8, o8, h8, _⟩ := hf1.out
               obtain ⟨p1, q1, rfl⟩ := h8.shape
               have u1 : Below wa.heap.size wa w1 := ((Below.refl _ wa).drew).trans u0
               have y2 : w1.cell? ⟨wo.heap.size, 2, none⟩ = some (.slice d1 n1 c1) := (u1.cell (show wo.heap.size < wa.heap.size by omega)).trans y2
               have y3 : w1.cell? ⟨wo.heap.size, 3, none⟩ = some (.int .u8 ty.kind) := (u1.cell (show wo.heap.size < wa.heap.size by omega)).trans y3
               have y4 : w1.cell? ⟨wo.heap.size, 4, none⟩ = some (.string ty.name) := (u1.cell (show wo.heap.size < wa.heap.size by omega)).trans y4
               have y5 : w1.cell? ⟨wo.heap.size, 5, none⟩ = some (.slice d2 n2 c2) := (u1.cell (show wo.heap.size < wa.heap.size by omega)).trans y5
               have U1 := Lib.hid u1
               clear u1 u0 h8)
            | (go_simp; go_at_call 24; refine (CT.out w1 U1.out).mono ?_
               rintro e w2 ⟨v2, rfl, hf2, bel2⟩
               obtain ⟨p2, m2, q2, rfl⟩ := PT.In.shape hf2
               have u2 : Below wa.heap.size wa w2 := U1.out.trans (bel2.mono U1.out.size)
               have z1 : w1.heap.size ≤ w2.heap.size := bel2.size
               have y2 : w2.cell? ⟨wo.heap.size, 2, none⟩ = some (.slice d1 n1 c1) := (bel2.cell (show wo.heap.size < w1.heap.size by have := U1.out.size; omega)).trans y2
               have y3 : w2.cell? ⟨wo.heap.size, 3, none⟩ = some (.int .u8 ty.kind) := (bel2.cell (show wo.heap.size < w1.heap.size by have := U1.out.size; omega)).trans y3
               have y4 : w2.cell? ⟨wo.heap.size, 4, none⟩ = some (.string ty.name) := (bel2.cell (show wo.heap.size < w1.heap.size by have := U1.out.size; omega)).trans y4
               have y5 : w2.cell? ⟨wo.heap.size, 5, none⟩ = some (.slice d2 n2 c2) := (bel2.cell (show wo.heap.size < w1.heap.size by have := U1.out.size; omega)).trans y5
               have f2 : w2.frozen? ⟨wo.heap.size, 2, none⟩ = false := (u2.frozen (show wo.heap.size < wa.heap.size by omega)).trans f2
               have f3 : w2.frozen? ⟨wo.heap.size, 3, none⟩ = false := (u2.frozen (show wo.heap.size < wa.heap.size by omega)).trans f3
               have f4 : w2.frozen? ⟨wo.heap.size, 4, none⟩ = false := (u2.frozen (show wo.heap.size < wa.heap.size by omega)).trans f4
               have f5 : w2.frozen? ⟨wo.heap.size, 5, none⟩ = false := (u2.frozen (show wo.heap.size < wa.heap.size by omega)).trans f5
               have U2 := Lib.hid u2
               have BL2 := Lib.hid bel2
               have HF2 := Lib.hid hf2
               clear u2 bel2 hf2))
        all_goals
          go_wp2_with fail
          go_meet
          case rel =>
            have zz := U2.out.size
            have zx := U1.out.size
            have hb := (U2.out.block wo.heap.size hs1).trans HBox.out
            have K1 : Kp wo.heap.size w1 ((((w2.setCell ⟨wo.heap.size, 2, none⟩ (.slice p1 fs.length q1)).setCell ⟨wo.heap.size, 3, none⟩ (.int .u8 ty.kind)).setCell ⟨wo.heap.size, 4, none⟩ (.string ty.name)).setCell ⟨wo.heap.size, 5, none⟩ (.slice p2 m2 q2)) := ((((Kp.of BL2.out).set _).set _).set _).set _
            have K2 : Kp wo.heap.size w2 ((((w2.setCell ⟨wo.heap.size, 2, none⟩ (.slice p1 fs.length q1)).setCell ⟨wo.heap.size, 3, none⟩ (.int .u8 ty.kind)).setCell ⟨wo.heap.size, 4, none⟩ (.string ty.name)).setCell ⟨wo.heap.size, 5, none⟩ (.slice p2 m2 q2)) := ((((Kp.refl wo.heap.size w2).set _).set _).set _).set _
            exact ⟨p1, fs.length, q1, p2, m2, q2, rfl, by simp; omega, Lib.hid (by simpa using box_set (i := 5) (box_set (i := 4) (box_set (i := 3) (box_set (i := 2) hb (.slice p1 fs.length q1)) (.int .u8 ty.kind)) (.string ty.name)) (.slice p2 m2 q2)), Lib.hid (hf1.out.up K1 (by omega) (by omega)), Lib.hid (PT.In.reads K2.1 (K2.reads (show wo.heap.size < w1.heap.size by omega) (show wo.heap.size + 1 ≤ w1.heap.size by omega)) HF2.out), Lib.hid (((((HB1.out.trans (U2.out.mono (by omega))).setCell (by simp) _).setCell (by simp) _).setCell (by simp) _).setCell (by simp) _)⟩
      case rest =>
        obtain ⟨p1, m1', q1, p2, m2, q2, rfl, hs2, HBox2, HF2, HT2, HB2⟩ := hcut
        obtain ⟨wb, hwb⟩ : ∃ W, W = wc := ⟨_, rfl⟩
        rw [← hwb] at hs2 HBox2 HF2 HT2 HB2
        rw [← hwb]
        clear hwb CF CT y2 y3 y4 y5 f2 f3 f4 f5 HBox HB1 hs1
        have y6 : wb.cell? ⟨wo.heap.size, 6, none⟩ = some (.slice d3 n3 c3) := cell_of_row wb _ 6 _ _ _ HBox2.out
        have y7 : wb.cell? ⟨wo.heap.size, 7, none⟩ = some (.int .u8 ret.op) := cell_of_row wb _ 7 _ _ _ HBox2.out
        have y8 : wb.cell? ⟨wo.heap.size, 8, none⟩ = some (.int .i64 ret.int) := cell_of_row wb _ 8 _ _ _ HBox2.out
        have y9 : wb.cell? ⟨wo.heap.size, 9, none⟩ = some (.string ret.name) := cell_of_row wb _ 9 _ _ _ HBox2.out
        have y10 : wb.cell? ⟨wo.heap.size, 10, none⟩ = some (.string ret.second) := cell_of_row wb _ 10 _ _ _ HBox2.out
        have y11 : wb.cell? ⟨wo.heap.size, 11, none⟩ = some (.string ret.place.name) := cell_of_row wb _ 11 _ _ _ HBox2.out
        have y12 : wb.cell? ⟨wo.heap.size, 12, none⟩ = some (.slice d4 n4 c4) := cell_of_row wb _ 12 _ _ _ HBox2.out
        have y13 : wb.cell? ⟨wo.heap.size, 13, none⟩ = some (.slice d5 n5 c5) := cell_of_row wb _ 13 _ _ _ HBox2.out
        have y14 : wb.cell? ⟨wo.heap.size, 14, none⟩ = some (.int .i64 ret.pos) := cell_of_row wb _ 14 _ _ _ HBox2.out
        have f6 : wb.frozen? ⟨wo.heap.size, 6, none⟩ = false := box_frozen HBox2.out
        have f7 : wb.frozen? ⟨wo.heap.size, 7, none⟩ = false := box_frozen HBox2.out
        have f8 : wb.frozen? ⟨wo.heap.size, 8, none⟩ = false := box_frozen HBox2.out
        have f9 : wb.frozen? ⟨wo.heap.size, 9, none⟩ = false := box_frozen HBox2.out
        have f10 : wb.frozen? ⟨wo.heap.size, 10, none⟩ = false := box_frozen HBox2.out
        have f11 : wb.frozen? ⟨wo.heap.size, 11, none⟩ = false := box_frozen HBox2.out
        have f12 : wb.frozen? ⟨wo.heap.size, 12, none⟩ = false := box_frozen HBox2.out
        have f13 : wb.frozen? ⟨wo.heap.size, 13, none⟩ = false := box_frozen HBox2.out
        have f14 : wb.frozen? ⟨wo.heap.size, 14, none⟩ = false := box_frozen HBox2.out
        have CB : Hid (Calls Tryz.prog 25 #[.slice d3 n3 c3, .bool at'] wb.drew fun e w' => ∃ ua uc, e = .returned (.slice ua bo.length uc) ∧ Hid (SsIn wb.heap.size w' (erSs at' bo) (.slice ua bo.length uc)) ∧ Below wb.heap.size wb.drew w') :=
          Lib.hid (copyS_calls at' FB.out.1 FB.out.2 B _ _ _ wb.drew (show B ≤ wb.heap.size from by have := HB2.out.size; omega) HBO.out.1 (PS.Row.below' ((HB2.out.mono hBw).drew) HBO.out.1 HBO.out.2))
        have CE : Hid (∀ W, Below wb.heap.size wb W → Calls Tryz.prog 26 #[.agg #[.int .u8 ret.op, .int .i64 ret.int, .string ret.name, .string ret.second, .string ret.place.name, .slice d4 n4 c4, .slice d5 n5 c5, .int .i64 ret.pos], .bool at'] W fun e w' => ∃ v' : VE, e = .returned (.agg #[.int .u8 (erE at' ret).op, .int .i64 (erE at' ret).int, .string (erE at' ret).name, .string (erE at' ret).second, .string (erE at' ret).place.name, v'.path, v'.args, .int .i64 (erE at' ret).pos]) ∧ FreshE W.heap.size w' (erE at' ret) v' ∧ Below W.heap.size W w') :=
          Lib.hid fun W hW => copyE_calls at' FRE.out B ⟨.slice d4 n4 c4, .slice d5 n5 c5⟩ W (by have := HB2.out.size; have := hW.size; omega) (PE.In.below ((HB2.out.mono hBw).trans (hW.mono (by have := HB2.out.size; omega))) HRE.out)
        go_upto_region 7 with (fail)
        go_cut [7] from 8 to 46 (fun s7 wx => ∃ p3 q3 p4 m4 q4 p5 m5 q5, s7 = .pointer (some ⟨wo.heap.size, 0, none⟩) ∧ wo.heap.size < wx.heap.size ∧ Hid (wx.heap[wo.heap.size]? = some (.cells #[.int .u8 kd, .string nm, .slice p1 m1' q1, .int .u8 ty.kind, .string ty.name, .slice p2 m2 q2, .slice p3 bo.length q3, .int .u8 (erE at' ret).op, .int .i64 (erE at' ret).int, .string (erE at' ret).name, .string (erE at' ret).second, .string (erE at' ret).place.name, .slice p4 m4 q4, .slice p5 m5 q5, .int .i64 (erE at' ret).pos, .int .i64 pos] 47 (0, 0))) ∧ Hid (FsIn (wo.heap.size + 1) wx fs (.slice p1 m1' q1)) ∧ Hid (ty.In wx.heap.size (only (fun i => decide (wo.heap.size + 1 ≤ i)) wx) (.slice p2 m2 q2)) ∧ Hid (SsIn (wo.heap.size + 1) wx (erSs at' bo) (.slice p3 bo.length q3)) ∧ Hid (PE.In wx.heap.size (only (fun i => decide (wo.heap.size + 1 ≤ i)) wx) (erE at' ret) ⟨.slice p4 m4 q4, .slice p5 m5 q5⟩) ∧ Hid (Below wo.heap.size wo wx))
        case first =>
          go_region_law
            (first
              | (go_simp; go_at_call 25; (with_reducible refine CB.out.mono ?_)
                 rintro e w1 ⟨p3, q3, rfl, hf1, u0⟩
                 have u1 : Below wb.heap.size wb w1 := ((Below.refl _ wb).drew).trans u0
                 have y6 : w1.cell? ⟨wo.heap.size, 6, none⟩ = some (.slice d3 n3 c3) := (u1.cell (show wo.heap.size < wb.heap.size by omega)).trans y6
                 have y7 : w1.cell? ⟨wo.heap.size, 7, none⟩ = some (.int .u8 ret.op) := (u1.cell (show wo.heap.size < wb.heap.size by omega)).trans y7
                 have y8 : w1.cell? ⟨wo.heap.size, 8, none⟩ = some (.int .i64 ret.int) := (u1.cell (show wo.heap.size < wb.heap.size by omega)).trans y8
                 have y9 : w1.cell? ⟨wo.heap.size, 9, none⟩ = some (.string ret.name) := (u1.cell (show wo.heap.size < wb.heap.size by omega)).trans y9
                 have y10 : w1.cell? ⟨wo.heap.size, 10, none⟩ = some (.string ret.second) := (u1.cell (show wo.heap.size < wb.heap.size by omega)).trans y10
                 have y11 : w1.cell? ⟨wo.heap.size, 11, none⟩ = some (.string ret.place.name) := (u1.cell (show wo.heap.size < wb.heap.size by omega)).trans y11
                 have y12 : w1.cell? ⟨wo.heap.size, 12, none⟩ = some (.slice d4 n4 c4) := (u1.cell (show wo.heap.size < wb.heap.size by omega)).trans y12
                 have y13 : w1.cell? ⟨wo.heap.size, 13, none⟩ = some (.slice d5 n5 c5) := (u1.cell (show wo.heap.size < wb.heap.size by omega)).trans y13
                 have y14 : w1.cell? ⟨wo.heap.size, 14, none⟩ = some (.int .i64 ret.pos) := (u1.cell (show wo.heap.size < wb.heap.size by omega)).trans y14
                 have U1 := Lib.hid u1
                 clear u1 u0)
              | (go_simp; go_at_call 26; refine (CE.out w1 U1.out).mono ?_
                 rintro e w2 ⟨v2, rfl, hf2, bel2⟩
                 obtain ⟨p4, m4, q4, p5, m5, q5, rfl⟩ := PE.In.shape hf2
                 have u2 : Below wb.heap.size wb w2 := U1.out.trans (bel2.mono U1.out.size)
                 have z1 : w1.heap.size ≤ w2.heap.size := bel2.size
                 have y6 : w2.cell? ⟨wo.heap.size, 6, none⟩ = some (.slice d3 n3 c3) := (bel2.cell (show wo.heap.size < w1.heap.size by have := U1.out.size; omega)).trans y6
                 have y7 : w2.cell? ⟨wo.heap.size, 7, none⟩ = some (.int .u8 ret.op) := (bel2.cell (show wo.heap.size < w1.heap.size by have := U1.out.size; omega)).trans y7
                 have y8 : w2.cell? ⟨wo.heap.size, 8, none⟩ = some (.int .i64 ret.int) := (bel2.cell (show wo.heap.size < w1.heap.size by have := U1.out.size; omega)).trans y8
                 have y9 : w2.cell? ⟨wo.heap.size, 9, none⟩ = some (.string ret.name) := (bel2.cell (show wo.heap.size < w1.heap.size by have := U1.out.size; omega)).trans y9
                 have y10 : w2.cell? ⟨wo.heap.size, 10, none⟩ = some (.string ret.second) := (bel2.cell (show wo.heap.size < w1.heap.size by have := U1.out.size; omega)).trans y10
                 have y11 : w2.cell? ⟨wo.heap.size, 11, none⟩ = some (.string ret.place.name) := (bel2.cell (show wo.heap.size < w1.heap.size by have := U1.out.size; omega)).trans y11
                 have y12 : w2.cell? ⟨wo.heap.size, 12, none⟩ = some (.slice d4 n4 c4) := (bel2.cell (show wo.heap.size < w1.heap.size by have := U1.out.size; omega)).trans y12
                 have y13 : w2.cell? ⟨wo.heap.size, 13, none⟩ = some (.slice d5 n5 c5) := (bel2.cell (show wo.heap.size < w1.heap.size by have := U1.out.size; omega)).trans y13
                 have y14 : w2.cell? ⟨wo.heap.size, 14, none⟩ = some (.int .i64 ret.pos) := (bel2.cell (show wo.heap.size < w1.heap.size by have := U1.out.size; omega)).trans y14
                 have f6 : w2.frozen? ⟨wo.heap.size, 6, none⟩ = false := (u2.frozen (show wo.heap.size < wb.heap.size by omega)).trans f6
                 have f7 : w2.frozen? ⟨wo.heap.size, 7, none⟩ = false := (u2.frozen (show wo.heap.size < wb.heap.size by omega)).trans f7
                 have f8 : w2.frozen? ⟨wo.heap.size, 8, none⟩ = false := (u2.frozen (show wo.heap.size < wb.heap.size by omega)).trans f8
                 have f9 : w2.frozen? ⟨wo.heap.size, 9, none⟩ = false := (u2.frozen (show wo.heap.size < wb.heap.size by omega)).trans f9
                 have f10 : w2.frozen? ⟨wo.heap.size, 10, none⟩ = false := (u2.frozen (show wo.heap.size < wb.heap.size by omega)).trans f10
                 have f11 : w2.frozen? ⟨wo.heap.size, 11, none⟩ = false := (u2.frozen (show wo.heap.size < wb.heap.size by omega)).trans f11
                 have f12 : w2.frozen? ⟨wo.heap.size, 12, none⟩ = false := (u2.frozen (show wo.heap.size < wb.heap.size by omega)).trans f12
                 have f13 : w2.frozen? ⟨wo.heap.size, 13, none⟩ = false := (u2.frozen (show wo.heap.size < wb.heap.size by omega)).trans f13
                 have f14 : w2.frozen? ⟨wo.heap.size, 14, none⟩ = false := (u2.frozen (show wo.heap.size < wb.heap.size by omega)).trans f14
                 have U2 := Lib.hid u2
                 have BL2 := Lib.hid bel2
                 have HF3 := Lib.hid hf2
                 clear u2 bel2 hf2))
          all_goals
            go_wp2_with fail
            go_meet
            case rel =>
              have zz := U2.out.size
              have zx := U1.out.size
              have hb := (U2.out.block wo.heap.size hs2).trans HBox2.out
              have K0 : Kp wo.heap.size wb (((((((((w2.setCell ⟨wo.heap.size, 6, none⟩ (.slice p3 bo.length q3)).setCell ⟨wo.heap.size, 7, none⟩ (.int .u8 (erE at' ret).op)).setCell ⟨wo.heap.size, 8, none⟩ (.int .i64 (erE at' ret).int)).setCell ⟨wo.heap.size, 9, none⟩ (.string (erE at' ret).name)).setCell ⟨wo.heap.size, 10, none⟩ (.string (erE at' ret).second)).setCell ⟨wo.heap.size, 11, none⟩ (.string (erE at' ret).place.name)).setCell ⟨wo.heap.size, 12, none⟩ (.slice p4 m4 q4)).setCell ⟨wo.heap.size, 13, none⟩ (.slice p5 m5 q5)).setCell ⟨wo.heap.size, 14, none⟩ (.int .i64 (erE at' ret).pos)) := ((((((((((Kp.of U2.out).set _).set _).set _).set _).set _).set _).set _).set _).set _)
              have K1 : Kp wo.heap.size w1 (((((((((w2.setCell ⟨wo.heap.size, 6, none⟩ (.slice p3 bo.length q3)).setCell ⟨wo.heap.size, 7, none⟩ (.int .u8 (erE at' ret).op)).setCell ⟨wo.heap.size, 8, none⟩ (.int .i64 (erE at' ret).int)).setCell ⟨wo.heap.size, 9, none⟩ (.string (erE at' ret).name)).setCell ⟨wo.heap.size, 10, none⟩ (.string (erE at' ret).second)).setCell ⟨wo.heap.size, 11, none⟩ (.string (erE at' ret).place.name)).setCell ⟨wo.heap.size, 12, none⟩ (.slice p4 m4 q4)).setCell ⟨wo.heap.size, 13, none⟩ (.slice p5 m5 q5)).setCell ⟨wo.heap.size, 14, none⟩ (.int .i64 (erE at' ret).pos)) := ((((((((((Kp.of BL2.out).set _).set _).set _).set _).set _).set _).set _).set _).set _)
              have K2 : Kp wo.heap.size w2 (((((((((w2.setCell ⟨wo.heap.size, 6, none⟩ (.slice p3 bo.length q3)).setCell ⟨wo.heap.size, 7, none⟩ (.int .u8 (erE at' ret).op)).setCell ⟨wo.heap.size, 8, none⟩ (.int .i64 (erE at' ret).int)).setCell ⟨wo.heap.size, 9, none⟩ (.string (erE at' ret).name)).setCell ⟨wo.heap.size, 10, none⟩ (.string (erE at' ret).second)).setCell ⟨wo.heap.size, 11, none⟩ (.string (erE at' ret).place.name)).setCell ⟨wo.heap.size, 12, none⟩ (.slice p4 m4 q4)).setCell ⟨wo.heap.size, 13, none⟩ (.slice p5 m5 q5)).setCell ⟨wo.heap.size, 14, none⟩ (.int .i64 (erE at' ret).pos)) := ((((((((((Kp.refl wo.heap.size w2).set _).set _).set _).set _).set _).set _).set _).set _).set _)
              exact ⟨p3, q3, p4, m4, q4, p5, m5, q5, rfl, by simp; omega, Lib.hid (by simpa using (box_set (i := 14) (box_set (i := 13) (box_set (i := 12) (box_set (i := 11) (box_set (i := 10) (box_set (i := 9) (box_set (i := 8) (box_set (i := 7) (box_set (i := 6) hb (.slice p3 bo.length q3)) (.int .u8 (erE at' ret).op)) (.int .i64 (erE at' ret).int)) (.string (erE at' ret).name)) (.string (erE at' ret).second)) (.string (erE at' ret).place.name)) (.slice p4 m4 q4)) (.slice p5 m5 q5)) (.int .i64 (erE at' ret).pos))), Lib.hid (HF2.out.up K0 (by omega) (Nat.le_refl _)), Lib.hid (PT.In.reads K0.1 (K0.reads (by omega) (Nat.le_refl _)) HT2.out), Lib.hid (hf1.out.up K1 (by omega) (by omega)), Lib.hid (PE.In.reads K2.1 (K2.reads (show wo.heap.size < w1.heap.size by omega) (show wo.heap.size + 1 ≤ w1.heap.size by omega)) HF3.out), Lib.hid ((((((((((HB2.out.trans (U2.out.mono (by omega))).setCell (by simp) _).setCell (by simp) _).setCell (by simp) _).setCell (by simp) _).setCell (by simp) _).setCell (by simp) _).setCell (by simp) _).setCell (by simp) _).setCell (by simp) _)⟩
        case rest =>
          obtain ⟨p3, q3, p4, m4, q4, p5, m5, q5, rfl, hs3, HBox3, HF3, HT3, HO3, HE3, HB3⟩ := hcut
          obtain ⟨wg, hwg⟩ : ∃ W, W = wc := ⟨_, rfl⟩
          rw [← hwg] at hs3 HBox3 HF3 HT3 HO3 HE3 HB3
          rw [← hwg]
          clear hwg CB CE y6 f6 y7 f7 y8 f8 y9 f9 y10 f10 y11 f11 y12 f12 y13 f13 y14 f14 HBox2 HF2 HT2 HB2 hs2
          have y0 : wg.cell? ⟨wo.heap.size, 0, none⟩ = some (.int .u8 kd) := cell_of_row wg _ 0 _ _ _ HBox3.out
          have y1 : wg.cell? ⟨wo.heap.size, 1, none⟩ = some (.string nm) := cell_of_row wg _ 1 _ _ _ HBox3.out
          have y2 : wg.cell? ⟨wo.heap.size, 2, none⟩ = some (.slice p1 m1' q1) := cell_of_row wg _ 2 _ _ _ HBox3.out
          have y3 : wg.cell? ⟨wo.heap.size, 3, none⟩ = some (.int .u8 ty.kind) := cell_of_row wg _ 3 _ _ _ HBox3.out
          have y4 : wg.cell? ⟨wo.heap.size, 4, none⟩ = some (.string ty.name) := cell_of_row wg _ 4 _ _ _ HBox3.out
          have y5 : wg.cell? ⟨wo.heap.size, 5, none⟩ = some (.slice p2 m2 q2) := cell_of_row wg _ 5 _ _ _ HBox3.out
          have y6 : wg.cell? ⟨wo.heap.size, 6, none⟩ = some (.slice p3 bo.length q3) := cell_of_row wg _ 6 _ _ _ HBox3.out
          have y7 : wg.cell? ⟨wo.heap.size, 7, none⟩ = some (.int .u8 (erE at' ret).op) := cell_of_row wg _ 7 _ _ _ HBox3.out
          have y8 : wg.cell? ⟨wo.heap.size, 8, none⟩ = some (.int .i64 (erE at' ret).int) := cell_of_row wg _ 8 _ _ _ HBox3.out
          have y9 : wg.cell? ⟨wo.heap.size, 9, none⟩ = some (.string (erE at' ret).name) := cell_of_row wg _ 9 _ _ _ HBox3.out
          have y10 : wg.cell? ⟨wo.heap.size, 10, none⟩ = some (.string (erE at' ret).second) := cell_of_row wg _ 10 _ _ _ HBox3.out
          have y11 : wg.cell? ⟨wo.heap.size, 11, none⟩ = some (.string (erE at' ret).place.name) := cell_of_row wg _ 11 _ _ _ HBox3.out
          have y12 : wg.cell? ⟨wo.heap.size, 12, none⟩ = some (.slice p4 m4 q4) := cell_of_row wg _ 12 _ _ _ HBox3.out
          have y13 : wg.cell? ⟨wo.heap.size, 13, none⟩ = some (.slice p5 m5 q5) := cell_of_row wg _ 13 _ _ _ HBox3.out
          have y14 : wg.cell? ⟨wo.heap.size, 14, none⟩ = some (.int .i64 (erE at' ret).pos) := cell_of_row wg _ 14 _ _ _ HBox3.out
          have y15 : wg.cell? ⟨wo.heap.size, 15, none⟩ = some (.int .i64 pos) := cell_of_row wg _ 15 _ _ _ HBox3.out
          have f15 : wg.frozen? ⟨wo.heap.size, 15, none⟩ = false := box_frozen HBox3.out
          have x0 : wg.cell? ⟨w.heap.size, 0, none⟩ = some (.slice (some ⟨b1, o1, none⟩) n cap) := (HB3.out.cell (show w.heap.size < wo.heap.size by omega)).trans c0
          have x1 : wg.cell? ⟨w.heap.size + 2, 0, none⟩ = some u := (HB3.out.cell (show w.heap.size + 2 < wo.heap.size by omega)).trans d0
          have x2 : wg.frozen? ⟨w.heap.size + 2, 0, none⟩ = false := (HB3.out.frozen (show w.heap.size + 2 < wo.heap.size by omega)).trans g0
          obtain ⟨vs, hvs, hown, hall⟩ := Hheld.out
          have nS := own_ne' hown (b := wo.heap.size) (Nat.le_refl _)
          have nb := own_ne hown (b := w.heap.size) (by omega)
          have nr := own_ne hown (b := w.heap.size + 1) (by omega)
          have no := own_ne hown (b := w.heap.size + 2) (by omega)
          have Hown := Lib.hid hown
          have Hall := Lib.hid hall
          have HFr : Hid (∀ W1 ps, Kp wo.heap.size wg W1 → I64 ps → PI.In W1.heap.size (only (fun i => decide (wo.heap.size ≤ i)) W1) ⟨kd, nm, fs, ty, erSs at' bo, erE at' ret, ps⟩ ⟨.slice p1 m1' q1, .slice p2 m2 q2, .slice p3 bo.length q3, ⟨.slice p4 m4 q4, .slice p5 m5 q5⟩⟩) := Lib.hid (fun W1 ps K hps =>
            ⟨⟨HSC.out.1, hps, HSC.out.2.2⟩, HF3.out.up K (Nat.lt_succ_self _) (Nat.le_succ _), PT.In.reads K.1 (K.reads (Nat.lt_succ_self _) (Nat.le_succ _)) HT3.out, HO3.out.up K (Nat.lt_succ_self _) (Nat.le_succ _), PE.In.reads K.1 (K.reads (Nat.lt_succ_self _) (Nat.le_succ _)) HE3.out⟩)
          clear hown hall c0 d0 g0
          cases at' with
          | true =>
            have Hown1 := Lib.hid (own_below Hown.out HB3.out)
            go_wp2_with (first
              | (at_builtin; refine wpList_append_lies _ rfl _ _ 22 rfl (w.heap.size + 3) 47 i0 _ 16 248 Tryz.underlying22 hi hz0 hz1 hz2 rfl (by decide) _ _ _ rfl (Hown1.out.alloc _) ⟨wg.heap.size, 0, none⟩ 1 1 [.int .u8 kd, .string nm, .slice p1 m1' q1, .int .u8 ty.kind, .string ty.name, .slice p2 m2 q2, .slice p3 bo.length q3, .int .u8 (erE true ret).op, .int .i64 (erE true ret).int, .string (erE true ret).name, .string (erE true ret).second, .string (erE true ret).place.name, .slice p4 m4 q4, .slice p5 m5 q5, .int .i64 (erE true ret).pos, .int .i64 pos] rfl rfl ?tc1 ?tc2 ?tc3 ?tc4 ?tc5 ?tc6 (wg.heap.size + 1) ?tc7 ?_)
              | fail)
            try case tc1 => exact World.news_of_block (cs := #[.int .u8 kd, .string nm, .slice p1 m1' q1, .int .u8 ty.kind, .string ty.name, .slice p2 m2 q2, .slice p3 bo.length q3, .int .u8 (erE true ret).op, .int .i64 (erE true ret).int, .string (erE true ret).name, .string (erE true ret).second, .string (erE true ret).place.name, .slice p4 m4 q4, .slice p5 m5 q5, .int .i64 (erE true ret).pos, .int .i64 pos]) (t := 47) (fr := (0, 0)) (by have h := heap_alloc_new wg (.cells #[.int .u8 kd, .string nm, .slice p1 m1' q1, .int .u8 ty.kind, .string ty.name, .slice p2 m2 q2, .slice p3 bo.length q3, .int .u8 (erE true ret).op, .int .i64 (erE true ret).int, .string (erE true ret).name, .string (erE true ret).second, .string (erE true ret).place.name, .slice p4 m4 q4, .slice p5 m5 q5, .int .i64 (erE true ret).pos, .int .i64 pos] 47); simpa using h)
            try case tc2 => simp [Value.oneCell']
            try case tc3 => omega
            try case tc4 => unfold maxLen; omega
            try case tc5 => omega
            try case tc6 => first | omega | (simp; omega)
            try case tc7 => simp
            intro gg cap1 wd hown1 hgrow hat hlt5
            have t0 : wg.cell? ⟨w.heap.size, 0, none⟩ = some (.slice (some ⟨b1, o1, none⟩) n cap) := x0
            have t1 : wg.cell? ⟨w.heap.size + 2, 0, none⟩ = some u := x1
            have t2 : wg.frozen? ⟨w.heap.size + 2, 0, none⟩ = false := x2
            have r0 : wd.cell? ⟨w.heap.size, 0, none⟩ = some (.slice (some ⟨b1, o1, none⟩) n cap) := grown_cell hgrow t0 nb
            have r1 : wd.cell? ⟨w.heap.size + 2, 0, none⟩ = some u := grown_cell hgrow t1 no
            have r2 : wd.frozen? ⟨w.heap.size + 2, 0, none⟩ = false := grown_frozen hgrow t2 (by first | omega | (simp; done) | (simp; omega)) no
            have hB1 : Below wo.heap.size wo wg := HB3.out
            have HR : Hid (wd.heap[w.heap.size + 1]? = some (.cells #[.slice none 0 0] 24 (0, 0))) := Lib.hid (((hgrow.block (w.heap.size + 1) (by first | omega | (simp; done) | (simp; omega)) nr).trans (Below.heap_alloc _ _ _ (by first | omega | (simp; done) | (simp; omega)))).trans ((hB1.block (w.heap.size + 1) (by omega)).trans Hres.out))
            have Hnx := Lib.hid (Srt.held_next (S := srtI) HT.out hvs Hall.out Hown.out (by omega) hB1 (HFr.out wg pos (Kp.refl _ _) HSC.out.2.1) hgrow (by simpa using hat) hown1)
            have z2 : wg.heap.size + 1 ≤ wd.heap.size := by have := hgrow.size; simpa using this
            clear hown1 hgrow hat Hown1 Hall Hown t0 t1 t2 hB1
            go_wp2_with fail
            go_round
            case rel =>
              obtain ⟨z1, z3⟩ := Hnx.out
              refine ⟨k + 1, .slice (some ⟨gg, 0, none⟩) (k + 1) cap1, by omega, by go_num, by simp; omega, ?_, ?_, ?_, Lib.hid ⟨z1.keep (by simp) (fun i h1 h2 => Below.heap_setCell _ _ _ i (by simp; omega)), (Hbel.out.trans (z3.mono (by omega))).setCell (by simp; omega) _, (Below.heap_setCell _ _ _ _ (by first | (simp; done) | (simp; omega))).trans HR.out⟩⟩
              all_goals go_simp
            case measure => simp [intOf]; omega
          | false =>
            have Hown1 := Lib.hid (ownsRow_setCell_other (own_below Hown.out HB3.out) (a := ⟨wo.heap.size, 15, none⟩) nS.symm (.int .i64 0))
            go_wp2_with (first
              | (at_builtin; refine wpList_append_lies _ rfl _ _ 22 rfl (w.heap.size + 3) 47 i0 _ 16 248 Tryz.underlying22 hi hz0 hz1 hz2 rfl (by decide) _ _ _ rfl (Hown1.out.alloc _) ⟨wg.heap.size, 0, none⟩ 1 1 [.int .u8 kd, .string nm, .slice p1 m1' q1, .int .u8 ty.kind, .string ty.name, .slice p2 m2 q2, .slice p3 bo.length q3, .int .u8 (erE false ret).op, .int .i64 (erE false ret).int, .string (erE false ret).name, .string (erE false ret).second, .string (erE false ret).place.name, .slice p4 m4 q4, .slice p5 m5 q5, .int .i64 (erE false ret).pos, .int .i64 0] rfl rfl ?fc1 ?fc2 ?fc3 ?fc4 ?fc5 ?fc6 (wg.heap.size + 1) ?fc7 ?_)
              | fail)
            try case fc1 => exact World.news_of_block (cs := #[.int .u8 kd, .string nm, .slice p1 m1' q1, .int .u8 ty.kind, .string ty.name, .slice p2 m2 q2, .slice p3 bo.length q3, .int .u8 (erE false ret).op, .int .i64 (erE false ret).int, .string (erE false ret).name, .string (erE false ret).second, .string (erE false ret).place.name, .slice p4 m4 q4, .slice p5 m5 q5, .int .i64 (erE false ret).pos, .int .i64 0]) (t := 47) (fr := (0, 0)) (by have h := heap_alloc_new (wg.setCell ⟨wo.heap.size, 15, none⟩ (.int .i64 0)) (.cells #[.int .u8 kd, .string nm, .slice p1 m1' q1, .int .u8 ty.kind, .string ty.name, .slice p2 m2 q2, .slice p3 bo.length q3, .int .u8 (erE false ret).op, .int .i64 (erE false ret).int, .string (erE false ret).name, .string (erE false ret).second, .string (erE false ret).place.name, .slice p4 m4 q4, .slice p5 m5 q5, .int .i64 (erE false ret).pos, .int .i64 0] 47); simpa using h)
            try case fc2 => simp [Value.oneCell']
            try case fc3 => omega
            try case fc4 => unfold maxLen; omega
            try case fc5 => omega
            try case fc6 => first | omega | (simp; omega)
            try case fc7 => simp
            intro gg cap1 wd hown1 hgrow hat hlt5
            have t0 : (wg.setCell ⟨wo.heap.size, 15, none⟩ (.int .i64 0)).cell? ⟨w.heap.size, 0, none⟩ = some (.slice (some ⟨b1, o1, none⟩) n cap) := (World.cell?_of_block (Below.heap_setCell wg _ _ w.heap.size (by simp; omega))).trans x0
            have t1 : (wg.setCell ⟨wo.heap.size, 15, none⟩ (.int .i64 0)).cell? ⟨w.heap.size + 2, 0, none⟩ = some u := (World.cell?_of_block (Below.heap_setCell wg _ _ (w.heap.size + 2) (by simp; omega))).trans x1
            have t2 : (wg.setCell ⟨wo.heap.size, 15, none⟩ (.int .i64 0)).frozen? ⟨w.heap.size + 2, 0, none⟩ = false := (World.frozen?_of_block (Below.heap_setCell wg _ _ (w.heap.size + 2) (by simp; omega))).trans x2
            have r0 : wd.cell? ⟨w.heap.size, 0, none⟩ = some (.slice (some ⟨b1, o1, none⟩) n cap) := grown_cell hgrow t0 nb
            have r1 : wd.cell? ⟨w.heap.size + 2, 0, none⟩ = some u := grown_cell hgrow t1 no
            have r2 : wd.frozen? ⟨w.heap.size + 2, 0, none⟩ = false := grown_frozen hgrow t2 (by first | omega | (simp; done) | (simp; omega)) no
            have hB1 : Below wo.heap.size wo (wg.setCell ⟨wo.heap.size, 15, none⟩ (.int .i64 0)) := HB3.out.setCell (Nat.le_refl _) _
            have HR : Hid (wd.heap[w.heap.size + 1]? = some (.cells #[.slice none 0 0] 24 (0, 0))) := Lib.hid (((hgrow.block (w.heap.size + 1) (by first | omega | (simp; done) | (simp; omega)) nr).trans (Below.heap_alloc _ _ _ (by first | omega | (simp; done) | (simp; omega)))).trans ((hB1.block (w.heap.size + 1) (by omega)).trans Hres.out))
            have Hnx := Lib.hid (Srt.held_next (S := srtI) HT.out hvs Hall.out Hown.out (by omega) hB1 (HFr.out (wg.setCell ⟨wo.heap.size, 15, none⟩ (.int .i64 0)) 0 ((Kp.refl wo.heap.size wg).set _) (rfl : I64 0)) hgrow (by simpa using hat) hown1)
            have z2 : wg.heap.size + 1 ≤ wd.heap.size := by have := hgrow.size; simpa using this
            clear hown1 hgrow hat Hown1 Hall Hown t0 t1 t2 hB1
            go_wp2_with fail
            go_round
            case rel =>
              obtain ⟨z1, z3⟩ := Hnx.out
              refine ⟨k + 1, .slice (some ⟨gg, 0, none⟩) (k + 1) cap1, by omega, by go_num, by simp; omega, ?_, ?_, ?_, Lib.hid ⟨z1.keep (by simp) (fun i h1 h2 => Below.heap_setCell _ _ _ i (by simp; omega)), (Hbel.out.trans (z3.mono (by omega))).setCell (by simp; omega) _, (Below.heap_setCell _ _ _ _ (by first | (simp; done) | (simp; omega))).trans HR.out⟩⟩
              all_goals go_simp
            case measure => simp [intOf]; omega
    · obtain rfl : k = n := by omega
      obtain ⟨held, hbel, hres⟩ := HH.out
      obtain ⟨p8, q8, rfl⟩ := held.shape
      have s0 : wo.cell? ⟨w.heap.size + 1, 0, none⟩ = some (.slice none 0 0) := cell_of_row wo _ 0 _ _ _ hres
      have z0 : wo.frozen? ⟨w.heap.size + 1, 0, none⟩ = false := box_frozen hres
      have Hheld := Lib.hid held
      have Hbel := Lib.hid hbel
      clear held hbel HH hres
      go_wp2_with fail
      (try simp only [Exit.inBlock, Exit.then])
      refine bodyPost_ret (v := .agg #[.slice p8 k q8]) (by rw [results_cell1 rfl]; go_simp) rfl ⟨p8, q8, rfl, Lib.hid ?_, Hbel.out.setCell (by simp) _⟩
      obtain ⟨b, o, h1, h2⟩ := (Hheld.out.keep (W' := wo.setCell ⟨w.heap.size + 1, 0, none⟩ (.slice p8 k q8)) (by simp) (fun i h1 h2 => Below.heap_setCell _ _ _ i (by simp; omega))).all (m := w.heap.size) (by rw [List.length_map]; exact Hn.out) (by unfold maxLen; omega) (by omega)
      exact ⟨b, o, h1, rowI_all h2⟩
end Go.Proofs.YtojeijeimpffgaaGreat

