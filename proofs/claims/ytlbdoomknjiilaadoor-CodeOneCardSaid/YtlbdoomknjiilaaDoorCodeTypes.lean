/- Code: mayTypes, May (made by gen_codetypes.py). -/
import Derived.Test.YtlbdoomknjiilaaDoorCodeInstr
namespace Go.Proofs.YtlbdoomknjiilaaDoor
open Go.RowKit
set_option linter.unusedVariables false

theorem enters5 : ∀ args w, (callFunc 34 args).run Tryd.prog w = .ok (.enter 34 args) w := enters_of Tryd.func34 (by kernel_rfl) rfl
theorem mayTypes1_calls (x : TT) (v : VT) (s : ByteArray) (g : Nat) (w : World) (h : w.cell? ⟨g, 1, none⟩ = some (.string s)) :
    Calls Tryd.prog 34 #[x.val v, .pointer (some ⟨g, 0, none⟩)] w fun e w' => e = .returned (.bool (decide (keyS x.name = keyS s))) ∧ Below w.heap.size w w' := by
  obtain ⟨f, k3, s4, a5, n5, c5, a6, n6, c6, k7, i8, s9, s10, s11, a12, n12, c12, a13, n13, c13, i14, i15⟩ := v
  unfold TT.val
  dsimp only
  have hlt := World.block_lt_of_cell? w _ h
  generalize x.kind = kd
  generalize x.name = sx
  by_cases ht : keyS sx = keyS s
  · have e2 := str_eq ht
    rw [decide_eq_true ht]
    clear ht
    go_enter Tryd.func34, Tryd.ntmps34
    go_wp2_with fail
    go_ret
    exact ⟨rfl, box1 _ _⟩
  · have e2 := str_ne ht
    rw [decide_eq_false ht]
    clear ht
    go_enter Tryd.func34, Tryd.ntmps34
    go_wp2_with fail
    go_ret
    exact ⟨rfl, box1 _ _⟩
/-- may the type of number i be? -/
def okT (l : List TT) (i : Nat) : Bool :=
  match l[i]? with
  | none => true
  | some t => (decide (t.kind = 1) || decide (t.kind = 2)) && (decide (t.fields.length ≤ 6) && !(l.take i).any fun x => decide (keyS x.name = keyS t.name))
theorem typesB_eq (l : List TT) : typesB l = (decide (l.length ≤ 30) && (List.range l.length).all (okT l)) := rfl
theorem okT_at {l : List TT} {i : Nat} {t : TT} (h : l[i]? = some t) : okT l i = ((decide (t.kind = 1) || decide (t.kind = 2)) && (decide (t.fields.length ≤ 6) && !(l.take i).any fun x => decide (keyS x.name = keyS t.name))) := by
  unfold okT; rw [h]
theorem all_nextT (p : Nat → Bool) (k : Nat) : (List.range (k + 1)).all p = ((List.range k).all p && p k) := by
  rw [List.range_succ, List.all_append]
  simp
theorem all_notT {p : Nat → Bool} {n k : Nat} (hk : k < n) (h : p k = false) : (List.range n).all p = false := by
  cases h2 : (List.range n).all p
  · rfl
  · rw [List.all_eq_true] at h2
    rw [h2 k (by simpa using hk)] at h
    cases h
theorem GIn.take {α : Type} {n B : Nat} {P : World → Nat → Nat → α → Prop} {w : World} {l : List α} {ao : Option Addr} {m cap : Nat} (h : GIn n P B w l (.slice ao m cap)) (k : Nat) (hk : k ≤ m) : GIn n P B w (l.take k) (.slice ao k cap) := by
  obtain ⟨b, o, ⟨hm, ao', cap', he, hc, h4⟩, hr⟩ := h
  obtain ⟨rfl, rfl, rfl⟩ := Value.slice.inj he
  have hl : (l.take k).length = k := by rw [List.length_take]; omega
  refine ⟨b, o, ⟨by omega, _, _, by rw [hl], by omega, ?_⟩, fun j x hj => hr j x ?_⟩
  · rw [hl]
    by_cases h0 : k = 0
    · exact .inl h0
    · exact .inr (h4.resolve_left (by omega))
  · rw [List.getElem?_take] at hj
    split at hj
    · exact hj
    · cases hj

set_option maxRecDepth 100000 in
set_option maxHeartbeats 8000000 in
theorem mayTypes_calls (B : Nat) (l : List TT) (v : Value) (w : World) (hB : B ≤ w.heap.size) (h : TsIn B w l v) :
    Calls Tryd.prog 20 #[v] w fun e w' => e = .returned (.bool (typesB l)) ∧ Below w.heap.size w w' := by
  rw [typesB_eq]
  obtain ⟨ao, cap, rfl⟩ := GIn.shape h
  have HI := Lib.hid h
  have hE := enters5
  obtain ⟨n, hn⟩ : ∃ n, n = l.length := ⟨_, rfl⟩
  rw [← hn] at HI ⊢
  have HL := Lib.hid hn
  obtain ⟨hx0, hm, hcap, b, o, h1, r1⟩ := GIn.at HI.out
  have H1 := Lib.hid h1
  have Hr := Lib.hid r1
  unfold maxLen at hm
  clear h h1 r1 hn hx0
  by_cases hle : n ≤ 30
  · have e0 : decide (30 < (n : Int)) = false := decide_eq_false (by omega)
    rw [decide_eq_true hle, Bool.true_and]
    obtain ⟨R, hR⟩ : ∃ R, R = (List.range n).all (okT l) := ⟨_, rfl⟩
    have HR := Lib.hid hR
    rw [← hR]
    clear hR
    go_enter Tryd.func20, Tryd.ntmps20
    go_wp2_with fail
    go_loopw [12] (fun i wr => ∃ k : Nat, k ≤ n ∧ i = .int .i64 k ∧ Hid ((List.range k).all (okT l) = true) ∧ Hid (Below w.heap.size w wr))
      (fun i _ => n - (intOf i).toNat)
    case atStart => exact ⟨0, by omega, rfl, Lib.hid rfl, Lib.hid (Below.refl _ _)⟩
    case round =>
      obtain ⟨k, hk, rfl, HA, HB⟩ := hrel
      have hk0 : 0 ≤ (k : Int) := by omega
      by_cases hlt : k < n
      · obtain ⟨rfl, hbb⟩ := H1.out (by omega)
        have hk1 : (k : Int) < (n : Int) := by omega
        obtain ⟨t, ht, _⟩ := get_at (l := l) (k := k) (by rw [← HL.out]; exact hlt)
        obtain ⟨vt, hcs, hti⟩ := Hr.out k t ht
        have HK := okT_at ht
        have HC := Lib.hid fun (W : World) (hW : Hid (Below w.heap.size w W)) (hg : W.cell? ⟨wr.heap.size, 1, none⟩ = some (.string t.name)) =>
          containsLI_calls B 34 #[.pointer (some ⟨wr.heap.size, 0, none⟩)] enters5 (fun x => decide (keyS x.name = keyS t.name)) (l.take k) _ W (Nat.le_trans hB hW.out.size) (GIn.take (TsIn.below HI.out (hW.out.mono hB)) k (by omega))
            fun x u _ _ W' hW' => mayTypes1_calls x u t.name wr.heap.size W' (cell_over hg hW')
        obtain ⟨fa, fc, hfv⟩ := GIn.shape hti.2.2
        obtain ⟨vf, k3, s4, a5, n5, c5, a6, n6, c6, k7, i8, s9, s10, s11, a12, n12, c12, a13, n13, c13, i14, i15⟩ := vt
        obtain rfl : vf = _ := hfv
        have g0 : wr.cell? ⟨b, o + k * 16, none⟩ = some (.int .u8 t.kind) := (HB.out.cell (p := ⟨b, o + k * 16, none⟩) (Nat.lt_of_lt_of_le hbb hB)).trans (hcs 0 _ rfl)
        have g1 : wr.cell? ⟨b, o + k * 16 + 1, none⟩ = some (.string t.name) := (HB.out.cell (p := ⟨b, o + k * 16 + 1, none⟩) (Nat.lt_of_lt_of_le hbb hB)).trans (hcs 1 _ rfl)
        have g2 : wr.cell? ⟨b, o + k * 16 + 2, none⟩ = some (.slice fa t.fields.length fc) := (HB.out.cell (p := ⟨b, o + k * 16 + 2, none⟩) (Nat.lt_of_lt_of_le hbb hB)).trans (hcs 2 _ rfl)
        have g3 : wr.cell? ⟨b, o + k * 16 + 3, none⟩ = some (.int .u8 k3) := (HB.out.cell (p := ⟨b, o + k * 16 + 3, none⟩) (Nat.lt_of_lt_of_le hbb hB)).trans (hcs 3 _ rfl)
        have g4 : wr.cell? ⟨b, o + k * 16 + 4, none⟩ = some (.string s4) := (HB.out.cell (p := ⟨b, o + k * 16 + 4, none⟩) (Nat.lt_of_lt_of_le hbb hB)).trans (hcs 4 _ rfl)
        have g5 : wr.cell? ⟨b, o + k * 16 + 5, none⟩ = some (.slice a5 n5 c5) := (HB.out.cell (p := ⟨b, o + k * 16 + 5, none⟩) (Nat.lt_of_lt_of_le hbb hB)).trans (hcs 5 _ rfl)
        have g6 : wr.cell? ⟨b, o + k * 16 + 6, none⟩ = some (.slice a6 n6 c6) := (HB.out.cell (p := ⟨b, o + k * 16 + 6, none⟩) (Nat.lt_of_lt_of_le hbb hB)).trans (hcs 6 _ rfl)
        have g7 : wr.cell? ⟨b, o + k * 16 + 7, none⟩ = some (.int .u8 k7) := (HB.out.cell (p := ⟨b, o + k * 16 + 7, none⟩) (Nat.lt_of_lt_of_le hbb hB)).trans (hcs 7 _ rfl)
        have g8 : wr.cell? ⟨b, o + k * 16 + 8, none⟩ = some (.int .i64 i8) := (HB.out.cell (p := ⟨b, o + k * 16 + 8, none⟩) (Nat.lt_of_lt_of_le hbb hB)).trans (hcs 8 _ rfl)
        have g9 : wr.cell? ⟨b, o + k * 16 + 9, none⟩ = some (.string s9) := (HB.out.cell (p := ⟨b, o + k * 16 + 9, none⟩) (Nat.lt_of_lt_of_le hbb hB)).trans (hcs 9 _ rfl)
        have g10 : wr.cell? ⟨b, o + k * 16 + 10, none⟩ = some (.string s10) := (HB.out.cell (p := ⟨b, o + k * 16 + 10, none⟩) (Nat.lt_of_lt_of_le hbb hB)).trans (hcs 10 _ rfl)
        have g11 : wr.cell? ⟨b, o + k * 16 + 11, none⟩ = some (.string s11) := (HB.out.cell (p := ⟨b, o + k * 16 + 11, none⟩) (Nat.lt_of_lt_of_le hbb hB)).trans (hcs 11 _ rfl)
        have g12 : wr.cell? ⟨b, o + k * 16 + 12, none⟩ = some (.slice a12 n12 c12) := (HB.out.cell (p := ⟨b, o + k * 16 + 12, none⟩) (Nat.lt_of_lt_of_le hbb hB)).trans (hcs 12 _ rfl)
        have g13 : wr.cell? ⟨b, o + k * 16 + 13, none⟩ = some (.slice a13 n13 c13) := (HB.out.cell (p := ⟨b, o + k * 16 + 13, none⟩) (Nat.lt_of_lt_of_le hbb hB)).trans (hcs 13 _ rfl)
        have g14 : wr.cell? ⟨b, o + k * 16 + 14, none⟩ = some (.int .i64 i14) := (HB.out.cell (p := ⟨b, o + k * 16 + 14, none⟩) (Nat.lt_of_lt_of_le hbb hB)).trans (hcs 14 _ rfl)
        have g15 : wr.cell? ⟨b, o + k * 16 + 15, none⟩ = some (.int .i64 i15) := (HB.out.cell (p := ⟨b, o + k * 16 + 15, none⟩) (Nat.lt_of_lt_of_le hbb hB)).trans (hcs 15 _ rfl)
        generalize ((l.take k).any fun x => decide (keyS x.name = keyS t.name)) = al at *
        generalize t.kind = kd at *
        generalize t.name = sn at *
        generalize t.fields.length = m at *
        have hgo : okT l k = true → Hid ((List.range (k + 1)).all (okT l) = true) := fun h => Lib.hid (by rw [all_nextT, HA.out, h]; rfl)
        have hno : okT l k = false → Hid (R = false) := fun h => Lib.hid (by rw [HR.out, all_notT hlt h])
        clear hcs hti ht HA
        by_cases k1 : kd = 1
        · subst k1
          by_cases k6 : m ≤ 6
          · have e6 : decide (6 < (m : Int)) = false := decide_eq_false (by omega)
            cases al with
            | true =>
              have HF := hno (by rw [HK]; simp)
              clear HK hgo hno k6
              as_aux_lemma =>
                go_wp2_with fail
                have mB := Lib.hid (up_tr HB.out (box1 wr (.cells #[.int .u8 1, .string sn, .slice fa m fc, .int .u8 k3, .string s4, .slice a5 n5 c5, .slice a6 n6 c6, .int .u8 k7, .int .i64 i8, .string s9, .string s10, .string s11, .slice a12 n12 c12, .slice a13 n13 c13, .int .i64 i14, .int .i64 i15] 60)))
                (with_reducible refine (HC.out _ mB (by go_simp)).mono ?_)
                rintro e w1 ⟨rfl, b1⟩
                have HN := hid_upC mB b1
                clear b1
                go_wp2_with fail
                go_ret
                exact ⟨ret_bool HF.out.symm, HN.out⟩
            | false =>
              have HA := hgo (by rw [HK]; simp [k6])
              clear HK hgo hno k6
              as_aux_lemma =>
                go_wp2_with fail
                have mB := Lib.hid (up_tr HB.out (box1 wr (.cells #[.int .u8 1, .string sn, .slice fa m fc, .int .u8 k3, .string s4, .slice a5 n5 c5, .slice a6 n6 c6, .int .u8 k7, .int .i64 i8, .string s9, .string s10, .string s11, .slice a12 n12 c12, .slice a13 n13 c13, .int .i64 i14, .int .i64 i15] 60)))
                (with_reducible refine (HC.out _ mB (by go_simp)).mono ?_)
                rintro e w1 ⟨rfl, b1⟩
                have HN := hid_upC mB b1
                clear b1
                go_wp2_with fail
                go_roundw
                case rel => exact ⟨k + 1, by omega, by go_num, HA, HN⟩
                case measure => simp [intOf]; omega
          · have e6 : decide (6 < (m : Int)) = true := decide_eq_true (by omega)
            have HF := hno (by rw [HK]; simp [k6])
            clear HK hgo hno k6
            as_aux_lemma =>
              go_wp2_with fail
              go_ret
              exact ⟨ret_bool HF.out.symm, up_tr HB.out (box1 _ _)⟩
        · have e1 : (kd == 1) = false := by simpa using k1
          by_cases k2 : kd = 2
          · subst k2
            by_cases k6 : m ≤ 6
            · have e6 : decide (6 < (m : Int)) = false := decide_eq_false (by omega)
              cases al with
              | true =>
                have HF := hno (by rw [HK]; simp)
                clear HK hgo hno k6 k1 e1
                as_aux_lemma =>
                  go_wp2_with fail
                  have mB := Lib.hid (up_tr HB.out (box1 wr (.cells #[.int .u8 2, .string sn, .slice fa m fc, .int .u8 k3, .string s4, .slice a5 n5 c5, .slice a6 n6 c6, .int .u8 k7, .int .i64 i8, .string s9, .string s10, .string s11, .slice a12 n12 c12, .slice a13 n13 c13, .int .i64 i14, .int .i64 i15] 60)))
                  (with_reducible refine (HC.out _ mB (by go_simp)).mono ?_)
                  rintro e w1 ⟨rfl, b1⟩
                  have HN := hid_upC mB b1
                  clear b1
                  go_wp2_with fail
                  go_ret
                  exact ⟨ret_bool HF.out.symm, HN.out⟩
              | false =>
                have HA := hgo (by rw [HK]; simp [k6])
                clear HK hgo hno k6 k1 e1
                as_aux_lemma =>
                  go_wp2_with fail
                  have mB := Lib.hid (up_tr HB.out (box1 wr (.cells #[.int .u8 2, .string sn, .slice fa m fc, .int .u8 k3, .string s4, .slice a5 n5 c5, .slice a6 n6 c6, .int .u8 k7, .int .i64 i8, .string s9, .string s10, .string s11, .slice a12 n12 c12, .slice a13 n13 c13, .int .i64 i14, .int .i64 i15] 60)))
                  (with_reducible refine (HC.out _ mB (by go_simp)).mono ?_)
                  rintro e w1 ⟨rfl, b1⟩
                  have HN := hid_upC mB b1
                  clear b1
                  go_wp2_with fail
                  go_roundw
                  case rel => exact ⟨k + 1, by omega, by go_num, HA, HN⟩
                  case measure => simp [intOf]; omega
            · have e6 : decide (6 < (m : Int)) = true := decide_eq_true (by omega)
              have HF := hno (by rw [HK]; simp [k6])
              clear HK hgo hno k6 k1 e1
              as_aux_lemma =>
                go_wp2_with fail
                go_ret
                exact ⟨ret_bool HF.out.symm, up_tr HB.out (box1 _ _)⟩
          · have e2 : (kd == 2) = false := by simpa using k2
            have HF := hno (by rw [HK]; simp [k1, k2])
            clear HK hgo hno k1 k2
            as_aux_lemma =>
              go_wp2_with fail
              go_ret
              exact ⟨ret_bool HF.out.symm, up_tr HB.out (box1 _ _)⟩
      · obtain rfl : n = k := by omega
        have HF : Hid (R = true) := Lib.hid (by rw [HR.out]; exact HA.out)
        go_wp2_with fail
        go_ret
        exact ⟨ret_bool HF.out.symm, HB.out⟩
  · have e0 : decide (30 < (n : Int)) = true := decide_eq_true (by omega)
    rw [decide_eq_false hle]
    go_enter Tryd.func20, Tryd.ntmps20
    go_wp2_with fail
    go_ret
    exact ⟨rfl, Below.refl _ _⟩

theorem may_calls (B : Nat) (u : UU) (vu : VU) (w : World) (hB : B ≤ w.heap.size) (hu : u.In B w vu) (hT : RTab w.heap.size w) :
    Calls Tryd.prog 11 #[u.val vu] w fun e w' => e = .returned (.int .i64 (errB (mayU u))) ∧ Below w.heap.size w w' := by
  have K0 := Lib.hid fun (W : World) (h : Hid (Below w.heap.size w W)) => mayTypes_calls B u.types vu.t W (Nat.le_trans hB h.out.size) (hu.below (h.out.mono hB)).2
  have K1 := Lib.hid fun (W : World) (h : Hid (Below w.heap.size w W)) => mayFuncs_calls B u vu W (Nat.le_trans hB h.out.size) (hu.below (h.out.mono hB)) (hT.up h.out)
  obtain ⟨a1, c1, a2, c2, rfl⟩ := hu.shape
  unfold UU.val at K1 ⊢
  dsimp only at K0 K1 ⊢
  unfold mayU
  generalize typesB u.types = t0 at *
  generalize (decide (u.funcs.length ≤ 200) && (mainB u && u.funcs.all (mayF u))) = t1 at *
  generalize u.funcs.length = n1 at *
  generalize u.types.length = n2 at *
  generalize u.main = mn at *
  have mB := Lib.hid (box1 w (.cells #[.slice a1 n1 c1, .int .i64 mn, .slice a2 n2 c2] 25))
  have z0 : w.heap.size < (w.alloc (.cells #[.slice a1 n1 c1, .int .i64 mn, .slice a2 n2 c2] 25)).heap.size := by simp
  clear hu hT
  cases t0 with
  | false =>
    go_enter Tryd.func11, Tryd.ntmps11
    go_wp2_with fail
    (with_reducible refine (K0.out _ mB).mono ?_)
    rintro e w1 ⟨rfl, b1⟩
    have H1 := hid_upC mB b1
    clear b1
    go_wp2_with fail
    go_ret
    exact ⟨rfl, H1.out⟩
  | true =>
    cases t1 with
    | false =>
      go_enter Tryd.func11, Tryd.ntmps11
      go_wp2_with fail
      (with_reducible refine (K0.out _ mB).mono ?_)
      rintro e w1 ⟨rfl, b1⟩
      have H1 := hid_upC mB b1
      have f0 := (b1.cell (p := ⟨w.heap.size, 0, none⟩) z0).trans (show _ = some (Value.slice a1 n1 c1) by go_simp)
      have f1 := (b1.cell (p := ⟨w.heap.size, 1, none⟩) z0).trans (show _ = some (Value.int .i64 mn) by go_simp)
      have f2 := (b1.cell (p := ⟨w.heap.size, 2, none⟩) z0).trans (show _ = some (Value.slice a2 n2 c2) by go_simp)
      have z1 : w.heap.size < w1.heap.size := Nat.lt_of_lt_of_le z0 b1.size
      clear b1
      go_wp2_with fail
      (with_reducible refine (K1.out _ H1).mono ?_)
      rintro e w2 ⟨rfl, b2⟩
      have H2 := hid_upC H1 b2
      clear b2
      go_wp2_with fail
      go_ret
      exact ⟨rfl, H2.out⟩
    | true =>
      go_enter Tryd.func11, Tryd.ntmps11
      go_wp2_with fail
      (with_reducible refine (K0.out _ mB).mono ?_)
      rintro e w1 ⟨rfl, b1⟩
      have H1 := hid_upC mB b1
      have f0 := (b1.cell (p := ⟨w.heap.size, 0, none⟩) z0).trans (show _ = some (Value.slice a1 n1 c1) by go_simp)
      have f1 := (b1.cell (p := ⟨w.heap.size, 1, none⟩) z0).trans (show _ = some (Value.int .i64 mn) by go_simp)
      have f2 := (b1.cell (p := ⟨w.heap.size, 2, none⟩) z0).trans (show _ = some (Value.slice a2 n2 c2) by go_simp)
      have z1 : w.heap.size < w1.heap.size := Nat.lt_of_lt_of_le z0 b1.size
      clear b1
      go_wp2_with fail
      (with_reducible refine (K1.out _ H1).mono ?_)
      rintro e w2 ⟨rfl, b2⟩
      have H2 := hid_upC H1 b2
      clear b2
      go_wp2_with fail
      go_ret
      exact ⟨rfl, H2.out⟩
end Go.Proofs.YtlbdoomknjiilaaDoor
