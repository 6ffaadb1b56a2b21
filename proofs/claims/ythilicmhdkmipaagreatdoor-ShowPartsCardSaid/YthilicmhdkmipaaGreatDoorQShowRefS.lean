/- The document's side, args. -/
import Derived.Test.YthilicmhdkmipaaGreatDoorQJoinAW
namespace Go.Proofs.YthilicmhdkmipaaGreatDoor
open Go.RowKit
set_option linter.unusedVariables false

/-- the contract of Expr -/
def DocEAt (B : Nat) (x : PE) : Prop := ∀ (v : VE) (w : World), B ≤ w.heap.size → x.In B w v → (tokE x).length ≤ 100000 → okTk (tokE x) →
  Calls Tryz.prog 22 #[.agg (x.cells v).toArray] w fun e w' => ∃ u, e = .returned u ∧ TokNew w.heap.size w' (tokE x) u ∧ Below w.heap.size w w'
theorem cells_madeR {w : World} {S : Nat} {cs : List Value} {t : TypeId} {fr : Nat × Nat} (h : w.heap[S]? = some (.cells cs.toArray t fr)) : CellsAt w S 0 cs := fun i v hi => by
  rw [cell_of_row _ _ (0 + i) _ _ _ h]; simpa using hi
theorem CellsAt.low {B : Nat} {w w' : World} {b o : Nat} {cs : List Value} (hb : b < B) (h : CellsAt w b o cs) (k : Below B w w') : CellsAt w' b o cs := h.below hb k
set_option maxRecDepth 100000 in
set_option maxHeartbeats 4000000 in
theorem docSide_calls (B : Nat) (x : PE) (IH : DocEAt B x) (k : Nat) (hk : k ≤ 8) (v : VE) (w : World) (hB : B ≤ w.heap.size) (hx : x.In B w v) (hlen : (sideT k x.op (tokE x)).length ≤ 100000) (hok : okTk (sideT k x.op (tokE x))) :
    Calls Tryz.prog 63 #[.agg (x.cells v).toArray, .int .i64 k] w fun e w' => ∃ u, e = .returned u ∧ TokNew w.heap.size w' (sideT k x.op (tokE x)) u ∧ Below w.heap.size w w' := by
  obtain ⟨p1, n1, c1, p2, n2, c2, rfl⟩ := hx.shape
  obtain ⟨w1, hw1⟩ : ∃ w1, w1 = w.alloc (.cells (x.cells ⟨.slice p1 n1 c1, .slice p2 n2 c2⟩).toArray 37) := ⟨_, rfl⟩
  have bx : Below w.heap.size w w1 := by rw [hw1]; exact new_onlyR _ _
  have hz : w.heap.size < w1.heap.size := by rw [hw1]; simp
  have HC : CellsAt w1 w.heap.size 0 (x.cells ⟨.slice p1 n1 c1, .slice p2 n2 c2⟩) := by rw [hw1]; exact cells_madeR (heap_alloc_new w _)
  have HCH := Lib.hid HC
  have BX := Lib.hid bx
  have HS := Lib.hid fun (W : World) => docStrong_calls x.op W
  have HI := Lib.hid IH
  have HX := Lib.hid (PE.In.below (bx.mono hB) hx)
  have x0 : w1.cell? ⟨w.heap.size, 0, none⟩ = some (.int .u8 x.op) := by simpa using HC 0 _ rfl
  have x1 : w1.cell? ⟨w.heap.size, 1, none⟩ = some (.int .i64 x.int) := by simpa using HC 1 _ rfl
  have x2 : w1.cell? ⟨w.heap.size, 2, none⟩ = some (.string x.name) := by simpa using HC 2 _ rfl
  have x3 : w1.cell? ⟨w.heap.size, 3, none⟩ = some (.string x.second) := by simpa using HC 3 _ rfl
  have x4 : w1.cell? ⟨w.heap.size, 4, none⟩ = some (.string x.place.name) := by simpa using HC 4 _ rfl
  have x5 : w1.cell? ⟨w.heap.size, 5, none⟩ = some (.slice p1 n1 c1) := by simpa using HC 5 _ rfl
  have x6 : w1.cell? ⟨w.heap.size, 6, none⟩ = some (.slice p2 n2 c2) := by simpa using HC 6 _ rfl
  have x7 : w1.cell? ⟨w.heap.size, 7, none⟩ = some (.int .i64 x.pos) := by simpa using HC 7 _ rfl
  have hs8 : strongB x.op ≤ 7 := by unfold strongB; repeat (split <;> first | omega | skip)
  show Calls Tryz.prog 63 #[.agg #[.int .u8 x.op, .int .i64 x.int, .string x.name, .string x.second, .string x.place.name, .slice p1 n1 c1, .slice p2 n2 c2, .int .i64 x.pos], .int .i64 k] w _
  have hw1' : w1 = w.alloc (.cells #[.int .u8 x.op, .int .i64 x.int, .string x.name, .string x.second, .string x.place.name, .slice p1 n1 c1, .slice p2 n2 c2, .int .i64 x.pos] 37) := hw1
  have hB1 : B ≤ w1.heap.size := by omega
  clear hw1 HC hx IH bx
  by_cases hs : k ≤ strongB x.op
  · have es : sideT k x.op (tokE x) = tokE x := by unfold sideT; rw [if_pos hs]
    rw [es] at hlen hok ⊢
    have C : Hid (Calls Tryz.prog 22 #[.agg #[.int .u8 x.op, .int .i64 x.int, .string x.name, .string x.second, .string x.place.name, .slice p1 n1 c1, .slice p2 n2 c2, .int .i64 x.pos]] w1 fun e w' => ∃ u, e = .returned u ∧ TokNew w1.heap.size w' (tokE x) u ∧ Below w1.heap.size w1 w') := Lib.hid (HI.out ⟨.slice p1 n1 c1, .slice p2 n2 c2⟩ w1 hB1 HX.out hlen hok)
    have hs' : (k : Int) ≤ (strongB x.op : Int) := by omega
    clear es hs hlen hok HI HX
    go_enter Tryz.func63, Tryz.ntmps63
    go_upto_region 1 with (fail)
    rw [← hw1']
    clear hw1'
    go_wp2_with fail
    (with_reducible refine (HS.out _).mono ?_)
    rintro e w2 ⟨rfl, rfl⟩
    go_wp2_with fail
    (with_reducible refine (C.out).mono ?_)
    rintro e w3 ⟨u, rfl, h3, b3⟩
    have H3 := Lib.hid (h3.mono (Nat.le_of_lt hz))
    have B3 := Lib.hid (BX.out.trans (b3.mono (Nat.le_of_lt hz)))
    clear h3 b3 C
    go_wp2
    go_ret
    exact ⟨_, rfl, H3.out, B3.out⟩
  · have es : sideT k x.op (tokE x) = ([wOpen] ++ tokE x) ++ [wEnd] := by unfold sideT; rw [if_neg hs]; simp
    rw [es] at hlen hok ⊢
    have HOK := Lib.hid hok
    have hl1 : (tokE x).length ≤ 99998 := by simp at hlen; omega
    have hs' : (strongB x.op : Int) < (k : Int) := by omega
    obtain ⟨w2, hw2⟩ : ∃ w2, w2 = w1.alloc (.cells #[.string ⟨#[40]⟩] 9) := ⟨_, rfl⟩
    have b2 : Below w1.heap.size w1 w2 := by rw [hw2]; exact new_onlyR _ _
    have HO : Hid (TokOwn w1.heap.size w2 [wOpen] (.slice (some ⟨w1.heap.size, 0, none⟩) 1 1)) := Lib.hid (by rw [hw2]; exact TokOwn.lit (w := w1) _ wOpen ⟨#[40]⟩ rfl (Nat.le_refl _))
    have hz2 : w1.heap.size ≤ w2.heap.size := b2.size
    have y0 := (b2.cell (p := ⟨w.heap.size, 0, none⟩) hz).trans x0
    have y1 := (b2.cell (p := ⟨w.heap.size, 1, none⟩) hz).trans x1
    have y2 := (b2.cell (p := ⟨w.heap.size, 2, none⟩) hz).trans x2
    have y3 := (b2.cell (p := ⟨w.heap.size, 3, none⟩) hz).trans x3
    have y4 := (b2.cell (p := ⟨w.heap.size, 4, none⟩) hz).trans x4
    have y5 := (b2.cell (p := ⟨w.heap.size, 5, none⟩) hz).trans x5
    have y6 := (b2.cell (p := ⟨w.heap.size, 6, none⟩) hz).trans x6
    have y7 := (b2.cell (p := ⟨w.heap.size, 7, none⟩) hz).trans x7
    have B2 := Lib.hid b2
    have C : Hid (Calls Tryz.prog 22 #[.agg #[.int .u8 x.op, .int .i64 x.int, .string x.name, .string x.second, .string x.place.name, .slice p1 n1 c1, .slice p2 n2 c2, .int .i64 x.pos]] w2 fun e w' => ∃ u, e = .returned u ∧ TokNew w2.heap.size w' (tokE x) u ∧ Below w2.heap.size w2 w') := Lib.hid (HI.out ⟨.slice p1 n1 c1, .slice p2 n2 c2⟩ w2 (by omega) (PE.In.below (b2.mono hB1) HX.out) (by omega) (fun t ht => hok t (by simp [ht])))
    have hzw : w.heap.size < w2.heap.size := by omega
    clear es hs hlen hok HI HX b2
    go_enter Tryz.func63, Tryz.ntmps63
    go_upto_region 1 with (fail)
    rw [← hw1']
    clear hw1'
    go_wp2_with fail
    (with_reducible refine (HS.out _).mono ?_)
    rintro e w9 ⟨rfl, rfl⟩
    go_upto_region 4 with (fail)
    rw [← hw2]
    clear hw2 x0 x1 x2 x3 x4 x5 x6 x7
    go_wp2_with fail
    (with_reducible refine (C.out).mono ?_)
    rintro e w3 ⟨u, rfl, h3, b3⟩
    have H3 := Lib.hid h3.row
    have HO3 := Lib.hid (HO.out.stays b3)
    have S3 := Lib.hid (B2.out.trans (b3.mono hz2))
    have hs3 : w9.heap.size ≤ w3.heap.size := S3.out.size
    clear h3 b3 C HO y0 y1 y2 y3 y4 y5 y6 y7
    go_wp2_with (at_builtin; refine wpList_appT rfl _ _ rfl w9.heap.size _ [wOpen] rfl HO3.out (tokE x) u rfl w3.heap.size (Nat.le_refl _) H3.out (by simp; omega) hs3 ?_)
    intro v4 w4 hown hg
    have S4 := Lib.hid (below_app S3.out hg hs3 HO3.out (Nat.le_refl _))
    have hs4 : w9.heap.size ≤ w4.heap.size := S4.out.size
    have HO4 := Lib.hid hown
    obtain ⟨a4, cp4, rfl⟩ := TokOwn.shape hown
    clear hown hg HO3 H3
    go_wp2_with (at_builtin; refine wpList_appT rfl _ _ rfl w9.heap.size _ ([wOpen] ++ tokE x) rfl (HO4.out.stays (new_onlyR w4 _)) [wEnd] _ rfl _ (Nat.le_refl _) (TokIn.lit1 wEnd ⟨#[41]⟩ rfl (by decide)) (by simp; omega) (by simp; omega) ?_)
    intro v5 w5 hown hg
    have S5 := Lib.hid (below_app ((S4.out).alloc hs4 _) hg (by simp; omega) (HO4.out.stays (new_onlyR w4 _)) (Nat.le_refl _))
    have HO5 := Lib.hid hown
    obtain ⟨a5, cp5, rfl⟩ := TokOwn.shape hown
    clear hown hg HO4
    go_wp2
    go_ret
    exact ⟨_, rfl, (HO5.out.rowN HOK.out (by simp; omega)).mono (Nat.le_of_lt hz), BX.out.trans (S5.out.mono (Nat.le_of_lt hz))⟩
theorem tokEs_mapR : ∀ l : List PE, tokEs l = l.map tokE
  | [] => rfl
  | x :: l => by rw [tokEs, tokEs_mapR l]; rfl
theorem tokEs_takeR {l : List PE} {k : Nat} {a : PE} (h : l[k]? = some a) : tokEs (l.take (k + 1)) = tokEs (l.take k) ++ [tokE a] := by
  rw [tokEs_mapR, tokEs_mapR, List.take_add_one, h]; simp
theorem joinT_mem_len : ∀ {l : List (List TkB)} {a : List TkB}, a ∈ l → a.length ≤ (joinT l).length
  | b :: l, a, h => by
    rw [joinT_cons, List.length_append]
    rcases List.mem_cons.1 h with rfl | h
    · omega
    · have : ∀ l : List (List TkB), a ∈ l → a.length ≤ (restT l).length := by
        intro l
        induction l with
        | nil => intro h; cases h
        | cons c l ih =>
          intro h
          rw [restT]
          simp only [List.length_append, List.length_cons]
          rcases List.mem_cons.1 h with rfl | h
          · omega
          · have := ih h; omega
      have := this l h; omega
theorem restT_mem {a : List TkB} {t : TkB} : ∀ {l : List (List TkB)}, a ∈ l → t ∈ a → t ∈ restT l
  | b :: l, h, ht => by
    rw [restT]
    rcases List.mem_cons.1 h with rfl | h
    · simp [ht]
    · simp [restT_mem h ht]
theorem joinT_mem {l : List (List TkB)} {a : List TkB} {t : TkB} (h : a ∈ l) (ht : t ∈ a) : t ∈ joinT l := by
  cases l with
  | nil => cases h
  | cons b l =>
    rw [joinT_cons]
    rcases List.mem_cons.1 h with rfl | h
    · simp [ht]
    · simp [restT_mem h ht]
set_option maxRecDepth 100000 in
set_option maxHeartbeats 4000000 in
theorem docArgs_calls (B : Nat) (l : List PE) (IH : ∀ x ∈ l, DocEAt B x) (op en : TkB) (so se : ByteArray) (hso : so = bT op) (hse : se = bT en) (v : Value) (b o : Nat) (w : World) (hB : B ≤ w.heap.size) (hs : SlV B v l.length b o) (hr : PE.Row B w b o l) (hll : l.length ≤ 1000) (hlen : (op :: (joinT (tokEs l) ++ [en])).length ≤ 100000) (hok : okTk (op :: (joinT (tokEs l) ++ [en]))) :
    Calls Tryz.prog 60 #[v, .string so, .string se] w fun e w' => ∃ u, e = .returned u ∧ TokNew w.heap.size w' (op :: (joinT (tokEs l) ++ [en])) u ∧ Below w.heap.size w w' := by
  obtain ⟨hm, ao, cap, rfl, k1⟩ := hs
  obtain ⟨n, hx⟩ : ∃ n, n = l.length := ⟨_, rfl⟩
  rw [← hx] at hm k1 hll ⊢
  have Hx := Lib.hid hx
  have HR := Lib.hid hr
  have HLN := Lib.hid hlen
  have HOK := Lib.hid hok
  have HK := Lib.hid k1
  have HIH := Lib.hid IH
  have HSO := Lib.hid hso
  have HSE := Lib.hid hse
  have H0 : Hid (TssOwn w.heap.size w [] (.slice none 0 0)) := Lib.hid (TssOwn.nil _ _)
  clear hx hr hlen k1 hok IH hso hse
  go_enter Tryz.func60, Tryz.ntmps60
  go_wp2_with fail
  go_loopw [7, 8] (fun u i wr => ∃ k : Nat, k ≤ n ∧ i = .int .i64 k ∧ Hid (TssOwn w.heap.size wr (tokEs (l.take k)) u) ∧ Hid (Below w.heap.size w wr))
    (fun _ i _ => n - (intOf i).toNat)
  case atStart => exact ⟨0, by omega, rfl, Lib.hid (by simpa [tokEs] using H0.out), Lib.hid (Below.refl _ _)⟩
  case round =>
    obtain ⟨k, hk, rfl, Hw, Hb⟩ := hrel
    have hsr : w.heap.size ≤ wr.heap.size := Hb.out.size
    obtain ⟨au, cpu, rfl⟩ := TssOwn.shape Hw.out
    by_cases hlt : k < n
    · obtain ⟨a, ha, ham⟩ := (⟨l[k]'(by rw [← Hx.out]; exact hlt), List.getElem?_eq_getElem _, List.getElem_mem _⟩ : ∃ a, l[k]? = some a ∧ a ∈ l)
      obtain ⟨rfl, hbB⟩ := HK.out.resolve_left (by omega)
      obtain ⟨va, ca, ia⟩ := PE.Row.get HR.out ha
      obtain ⟨q1, m1, d1, q2, m2, d2, rfl⟩ := ia.shape
      have cw := ca.below hbB (Hb.out.mono hB)
      have u0 : wr.cell? ⟨b, o + k * 8, none⟩ = some (.int .u8 a.op) := by simpa using cw 0 _ rfl
      have u1 : wr.cell? ⟨b, o + k * 8 + 1, none⟩ = some (.int .i64 a.int) := cw 1 _ rfl
      have u2 : wr.cell? ⟨b, o + k * 8 + 2, none⟩ = some (.string a.name) := cw 2 _ rfl
      have u3 : wr.cell? ⟨b, o + k * 8 + 3, none⟩ = some (.string a.second) := cw 3 _ rfl
      have u4 : wr.cell? ⟨b, o + k * 8 + 4, none⟩ = some (.string a.place.name) := cw 4 _ rfl
      have u5 : wr.cell? ⟨b, o + k * 8 + 5, none⟩ = some (.slice q1 m1 d1) := cw 5 _ rfl
      have u6 : wr.cell? ⟨b, o + k * 8 + 6, none⟩ = some (.slice q2 m2 d2) := cw 6 _ rfl
      have u7 : wr.cell? ⟨b, o + k * 8 + 7, none⟩ = some (.int .i64 a.pos) := cw 7 _ rfl
      have hbr : b < wr.heap.size := by omega
      have htm : tokE a ∈ tokEs l := by rw [tokEs_mapR]; exact List.mem_map_of_mem ham
      have hlj := joinT_mem_len htm
      have C0 := Lib.hid (HIH.out a ham ⟨.slice q1 m1 d1, .slice q2 m2 d2⟩ wr (by omega) (PE.In.below (Hb.out.mono hB) ia) (by have := HLN.out; simp at this; omega) (fun t ht => HOK.out t (by simp [joinT_mem htm ht])))
      have C : Hid (Calls Tryz.prog 22 #[.agg #[.int .u8 a.op, .int .i64 a.int, .string a.name, .string a.second, .string a.place.name, .slice q1 m1 d1, .slice q2 m2 d2, .int .i64 a.pos]] wr fun e w' => ∃ u, e = .returned u ∧ TokNew wr.heap.size w' (tokE a) u ∧ Below wr.heap.size wr w') := Lib.hid C0.out
      have HN := Lib.hid (tokEs_takeR ha)
      have hkl : (tokEs (l.take k)).length ≤ 1000 := by rw [tokEs_mapR, List.length_map, List.length_take]; omega
      clear cw C0 ca ia htm hlj ha ham
      go_wp2_with fail
      (with_reducible refine (C.out).mono ?_)
      rintro e w3 ⟨u, rfl, h3, b3⟩
      have H3 := Lib.hid h3
      have B3 := Lib.hid b3
      have S3 := Lib.hid (Hb.out.trans (b3.mono hsr))
      have hs3 : w.heap.size ≤ w3.heap.size := S3.out.size
      obtain ⟨a3, cp3, rfl⟩ := h3.row.shape
      clear h3 b3 C u0 u1 u2 u3 u4 u5 u6 u7
      go_wp2_with (at_builtin; refine wpList_appTss (w0 := wr) (w := w3) rfl _ _ rfl w.heap.size (.slice au (tokEs (l.take k)).length cpu) (tokEs (l.take k)) rfl Hw.out B3.out (tokE a) (.slice a3 (tokE a).length cp3) H3.out rfl (by omega) hs3 ?_)
      intro v9 w9 hown hg
      have S9 := Lib.hid (S3.out.grown hg hs3 (fun j hj => (Hw.out.lt j hj).1))
      have HO9 := Lib.hid hown
      clear hown hg Hw H3 B3
      go_wp2
      go_roundw
      case rel => exact ⟨k + 1, by omega, by go_num, Lib.hid (by rw [HN.out]; exact HO9.out), S9⟩
      case measure => simp [intOf]; omega
    · obtain rfl : k = n := by omega
      have hall : l.take k = l := List.take_of_length_le (by rw [Hx.out]; exact Nat.le_refl _)
      have HA : Hid (TssOwn w.heap.size wr (tokEs l) (.slice au (tokEs (l.take k)).length cpu)) := Lib.hid (by have := Hw.out; rw [hall] at this ⊢; exact this)
      have hcount : (tokEs l).length ≤ 1000 := by rw [tokEs_mapR, List.length_map, ← Hx.out]; exact hll
      generalize (tokEs (l.take k)).length = nn at *
      clear Hw hall
      obtain ⟨w2, hw2⟩ : ∃ w2, w2 = wr.alloc (.cells #[.string so] 9) := ⟨_, rfl⟩
      have b2 : Below wr.heap.size wr w2 := by rw [hw2]; exact new_onlyR _ _
      have HO : Hid (TokOwn w.heap.size w2 [op] (.slice (some ⟨wr.heap.size, 0, none⟩) 1 1)) := Lib.hid (by rw [hw2]; exact TokOwn.lit (w := wr) _ op so HSO.out hsr)
      have S2 := Lib.hid (Hb.out.trans (b2.mono hsr))
      have hs2 : w.heap.size ≤ w2.heap.size := S2.out.size
      have CJ := Lib.hid (docJoin_calls w2.heap.size (tokEs l) _ w2 (Nat.le_refl _) ((HA.out.stays b2).row (by omega)) (by have := HLN.out; simp at this; omega) (fun t ht => HOK.out t (by simp [ht])))
      clear b2 HA
      go_upto_region 7 with (fail)
      rw [← hw2]
      clear hw2
      go_wp2_with fail
      (with_reducible refine (CJ.out).mono ?_)
      rintro e w3 ⟨u, rfl, h3, b3⟩
      have H3 := Lib.hid h3
      have HO3 := Lib.hid (HO.out.stays b3)
      have S3 := Lib.hid (S2.out.trans (b3.mono hs2))
      have hs3 : w.heap.size ≤ w3.heap.size := S3.out.size
      clear h3 b3 CJ HO
      go_wp2_with (at_builtin; refine wpList_appT rfl _ _ rfl w.heap.size _ [op] rfl HO3.out (joinT (tokEs l)) u rfl w3.heap.size (Nat.le_refl _) H3.out (by have := HLN.out; simp at this ⊢; omega) hs3 ?_)
      intro v4 w4 hown hg
      have S4 := Lib.hid (below_app S3.out hg hs3 HO3.out (Nat.le_refl _))
      have hs4 : w.heap.size ≤ w4.heap.size := S4.out.size
      have HO4 := Lib.hid hown
      obtain ⟨a4, cp4, rfl⟩ := TokOwn.shape hown
      clear hown hg HO3 H3
      have hel : en.length ≤ maxLen := HOK.out en (by simp)
      go_wp2_with (at_builtin; refine wpList_appT rfl _ _ rfl w.heap.size _ ([op] ++ joinT (tokEs l)) rfl (HO4.out.stays (new_onlyR w4 _)) [en] _ rfl _ (Nat.le_refl _) (TokIn.lit1 en se HSE.out hel) (by have := HLN.out; simp at this ⊢; omega) (by simp; omega) ?_)
      intro v5 w5 hown hg
      have S5 := Lib.hid (below_app ((S4.out).alloc hs4 _) hg (by simp; omega) (HO4.out.stays (new_onlyR w4 _)) (Nat.le_refl _))
      have HO5 := Lib.hid hown
      obtain ⟨a5, cp5, rfl⟩ := TokOwn.shape hown
      clear hown hg HO4
      go_wp2
      go_ret
      exact ⟨_, rfl, HO5.out.rowN HOK.out (by have := HLN.out; simp at this ⊢; omega), S5.out⟩
end Go.Proofs.YthilicmhdkmipaaGreatDoor
