/- The document's tokens of a place; a word's, a sign's; how strongly something holds together; a line of tokens. -/
import Derived.Test.YthilicmhdkmipaaGreatDoorQShowRefT
import Derived.Lib.AppendStr
import Derived.Laws.IdiomStrings
import Derived.Lib.Builder
import Derived.Laws.BytesArg
namespace Go.Proofs.YthilicmhdkmipaaGreatDoor
open Go.RowKit
set_option linter.unusedVariables false

theorem TokOwn.lit2 {w : World} (base : Nat) (t u : TkB) (a b : ByteArray) (ha : a = bT t) (hb' : b = bT u) (hb : base ≤ w.heap.size) : TokOwn base (w.alloc (.cells #[.string a, .string b] 9)) [t, u] (.slice (some ⟨w.heap.size, 0, none⟩) 2 2) := by
  subst ha; subst hb'
  exact World.ownsRow_lit (e := 9) (size := 1) w #[.string (bT t), .string (bT u)] 2 hb (by unfold maxLen; omega) rfl
theorem TokIn.lit2 {w : World} (t u : TkB) (a b : ByteArray) (ha : a = bT t) (hb : b = bT u) (hl : t.length ≤ maxLen) (hl2 : u.length ≤ maxLen) : TokIn (w.alloc (.cells #[.string a, .string b] 9)).heap.size (w.alloc (.cells #[.string a, .string b] 9)) [t, u] (.slice (some ⟨w.heap.size, 0, none⟩) 2 2) :=
  (TokOwn.lit2 (w := w) w.heap.size t u a b ha hb (Nat.le_refl _)).row (fun x hx => by
    simp at hx
    rcases hx with rfl | rfl
    · exact hl
    · exact hl2) (by simp)
theorem stepsT_takeR : ∀ (l : List ByteArray) (k : Nat) (s : ByteArray), l[k]? = some s → stepsT (l.take (k + 1)) = stepsT (l.take k) ++ [wDot, kT s]
  | a :: l, 0, s, h => by
    obtain rfl : a = s := by simpa using h
    simp [stepsT]
  | a :: l, k + 1, s, h => by
    rw [List.take_succ_cons, List.take_succ_cons, stepsT, stepsT, stepsT_takeR l k s (by simpa using h)]; rfl
theorem stepsT_len (l : List ByteArray) : (stepsT l).length = 2 * l.length := by
  induction l with
  | nil => rfl
  | cons a l ih => rw [stepsT, List.length_cons, List.length_cons, ih, List.length_cons]; omega
set_option maxRecDepth 100000 in
set_option maxHeartbeats 4000000 in
theorem docP_calls (B : Nat) (x : PP) (v : Value) (w : World) (hB : B ≤ w.heap.size) (hx : x.In B w v) (hlen : (tokP x).length ≤ 100000) (hok : okTk (tokP x)) :
    Calls Tryz.prog 24 #[.agg #[.string x.name, v]] w fun e w' => ∃ u, e = .returned u ∧ TokNew w.heap.size w' (tokP x) u ∧ Below w.heap.size w w' := by
  obtain ⟨nm, path⟩ := x
  obtain ⟨hs, b, o, ⟨hl, ao, cap, rfl, k1⟩, r1⟩ := hx
  dsimp only at hs hl k1 r1 hlen hok ⊢
  obtain ⟨n, hx⟩ : ∃ n, n = path.length := ⟨_, rfl⟩
  have ET : tokP ⟨nm, path⟩ = kT nm :: stepsT path := rfl
  rw [ET] at hlen hok ⊢
  have hn : n ≤ 50000 := by rw [List.length_cons, stepsT_len, ← hx] at hlen; omega
  rw [← hx] at hl k1 ⊢
  obtain ⟨w1, hw1⟩ : ∃ w1, w1 = w.alloc (.cells #[.string nm, .slice ao n cap] 34) := ⟨_, rfl⟩
  have bx : Below w.heap.size w w1 := by rw [hw1]; exact new_onlyR _ _
  have hz : w.heap.size < w1.heap.size := by rw [hw1]; simp
  have x0 : w1.cell? ⟨w.heap.size, 0, none⟩ = some (.string nm) := by rw [hw1]; go_simp
  have x1 : w1.cell? ⟨w.heap.size, 1, none⟩ = some (.slice ao n cap) := by rw [hw1]; go_simp
  obtain ⟨w2, hw2⟩ : ∃ w2, w2 = w1.alloc (.cells #[.string nm] 9) := ⟨_, rfl⟩
  have b2 : Below w1.heap.size w1 w2 := by rw [hw2]; exact new_onlyR _ _
  have y1 := (b2.cell (p := ⟨w.heap.size, 1, none⟩) hz).trans x1
  have hb2 := Lib.hid (bx.trans (b2.mono (Nat.le_of_lt hz)))
  have hz2 : w.heap.size + 1 ≤ w2.heap.size := Nat.le_trans hz b2.size
  have HO : Hid (TokOwn (w.heap.size + 1) w2 [kT nm] (.slice (some ⟨w1.heap.size, 0, none⟩) 1 1)) := Lib.hid (by rw [hw2]; exact TokOwn.lit (w := w1) _ (kT nm) nm (bT_kT nm).symm hz)
  have Hx := Lib.hid hx
  have HR := Lib.hid r1
  have HOK := Lib.hid hok
  have HK := Lib.hid k1
  clear bx hx r1 k1 b2 hok hlen
  go_enter Tryz.func24, Tryz.ntmps24
  go_upto_region 1 with (fail)
  rw [← hw1]
  clear hw1
  go_upto_region 2 with (fail)
  rw [← hw2]
  clear hw2 x0 x1
  go_wp2_with fail
  go_loopw [3, 4] (fun u i wr => ∃ k : Nat, k ≤ n ∧ i = .int .i64 k ∧ Hid (TokOwn (w.heap.size + 1) wr (kT nm :: stepsT (path.take k)) u) ∧ Hid (Below (w.heap.size + 1) w2 wr))
    (fun _ i _ => n - (intOf i).toNat)
  case atStart => exact ⟨0, by omega, rfl, Lib.hid (by simpa [stepsT] using HO.out), Lib.hid (Below.refl _ _)⟩
  case round =>
    obtain ⟨k, hk, rfl, Hw, Hb⟩ := hrel
    have z1 := (Hb.out.cell (p := ⟨w.heap.size, 1, none⟩) (by show w.heap.size < w.heap.size + 1; omega)).trans y1
    have hsr : w.heap.size + 1 ≤ wr.heap.size := Nat.le_trans hz2 Hb.out.size
    have hgr : w.heap.size < wr.heap.size := by omega
    obtain ⟨au, cu, rfl⟩ := TokOwn.shape Hw.out
    by_cases hlt : k < n
    · obtain ⟨a, ha⟩ := (⟨path[k]'(by rw [← Hx.out]; exact hlt), List.getElem?_eq_getElem _⟩ : ∃ a, path[k]? = some a)
      obtain ⟨rfl, hbB⟩ := HK.out.resolve_left (by omega)
      obtain ⟨hsa, ca⟩ := NRow.get HR.out ha
      have BW : Below w.heap.size w wr := hb2.out.trans (Hb.out.mono (by omega))
      have c0 : wr.cell? ⟨b, o + k, none⟩ = some (.string a) := by
        have := ca.below hbB (BW.mono hB) 0 _ rfl
        simpa using this
      have hbr : b < wr.heap.size := by omega
      have hnext : kT nm :: stepsT (path.take (k + 1)) = (kT nm :: stepsT (path.take k)) ++ [wDot, kT a] := by
        rw [stepsT_takeR path k a ha]; simp
      have HN := Lib.hid hnext
      have hll : (kT nm :: stepsT (path.take k)).length ≤ 200000 := by rw [List.length_cons, stepsT_len, List.length_take]; omega
      have HLL := Lib.hid hll
      clear ca ha hnext BW hll
      go_wp2_with (at_builtin; refine wpList_appT rfl _ _ rfl (w.heap.size + 1) _ (kT nm :: stepsT (path.take k)) rfl (Hw.out.stays (new_onlyR wr _)) [wDot, kT a] _ rfl _ (Nat.le_refl _) (TokIn.lit2 wDot (kT a) ⟨#[46]⟩ a rfl (bT_kT a).symm (by decide) hsa) (by have := HLL.out; simp at this ⊢; omega) (by simp; omega) ?_)
      intro v9 w9 hown hg
      have S9 := Lib.hid (below_app ((Hb.out).alloc hsr _) hg (by simp; omega) (Hw.out.stays (new_onlyR wr _)) (Nat.le_refl _))
      have HO9 := Lib.hid hown
      clear hown hg Hw
      go_wp2
      go_roundw
      case rel => exact ⟨k + 1, by omega, by go_num, Lib.hid (by rw [HN.out]; exact HO9.out), S9⟩
      case measure => simp [intOf]; omega
    · obtain rfl : k = n := by omega
      have hall : path.take k = path := List.take_of_length_le (by rw [Hx.out]; exact Nat.le_refl _)
      have HW' : Hid (TokOwn (w.heap.size + 1) wr (kT nm :: stepsT path) (.slice au (kT nm :: stepsT (path.take k)).length cu)) := Lib.hid (by have := Hw.out; rw [hall] at this ⊢; exact this)
      have BW : Below w.heap.size w wr := hb2.out.trans (Hb.out.mono (by omega))
      have HBW := Lib.hid BW
      clear hall BW
      go_wp2
      go_ret
      exact ⟨_, rfl, (HW'.out.rowN HOK.out (by rw [List.length_cons, stepsT_len, ← Hx.out]; omega)).mono (by omega), HBW.out⟩
theorem docStrong_calls (op : Int) (w : World) : Calls Tryz.prog 58 #[.int .u8 op] w fun e w' => e = .returned (.int .i64 (strongB op)) ∧ w' = w := by
  by_cases h : 7 ≤ op ∧ op ≤ 17
  · rcases (by omega : op = 7 ∨ op = 8 ∨ op = 9 ∨ op = 10 ∨ op = 11 ∨ op = 12 ∨ op = 13 ∨ op = 14 ∨ op = 15 ∨ op = 16 ∨ op = 17) with rfl | rfl | rfl | rfl | rfl | rfl | rfl | rfl | rfl | rfl | rfl
    all_goals
      go_enter Tryz.func58, Tryz.ntmps58
      go_wp2
      go_ret
      exact ⟨rfl, rfl⟩
  · have hs : strongB op = 7 := by
      unfold strongB
      rw [if_neg (by omega), if_neg (by omega), if_neg (by omega), if_neg (by omega), if_neg (by omega), if_neg (by omega), if_neg (by omega)]
    rw [hs]
    have n7 : op ≠ 7 := by omega
    have n8 : op ≠ 8 := by omega
    have n9 : op ≠ 9 := by omega
    have n10 : op ≠ 10 := by omega
    have n11 : op ≠ 11 := by omega
    have n12 : op ≠ 12 := by omega
    have n13 : op ≠ 13 := by omega
    have n14 : op ≠ 14 := by omega
    have n15 : op ≠ 15 := by omega
    have n16 : op ≠ 16 := by omega
    have n17 : op ≠ 17 := by omega
    clear h hs
    go_enter Tryz.func58, Tryz.ntmps58
    go_wp2
    go_ret
    exact ⟨rfl, rfl⟩
/-- the words of operators, as the document has them -/
def opRow : List Value := [.string ⟨#[]⟩, .string ⟨#[]⟩, .string ⟨#[]⟩, .string ⟨#[]⟩, .string ⟨#[]⟩, .string ⟨#[]⟩, .string ⟨#[]⟩, .string ⟨#[45]⟩, .string ⟨#[110, 111, 116]⟩, .string ⟨#[43]⟩, .string ⟨#[45]⟩, .string ⟨#[42]⟩, .string ⟨#[47]⟩, .string ⟨#[37]⟩, .string ⟨#[60]⟩, .string ⟨#[61, 61]⟩, .string ⟨#[97, 110, 100]⟩, .string ⟨#[111, 114]⟩, .string ⟨#[]⟩, .string ⟨#[]⟩, .string ⟨#[]⟩, .string ⟨#[98, 111, 120]⟩, .string ⟨#[117, 110, 98, 111, 120]⟩, .string ⟨#[99, 101, 108, 108]⟩, .string ⟨#[103, 101, 116]⟩, .string ⟨#[115, 101, 116]⟩, .string ⟨#[114, 99]⟩, .string ⟨#[97, 114, 99]⟩, .string ⟨#[99, 108, 111, 110, 101]⟩, .string ⟨#[109, 117, 116, 101, 120]⟩, .string ⟨#[111, 112, 101, 110]⟩, .string ⟨#[97, 116, 111, 109, 105, 99]⟩, .string ⟨#[108, 111, 97, 100]⟩, .string ⟨#[115, 116, 111, 114, 101]⟩, .string ⟨#[102, 101, 116, 99, 104]⟩, .string ⟨#[115, 101, 110, 100]⟩, .string ⟨#[114, 101, 99, 118]⟩]
theorem opRow_at (k : Nat) (h : k < 37) : opRow[k]? = some (.string (bT (exprWord k))) := by
  rcases (by omega : k = 0 ∨ k = 1 ∨ k = 2 ∨ k = 3 ∨ k = 4 ∨ k = 5 ∨ k = 6 ∨ k = 7 ∨ k = 8 ∨ k = 9 ∨ k = 10 ∨ k = 11 ∨ k = 12 ∨ k = 13 ∨ k = 14 ∨ k = 15 ∨ k = 16 ∨ k = 17 ∨ k = 18 ∨ k = 19 ∨ k = 20 ∨ k = 21 ∨ k = 22 ∨ k = 23 ∨ k = 24 ∨ k = 25 ∨ k = 26 ∨ k = 27 ∨ k = 28 ∨ k = 29 ∨ k = 30 ∨ k = 31 ∨ k = 32 ∨ k = 33 ∨ k = 34 ∨ k = 35 ∨ k = 36) with rfl | rfl | rfl | rfl | rfl | rfl | rfl | rfl | rfl | rfl | rfl | rfl | rfl | rfl | rfl | rfl | rfl | rfl | rfl | rfl | rfl | rfl | rfl | rfl | rfl | rfl | rfl | rfl | rfl | rfl | rfl | rfl | rfl | rfl | rfl | rfl | rfl
  all_goals rfl
set_option maxRecDepth 100000 in
set_option maxHeartbeats 4000000 in
theorem docWord_calls (k : Nat) (h : k ≤ 36) (w : World) : Calls Tryz.prog 62 #[.int .u8 (k : Int)] w fun e w' => e = .returned (.string (bT (exprWord k))) ∧ Below w.heap.size w w' := by
  obtain ⟨w1, hw1⟩ : ∃ w1, w1 = w.alloc (.cells opRow.toArray 9) := ⟨_, rfl⟩
  have bx : Below w.heap.size w w1 := by rw [hw1]; exact new_onlyR _ _
  have hg : w1.heap[w.heap.size]? = some (.cells opRow.toArray 9 (0, 0)) := by rw [hw1]; exact heap_alloc_new w _
  have xw : w1.cell? ⟨w.heap.size, k, none⟩ = some (.string (bT (exprWord k))) := by
    rw [cell_of_row _ _ k _ _ _ hg, ← opRow_at k (by omega)]; simp
  have hz : w.heap.size < w1.heap.size := by rw [hw1]; simp
  have hw1' : w1 = w.alloc (.cells #[.string ⟨#[]⟩, .string ⟨#[]⟩, .string ⟨#[]⟩, .string ⟨#[]⟩, .string ⟨#[]⟩, .string ⟨#[]⟩, .string ⟨#[]⟩, .string ⟨#[45]⟩, .string ⟨#[110, 111, 116]⟩, .string ⟨#[43]⟩, .string ⟨#[45]⟩, .string ⟨#[42]⟩, .string ⟨#[47]⟩, .string ⟨#[37]⟩, .string ⟨#[60]⟩, .string ⟨#[61, 61]⟩, .string ⟨#[97, 110, 100]⟩, .string ⟨#[111, 114]⟩, .string ⟨#[]⟩, .string ⟨#[]⟩, .string ⟨#[]⟩, .string ⟨#[98, 111, 120]⟩, .string ⟨#[117, 110, 98, 111, 120]⟩, .string ⟨#[99, 101, 108, 108]⟩, .string ⟨#[103, 101, 116]⟩, .string ⟨#[115, 101, 116]⟩, .string ⟨#[114, 99]⟩, .string ⟨#[97, 114, 99]⟩, .string ⟨#[99, 108, 111, 110, 101]⟩, .string ⟨#[109, 117, 116, 101, 120]⟩, .string ⟨#[111, 112, 101, 110]⟩, .string ⟨#[97, 116, 111, 109, 105, 99]⟩, .string ⟨#[108, 111, 97, 100]⟩, .string ⟨#[115, 116, 111, 114, 101]⟩, .string ⟨#[102, 101, 116, 99, 104]⟩, .string ⟨#[115, 101, 110, 100]⟩, .string ⟨#[114, 101, 99, 118]⟩] 9) := hw1
  have k0 : (0 : Int) ≤ (k : Int) := by omega
  have k1 : (k : Int) < 37 := by omega
  have BX := Lib.hid bx
  clear bx hg hw1 h
  generalize bT (exprWord k) = wd at *
  go_enter Tryz.func62, Tryz.ntmps62
  go_upto_region 2 with (fail)
  rw [← hw1']
  clear hw1'
  go_wp2
  go_ret
  exact ⟨rfl, BX.out⟩
end Go.Proofs.YthilicmhdkmipaaGreatDoor
/- The document's line of tokens. -/
namespace Go.Proofs.YthilicmhdkmipaaGreatDoor
open Go.RowKit
set_option linter.unusedVariables false

theorem infoByteL : (Tryz.prog.info? 5).map (fun i => (i.zero, i.size, i.bytes)) = some (some (.int .u8 0), 1, 1) := by kernel_rfl
/-- v is a slice of the call's own that holds the bytes l -/
def BytOwn (w : World) (base : Nat) (v : Value) (l : TkB) : Prop := w.ownsRow base 5 1 v l.length (Lib.byteCells l)
theorem BytOwn.text {w : World} {base : Nat} {v : Value} {l : TkB} (h : BytOwn w base v l) : (convert 82 9 v).run Tryz.prog w = .ok (.string (bT l)) w := by
  rcases h.2 with ⟨h1, h2⟩ | ⟨g, cap, cur, h1, h2, _⟩
  · subst h1
    have : l = [] := List.eq_nil_of_length_eq_zero h2
    subst this
    exact run_convert_bytes_nil (P := Tryz.prog) w 82 5 Tryz.underlying82 Tryz.underlying5 0 0 9 Tryz.underlying9
  · subst h1
    refine run_convert_bytes_back (P := Tryz.prog) w 82 9 5 ⟨g, 0, none⟩ cap l Tryz.underlying82 Tryz.underlying5 Tryz.underlying9 ?_
    intro j hj
    have e : (⟨g, 0, none⟩ : Addr).add j = ⟨g, j, none⟩ := by simp [Addr.add]; exact fun h => h.symm
    rw [e, World.ownsRow.cellAt h j (by omega)]
    simp [Lib.byteCells, hj]
theorem one_cellL (w : World) (a : Value) (e : TypeId) : ∀ (j : Nat) (u : Value), [a][j]? = some u → (w.alloc (.cells #[a] e)).cell? ((⟨w.heap.size, 0, none⟩ : Addr).add j) = some u := by
  intro j u h
  have e1 : (⟨w.heap.size, 0, none⟩ : Addr).add j = ⟨w.heap.size, j, none⟩ := by simp [Addr.add]; exact fun h => h.symm
  rw [e1, World.cell?_alloc_at (hn := rfl)]
  simpa using h
theorem one_oneL (n : Int) : ∀ u ∈ [Value.int .u8 n], u.oneCell' = true := by
  intro u hu
  simp at hu
  subst hu; rfl
theorem lineT_one (ts : List TkB) (t : TkB) : lineT (ts ++ [t]) = lineT ts ++ gapA [] ts ++ t := by
  unfold lineT
  rw [puts_append, puts, puts]; simp
theorem lineT_take {ts : List TkB} {k : Nat} {t : TkB} (h : ts[k]? = some t) : lineT (ts.take (k + 1)) = lineT (ts.take k) ++ gapA [] (ts.take k) ++ t := by
  rw [List.take_add_one, h]; exact lineT_one _ _
theorem lineT_split (ts : List TkB) (k : Nat) : (lineT (ts.take k)).length ≤ (lineT ts).length := by
  have := puts_append [] (ts.take k) (ts.drop k)
  rw [List.take_append_drop] at this
  unfold lineT
  rw [this, List.length_append]; omega
theorem bytes_app (a b : TkB) : Lib.byteCells (a ++ b) = Lib.byteCells a ++ Lib.byteCells b := by unfold Lib.byteCells; rw [List.map_append]
theorem strCells_bT (t : TkB) : Lib.strCells (bT t) = Lib.byteCells t := by rw [Lib.strCells_eq]; unfold Lib.byteCells bT; simp
set_option maxRecDepth 100000 in
set_option maxHeartbeats 4000000 in
theorem docLine_calls (B : Nat) (ts : List TkB) (v : Value) (w : World) (hB : B ≤ w.heap.size) (h : TokIn B w ts v) (hn : ts.length ≤ 1000000) (hL : (lineT ts).length ≤ 1000000000) :
    Calls Tryz.prog 18 #[v] w fun e w' => e = .returned (.string (bT (lineT ts))) ∧ Below w.heap.size w w' := by
  obtain ⟨i0, hi, hz0, hz1, hz2⟩ := info_parts infoByteL
  obtain ⟨b, o, ⟨hm, ao, cap, rfl, k1⟩, r1⟩ := h
  rw [List.length_map] at hm k1 ⊢
  obtain ⟨n, hx⟩ : ∃ n, n = ts.length := ⟨_, rfl⟩
  rw [← hx] at hm k1 hn ⊢
  have Hx := Lib.hid hx
  have HR := Lib.hid r1
  have HL := Lib.hid hL
  have HK := Lib.hid k1
  have H0 : Hid (BytOwn w w.heap.size (.slice none 0 0) []) := Lib.hid (World.ownsRow_nil _ _ _ _)
  clear hx r1 hL k1
  go_enter Tryz.func18, Tryz.ntmps18
  go_wp2_with fail
  go_loopw [3, 4] (fun u i wr => ∃ k : Nat, k ≤ n ∧ i = .int .i64 k ∧ Hid (BytOwn wr w.heap.size u (lineT (ts.take k))) ∧ Hid (Below w.heap.size w wr))
    (fun _ i _ => n - (intOf i).toNat)
  case atStart => exact ⟨0, by omega, rfl, Lib.hid (by simpa [lineT, puts] using H0.out), Lib.hid (Below.refl _ _)⟩
  case round =>
    obtain ⟨k, hk, rfl, Hw, Hb⟩ := hrel
    have hsr : w.heap.size ≤ wr.heap.size := Hb.out.size
    by_cases hlt : k < n
    · obtain ⟨t, ht⟩ := (⟨ts[k]'(by rw [← Hx.out]; exact hlt), List.getElem?_eq_getElem _⟩ : ∃ t, ts[k]? = some t)
      obtain ⟨rfl, hbB⟩ := HK.out.resolve_left (by omega)
      obtain ⟨hsa, ca⟩ := NRow.get HR.out (show (ts.map bT)[k]? = some (bT t) by rw [List.getElem?_map, ht]; rfl)
      have c0 : wr.cell? ⟨b, o + k, none⟩ = some (.string (bT t)) := by
        have := ca.below hbB (Hb.out.mono hB) 0 _ rfl
        simpa using this
      have hbr : b < wr.heap.size := by omega
      have hnext := lineT_take ht
      have hlen2 : (lineT (ts.take (k + 1))).length ≤ 1000000000 := Nat.le_trans (lineT_split ts (k + 1)) HL.out
      rw [hnext, List.length_append, List.length_append] at hlen2
      have hbt := bT_size t
      have HSC := Lib.hid (strCells_bT t)
      obtain ⟨s, hs⟩ : ∃ s, s = bT t := ⟨_, rfl⟩
      rw [← hs] at hbt HSC c0
      have hown := Hw.out
      have HN := Lib.hid hnext
      clear ca ht hs hnext Hw hsa
      by_cases hk0 : k = 0
      · subst hk0
        have hg0 : gapA [] (ts.take 0) = ([] : TkB) := by simp [gapA]
        rw [hg0] at hlen2 HN
        have c0' : wr.cell? ⟨b, o, none⟩ = some (.string s) := by simpa using c0
        simp only [List.length_nil, Nat.add_zero] at hlen2
        go_wp2_with (first
          | (at_builtin; refine Lib.wpList_append_own_string (P := Tryz.prog) _ rfl _ _ 82 9 rfl w.heap.size 5 i0 Tryz.underlying82 Tryz.underlying9 hi hz0 hz1 hz2 _ _ _ rfl hown s rfl (by unfold maxLen; omega) (by omega) hsr ?_)
          | fail)
        intro v2 w2 hown2 hgrow2 _
        have bel2 := Lib.hid (Hb.out.grown hgrow2 hsr (fun j hj => (hown.lt j hj).1))
        have R : Hid (BytOwn w2 w.heap.size v2 (lineT (ts.take (0 + 1)))) := Lib.hid (by
          unfold BytOwn
          rw [HN.out, List.append_nil, List.take_zero, List.length_append, bytes_app, ← HSC.out]
          exact hown2)
        clear hown hown2 hgrow2 c0 c0'
        go_wp2
        go_roundw
        case rel => exact ⟨1, by omega, by go_num, R, bel2⟩
        case measure => simp [intOf]; omega
      · have hg1 : gapA [] (ts.take k) = ([32] : TkB) := by
          cases ts with
          | nil => have := Hx.out; simp at this; omega
          | cons a l => cases k with
            | zero => omega
            | succ k => rfl
        rw [hg1] at hlen2 HN
        simp only [List.length_cons, List.length_nil] at hlen2
        have kk : (0 : Int) < (k : Int) := by omega
        go_wp2_with (first
          | (at_builtin; refine wpList_append_own _ rfl _ _ 82 rfl w.heap.size 5 i0 (.int .u8 0) 1 1 Tryz.underlying82 hi hz0 hz1 hz2 rfl (by decide) _ _ _ rfl (hown.alloc _) ⟨wr.heap.size, 0, none⟩ 1 1 [.int .u8 32] rfl rfl (one_cellL _ _ _) (one_oneL _) (by unfold maxLen; omega) (by omega) (by simp; omega) ?_)
          | fail)
        intro v2 w2 hown2 hgrow2 _
        have bel2 := (Hb.out.alloc hsr _).grown hgrow2 (by simp; omega) (fun j hj => (hown.lt j hj).1)
        have hs2 : w.heap.size ≤ w2.heap.size := bel2.size
        have c2 : w2.cell? ⟨b, o + k, none⟩ = some (.string s) := by
          have h1 := (bel2.mono hB).cell (p := ⟨b, o + k, none⟩) hbB
          have h2 := (Hb.out.mono hB).cell (p := ⟨b, o + k, none⟩) hbB
          exact h1.trans (h2.symm.trans c0)
        have hb2 : b < w2.heap.size := by omega
        have hown2' : w2.ownsRow w.heap.size 5 1 v2 ((lineT (ts.take k)).length + 1) (Lib.byteCells (lineT (ts.take k)) ++ [.int .u8 32]) := hown2
        have B2 := Lib.hid bel2
        clear hown hown2 hgrow2 bel2 c0
        go_wp2_with (first
          | (at_builtin; refine Lib.wpList_append_own_string (P := Tryz.prog) _ rfl _ _ 82 9 rfl w.heap.size 5 i0 Tryz.underlying82 Tryz.underlying9 hi hz0 hz1 hz2 _ _ _ rfl hown2' s rfl (by unfold maxLen; omega) (by omega) hs2 ?_)
          | fail)
        intro v3 w3 hown3 hgrow3 _
        have bel3 := Lib.hid (B2.out.grown hgrow3 hs2 (fun j hj => (hown2'.lt j hj).1))
        have R : Hid (BytOwn w3 w.heap.size v3 (lineT (ts.take (k + 1)))) := Lib.hid (by
          unfold BytOwn
          rw [HN.out, List.length_append, List.length_append, bytes_app, bytes_app, ← HSC.out, List.append_assoc]
          exact hown3)
        clear hown2' hown3 hgrow3 c2
        go_wp2
        go_roundw
        case rel => exact ⟨k + 1, by omega, by go_num, R, bel3⟩
        case measure => simp [intOf]; omega
    · obtain rfl : k = n := by omega
      have hall : ts.take k = ts := List.take_of_length_le (by rw [Hx.out]; exact Nat.le_refl _)
      rw [hall] at Hw
      have hc := Hw.out.text
      go_wp2
      go_ret
      exact ⟨rfl, Hb.out⟩
end Go.Proofs.YthilicmhdkmipaaGreatDoor
