/- The document's tokens of a type. -/
import Derived.Test.YthilicmhdkmipaaGreatDoorQJoinBB
namespace Go.Proofs.YthilicmhdkmipaaGreatDoor
open Go.RowKit
set_option linter.unusedVariables false

/-- the contract of Type -/
def DocTAt (B : Nat) (t : PT) : Prop := ∀ (v : Value) (w : World), B ≤ w.heap.size → t.In B w v → (tokT t).length ≤ 100000 → okTk (tokT t) →
  Calls Tryz.prog 19 #[.agg #[.int .u8 t.kind, .string t.name, v]] w fun e w' => ∃ u, e = .returned u ∧ TokIn w'.heap.size w' (tokT t) u ∧ Below w.heap.size w w'
/-- the words' row -/
def wordRow (nm : ByteArray) : List Value := [.string ⟨#[]⟩, .string ⟨#[105, 110, 116]⟩, .string ⟨#[98, 111, 111, 108]⟩, .string ⟨#[117, 110, 105, 116]⟩, .string nm, .string ⟨#[66, 111, 120]⟩, .string ⟨#[67, 101, 108, 108]⟩, .string ⟨#[82, 99]⟩, .string ⟨#[65, 114, 99]⟩, .string ⟨#[77, 117, 116, 101, 120]⟩, .string ⟨#[65, 116, 111, 109, 105, 99]⟩, .string ⟨#[83, 101, 110, 100, 101, 114]⟩, .string ⟨#[82, 101, 99, 101, 105, 118, 101, 114]⟩, .string ⟨#[38]⟩, .string ⟨#[38]⟩]
def wordAt (nm : ByteArray) (k : Nat) : TkB := if k = 4 then kT nm else if k = 13 ∨ k = 14 then wAmp else typeWord k
theorem wordRow_at (nm : ByteArray) (k : Nat) (h : k < 15) : (wordRow nm)[k]? = some (.string (bT (wordAt nm k))) := by
  rcases (by omega : k = 0 ∨ k = 1 ∨ k = 2 ∨ k = 3 ∨ k = 4 ∨ k = 5 ∨ k = 6 ∨ k = 7 ∨ k = 8 ∨ k = 9 ∨ k = 10 ∨ k = 11 ∨ k = 12 ∨ k = 13 ∨ k = 14) with rfl | rfl | rfl | rfl | rfl | rfl | rfl | rfl | rfl | rfl | rfl | rfl | rfl | rfl | rfl
  all_goals first | rfl | (show some (Value.string nm) = some (.string (bT (kT nm))); rw [bT_kT])
theorem below_app {s : Nat} {W w w' : World} {v : Value} {base : Nat} {ts : List TkB} (h : Below s W w) (hg : w.grownBy w' v.ownBlock) (hs : s ≤ w.heap.size) (ho : TokOwn base w ts v) (hb : s ≤ base) : Below s W w' :=
  h.grown hg hs fun k hk => Nat.le_trans hb (ho.lt k hk)
theorem new_onlyR (w : World) (x : Obj) : Below w.heap.size w (w.alloc x) := (Below.refl _ w).alloc (Nat.le_refl _) _
set_option maxRecDepth 100000 in
set_option maxHeartbeats 4000000 in
theorem docT_leaf (B k : Nat) (nm : ByteArray) (hk : k = 1 ∨ k = 2 ∨ k = 3 ∨ k = 4 ∨ k = 10) : DocTAt B (.mk (k : Int) nm []) := by
  intro v w hB ht hlen hok
  obtain ⟨⟨_, hsn⟩, b, o, ⟨hn, ao, cap, rfl, k1⟩, r1⟩ := ht
  have et : tokT (.mk (k : Int) nm []) = [wordAt nm k] := by rw [tokT]; unfold wordAt; rcases hk with rfl | rfl | rfl | rfl | rfl <;> rfl
  rw [et] at hlen hok ⊢
  obtain ⟨w2, hw2⟩ : ∃ w2, w2 = (w.alloc (.cells #[.int .u8 (k : Int), .string nm, .slice ao 0 cap] 31)).alloc (.cells (wordRow nm).toArray 9) := ⟨_, rfl⟩
  have bx : Below w.heap.size w w2 := by rw [hw2]; exact ((Below.refl _ w).alloc (Nat.le_refl _) _).alloc (by simp) _
  have hz : w2.heap.size = w.heap.size + 2 := by rw [hw2]; simp
  have hg0 : w2.heap[w.heap.size]? = some (.cells #[.int .u8 (k : Int), .string nm, .slice ao 0 cap] 31 (0, 0)) := by
    rw [hw2]; exact (Below.heap_alloc _ _ _ (by simp)).trans (heap_alloc_new w _)
  have hg1 : w2.heap[w.heap.size + 1]? = some (.cells (wordRow nm).toArray 9 (0, 0)) := by
    rw [hw2]
    have := heap_alloc_new (w.alloc (.cells #[.int .u8 (k : Int), .string nm, .slice ao 0 cap] 31)) (.cells (wordRow nm).toArray 9)
    simpa using this
  have x0 : w2.cell? ⟨w.heap.size, 0, none⟩ = some (.int .u8 (k : Int)) := by rw [cell_of_row _ _ 0 _ _ _ hg0]; rfl
  have x2 : w2.cell? ⟨w.heap.size, 2, none⟩ = some (.slice ao 0 cap) := by rw [cell_of_row _ _ 2 _ _ _ hg0]; rfl
  obtain ⟨wd, hwd⟩ : ∃ wd, wd = bT (wordAt nm k) := ⟨_, rfl⟩
  have xw : w2.cell? ⟨w.heap.size + 1, k, none⟩ = some (.string wd) := by
    rw [cell_of_row _ _ k _ _ _ hg1, hwd, ← wordRow_at nm k (by omega)]; simp
  have hw2' : w2 = (w.alloc (.cells #[.int .u8 (k : Int), .string nm, .slice ao 0 cap] 31)).alloc (.cells #[.string ⟨#[]⟩, .string ⟨#[105, 110, 116]⟩, .string ⟨#[98, 111, 111, 108]⟩, .string ⟨#[117, 110, 105, 116]⟩, .string nm, .string ⟨#[66, 111, 120]⟩, .string ⟨#[67, 101, 108, 108]⟩, .string ⟨#[82, 99]⟩, .string ⟨#[65, 114, 99]⟩, .string ⟨#[77, 117, 116, 101, 120]⟩, .string ⟨#[65, 116, 111, 109, 105, 99]⟩, .string ⟨#[83, 101, 110, 100, 101, 114]⟩, .string ⟨#[82, 101, 99, 101, 105, 118, 101, 114]⟩, .string ⟨#[38]⟩, .string ⟨#[38]⟩] 9) := hw2
  have ki0 : (0 : Int) ≤ (k : Int) := by omega
  have ki1 : (k : Int) < 15 := by omega
  have k13 : (k : Int) ≠ 13 := by omega
  have k14 : (k : Int) ≠ 14 := by omega
  have BX := Lib.hid bx
  have HOK := Lib.hid hok
  have HLN := Lib.hid hlen
  have ET := Lib.hid et
  have hzz : w.heap.size < w2.heap.size := by omega
  have hzz1 : w.heap.size + 1 < w2.heap.size := by omega
  have hzz2 : w.heap.size + 2 ≤ w2.heap.size := by omega
  have HO := Lib.hid (TokOwn.lit (w := w2) (w.heap.size + 2) (wordAt nm k) wd hwd (by omega))
  show Calls Tryz.prog 19 #[.agg #[.int .u8 (k : Int), .string nm, .slice ao 0 cap]] w _
  clear hw2 hg0 hg1 et bx hok hlen hwd hz hk
  go_enter Tryz.func19, Tryz.ntmps19
  go_upto_region 2 with (fail)
  (try simp only [size_alloc])
  rw [← hw2']
  clear hw2'
  go_wp2
  go_ret
  exact ⟨_, rfl, HO.out.row HOK.out (by simp), BX.out.alloc (by omega) _⟩
set_option maxRecDepth 100000 in
set_option maxHeartbeats 4000000 in
theorem docT_wrap (B k : Nat) (nm : ByteArray) (x : PT) (hk : k = 5 ∨ k = 6 ∨ k = 7 ∨ k = 8 ∨ k = 9 ∨ k = 11 ∨ k = 12) (IH : DocTAt B x) : DocTAt B (.mk (k : Int) nm [x]) := by
  intro v w hB ht hlen hok
  obtain ⟨⟨_, hsn⟩, b, o, ⟨hn, ao, cap, rfl, k1⟩, r1⟩ := ht
  obtain ⟨rfl, hb⟩ := k1.resolve_left (by simp)
  obtain ⟨⟨vu, cu, iu⟩, _⟩ := r1
  obtain ⟨p7, n7, q7, rfl⟩ := iu.shape
  have et : tokT (.mk (k : Int) nm [x]) = wordAt nm k :: wLess :: (tokT x ++ [wMore]) := by rw [tokT]; unfold wordAt; rcases hk with rfl | rfl | rfl | rfl | rfl | rfl | rfl <;> rfl
  rw [et] at hlen hok ⊢
  obtain ⟨w2, hw2⟩ : ∃ w2, w2 = (w.alloc (.cells #[.int .u8 (k : Int), .string nm, .slice (some ⟨b, o, none⟩) 1 cap] 31)).alloc (.cells (wordRow nm).toArray 9) := ⟨_, rfl⟩
  have bx : Below w.heap.size w w2 := by rw [hw2]; exact ((Below.refl _ w).alloc (Nat.le_refl _) _).alloc (by simp) _
  have hz : w2.heap.size = w.heap.size + 2 := by rw [hw2]; simp
  have hg0 : w2.heap[w.heap.size]? = some (.cells #[.int .u8 (k : Int), .string nm, .slice (some ⟨b, o, none⟩) 1 cap] 31 (0, 0)) := by
    rw [hw2]; exact (Below.heap_alloc _ _ _ (by simp)).trans (heap_alloc_new w _)
  have hg1 : w2.heap[w.heap.size + 1]? = some (.cells (wordRow nm).toArray 9 (0, 0)) := by
    rw [hw2]
    have := heap_alloc_new (w.alloc (.cells #[.int .u8 (k : Int), .string nm, .slice (some ⟨b, o, none⟩) 1 cap] 31)) (.cells (wordRow nm).toArray 9)
    simpa using this
  have x0 : w2.cell? ⟨w.heap.size, 0, none⟩ = some (.int .u8 (k : Int)) := by rw [cell_of_row _ _ 0 _ _ _ hg0]; rfl
  have x2 : w2.cell? ⟨w.heap.size, 2, none⟩ = some (.slice (some ⟨b, o, none⟩) 1 cap) := by rw [cell_of_row _ _ 2 _ _ _ hg0]; rfl
  obtain ⟨wd, hwd⟩ : ∃ wd, wd = bT (wordAt nm k) := ⟨_, rfl⟩
  have xw : w2.cell? ⟨w.heap.size + 1, k, none⟩ = some (.string wd) := by
    rw [cell_of_row _ _ k _ _ _ hg1, hwd, ← wordRow_at nm k (by omega)]; simp
  have hw2' : w2 = (w.alloc (.cells #[.int .u8 (k : Int), .string nm, .slice (some ⟨b, o, none⟩) 1 cap] 31)).alloc (.cells #[.string ⟨#[]⟩, .string ⟨#[105, 110, 116]⟩, .string ⟨#[98, 111, 111, 108]⟩, .string ⟨#[117, 110, 105, 116]⟩, .string nm, .string ⟨#[66, 111, 120]⟩, .string ⟨#[67, 101, 108, 108]⟩, .string ⟨#[82, 99]⟩, .string ⟨#[65, 114, 99]⟩, .string ⟨#[77, 117, 116, 101, 120]⟩, .string ⟨#[65, 116, 111, 109, 105, 99]⟩, .string ⟨#[83, 101, 110, 100, 101, 114]⟩, .string ⟨#[82, 101, 99, 101, 105, 118, 101, 114]⟩, .string ⟨#[38]⟩, .string ⟨#[38]⟩] 9) := hw2
  have ki0 : (0 : Int) ≤ (k : Int) := by omega
  have ki1 : (k : Int) < 15 := by omega
  have k13 : (k : Int) ≠ 13 := by omega
  have k14 : (k : Int) ≠ 14 := by omega
  have BX := Lib.hid bx
  have HOK := Lib.hid hok
  have HLN := Lib.hid hlen
  have ET := Lib.hid et
  have hzz : w.heap.size < w2.heap.size := by omega
  have hzz1 : w.heap.size + 1 < w2.heap.size := by omega
  have hzz2 : w.heap.size + 2 ≤ w2.heap.size := by omega
  have HO := Lib.hid (TokOwn.lit (w := w2) (w.heap.size + 2) (wordAt nm k) wd hwd (by omega))
  have HC := Lib.hid cu
  have HI := Lib.hid iu
  have HIH := Lib.hid IH
  show Calls Tryz.prog 19 #[.agg #[.int .u8 (k : Int), .string nm, .slice (some ⟨b, o, none⟩) 1 cap]] w _
  clear hw2 hg0 hg1 et bx hok hlen hwd hz cu iu IH
  go_enter Tryz.func19, Tryz.ntmps19
  go_upto_region 2 with (fail)
  (try simp only [size_alloc])
  rw [← hw2']
  clear hw2'
  go_upto_region 3 with (fail)
  obtain ⟨w3, hw3⟩ : ∃ w3, w3 = w2.alloc (.cells #[.string wd] 9) := ⟨_, rfl⟩
  have b23 : Below w2.heap.size w2 w3 := by rw [hw3]; exact (Below.refl _ w2).alloc (Nat.le_refl _) _
  have hz3 : w3.heap.size = w2.heap.size + 1 := by rw [hw3]; simp
  rw [← hw3] at HO ⊢
  have y0 := (b23.cell (p := ⟨w.heap.size, 0, none⟩) hzz).trans x0
  have y2 := (b23.cell (p := ⟨w.heap.size, 2, none⟩) hzz).trans x2
  have B3 := Lib.hid (BX.out.trans (b23.mono (by omega)))
  have hz3' : w.heap.size < w3.heap.size := by omega
  have hs3 : w.heap.size + 2 ≤ w3.heap.size := by omega
  have S3 : Hid (Below (w.heap.size + 2) w3 w3) := Lib.hid (Below.refl _ _)
  clear hw3 b23 x0 x2 xw hz3
  go_wp2_with (at_builtin; refine wpList_appT rfl _ _ rfl (w.heap.size + 2) _ [wordAt nm k] rfl (HO.out.stays (new_onlyR w3 _)) [wLess] _ rfl _ (Nat.le_refl _) (TokIn.lit1 wLess ⟨#[60]⟩ rfl (by decide)) (by first | (simp; done) | (have := HLN.out; simp at this ⊢; omega)) (by simp; omega) ?_)
  intro v4 w4 hown hg
  have S4 := Lib.hid (below_app ((S3.out).alloc hs3 _) hg (by simp; omega) (HO.out.stays (new_onlyR w3 _)) (Nat.le_refl _))
  have hs4 : w.heap.size + 2 ≤ w4.heap.size := by have := hg.size; simp at this; omega
  clear HO
  have HO := Lib.hid hown
  obtain ⟨ao4, cap4, rfl⟩ := TokOwn.shape hown
  clear hown hg
  have c0_4 := (S4.out.cell (p := ⟨w.heap.size, 0, none⟩) (by show w.heap.size < w.heap.size + 2; omega)).trans y0
  have c2_4 := (S4.out.cell (p := ⟨w.heap.size, 2, none⟩) (by show w.heap.size < w.heap.size + 2; omega)).trans y2
  have hzc4 : w.heap.size < w4.heap.size := by omega
  have W4 := Lib.hid (B3.out.trans ((S4.out).mono (show w.heap.size ≤ w.heap.size + 2 by omega)))
  have cw := HC.out.below hb (W4.out.mono hB)
  have u0 : w4.cell? ⟨b, o, none⟩ = some (.int .u8 x.kind) := cw 0 _ rfl
  have u1 : w4.cell? ⟨b, o + 1, none⟩ = some (.string x.name) := cw 1 _ rfl
  have u2 : w4.cell? ⟨b, o + 2, none⟩ = some (.slice p7 n7 q7) := cw 2 _ rfl
  have hbw : b < w4.heap.size := by omega
  have C := Lib.hid (HIH.out (.slice p7 n7 q7) w4 (by omega) (PT.In.below (W4.out.mono hB) HI.out) (by have := HLN.out; simp at this; omega) (fun t ht => HOK.out t (by simp [ht])))
  clear cw
  go_wp2_with fail
  (with_reducible refine (C.out).mono ?_)
  rintro e w5 ⟨v5, rfl, hin, bb⟩
  have HOs := Lib.hid (HO.out.stays bb)
  have S5 := Lib.hid ((S4.out).trans (bb.mono hs4))
  have hs5 : w.heap.size + 2 ≤ w5.heap.size := Nat.le_trans hs4 bb.size
  have HIN := Lib.hid hin
  clear hin bb C u0 u1 u2 HO
  go_wp2_with (at_builtin; refine wpList_appT rfl _ _ rfl (w.heap.size + 2) _ ([wordAt nm k] ++ [wLess]) rfl HOs.out (tokT x) v5 rfl w5.heap.size (Nat.le_refl _) HIN.out (by have := HLN.out; simp at this ⊢; omega) hs5 ?_)
  intro v6 w6 hown hg
  have S6 := Lib.hid (below_app S5.out hg hs5 HOs.out (Nat.le_refl _))
  have hs6 : w.heap.size + 2 ≤ w6.heap.size := by have := hg.size; omega
  clear HOs HIN
  have HO := Lib.hid hown
  obtain ⟨ao6, cap6, rfl⟩ := TokOwn.shape hown
  clear hown hg
  have c0_6 := (S6.out.cell (p := ⟨w.heap.size, 0, none⟩) (by show w.heap.size < w.heap.size + 2; omega)).trans y0
  have c2_6 := (S6.out.cell (p := ⟨w.heap.size, 2, none⟩) (by show w.heap.size < w.heap.size + 2; omega)).trans y2
  have hzc6 : w.heap.size < w6.heap.size := by omega
  go_wp2_with (at_builtin; refine wpList_appT rfl _ _ rfl (w.heap.size + 2) _ ([wordAt nm k] ++ [wLess] ++ tokT x) rfl (HO.out.stays (new_onlyR w6 _)) [wMore] _ rfl _ (Nat.le_refl _) (TokIn.lit1 wMore ⟨#[62]⟩ rfl (by decide)) (by first | (simp; done) | (have := HLN.out; simp at this ⊢; omega)) (by simp; omega) ?_)
  intro v7 w7 hown hg
  have S7 := Lib.hid (below_app ((S6.out).alloc hs6 _) hg (by simp; omega) (HO.out.stays (new_onlyR w6 _)) (Nat.le_refl _))
  have hs7 : w.heap.size + 2 ≤ w7.heap.size := by have := hg.size; simp at this; omega
  clear HO
  have HO := Lib.hid hown
  obtain ⟨ao7, cap7, rfl⟩ := TokOwn.shape hown
  clear hown hg
  go_wp2
  go_ret
  exact ⟨_, rfl, by
    have := HO.out.row (ts := [wordAt nm k] ++ [wLess] ++ tokT x ++ [wMore]) (fun t ht => HOK.out t (by simpa [or_assoc] using ht)) (by have := HLN.out; simp at this ⊢; omega)
    simpa using this, B3.out.trans ((S7.out).mono (by omega))⟩
set_option maxRecDepth 100000 in
set_option maxHeartbeats 4000000 in
theorem docT_ref (B : Nat) (nm : ByteArray) (x : PT) (IH : DocTAt B x) : DocTAt B (.mk 13 nm [x]) := by
  intro v w hB ht hlen hok
  obtain ⟨⟨_, hsn⟩, b, o, ⟨hn, ao, cap, rfl, k1⟩, r1⟩ := ht
  obtain ⟨rfl, hb⟩ := k1.resolve_left (by simp)
  obtain ⟨⟨vu, cu, iu⟩, _⟩ := r1
  obtain ⟨p7, n7, q7, rfl⟩ := iu.shape
  have et : tokT (.mk 13 nm [x]) = wordAt nm 13 :: tokT x := by rw [tokT]; rfl
  rw [et] at hlen hok ⊢
  obtain ⟨w2, hw2⟩ : ∃ w2, w2 = (w.alloc (.cells #[.int .u8 13, .string nm, .slice (some ⟨b, o, none⟩) 1 cap] 31)).alloc (.cells (wordRow nm).toArray 9) := ⟨_, rfl⟩
  have bx : Below w.heap.size w w2 := by rw [hw2]; exact ((Below.refl _ w).alloc (Nat.le_refl _) _).alloc (by simp) _
  have hz : w2.heap.size = w.heap.size + 2 := by rw [hw2]; simp
  have hg0 : w2.heap[w.heap.size]? = some (.cells #[.int .u8 13, .string nm, .slice (some ⟨b, o, none⟩) 1 cap] 31 (0, 0)) := by
    rw [hw2]; exact (Below.heap_alloc _ _ _ (by simp)).trans (heap_alloc_new w _)
  have hg1 : w2.heap[w.heap.size + 1]? = some (.cells (wordRow nm).toArray 9 (0, 0)) := by
    rw [hw2]
    have := heap_alloc_new (w.alloc (.cells #[.int .u8 13, .string nm, .slice (some ⟨b, o, none⟩) 1 cap] 31)) (.cells (wordRow nm).toArray 9)
    simpa using this
  have x0 : w2.cell? ⟨w.heap.size, 0, none⟩ = some (.int .u8 13) := by rw [cell_of_row _ _ 0 _ _ _ hg0]; rfl
  have x2 : w2.cell? ⟨w.heap.size, 2, none⟩ = some (.slice (some ⟨b, o, none⟩) 1 cap) := by rw [cell_of_row _ _ 2 _ _ _ hg0]; rfl
  obtain ⟨wd, hwd⟩ : ∃ wd, wd = bT (wordAt nm 13) := ⟨_, rfl⟩
  have xw : w2.cell? ⟨w.heap.size + 1, 13, none⟩ = some (.string wd) := by
    rw [cell_of_row _ _ 13 _ _ _ hg1, hwd, ← wordRow_at nm 13 (by omega)]; simp
  have hw2' : w2 = (w.alloc (.cells #[.int .u8 13, .string nm, .slice (some ⟨b, o, none⟩) 1 cap] 31)).alloc (.cells #[.string ⟨#[]⟩, .string ⟨#[105, 110, 116]⟩, .string ⟨#[98, 111, 111, 108]⟩, .string ⟨#[117, 110, 105, 116]⟩, .string nm, .string ⟨#[66, 111, 120]⟩, .string ⟨#[67, 101, 108, 108]⟩, .string ⟨#[82, 99]⟩, .string ⟨#[65, 114, 99]⟩, .string ⟨#[77, 117, 116, 101, 120]⟩, .string ⟨#[65, 116, 111, 109, 105, 99]⟩, .string ⟨#[83, 101, 110, 100, 101, 114]⟩, .string ⟨#[82, 101, 99, 101, 105, 118, 101, 114]⟩, .string ⟨#[38]⟩, .string ⟨#[38]⟩] 9) := hw2
  have BX := Lib.hid bx
  have HOK := Lib.hid hok
  have HLN := Lib.hid hlen
  have ET := Lib.hid et
  have hzz : w.heap.size < w2.heap.size := by omega
  have hzz1 : w.heap.size + 1 < w2.heap.size := by omega
  have hzz2 : w.heap.size + 2 ≤ w2.heap.size := by omega
  have HO := Lib.hid (TokOwn.lit (w := w2) (w.heap.size + 2) (wordAt nm 13) wd hwd (by omega))
  have HC := Lib.hid cu
  have HI := Lib.hid iu
  have HIH := Lib.hid IH
  show Calls Tryz.prog 19 #[.agg #[.int .u8 13, .string nm, .slice (some ⟨b, o, none⟩) 1 cap]] w _
  clear hw2 hg0 hg1 et bx hok hlen hwd hz cu iu IH
  go_enter Tryz.func19, Tryz.ntmps19
  go_upto_region 2 with (fail)
  (try simp only [size_alloc])
  rw [← hw2']
  clear hw2'
  go_upto_region 3 with (fail)
  obtain ⟨w3, hw3⟩ : ∃ w3, w3 = w2.alloc (.cells #[.string wd] 9) := ⟨_, rfl⟩
  have b23 : Below w2.heap.size w2 w3 := by rw [hw3]; exact (Below.refl _ w2).alloc (Nat.le_refl _) _
  have hz3 : w3.heap.size = w2.heap.size + 1 := by rw [hw3]; simp
  rw [← hw3] at HO ⊢
  have y0 := (b23.cell (p := ⟨w.heap.size, 0, none⟩) hzz).trans x0
  have y2 := (b23.cell (p := ⟨w.heap.size, 2, none⟩) hzz).trans x2
  have B3 := Lib.hid (BX.out.trans (b23.mono (by omega)))
  have hz3' : w.heap.size < w3.heap.size := by omega
  have hs3 : w.heap.size + 2 ≤ w3.heap.size := by omega
  have S3 : Hid (Below (w.heap.size + 2) w3 w3) := Lib.hid (Below.refl _ _)
  clear hw3 b23 x0 x2 xw hz3
  have c0_3 := (S3.out.cell (p := ⟨w.heap.size, 0, none⟩) (by show w.heap.size < w.heap.size + 2; omega)).trans y0
  have c2_3 := (S3.out.cell (p := ⟨w.heap.size, 2, none⟩) (by show w.heap.size < w.heap.size + 2; omega)).trans y2
  have hzc3 : w.heap.size < w3.heap.size := by omega
  have W3 := Lib.hid (B3.out.trans ((S3.out).mono (show w.heap.size ≤ w.heap.size + 2 by omega)))
  have cw := HC.out.below hb (W3.out.mono hB)
  have u0 : w3.cell? ⟨b, o, none⟩ = some (.int .u8 x.kind) := cw 0 _ rfl
  have u1 : w3.cell? ⟨b, o + 1, none⟩ = some (.string x.name) := cw 1 _ rfl
  have u2 : w3.cell? ⟨b, o + 2, none⟩ = some (.slice p7 n7 q7) := cw 2 _ rfl
  have hbw : b < w3.heap.size := by omega
  have C := Lib.hid (HIH.out (.slice p7 n7 q7) w3 (by omega) (PT.In.below (W3.out.mono hB) HI.out) (by have := HLN.out; simp at this; omega) (fun t ht => HOK.out t (by simp [ht])))
  clear cw
  go_wp2_with fail
  (with_reducible refine (C.out).mono ?_)
  rintro e w4 ⟨v4, rfl, hin, bb⟩
  have HOs := Lib.hid (HO.out.stays bb)
  have S4 := Lib.hid ((S3.out).trans (bb.mono hs3))
  have hs4 : w.heap.size + 2 ≤ w4.heap.size := Nat.le_trans hs3 bb.size
  have HIN := Lib.hid hin
  clear hin bb C u0 u1 u2 HO
  go_wp2_with (at_builtin; refine wpList_appT rfl _ _ rfl (w.heap.size + 2) _ ([wordAt nm 13]) rfl HOs.out (tokT x) v4 rfl w4.heap.size (Nat.le_refl _) HIN.out (by have := HLN.out; simp at this ⊢; omega) hs4 ?_)
  intro v5 w5 hown hg
  have S5 := Lib.hid (below_app S4.out hg hs4 HOs.out (Nat.le_refl _))
  have hs5 : w.heap.size + 2 ≤ w5.heap.size := by have := hg.size; omega
  clear HOs HIN
  have HO := Lib.hid hown
  obtain ⟨ao5, cap5, rfl⟩ := TokOwn.shape hown
  clear hown hg
  go_wp2
  go_ret
  exact ⟨_, rfl, by
    have := HO.out.row (ts := [wordAt nm 13] ++ tokT x) (fun t ht => HOK.out t (by simpa [or_assoc] using ht)) (by have := HLN.out; simp at this ⊢; omega)
    simpa using this, B3.out.trans ((S5.out).mono (by omega))⟩
set_option maxRecDepth 100000 in
set_option maxHeartbeats 4000000 in
theorem docT_mut (B : Nat) (nm : ByteArray) (x : PT) (IH : DocTAt B x) : DocTAt B (.mk 14 nm [x]) := by
  intro v w hB ht hlen hok
  obtain ⟨⟨_, hsn⟩, b, o, ⟨hn, ao, cap, rfl, k1⟩, r1⟩ := ht
  obtain ⟨rfl, hb⟩ := k1.resolve_left (by simp)
  obtain ⟨⟨vu, cu, iu⟩, _⟩ := r1
  obtain ⟨p7, n7, q7, rfl⟩ := iu.shape
  have et : tokT (.mk 14 nm [x]) = wordAt nm 14 :: wMut :: tokT x := by rw [tokT]; rfl
  rw [et] at hlen hok ⊢
  obtain ⟨w2, hw2⟩ : ∃ w2, w2 = (w.alloc (.cells #[.int .u8 14, .string nm, .slice (some ⟨b, o, none⟩) 1 cap] 31)).alloc (.cells (wordRow nm).toArray 9) := ⟨_, rfl⟩
  have bx : Below w.heap.size w w2 := by rw [hw2]; exact ((Below.refl _ w).alloc (Nat.le_refl _) _).alloc (by simp) _
  have hz : w2.heap.size = w.heap.size + 2 := by rw [hw2]; simp
  have hg0 : w2.heap[w.heap.size]? = some (.cells #[.int .u8 14, .string nm, .slice (some ⟨b, o, none⟩) 1 cap] 31 (0, 0)) := by
    rw [hw2]; exact (Below.heap_alloc _ _ _ (by simp)).trans (heap_alloc_new w _)
  have hg1 : w2.heap[w.heap.size + 1]? = some (.cells (wordRow nm).toArray 9 (0, 0)) := by
    rw [hw2]
    have := heap_alloc_new (w.alloc (.cells #[.int .u8 14, .string nm, .slice (some ⟨b, o, none⟩) 1 cap] 31)) (.cells (wordRow nm).toArray 9)
    simpa using this
  have x0 : w2.cell? ⟨w.heap.size, 0, none⟩ = some (.int .u8 14) := by rw [cell_of_row _ _ 0 _ _ _ hg0]; rfl
  have x2 : w2.cell? ⟨w.heap.size, 2, none⟩ = some (.slice (some ⟨b, o, none⟩) 1 cap) := by rw [cell_of_row _ _ 2 _ _ _ hg0]; rfl
  obtain ⟨wd, hwd⟩ : ∃ wd, wd = bT (wordAt nm 14) := ⟨_, rfl⟩
  have xw : w2.cell? ⟨w.heap.size + 1, 14, none⟩ = some (.string wd) := by
    rw [cell_of_row _ _ 14 _ _ _ hg1, hwd, ← wordRow_at nm 14 (by omega)]; simp
  have hw2' : w2 = (w.alloc (.cells #[.int .u8 14, .string nm, .slice (some ⟨b, o, none⟩) 1 cap] 31)).alloc (.cells #[.string ⟨#[]⟩, .string ⟨#[105, 110, 116]⟩, .string ⟨#[98, 111, 111, 108]⟩, .string ⟨#[117, 110, 105, 116]⟩, .string nm, .string ⟨#[66, 111, 120]⟩, .string ⟨#[67, 101, 108, 108]⟩, .string ⟨#[82, 99]⟩, .string ⟨#[65, 114, 99]⟩, .string ⟨#[77, 117, 116, 101, 120]⟩, .string ⟨#[65, 116, 111, 109, 105, 99]⟩, .string ⟨#[83, 101, 110, 100, 101, 114]⟩, .string ⟨#[82, 101, 99, 101, 105, 118, 101, 114]⟩, .string ⟨#[38]⟩, .string ⟨#[38]⟩] 9) := hw2
  have BX := Lib.hid bx
  have HOK := Lib.hid hok
  have HLN := Lib.hid hlen
  have ET := Lib.hid et
  have hzz : w.heap.size < w2.heap.size := by omega
  have hzz1 : w.heap.size + 1 < w2.heap.size := by omega
  have hzz2 : w.heap.size + 2 ≤ w2.heap.size := by omega
  have HO := Lib.hid (TokOwn.lit (w := w2) (w.heap.size + 2) (wordAt nm 14) wd hwd (by omega))
  have HC := Lib.hid cu
  have HI := Lib.hid iu
  have HIH := Lib.hid IH
  show Calls Tryz.prog 19 #[.agg #[.int .u8 14, .string nm, .slice (some ⟨b, o, none⟩) 1 cap]] w _
  clear hw2 hg0 hg1 et bx hok hlen hwd hz cu iu IH
  go_enter Tryz.func19, Tryz.ntmps19
  go_upto_region 2 with (fail)
  (try simp only [size_alloc])
  rw [← hw2']
  clear hw2'
  go_upto_region 3 with (fail)
  obtain ⟨w3, hw3⟩ : ∃ w3, w3 = w2.alloc (.cells #[.string wd] 9) := ⟨_, rfl⟩
  have b23 : Below w2.heap.size w2 w3 := by rw [hw3]; exact (Below.refl _ w2).alloc (Nat.le_refl _) _
  have hz3 : w3.heap.size = w2.heap.size + 1 := by rw [hw3]; simp
  rw [← hw3] at HO ⊢
  have y0 := (b23.cell (p := ⟨w.heap.size, 0, none⟩) hzz).trans x0
  have y2 := (b23.cell (p := ⟨w.heap.size, 2, none⟩) hzz).trans x2
  have B3 := Lib.hid (BX.out.trans (b23.mono (by omega)))
  have hz3' : w.heap.size < w3.heap.size := by omega
  have hs3 : w.heap.size + 2 ≤ w3.heap.size := by omega
  have S3 : Hid (Below (w.heap.size + 2) w3 w3) := Lib.hid (Below.refl _ _)
  clear hw3 b23 x0 x2 xw hz3
  go_wp2_with (at_builtin; refine wpList_appT rfl _ _ rfl (w.heap.size + 2) _ [wordAt nm 14] rfl (HO.out.stays (new_onlyR w3 _)) [wMut] _ rfl _ (Nat.le_refl _) (TokIn.lit1 wMut ⟨#[109, 117, 116]⟩ rfl (by decide)) (by first | (simp; done) | (have := HLN.out; simp at this ⊢; omega)) (by simp; omega) ?_)
  intro v4 w4 hown hg
  have S4 := Lib.hid (below_app ((S3.out).alloc hs3 _) hg (by simp; omega) (HO.out.stays (new_onlyR w3 _)) (Nat.le_refl _))
  have hs4 : w.heap.size + 2 ≤ w4.heap.size := by have := hg.size; simp at this; omega
  clear HO
  have HO := Lib.hid hown
  obtain ⟨ao4, cap4, rfl⟩ := TokOwn.shape hown
  clear hown hg
  have c0_4 := (S4.out.cell (p := ⟨w.heap.size, 0, none⟩) (by show w.heap.size < w.heap.size + 2; omega)).trans y0
  have c2_4 := (S4.out.cell (p := ⟨w.heap.size, 2, none⟩) (by show w.heap.size < w.heap.size + 2; omega)).trans y2
  have hzc4 : w.heap.size < w4.heap.size := by omega
  have W4 := Lib.hid (B3.out.trans ((S4.out).mono (show w.heap.size ≤ w.heap.size + 2 by omega)))
  have cw := HC.out.below hb (W4.out.mono hB)
  have u0 : w4.cell? ⟨b, o, none⟩ = some (.int .u8 x.kind) := cw 0 _ rfl
  have u1 : w4.cell? ⟨b, o + 1, none⟩ = some (.string x.name) := cw 1 _ rfl
  have u2 : w4.cell? ⟨b, o + 2, none⟩ = some (.slice p7 n7 q7) := cw 2 _ rfl
  have hbw : b < w4.heap.size := by omega
  have C := Lib.hid (HIH.out (.slice p7 n7 q7) w4 (by omega) (PT.In.below (W4.out.mono hB) HI.out) (by have := HLN.out; simp at this; omega) (fun t ht => HOK.out t (by simp [ht])))
  clear cw
  go_wp2_with fail
  (with_reducible refine (C.out).mono ?_)
  rintro e w5 ⟨v5, rfl, hin, bb⟩
  have HOs := Lib.hid (HO.out.stays bb)
  have S5 := Lib.hid ((S4.out).trans (bb.mono hs4))
  have hs5 : w.heap.size + 2 ≤ w5.heap.size := Nat.le_trans hs4 bb.size
  have HIN := Lib.hid hin
  clear hin bb C u0 u1 u2 HO
  go_wp2_with (at_builtin; refine wpList_appT rfl _ _ rfl (w.heap.size + 2) _ ([wordAt nm 14] ++ [wMut]) rfl HOs.out (tokT x) v5 rfl w5.heap.size (Nat.le_refl _) HIN.out (by have := HLN.out; simp at this ⊢; omega) hs5 ?_)
  intro v6 w6 hown hg
  have S6 := Lib.hid (below_app S5.out hg hs5 HOs.out (Nat.le_refl _))
  have hs6 : w.heap.size + 2 ≤ w6.heap.size := by have := hg.size; omega
  clear HOs HIN
  have HO := Lib.hid hown
  obtain ⟨ao6, cap6, rfl⟩ := TokOwn.shape hown
  clear hown hg
  go_wp2
  go_ret
  exact ⟨_, rfl, by
    have := HO.out.row (ts := [wordAt nm 14] ++ [wMut] ++ tokT x) (fun t ht => HOK.out t (by simpa [or_assoc] using ht)) (by have := HLN.out; simp at this ⊢; omega)
    simpa using this, B3.out.trans ((S6.out).mono (by omega))⟩
theorem docT_calls (B : Nat) : ∀ (n : Nat) (t : PT), rT n t = true → DocTAt B t
  | 0, t, h => by rw [rT] at h; cases h
  | n + 1, .mk k nm l, h => by
    have hr : rT (n + 1) (.mk k nm l) = (if k < 1 ∨ 14 < k then false else if k = 1 ∨ k = 2 ∨ k = 3 ∨ k = 10 then noB nm && decide (l.length = 0) else if k = 4 then tyB nm && decide (l.length = 0) else noB nm && (decide (l.length = 1) && l.all (fun u => rT n u))) := by rw [rT]; rfl
    rw [hr] at h
    by_cases h0 : k < 1 ∨ 14 < k
    · rw [if_pos h0] at h; cases h
    rw [if_neg h0] at h
    obtain ⟨j, rfl⟩ : ∃ j : Nat, k = (j : Int) := ⟨k.toNat, by omega⟩
    by_cases h1 : (j : Int) = 1 ∨ (j : Int) = 2 ∨ (j : Int) = 3 ∨ (j : Int) = 10
    · rw [if_pos h1, Bool.and_eq_true, decide_eq_true_eq] at h
      obtain rfl : l = [] := List.length_eq_zero_iff.1 h.2
      exact docT_leaf B j nm (by omega)
    rw [if_neg h1] at h
    by_cases h4 : (j : Int) = 4
    · rw [if_pos h4, Bool.and_eq_true, decide_eq_true_eq] at h
      obtain rfl : l = [] := List.length_eq_zero_iff.1 h.2
      exact docT_leaf B j nm (by omega)
    rw [if_neg h4, Bool.and_eq_true, Bool.and_eq_true, decide_eq_true_eq] at h
    obtain ⟨hn, hl, hall⟩ := h
    obtain ⟨u, rfl⟩ : ∃ t, l = [t] := List.length_eq_one_iff.1 hl
    have hu : rT n u = true := by simpa using hall
    have IH := docT_calls B n u hu
    by_cases h13 : j = 13
    · subst h13; exact docT_ref B nm u IH
    by_cases h14 : j = 14
    · subst h14; exact docT_mut B nm u IH
    exact docT_wrap B j nm u (by omega) IH
end Go.Proofs.YthilicmhdkmipaaGreatDoor
