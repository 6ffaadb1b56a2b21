/- What the writer writes of a type. -/
import Derived.Test.YthilicmhdkmipaaGreatDoorIShowPut
import Derived.Test.YthilicmhdkmipaaGreatDoorIJoinAE
import Derived.Deep.RegionHeld3
import Derived.Lib.AppendIntMem
namespace Go.Proofs.YthilicmhdkmipaaGreatDoor
open Go.RowKit
set_option linter.unusedVariables false

/-- the tables of words lie below block B -/
structure Words (B : Nat) (w : World) : Prop where
  lt : 0 < B ∧ 1 < B
  t : ∀ k : Nat, k ≤ 12 → w.cell? ⟨0, k, none⟩ = some (.string ⟨(typeWord k).toArray⟩)
  e : ∀ k : Nat, k ≤ 36 → w.cell? ⟨1, k, none⟩ = some (.string ⟨(exprWord k).toArray⟩)
  tens : Lib.TabBelow Tryz.prog B w "internal/strconv.uint64pow10" .u64 Lib.pow10Tab
theorem Words.below {B : Nat} {w w' : World} (h : Words B w) (k : Below B w w') : Words B w' :=
  ⟨h.lt, fun i hi => (k.cell (p := ⟨0, i, none⟩) h.lt.1).trans (h.t i hi), fun i hi => (k.cell (p := ⟨1, i, none⟩) h.lt.2).trans (h.e i hi), fun w2 k2 => h.tens w2 (k.trans k2)⟩
/-- put, asked at a row of tokens in memory that was just made -/
theorem NRow.one {w : World} {S o : Nat} {a : ByteArray} (ha : a.size ≤ maxLen) (h : w.cell? ⟨S, o, none⟩ = some (.string a)) : NRow w S o [a] := by
  refine ⟨⟨ha, fun i v hi => ?_⟩, trivial⟩
  cases i with
  | zero => simp at hi; subst hi; exact h
  | succ i => simp at hi
theorem NRow.two {w : World} {S : Nat} {a b : ByteArray} (ha : a.size ≤ maxLen) (hb : b.size ≤ maxLen) (h0 : w.cell? ⟨S, 0, none⟩ = some (.string a)) (h1 : w.cell? ⟨S, 1, none⟩ = some (.string b)) : NRow w S 0 [a, b] :=
  ⟨⟨ha, fun i v hi => by
    cases i with
    | zero => simp at hi; subst hi; exact h0
    | succ i => simp at hi⟩, NRow.one hb h1⟩
theorem neSB : (9 : TypeId) ≠ 5 := by decide
theorem neTB : (31 : TypeId) ≠ 5 := by decide
theorem Safe.made {R S : Nat} {W : World} {cs : Array Value} {t : TypeId} {fr : Nat × Nat} (h : W.heap[S]? = some (.cells cs t fr)) (ht : t ≠ 5) (hR : R < S) : Safe R W S :=
  ⟨(Array.getElem?_eq_some_iff.1 h).1, by omega, fun c f e => by
    rw [h] at e
    injection e with e
    injection e with h1 h2 h3
    exact ht h2⟩
/-- put, asked at one token, at two, in memory that was made since w0 -/
theorem put1_calls (B R : Nat) (a : ByteArray) (T0 G0 : TkB) (ts : List TkB) (W w0 : World) (hW : Below w0.heap.size w0 W) (hc : W.heap[w0.heap.size]? = some (.cells #[.string a] 9 (0, 0))) (hB : B ≤ w0.heap.size) (hA : AtW B R T0 G0 ts w0) (ha : a.size ≤ maxLen) (hL : Lim T0 G0 (ts ++ [kT a])) :
    Calls Tryz.prog 98 #[.pointer (some ⟨R, 0, none⟩), .slice (some ⟨w0.heap.size, 0, none⟩) 1 1] W fun e w' => e = .returned (.tuple #[]) ∧ AtW B R T0 G0 (ts ++ [kT a]) w' ∧ WBut B R w0 w' := by
  have hR := hA.lt
  refine (put_calls B R [a] w0.heap.size 0 1 T0 G0 ts W (Nat.le_trans hB hW.size) (by simp) (hA.stays hW) (Safe.made hc neSB hR) (NRow.one ha (by rw [cell_of_row _ _ 0 _ _ _ hc]; rfl)) hL).mono ?_
  rintro e w' ⟨rfl, h1, h2⟩
  exact ⟨rfl, h1, (WBut.of hW hB).trans h2⟩
theorem put2_calls (B R : Nat) (a b : ByteArray) (T0 G0 : TkB) (ts : List TkB) (W w0 : World) (hW : Below w0.heap.size w0 W) (hc : W.heap[w0.heap.size]? = some (.cells #[.string a, .string b] 9 (0, 0))) (hB : B ≤ w0.heap.size) (hA : AtW B R T0 G0 ts w0) (ha : a.size ≤ maxLen) (hb' : b.size ≤ maxLen) (hL : Lim T0 G0 (ts ++ [kT a, kT b])) :
    Calls Tryz.prog 98 #[.pointer (some ⟨R, 0, none⟩), .slice (some ⟨w0.heap.size, 0, none⟩) 2 2] W fun e w' => e = .returned (.tuple #[]) ∧ AtW B R T0 G0 (ts ++ [kT a, kT b]) w' ∧ WBut B R w0 w' := by
  have hR := hA.lt
  refine (put_calls B R [a, b] w0.heap.size 0 2 T0 G0 ts W (Nat.le_trans hB hW.size) (by simp) (hA.stays hW) (Safe.made hc neSB hR) (NRow.two ha hb' (by rw [cell_of_row _ _ 0 _ _ _ hc]; rfl) (by rw [cell_of_row _ _ 1 _ _ _ hc]; rfl)) hL).mono ?_
  rintro e w' ⟨rfl, h1, h2⟩
  exact ⟨rfl, h1, (WBut.of hW hB).trans h2⟩
theorem new_drew (w : World) (x : Obj) : Below w.heap.size w (w.alloc x).drew := ((Below.refl _ w).alloc (Nat.le_refl _) _).drew
theorem drew_new (w : World) (x : Obj) : (w.alloc x).drew.heap[w.heap.size]? = some x := heap_alloc_new w x
theorem new_only (w : World) (x : Obj) : Below w.heap.size w (w.alloc x) := (Below.refl _ w).alloc (Nat.le_refl _) _
theorem low_new (w : World) (x : Obj) : ∀ b o, b < w.heap.size → (w.alloc x).drew.cell? ⟨b, o, none⟩ = w.cell? ⟨b, o, none⟩ := fun b o h => World.cell?_of_block (w' := (w.alloc x).drew) (Below.heap_alloc w x b h)
def TypedAt (B R : Nat) (t : PT) : Prop := ∀ (T0 G0 : TkB) (ts : List TkB) (v : Value) (w : World), B ≤ w.heap.size → Words B w → AtW B R T0 G0 ts w → t.In B w v → Lim T0 G0 (ts ++ tokT t) →
  Calls Tryz.prog 66 #[.pointer (some ⟨R, 0, none⟩), .agg #[.int .u8 t.kind, .string t.name, v]] w fun e w' => e = .returned (.tuple #[]) ∧ AtW B R T0 G0 (ts ++ tokT t) w' ∧ WBut B R w w'
set_option maxRecDepth 100000 in
set_option maxHeartbeats 2000000 in
theorem typed_named (B R : Nat) (nm : ByteArray) (l : List PT) : TypedAt B R (.mk 4 nm l) := by
  intro T0 G0 ts v w hB hW hA ht hL
  obtain ⟨ao, n, cap, rfl⟩ := ht.shape
  obtain ⟨⟨_, hs⟩, _⟩ := ht
  have et : tokT (.mk 4 nm l) = [kT nm] := by rw [tokT, if_pos rfl]
  rw [et] at hL ⊢
  have bx : Below w.heap.size w (w.alloc (.cells #[.int .u8 4, .string nm, .slice ao n cap] 31)) := (Below.refl _ w).alloc (Nat.le_refl _) _
  have HA := Lib.hid (hA.stays bx)
  have HL := Lib.hid hL
  have BX := Lib.hid (WBut.of bx hB (R := R))
  show Calls Tryz.prog 66 #[.pointer (some ⟨R, 0, none⟩), .agg #[.int .u8 4, .string nm, .slice ao n cap]] w _
  have hRR : R < w.heap.size := hA.lt
  clear hA hL hW bx
  go_enter Tryz.func66, Tryz.ntmps66
  go_upto_region 6 with (fail)
  obtain ⟨w1, hw1⟩ : ∃ w1, w1 = w.alloc (.cells #[.int .u8 4, .string nm, .slice ao n cap] 31) := ⟨_, rfl⟩
  rw [← hw1] at HA BX ⊢
  have x1 : w1.cell? ⟨w.heap.size, 1, none⟩ = some (.string nm) := by rw [hw1]; go_simp
  have SG : Safe R w1 w.heap.size := Safe.made (by rw [hw1]; exact heap_alloc_new w _) neTB hRR
  have hz : w.heap.size < w1.heap.size := by rw [hw1]; simp
  have hR1 : R < w1.heap.size := by omega
  clear hw1
  have P1 := Lib.hid (put1_calls B R nm T0 G0 ts _ w1 (new_drew w1 (.cells #[.string nm] 9)) (drew_new w1 _) (by omega) HA.out hs HL.out)
  go_region_held3 (fun w' => w'.cell? ⟨w.heap.size, 1, none⟩ = some (.string nm)) (first | exact x1 | exact (low_new w1 _ _ _ hz).trans x1 | exact XB)
    (first
      | (go_at_call 98; (with_reducible refine (P1.out).mono ?_)
         rintro e w2 ⟨rfl, h1, b1⟩
         have H1 := Lib.hid h1
         have B1 := Lib.hid (BX.out.trans b1)
         have XB := (SG.cell b1 1).trans x1
         clear h1 b1))
  go_wp2
  go_end0
  exact ⟨rfl, H1.out, B1.out⟩
set_option maxRecDepth 100000 in
set_option maxHeartbeats 2000000 in
theorem typed_ref (B R : Nat) (l : List PT) (u : PT) (hl : l = [u]) (IH : TypedAt B R u) : TypedAt B R (.mk 13 ByteArray.empty l) := by
  intro T0 G0 ts v w hB hW hA ht hL
  obtain ⟨_, b, o, ⟨hn, ao, cap, rfl, k1⟩, r1⟩ := ht
  subst hl
  obtain ⟨rfl, hb⟩ := k1.resolve_left (by simp)
  obtain ⟨⟨vu, cu, iu⟩, _⟩ := r1
  obtain ⟨p7, n7, q7, rfl⟩ := iu.shape
  have et : tokT (.mk 13 ByteArray.empty [u]) = [wAmp] ++ tokT u := by rw [tokT, if_neg (by decide), if_neg (by decide), if_pos rfl, tokTs]; rfl
  rw [et, ← List.append_assoc] at hL
  have bx : Below w.heap.size w (w.alloc (.cells #[.int .u8 13, .string ByteArray.empty, .slice (some ⟨b, o, none⟩) 1 cap] 31)) := new_only _ _
  have hRR : R < w.heap.size := hA.lt
  obtain ⟨w1, hw1⟩ : ∃ w1, w1 = w.alloc (.cells #[.int .u8 13, .string ByteArray.empty, .slice (some ⟨b, o, none⟩) 1 cap] 31) := ⟨_, rfl⟩
  have hz : w.heap.size < w1.heap.size := by rw [hw1]; simp
  have SG : Safe R w1 w.heap.size := Safe.made (by rw [hw1]; exact heap_alloc_new w _) neTB hRR
  have x2 : w1.cell? ⟨w.heap.size, 2, none⟩ = some (.slice (some ⟨b, o, none⟩) 1 cap) := by rw [hw1]; go_simp
  rw [← hw1] at bx
  have BX := Lib.hid (WBut.of bx hB (R := R))
  have P1 := Lib.hid (put1_calls B R ⟨#[38]⟩ T0 G0 ts _ w1 (new_only w1 (.cells #[.string ⟨#[38]⟩] 9)) (heap_alloc_new w1 _) (by omega) (hA.stays bx) (by decide) (by have := hL.less; exact this))
  have HW1 := Lib.hid hW
  have HC := Lib.hid cu
  have HI := Lib.hid iu
  have HL := Lib.hid hL
  show Calls Tryz.prog 66 #[.pointer (some ⟨R, 0, none⟩), .agg #[.int .u8 13, .string ByteArray.empty, .slice (some ⟨b, o, none⟩) 1 cap]] w _
  clear hA hL hW bx cu iu
  go_enter Tryz.func66, Tryz.ntmps66
  go_upto_region 13 with (fail)
  rw [← hw1]
  clear hw1
  go_wp2_with fail
  refine (P1.out).mono ?_
  rintro e w2 ⟨rfl, h1, b1⟩
  have B1 := Lib.hid (BX.out.trans b1)
  have y2 := (SG.cell b1 2).trans x2
  have hz2 : w.heap.size < w2.heap.size := Nat.lt_of_lt_of_le hz b1.size
  have hbel : Below B w w2 := B1.out.bel
  have cu2 := HC.out.below hb hbel
  have c0 : w2.cell? ⟨b, o, none⟩ = some (.int .u8 u.kind) := cu2 0 _ rfl
  have c1 : w2.cell? ⟨b, o + 1, none⟩ = some (.string u.name) := cu2 1 _ rfl
  have c2 : w2.cell? ⟨b, o + 2, none⟩ = some (.slice p7 n7 q7) := cu2 2 _ rfl
  have hb2 : b < w2.heap.size := by omega
  have C := Lib.hid (IH T0 G0 (ts ++ [wAmp]) (.slice p7 n7 q7) w2 (by omega) (HW1.out.below hbel) h1 (PT.In.below hbel HI.out) HL.out)
  clear h1 b1 cu2 P1 hbel
  go_wp2_with fail
  refine (C.out).mono ?_
  rintro e w3 ⟨rfl, h3, b3⟩
  have H3 := Lib.hid h3
  have B3 := Lib.hid (B1.out.trans b3)
  clear h3 b3
  go_wp2
  go_end0
  exact ⟨rfl, by rw [et, ← List.append_assoc]; exact H3.out, B3.out⟩
set_option maxRecDepth 100000 in
set_option maxHeartbeats 2000000 in
theorem typed_mut (B R : Nat) (l : List PT) (u : PT) (hl : l = [u]) (IH : TypedAt B R u) : TypedAt B R (.mk 14 ByteArray.empty l) := by
  intro T0 G0 ts v w hB hW hA ht hL
  obtain ⟨_, b, o, ⟨hn, ao, cap, rfl, k1⟩, r1⟩ := ht
  subst hl
  obtain ⟨rfl, hb⟩ := k1.resolve_left (by simp)
  obtain ⟨⟨vu, cu, iu⟩, _⟩ := r1
  obtain ⟨p7, n7, q7, rfl⟩ := iu.shape
  have et : tokT (.mk 14 ByteArray.empty [u]) = [wAmp, wMut] ++ tokT u := by rw [tokT, if_neg (by decide), if_neg (by decide), if_neg (by decide), if_pos rfl, tokTs]; rfl
  rw [et, ← List.append_assoc] at hL
  have bx : Below w.heap.size w (w.alloc (.cells #[.int .u8 14, .string ByteArray.empty, .slice (some ⟨b, o, none⟩) 1 cap] 31)) := new_only _ _
  have hRR : R < w.heap.size := hA.lt
  obtain ⟨w1, hw1⟩ : ∃ w1, w1 = w.alloc (.cells #[.int .u8 14, .string ByteArray.empty, .slice (some ⟨b, o, none⟩) 1 cap] 31) := ⟨_, rfl⟩
  have hz : w.heap.size < w1.heap.size := by rw [hw1]; simp
  have SG : Safe R w1 w.heap.size := Safe.made (by rw [hw1]; exact heap_alloc_new w _) neTB hRR
  have x2 : w1.cell? ⟨w.heap.size, 2, none⟩ = some (.slice (some ⟨b, o, none⟩) 1 cap) := by rw [hw1]; go_simp
  rw [← hw1] at bx
  have BX := Lib.hid (WBut.of bx hB (R := R))
  have P1 := Lib.hid (put2_calls B R ⟨#[38]⟩ ⟨#[109, 117, 116]⟩ T0 G0 ts _ w1 (new_only w1 (.cells #[.string ⟨#[38]⟩, .string ⟨#[109, 117, 116]⟩] 9)) (heap_alloc_new w1 _) (by omega) (hA.stays bx) (by decide) (by decide) (by have := hL.less; exact this))
  have HW1 := Lib.hid hW
  have HC := Lib.hid cu
  have HI := Lib.hid iu
  have HL := Lib.hid hL
  show Calls Tryz.prog 66 #[.pointer (some ⟨R, 0, none⟩), .agg #[.int .u8 14, .string ByteArray.empty, .slice (some ⟨b, o, none⟩) 1 cap]] w _
  clear hA hL hW bx cu iu
  go_enter Tryz.func66, Tryz.ntmps66
  go_upto_region 16 with (fail)
  rw [← hw1]
  clear hw1
  go_wp2_with fail
  refine (P1.out).mono ?_
  rintro e w2 ⟨rfl, h1, b1⟩
  have B1 := Lib.hid (BX.out.trans b1)
  have y2 := (SG.cell b1 2).trans x2
  have hz2 : w.heap.size < w2.heap.size := Nat.lt_of_lt_of_le hz b1.size
  have hbel : Below B w w2 := B1.out.bel
  have cu2 := HC.out.below hb hbel
  have c0 : w2.cell? ⟨b, o, none⟩ = some (.int .u8 u.kind) := cu2 0 _ rfl
  have c1 : w2.cell? ⟨b, o + 1, none⟩ = some (.string u.name) := cu2 1 _ rfl
  have c2 : w2.cell? ⟨b, o + 2, none⟩ = some (.slice p7 n7 q7) := cu2 2 _ rfl
  have hb2 : b < w2.heap.size := by omega
  have C := Lib.hid (IH T0 G0 (ts ++ [wAmp, wMut]) (.slice p7 n7 q7) w2 (by omega) (HW1.out.below hbel) h1 (PT.In.below hbel HI.out) HL.out)
  clear h1 b1 cu2 P1 hbel
  go_wp2_with fail
  refine (C.out).mono ?_
  rintro e w3 ⟨rfl, h3, b3⟩
  have H3 := Lib.hid h3
  have B3 := Lib.hid (B1.out.trans b3)
  clear h3 b3
  go_wp2
  go_end0
  exact ⟨rfl, by rw [et, ← List.append_assoc]; exact H3.out, B3.out⟩
/-- a word of the table -/
def wordB (k : Nat) : ByteArray := ⟨(typeWord k).toArray⟩
theorem wordB_kT (k : Nat) : kT (wordB k) = typeWord k := kT_mk _
theorem wordB_size (k : Nat) (h : k ≤ 12) : (wordB k).size ≤ maxLen := by
  have : (typeWord k).length ≤ 12 := by
    rcases (by omega : k = 0 ∨ k = 1 ∨ k = 2 ∨ k = 3 ∨ k = 4 ∨ k = 5 ∨ k = 6 ∨ k = 7 ∨ k = 8 ∨ k = 9 ∨ k = 10 ∨ k = 11 ∨ k = 12) with rfl | rfl | rfl | rfl | rfl | rfl | rfl | rfl | rfl | rfl | rfl | rfl | rfl <;> decide
  unfold maxLen
  show (typeWord k).toArray.size ≤ _
  rw [List.size_toArray]; omega
set_option maxRecDepth 100000 in
set_option maxHeartbeats 4000000 in
theorem typed_plain (B R k : Nat) (kd : Int) (hk : (kd = 1 ∧ k = 1) ∨ (kd = 2 ∧ k = 2) ∨ (kd = 3 ∧ k = 3) ∨ (kd = 10 ∧ k = 10)) (nm : ByteArray) (l : List PT) : TypedAt B R (.mk kd nm l) := by
  intro T0 G0 ts v w hB hW hA ht hL
  obtain ⟨ao, n, cap, rfl⟩ := ht.shape
  have et : tokT (.mk kd nm l) = [kT (wordB k)] := by rw [tokT, if_neg (by omega), if_pos (by omega), wordB_kT]; rcases hk with ⟨rfl, rfl⟩ | ⟨rfl, rfl⟩ | ⟨rfl, rfl⟩ | ⟨rfl, rfl⟩ <;> rfl
  rw [et] at hL ⊢
  have bx : Below w.heap.size w (w.alloc (.cells #[.int .u8 kd, .string nm, .slice ao n cap] 31)) := new_only _ _
  have hRR : R < w.heap.size := hA.lt
  obtain ⟨w1, hw1⟩ : ∃ w1, w1 = w.alloc (.cells #[.int .u8 kd, .string nm, .slice ao n cap] 31) := ⟨_, rfl⟩
  have hz : w.heap.size < w1.heap.size := by rw [hw1]; simp
  have SG : Safe R w1 w.heap.size := Safe.made (by rw [hw1]; exact heap_alloc_new w _) neTB hRR
  have x0 : w1.cell? ⟨w.heap.size, 0, none⟩ = some (.int .u8 kd) := by rw [hw1]; go_simp
  rw [← hw1] at bx
  have tw : w1.cell? ⟨0, k, none⟩ = some (.string (wordB k)) := (hW.below (bx.mono hB)).t k (by omega)
  have hg : 0 < w1.heap.size := by have := hW.lt.1; omega
  have BX := Lib.hid (WBut.of bx hB (R := R))
  have P1 := Lib.hid (put1_calls B R (wordB k) T0 G0 ts _ w1 (new_drew w1 (.cells #[.string (wordB k)] 9)) (drew_new w1 _) (by omega) (hA.stays bx) (wordB_size k (by omega)) hL)
  have hgB := hW.lt.1
  show Calls Tryz.prog 66 #[.pointer (some ⟨R, 0, none⟩), .agg #[.int .u8 kd, .string nm, .slice ao n cap]] w _
  clear hA hL hW bx ht et
  generalize wordB k = wd at *
  rcases hk with ⟨rfl, rfl⟩ | ⟨rfl, rfl⟩ | ⟨rfl, rfl⟩ | ⟨rfl, rfl⟩
  all_goals
    go_enter Tryz.func66, Tryz.ntmps66
    go_upto_region 11 with (fail)
    rw [← hw1]
    clear hw1
    go_region_held3 (fun w' => w'.cell? ⟨w.heap.size, 0, none⟩ = w1.cell? ⟨w.heap.size, 0, none⟩ ∧ ∀ o, w'.cell? ⟨0, o, none⟩ = w1.cell? ⟨0, o, none⟩) (first | exact ⟨rfl, fun _ => rfl⟩ | exact ⟨low_new w1 _ _ _ hz, fun o => low_new w1 _ _ _ hg⟩ | exact ⟨XB, XT⟩)
      (first
        | (go_at_call 98; (with_reducible refine (P1.out).mono ?_)
           rintro e w2 ⟨rfl, h1, b1⟩
           have H1 := Lib.hid h1
           have B1 := Lib.hid (BX.out.trans b1)
           have XB := SG.cell b1 0
           have XT := fun o => b1.bel.cell (p := ⟨0, o, none⟩) hgB
           clear h1 b1))
    go_wp2
    go_end0
    exact ⟨rfl, H1.out, B1.out⟩
set_option maxRecDepth 100000 in
set_option maxHeartbeats 8000000 in
theorem typed_wrap (B R k : Nat) (kd : Int) (hk : (kd = 5 ∧ k = 5) ∨ (kd = 6 ∧ k = 6) ∨ (kd = 7 ∧ k = 7) ∨ (kd = 8 ∧ k = 8) ∨ (kd = 9 ∧ k = 9) ∨ (kd = 11 ∧ k = 11) ∨ (kd = 12 ∧ k = 12)) (l : List PT) (u : PT) (hl : l = [u]) (IH : TypedAt B R u) : TypedAt B R (.mk kd ByteArray.empty l) := by
  intro T0 G0 ts v w hB hW hA ht hL
  obtain ⟨_, b, o, ⟨hn, ao, cap, rfl, k1⟩, r1⟩ := ht
  subst hl
  obtain ⟨rfl, hb⟩ := k1.resolve_left (by simp)
  obtain ⟨⟨vu, cu, iu⟩, _⟩ := r1
  obtain ⟨p7, n7, q7, rfl⟩ := iu.shape
  have et : tokT (.mk kd ByteArray.empty [u]) = [kT (wordB k), wLess] ++ tokT u ++ [wMore] := by
    rw [tokT, if_neg (by omega), if_neg (by omega), if_neg (by omega), if_neg (by omega), tokTs, wordB_kT]
    rcases hk with ⟨rfl, rfl⟩ | ⟨rfl, rfl⟩ | ⟨rfl, rfl⟩ | ⟨rfl, rfl⟩ | ⟨rfl, rfl⟩ | ⟨rfl, rfl⟩ | ⟨rfl, rfl⟩ <;> rfl
  rw [et, ← List.append_assoc, ← List.append_assoc] at hL
  have bx : Below w.heap.size w (w.alloc (.cells #[.int .u8 kd, .string ByteArray.empty, .slice (some ⟨b, o, none⟩) 1 cap] 31)) := new_only _ _
  have hRR : R < w.heap.size := hA.lt
  obtain ⟨w1, hw1⟩ : ∃ w1, w1 = w.alloc (.cells #[.int .u8 kd, .string ByteArray.empty, .slice (some ⟨b, o, none⟩) 1 cap] 31) := ⟨_, rfl⟩
  have hz : w.heap.size < w1.heap.size := by rw [hw1]; simp
  have SG : Safe R w1 w.heap.size := Safe.made (by rw [hw1]; exact heap_alloc_new w _) neTB hRR
  have x0 : w1.cell? ⟨w.heap.size, 0, none⟩ = some (.int .u8 kd) := by rw [hw1]; go_simp
  have x2 : w1.cell? ⟨w.heap.size, 2, none⟩ = some (.slice (some ⟨b, o, none⟩) 1 cap) := by rw [hw1]; go_simp
  rw [← hw1] at bx
  have tw : w1.cell? ⟨0, k, none⟩ = some (.string (wordB k)) := (hW.below (bx.mono hB)).t k (by omega)
  have hg : 0 < w1.heap.size := by have := hW.lt.1; omega
  have BX := Lib.hid (WBut.of bx hB (R := R))
  have P1 := Lib.hid (put2_calls B R (wordB k) ⟨#[60]⟩ T0 G0 ts _ w1 (new_drew w1 (.cells #[.string (wordB k), .string ⟨#[60]⟩] 9)) (drew_new w1 _) (by omega) (hA.stays bx) (wordB_size k (by omega)) (by decide) (by have := hL.less.less; exact this))
  have hgB := hW.lt.1
  have HW1 := Lib.hid hW
  have HC := Lib.hid cu
  have HI := Lib.hid iu
  have HL := Lib.hid hL
  have ET := Lib.hid et
  show Calls Tryz.prog 66 #[.pointer (some ⟨R, 0, none⟩), .agg #[.int .u8 kd, .string ByteArray.empty, .slice (some ⟨b, o, none⟩) 1 cap]] w _
  clear hA hL hW bx et cu iu
  generalize wordB k = wd at *
  rcases hk with ⟨rfl, rfl⟩ | ⟨rfl, rfl⟩ | ⟨rfl, rfl⟩ | ⟨rfl, rfl⟩ | ⟨rfl, rfl⟩ | ⟨rfl, rfl⟩ | ⟨rfl, rfl⟩
  all_goals
    go_enter Tryz.func66, Tryz.ntmps66
    go_upto_region 2 with (fail)
    rw [← hw1]
    clear hw1
    go_cut [3] from 6 to 14 (fun s3 wx => s3 = .pointer (some ⟨w.heap.size, 0, none⟩) ∧ Hid (AtW B R T0 G0 (ts ++ [kT wd, wLess]) wx) ∧ Hid (WBut B R w1 wx))
    case first =>
      go_region_held3 (fun w' => w'.cell? ⟨w.heap.size, 0, none⟩ = w1.cell? ⟨w.heap.size, 0, none⟩ ∧ ∀ o, w'.cell? ⟨0, o, none⟩ = w1.cell? ⟨0, o, none⟩) (first | exact ⟨rfl, fun _ => rfl⟩ | exact ⟨low_new w1 _ _ _ hz, fun o => low_new w1 _ _ _ hg⟩ | exact ⟨XB, XT⟩)
        (first
          | (go_at_call 98; (with_reducible refine (P1.out).mono ?_)
             rintro e w2 ⟨rfl, h1, b1⟩
             have H1 := Lib.hid h1
             have B1 := Lib.hid b1
             have XB := SG.cell b1 0
             have XT := fun o => b1.bel.cell (p := ⟨0, o, none⟩) hgB
             clear h1 b1))
      go_wp2_with fail
      go_meet
      case rel => exact ⟨rfl, H1, B1⟩
    case rest =>
      obtain ⟨rfl, H1, B1⟩ := hcut
      have BW := Lib.hid (BX.out.trans B1.out)
      have y2 := (SG.cell B1.out 2).trans x2
      have hz2 : w.heap.size < wc.heap.size := Nat.lt_of_lt_of_le hz B1.out.size
      have hbel : Below B w wc := BW.out.bel
      have cu2 := HC.out.below hb hbel
      have c0 : wc.cell? ⟨b, o, none⟩ = some (.int .u8 u.kind) := cu2 0 _ rfl
      have c1 : wc.cell? ⟨b, o + 1, none⟩ = some (.string u.name) := cu2 1 _ rfl
      have c2 : wc.cell? ⟨b, o + 2, none⟩ = some (.slice p7 n7 q7) := cu2 2 _ rfl
      have hBc : B ≤ wc.heap.size := Nat.le_trans hB BW.out.size
      have hb2 : b < wc.heap.size := by omega
      have C := Lib.hid (IH T0 G0 (ts ++ [kT wd, wLess]) (.slice p7 n7 q7) wc hBc (HW1.out.below hbel) H1.out (PT.In.below hbel HI.out) HL.out.less)
      clear cu2 P1 hbel x0 x2 tw H1 B1
      go_wp2_with fail
      refine (C.out).mono ?_
      rintro e w3 ⟨rfl, h3, b3⟩
      have B3 := Lib.hid (BW.out.trans b3)
      have P3 := Lib.hid (put1_calls B R ⟨#[62]⟩ T0 G0 (ts ++ [kT wd, wLess] ++ tokT u) _ w3 (new_only w3 (.cells #[.string ⟨#[62]⟩] 9)) (heap_alloc_new w3 _) (Nat.le_trans hBc b3.size) h3 (by decide) HL.out)
      clear h3 b3 C y2 c0 c1 c2
      go_wp2_with fail
      refine (P3.out).mono ?_
      rintro e w4 ⟨rfl, h4, b4⟩
      have H4 := Lib.hid h4
      have B4 := Lib.hid (B3.out.trans b4)
      clear h4 b4
      go_wp2
      go_end0
      exact ⟨rfl, by rw [ET.out, ← List.append_assoc, ← List.append_assoc]; exact H4.out, B4.out⟩
theorem typed_calls (B R : Nat) : ∀ (n : Nat) (t : PT), rT n t = true → TypedAt B R t
  | 0, t, h => by rw [rT] at h; cases h
  | n + 1, .mk k nm l, h => by
    have hr : rT (n + 1) (.mk k nm l) = (if k < 1 ∨ 14 < k then false else if k = 1 ∨ k = 2 ∨ k = 3 ∨ k = 10 then noB nm && decide (l.length = 0) else if k = 4 then tyB nm && decide (l.length = 0) else noB nm && (decide (l.length = 1) && l.all (fun u => rT n u))) := by rw [rT]; rfl
    rw [hr] at h
    by_cases h0 : k < 1 ∨ 14 < k
    · rw [if_pos h0] at h; cases h
    rw [if_neg h0] at h
    by_cases h1 : k = 1 ∨ k = 2 ∨ k = 3 ∨ k = 10
    · exact typed_plain B R k.toNat k (by omega) nm l
    rw [if_neg h1] at h
    by_cases h4 : k = 4
    · subst h4; exact typed_named B R nm l
    rw [if_neg h4, Bool.and_eq_true, Bool.and_eq_true, decide_eq_true_eq] at h
    obtain ⟨hn, hl, hall⟩ := h
    rw [noB_iff, decide_eq_true_eq] at hn
    subst hn
    obtain ⟨u, rfl⟩ : ∃ t, l = [t] := by
      cases l with
      | nil => simp at hl
      | cons a l => cases l with
        | nil => exact ⟨a, rfl⟩
        | cons b l => simp at hl
    have hu : rT n u = true := by simpa using hall
    have IH := typed_calls B R n u hu
    by_cases h13 : k = 13
    · subst h13; exact typed_ref B R [u] u rfl IH
    by_cases h14 : k = 14
    · subst h14; exact typed_mut B R [u] u rfl IH
    exact typed_wrap B R k.toNat k (by omega) [u] u rfl IH
end Go.Proofs.YthilicmhdkmipaaGreatDoor

