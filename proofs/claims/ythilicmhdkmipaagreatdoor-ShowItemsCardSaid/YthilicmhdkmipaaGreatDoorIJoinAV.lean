/- What the writer writes of a place. -/
import Derived.Test.YthilicmhdkmipaaGreatDoorIShowType
import Derived.Test.YthilicmhdkmipaaGreatDoorRows
import Derived.Lib.LaidTab
import Derived.LaidMore
import Derived.Stop.Joined
import Derived.SevenTiedAt
import Derived.FnData
namespace Go.Proofs.YthilicmhdkmipaaGreatDoor
open Go.RowKit
set_option linter.unusedVariables false

theorem stepsT_take : ∀ (l : List ByteArray) (k : Nat) (s : ByteArray), l[k]? = some s → stepsT (l.take (k + 1)) = stepsT (l.take k) ++ [wDot, kT s]
  | a :: l, 0, s, h => by
    obtain rfl : a = s := by simpa using h
    simp [stepsT]
  | a :: l, k + 1, s, h => by
    rw [List.take_succ_cons, List.take_succ_cons, stepsT, stepsT, stepsT_take l k s (by simpa using h)]; rfl
theorem stepsT_split (l : List ByteArray) (k : Nat) : stepsT l = stepsT (l.take k) ++ stepsT (l.drop k) := by
  induction l generalizing k with
  | nil => simp [stepsT]
  | cons a l ih => cases k with
    | zero => simp [stepsT]
    | succ k => rw [List.take_succ_cons, List.drop_succ_cons, stepsT, stepsT, ih k]; rfl
theorem nePB : (34 : TypeId) ≠ 5 := by decide
set_option maxRecDepth 100000 in
set_option maxHeartbeats 4000000 in
theorem place_calls (B R : Nat) (x : PP) (T0 G0 : TkB) (ts : List TkB) (v : Value) (w : World) (hB : B ≤ w.heap.size) (hA : AtW B R T0 G0 ts w) (hx : x.In B w v) (hL : Lim T0 G0 (ts ++ tokP x)) :
    Calls Tryz.prog 72 #[.pointer (some ⟨R, 0, none⟩), .agg #[.string x.name, v]] w fun e w' => e = .returned (.tuple #[]) ∧ AtW B R T0 G0 (ts ++ tokP x) w' ∧ WBut B R w w' := by
  obtain ⟨nm, path⟩ := x
  obtain ⟨hs, b, o, ⟨hl, ao, cap, rfl, k1⟩, r1⟩ := hx
  dsimp only at hs hl k1 r1 hL ⊢
  obtain ⟨n, hx⟩ : ∃ n, n = path.length := ⟨_, rfl⟩
  rw [← hx] at hl k1 ⊢
  have hn : n ≤ 9223372036854775807 := by unfold maxLen at hl; omega
  have ET : tokP ⟨nm, path⟩ = kT nm :: stepsT path := rfl
  rw [ET] at hL ⊢
  have bx : Below w.heap.size w (w.alloc (.cells #[.string nm, .slice ao n cap] 34)) := new_only _ _
  have hRR : R < w.heap.size := hA.lt
  obtain ⟨w1, hw1⟩ : ∃ w1, w1 = w.alloc (.cells #[.string nm, .slice ao n cap] 34) := ⟨_, rfl⟩
  have hz : w.heap.size < w1.heap.size := by rw [hw1]; simp
  have SG : Safe R w1 w.heap.size := Safe.made (by rw [hw1]; exact heap_alloc_new w _) nePB hRR
  have x0 : w1.cell? ⟨w.heap.size, 0, none⟩ = some (.string nm) := by rw [hw1]; go_simp
  have x1 : w1.cell? ⟨w.heap.size, 1, none⟩ = some (.slice ao n cap) := by rw [hw1]; go_simp
  rw [← hw1] at bx
  have BX := Lib.hid (WBut.of bx hB (R := R))
  have P1 := Lib.hid (put1_calls B R nm T0 G0 ts _ w1 (new_drew w1 (.cells #[.string nm] 9)) (drew_new w1 _) (by omega) (hA.stays bx) hs (by
    have h1 : Lim T0 G0 ((ts ++ [kT nm]) ++ stepsT path) := by rw [List.append_assoc]; exact hL
    exact h1.less))
  have Hx := Lib.hid hx
  have HR := Lib.hid r1
  have HL := Lib.hid hL
  have HK := Lib.hid k1
  clear hA hL bx hx r1 k1
  go_enter Tryz.func72, Tryz.ntmps72
  go_upto_region 1 with (fail)
  rw [← hw1]
  clear hw1
  go_cut [3] from 6 to 13 (fun s3 wx => s3 = .pointer (some ⟨w.heap.size, 0, none⟩) ∧ Hid (AtW B R T0 G0 (ts ++ [kT nm]) wx) ∧ Hid (WBut B R w1 wx))
  case first =>
    go_region_held3 (fun w' => w'.cell? ⟨w.heap.size, 0, none⟩ = some (.string nm)) (first | exact x0 | exact (low_new w1 _ _ _ hz).trans x0 | exact XB)
      (first
        | (go_at_call 98; (with_reducible refine (P1.out).mono ?_)
           rintro e w2 ⟨rfl, h1, b1⟩
           have H1 := Lib.hid h1
           have B1 := Lib.hid b1
           have XB := (SG.cell b1 0).trans x0
           clear h1 b1))
    go_wp2_with fail
    go_meet
    case rel => exact ⟨rfl, H1, B1⟩
  case rest =>
    obtain ⟨rfl, H1, B1⟩ := hcut
    have BW := Lib.hid (BX.out.trans B1.out)
    have y1 := (SG.cell B1.out 1).trans x1
    have hz2 : w.heap.size < wc.heap.size := Nat.lt_of_lt_of_le hz B1.out.size
    clear P1 x0 x1
    go_wp2_with fail
    go_loopw [16] (fun i wr => ∃ k : Nat, k ≤ n ∧ i = .int .i64 k ∧ Hid (AtW B R T0 G0 (ts ++ kT nm :: stepsT (path.take k)) wr) ∧ Hid (WBut B R w wr))
      (fun i _ => n - (intOf i).toNat)
    case atStart => exact ⟨0, by omega, rfl, Lib.hid (by simpa [stepsT] using H1.out), BW⟩
    case round =>
      obtain ⟨k, hk, rfl, Hw, Hb⟩ := hrel
      by_cases hlt : k < n
      · obtain ⟨a, ha⟩ := (⟨path[k]'(by rw [← Hx.out]; exact hlt), List.getElem?_eq_getElem _⟩ : ∃ a, path[k]? = some a)
        obtain ⟨rfl, hbB⟩ := HK.out.resolve_left (by omega)
        obtain ⟨hsa, ca⟩ := NRow.get HR.out ha
        have c0 : wr.cell? ⟨b, o + k, none⟩ = some (.string a) := by
          have := ca.below hbB Hb.out.bel 0 _ rfl
          simpa using this
        have hbr : b < wr.heap.size := by have := Hb.out.size; omega
        have hBr : B ≤ wr.heap.size := Nat.le_trans hB Hb.out.size
        have hnext : ts ++ kT nm :: stepsT (path.take (k + 1)) = (ts ++ kT nm :: stepsT (path.take k)) ++ [wDot, kT a] := by
          rw [stepsT_take path k a ha]; simp
        have P2 := Lib.hid (put2_calls B R ⟨#[46]⟩ a T0 G0 (ts ++ kT nm :: stepsT (path.take k)) _ wr (new_only wr (.cells #[.string ⟨#[46]⟩, .string a] 9)) (heap_alloc_new wr _) hBr Hw.out (by decide) hsa (by
          have h1 : Lim T0 G0 ((ts ++ kT nm :: stepsT (path.take (k + 1))) ++ stepsT (path.drop (k + 1))) := by
            have := HL.out
            rw [stepsT_split path (k + 1)] at this
            simpa using this
          have h2 := h1.less
          rw [hnext] at h2
          exact h2))
        have HN := Lib.hid hnext
        clear ca ha hnext Hw
        go_upto_region 5 with (fail)
        go_wp2_with fail
        refine (P2.out).mono ?_
        rintro e w2 ⟨rfl, h1, b1⟩
        have H2 := Lib.hid h1
        have B2 := Lib.hid (Hb.out.trans b1)
        clear h1 b1 P2 c0
        go_wp2
        go_roundw
        case rel => exact ⟨k + 1, by omega, by go_num, Lib.hid (by rw [HN.out]; exact H2.out), B2⟩
        case measure => simp [intOf]; omega
      · obtain rfl : k = n := by omega
        have hall : path.take k = path := List.take_of_length_le (by rw [Hx.out]; exact Nat.le_refl _)
        go_wp2
        go_end0
        exact ⟨rfl, by rw [hall] at Hw; exact Hw.out, Hb.out⟩
end Go.Proofs.YthilicmhdkmipaaGreatDoor
/- The writer's lists; what it writes of rows of whatever. -/
namespace Go.Proofs.YthilicmhdkmipaaGreatDoor
open Go.RowKit
set_option linter.unusedVariables false

theorem restT_take : ∀ (l : List (List TkB)) (k : Nat) (a : List TkB), l[k]? = some a → restT (l.take (k + 1)) = restT (l.take k) ++ wComma :: a
  | b :: l, 0, a, h => by
    obtain rfl : b = a := by simpa using h
    simp [restT]
  | b :: l, k + 1, a, h => by
    rw [List.take_succ_cons, List.take_succ_cons, restT, restT, restT_take l k a (by simpa using h)]; simp
theorem restT_split (l : List (List TkB)) (k : Nat) : restT l = restT (l.take k) ++ restT (l.drop k) := by
  induction l generalizing k with
  | nil => simp [restT]
  | cons a l ih => cases k with
    | zero => simp [restT]
    | succ k => rw [List.take_succ_cons, List.drop_succ_cons, restT, restT, ih k]; simp
theorem joinT_take0 (l : List (List TkB)) (a : List TkB) (h : l[0]? = some a) : joinT (l.take (0 + 1)) = a := by
  cases l with
  | nil => simp at h
  | cons b l => obtain rfl : b = a := by simpa using h
                rfl
theorem joinT_take (l : List (List TkB)) (k : Nat) (a : List TkB) (hk : 0 < k) (h : l[k]? = some a) : joinT (l.take (k + 1)) = joinT (l.take k) ++ [wComma] ++ a := by
  cases l with
  | nil => simp at h
  | cons b l => cases k with
    | zero => omega
    | succ k => rw [List.take_succ_cons, List.take_succ_cons, joinT_cons, joinT_cons, restT_take l k a (by simpa using h)]; simp
theorem joinT_split (l : List (List TkB)) (k : Nat) : joinT l = joinT (l.take (k + 1)) ++ restT (l.drop (k + 1)) := by
  cases l with
  | nil => rfl
  | cons b l => rw [List.take_succ_cons, List.drop_succ_cons, joinT_cons, joinT_cons, restT_split l k]; simp
set_option maxRecDepth 100000 in
set_option maxHeartbeats 4000000 in
theorem list_calls (B R : Nat) {g0 : FuncId} {lb : Array Value} (its : List (List TkB)) (T0 G0 : TkB) (ts : List TkB) (w : World) (hE : ∀ args w, (callFunc g0 args).run Tryz.prog w = .ok (.enter g0 args) w)
    (hB : B ≤ w.heap.size) (hA : AtW B R T0 G0 ts w) (hl : its.length ≤ maxLen) (hL : Lim T0 G0 (ts ++ joinT its))
    (hf : ∀ (k : Nat) (a : List TkB), its[k]? = some a → ∀ (us : List TkB) (W : World), B ≤ W.heap.size → WBut B R w W → AtW B R T0 G0 us W → Lim T0 G0 (us ++ a) →
      Calls Tryz.prog g0 (#[.int .i64 k] ++ lb) W fun e W' => e = .returned (.tuple #[]) ∧ AtW B R T0 G0 (us ++ a) W' ∧ WBut B R W W') :
    Calls Tryz.prog 145 #[.pointer (some ⟨R, 0, none⟩), .int .i64 its.length, .func (.func g0) #[] lb] w fun e w' => e = .returned (.tuple #[]) ∧ AtW B R T0 G0 (ts ++ joinT its) w' ∧ WBut B R w w' := by
  obtain ⟨n, hx⟩ : ∃ n, n = its.length := ⟨_, rfl⟩
  rw [← hx] at hl ⊢
  have hn : n ≤ 9223372036854775807 := by unfold maxLen at hl; omega
  have Hx := Lib.hid hx
  have HL := Lib.hid hL
  have HF := Lib.hid hf
  have HA := Lib.hid hA
  clear hx hL hf hA hl
  go_enter Tryz.func145, Tryz.ntmps145
  go_wp2_with fail
  go_loopw [8] (fun i wr => ∃ k : Nat, k ≤ n ∧ i = .int .i64 k ∧ Hid (AtW B R T0 G0 (ts ++ joinT (its.take k)) wr) ∧ Hid (WBut B R w wr))
    (fun i _ => n - (intOf i).toNat)
  case atStart => exact ⟨0, by omega, rfl, Lib.hid (by simpa [joinT] using HA.out), Lib.hid (WBut.refl B R w)⟩
  case round =>
    obtain ⟨k, hk, rfl, Hw, Hb⟩ := hrel
    by_cases hlt : k < n
    · obtain ⟨a, ha⟩ := (⟨its[k]'(by rw [← Hx.out]; exact hlt), List.getElem?_eq_getElem _⟩ : ∃ a, its[k]? = some a)
      have hBr : B ≤ wr.heap.size := Nat.le_trans hB Hb.out.size
      have hlim : Lim T0 G0 (ts ++ joinT (its.take (k + 1))) := by
        have h1 : Lim T0 G0 ((ts ++ joinT (its.take (k + 1))) ++ restT (its.drop (k + 1))) := by
          have := HL.out
          rw [joinT_split its k] at this
          simpa using this
        exact h1.less
      by_cases hk0 : k = 0
      · subst hk0
        have e0 : ts ++ joinT (its.take 0) = ts := by simp [joinT]
        rw [e0] at Hw
        rw [joinT_take0 its a ha] at hlim
        have h0 := HF.out 0 a ha ts wr hBr Hb.out Hw.out hlim
        rw [show ((0 : Nat) : Int) = 0 from rfl] at h0
        have HC := Lib.hid h0
        clear h0
        have HN := Lib.hid (joinT_take0 its a ha)
        clear ha hlim Hw e0
        go_wp2_with fail
        (with_reducible refine HC.out.mono ?_)
        rintro e W2 ⟨rfl, h2, b2⟩
        have H2 := Lib.hid h2
        have B2 := Lib.hid (Hb.out.trans b2)
        clear h2 b2 HC
        go_wp2
        go_roundw
        case rel => exact ⟨1, by omega, by go_num, Lib.hid (by rw [HN.out]; exact H2.out), B2⟩
        case measure => simp [intOf]; omega
      · have hjt := joinT_take its k a (by omega) ha
        have e1 : ts ++ joinT (its.take (k + 1)) = ((ts ++ joinT (its.take k)) ++ [wComma]) ++ a := by rw [hjt]; simp
        rw [e1] at hlim
        have P1 := Lib.hid (put1_calls B R ⟨#[44]⟩ T0 G0 (ts ++ joinT (its.take k)) _ wr (new_only wr (.cells #[.string ⟨#[44]⟩] 9)) (heap_alloc_new wr _) hBr Hw.out (by decide) hlim.less)
        have HN := Lib.hid e1
        have HLm := Lib.hid hlim
        have Ha := Lib.hid ha
        clear ha hlim Hw e1 hjt
        go_wp2_with fail
        refine (P1.out).mono ?_
        rintro e w2 ⟨rfl, h2, b2⟩
        have HC := Lib.hid (HF.out k a Ha.out (ts ++ joinT (its.take k) ++ [wComma]) w2 (Nat.le_trans hBr b2.size) (Hb.out.trans b2) h2 HLm.out)
        have B2 := Lib.hid (Hb.out.trans b2)
        clear h2 b2 P1
        go_wp2_with fail
        (with_reducible refine HC.out.mono ?_)
        rintro e W3 ⟨rfl, h3, b3⟩
        have H3 := Lib.hid h3
        have B3 := Lib.hid (B2.out.trans b3)
        clear h3 b3 HC
        go_wp2
        go_roundw
        case rel => exact ⟨k + 1, by omega, by go_num, Lib.hid (by rw [HN.out]; exact H3.out), B3⟩
        case measure => simp [intOf]; omega
    · obtain rfl : k = n := by omega
      have hall : its.take k = its := List.take_of_length_le (by rw [Hx.out]; exact Nat.le_refl _)
      go_wp2
      go_end0
      exact ⟨rfl, by rw [hall] at Hw; exact Hw.out, Hb.out⟩
end Go.Proofs.YthilicmhdkmipaaGreatDoor
/- The writer's text; a line's end. -/
namespace Go.Proofs.YthilicmhdkmipaaGreatDoor
open Go.RowKit
set_option linter.unusedVariables false

theorem mixedW : Tryz.prog.follows .mixedOrders = true := by kernel_rfl
theorem byteOneW : Tryz.prog.cellsOf 5 = 1 := by kernel_rfl
set_option maxHeartbeats 1000000 in
set_option maxRecDepth 100000 in
theorem stringW_row (B R : Nat) (T : TkB) (g : ByteArray) (w : World) (h : IsW B R T g w) (h0 : T ≠ []) :
    Calls Tryz.prog 143 #[.pointer (some ⟨R, 0, none⟩)] w fun e w' => e = .returned (.string ⟨T.toArray⟩) ∧ Below B w w' := by
  obtain ⟨hB, p, v, hp, hb, hown⟩ := h
  have hl0 : T.length ≠ 0 := by simpa using h0
  obtain ⟨q, cap, cur, rfl, hbg, hg, hnc, hcm, hcs, htake⟩ : ∃ q cap cur, v = .slice (some ⟨q, 0, none⟩) T.length cap ∧ B ≤ q ∧ w.heap[q]? = some (.cells cur 5 (0, 0)) ∧ T.length ≤ cap ∧ cap ≤ maxLen ∧ cur.size = cap * 1 ∧ cur.toList.take (T.length * 1) = Lib.byteCells T := by
    rcases hown.2 with ⟨_, hz⟩ | ⟨q, cap, cur, hv, r⟩
    · exact absurd hz hl0
    · exact ⟨q, cap, cur, hv, r⟩
  have c1 : w.drew.cell? ⟨R, 1, none⟩ = some (.slice (some ⟨q, 0, none⟩) T.length cap) := by
    have : w.drew.heap[R]? = some (.cells #[p, .slice (some ⟨q, 0, none⟩) T.length cap, .string g] 140 (0, 0)) := hb
    rw [Lib.cell_of_heap this]; rfl
  have hSD : (Builtin.unsafeSliceData_ #[82] 210 #[.slice (some ⟨q, 0, none⟩) T.length cap]).run Tryz.prog w.drew = .ok (.pointer (some ⟨q, 0, none⟩)) w.drew :=
    Lib.run_unsafeSliceData_row _ _ _ _ _ _ (by omega)
  have hUS : (Builtin.unsafeString_ #[210, 3] 9 #[.pointer (some ⟨q, 0, none⟩), .int .i64 T.length]).run Tryz.prog w.drew = .ok (.string ⟨T.toArray⟩) (w.drew.freeze ⟨q, 0, none⟩ T.length) := by
    refine Lib.run_unsafeString_row w.drew 210 3 9 5 (by kernel_rfl) byteOneW q cur.size (by have hg' : w.drew.heap[q]? = some (.cells cur 5 (0, 0)) := hg; simp [World.shape?, hg']) T h0 (by omega) (by unfold maxLen at hcm; omega) ?_
    intro j x hx
    have := hown.cells (g := q) rfl j (.int .u8 x.toNat) (by simp [Lib.byteCells, hx])
    exact this
  have HG := Lib.hid hbg
  clear hb hg htake hown hcs
  go_enter Tryz.func143, Tryz.ntmps143
  go_wp2
  have mixed := mixedW
  go_region_o
  all_goals (go_wp2; go_ret; exact ⟨rfl, Lib.below_freeze (Below.drew (Below.refl B w)) (p := ⟨q, 0, none⟩) HG.out _⟩)
set_option maxHeartbeats 1000000 in
set_option maxRecDepth 100000 in
/-- nothing was written yet -/
theorem stringW_nil (B R : Nat) (p : Value) (g : ByteArray) (w : World) (hb : w.heap[R]? = some (.cells #[p, .slice none 0 0, .string g] 140 (0, 0))) :
    Calls Tryz.prog 143 #[.pointer (some ⟨R, 0, none⟩)] w fun e w' => e = .returned (.string ⟨#[]⟩) ∧ Below B w w' := by
  have hUS : ∀ W : World, (Builtin.unsafeString_ #[210, 3] 9 #[.pointer none, .int .i64 0]).run Tryz.prog W = .ok (.string .empty) W := fun W => Lib.run_unsafeString_none W _ _ _ none
  have c1 : w.drew.cell? ⟨R, 1, none⟩ = some (.slice none 0 0) := by
    have : w.drew.heap[R]? = some (.cells #[p, .slice none 0 0, .string g] 140 (0, 0)) := hb
    rw [Lib.cell_of_heap this]; rfl
  have hSD : (Builtin.unsafeSliceData_ #[82] 210 #[.slice none 0 0]).run Tryz.prog w.drew = .ok (.pointer none) w.drew := rfl
  clear hb
  go_enter Tryz.func143, Tryz.ntmps143
  go_wp2
  have mixed := mixedW
  go_region_o
  all_goals (go_wp2; go_ret; exact ⟨rfl, Below.drew (Below.refl B w)⟩)
set_option maxHeartbeats 1000000 in
set_option maxRecDepth 100000 in
theorem all_row (B R : Nat) (T0 G0 : TkB) (ts : List TkB) (w : World) (h : AtW B R T0 G0 ts w) (h0 : T0 ++ puts G0 ts ≠ []) :
    Calls Tryz.prog 87 #[.pointer (some ⟨R, 0, none⟩)] w fun e w' => e = .returned (.string ⟨(T0 ++ puts G0 ts).toArray⟩) ∧ Below B w w' := by
  have C := Lib.hid (stringW_row B R _ _ w h h0)
  have hR := h.lt
  generalize T0 ++ puts G0 ts = T at *
  clear h
  go_enter Tryz.func87, Tryz.ntmps87
  go_wp2_with (go_at_call 143; refine (C.out).mono ?_; rintro e w1 ⟨rfl, b1⟩)
  go_ret
  exact ⟨rfl, b1⟩
set_option maxHeartbeats 1000000 in
set_option maxRecDepth 100000 in
theorem all_nil (B R : Nat) (p : Value) (g : ByteArray) (w : World) (hb : w.heap[R]? = some (.cells #[p, .slice none 0 0, .string g] 140 (0, 0))) :
    Calls Tryz.prog 87 #[.pointer (some ⟨R, 0, none⟩)] w fun e w' => e = .returned (.string ⟨#[]⟩) ∧ Below B w w' := by
  have C := Lib.hid (stringW_nil B R p g w hb)
  have hR : R < w.heap.size := (Array.getElem?_eq_some_iff.1 hb).1
  clear hb
  go_enter Tryz.func87, Tryz.ntmps87
  go_wp2_with (go_at_call 143; refine (C.out).mono ?_; rintro e w1 ⟨rfl, b1⟩)
  go_ret
  exact ⟨rfl, b1⟩
end Go.Proofs.YthilicmhdkmipaaGreatDoor
/- A line's end. -/
namespace Go.Proofs.YthilicmhdkmipaaGreatDoor
open Go.RowKit
set_option linter.unusedVariables false

set_option maxHeartbeats 1000000 in
set_option maxRecDepth 100000 in
/-- (*strings.Builder).WriteByte of a line's end -/
theorem writeB_calls (B R : Nat) (T : TkB) (g : ByteArray) (w : World) (h : IsW B R T g w) (hlen : T.length + 1 ≤ 140737488355328) (hBw : B ≤ w.heap.size) :
    Calls Tryz.prog 149 #[.pointer (some ⟨R, 0, none⟩), .int .u8 10] w fun e w' => e = .returned .nilIface ∧ IsW B R (T ++ [10]) g w' ∧ WBut B R w w' := by
  have hRlt := h.lt
  obtain ⟨hB, p, v, hp, hb, hown⟩ := h
  have hne := IsW.owner hb hown
  obtain ⟨i0, hi, hz0, hz1, hz2⟩ := info_parts infoByteW
  have hbytes := Lib.byteCells_length T
  go_enter Tryz.func149, Tryz.ntmps149
  go_wp2_with (go_at_call 178; refine (copyCheckW R p v (.string g) _ hp hb).mono ?_)
  rintro e w1 ⟨rfl, h1⟩
  have hbk := h1.cells
  have hown1 : w1.ownsRow B 5 1 v T.length (Lib.byteCells T) := hown.kept (row := some R) ⟨(h1.bel 0 (Nat.zero_le _)).os, (h1.bel 0 (Nat.zero_le _)).tape, (h1.bel 0 (Nat.zero_le _)).output, by rw [h1.size]; exact Nat.le_refl _, fun j hj hn => h1.rest j (fun e => hn (by rw [e]))⟩ (by
    right; intro e; exact hne (by simpa using e))
  have c0 : w1.cell? ⟨R, 0, none⟩ = some (.pointer (some ⟨R, 0, none⟩)) := by rw [Lib.cell_of_heap hbk]; rfl
  have c1 : w1.cell? ⟨R, 1, none⟩ = some v := by rw [Lib.cell_of_heap hbk]; rfl
  have hs1 := h1.size
  have hlt1 : R < w1.heap.size := by omega
  have a1 : (w1.alloc (.cells #[.int .u8 10] 5)).cell? ⟨R, 1, none⟩ = some v := (World.cell?_of_block (Below.heap_alloc w1 _ R hlt1)).trans c1
  go_wp2_with (at_builtin; refine wpList_append_own _ rfl _ _ 82 rfl B 5 i0 (.int .u8 0) 1 1 Tryz.underlying82 hi hz0 hz1 hz2 rfl (by decide) _ _ _ rfl (hown1.alloc _) ⟨w.heap.size, 0, none⟩ 1 1 [.int .u8 10] rfl rfl ?c1 (by intro u hu; simp at hu; subst hu; rfl) ?c3 ?c4 ?c5 ?_)
  case c1 =>
    intro j u hj
    match j, hj with
    | 0, hj =>
      simp at hj
      subst hj
      rw [← hs1]
      simp [Addr.add]
  case c3 => unfold maxLen; omega
  case c4 => omega
  case c5 => simp; omega
  intro v' w2 hown' hgrow0 _
  have hgrow : w1.grownBy w2 v.ownBlock := ⟨hgrow0.os, hgrow0.tape, hgrow0.output, Nat.le_trans (by simp) hgrow0.size, fun i hi hn => (hgrow0.block i (by simp; omega) hn).trans (Below.heap_alloc w1 _ i hi)⟩
  clear hgrow0
  have hb2 : w2.heap[R]? = some (.cells #[.pointer (some ⟨R, 0, none⟩), v, .string g] 140 (0, 0)) := by
    rw [hgrow.block R (by omega) (fun e => hne e.symm)]
    exact hbk
  have d0 : w2.cell? ⟨R, 0, none⟩ = some (.pointer (some ⟨R, 0, none⟩)) := by rw [Lib.cell_of_heap hb2]; rfl
  have d1 : w2.cell? ⟨R, 1, none⟩ = some v := by rw [Lib.cell_of_heap hb2]; rfl
  have f1 : w2.frozen? ⟨R, 1, none⟩ = false := Lib.frozen_of_heap hb2 1
  obtain ⟨ao, n', cap, rfl⟩ : ∃ ao n' cap, v' = .slice ao n' cap := by
    rcases hown'.2 with ⟨hv, _⟩ | ⟨g, cap, cur, hv, _⟩
    · exact ⟨_, _, _, hv⟩
    · exact ⟨_, _, _, hv⟩
  have HG := Lib.hid hgrow
  have HO := Lib.hid hown'
  have H1 := Lib.hid h1
  have HOW := Lib.hid hown
  have HB2 := Lib.hid hb2
  have HNE := Lib.hid hne
  have HB := Lib.hid hb
  clear hgrow hown' h1 hown hown1 hb2 hbk hne
  go_wp2
  go_ret
  have hne2 := IsW.owner HB2.out HO.out
  have hc3 : (w2.setCell ⟨R, 1, none⟩ (.slice ao n' cap)).heap[R]? = some (.cells #[.pointer (some ⟨R, 0, none⟩), .slice ao n' cap, .string g] 140 (0, 0)) := heap_setCell_same w2 R 1 _ _ _ HB2.out
  have hlen2 : (T ++ [10]).length = T.length + 1 := by rw [List.length_append]; rfl
  have hcells : Lib.byteCells (T ++ [10]) = Lib.byteCells T ++ [.int .u8 10] := by unfold Lib.byteCells; rw [List.map_append]; rfl
  refine ⟨rfl, ⟨hB, _, _, .inr rfl, hc3, ?_⟩, ⟨?_, ?_, fun b h1 h2 h3 => ?_⟩⟩
  · rw [hlen2, hcells]
    exact HO.out.kept (row := some R) ⟨rfl, rfl, rfl, by simp, fun j _ hn => Below.heap_setCell _ _ _ _ (fun e => hn (by simpa using e))⟩ (by
      right; intro e; exact hne2 (by simpa using e))
  · exact (((H1.out.bel B hB).grown HG.out (by rw [H1.out.size]; exact hBw) (fun k hk => (HOW.out.lt k hk).1)).setCell (p := ⟨R, 1, none⟩) hB _)
  · have := HG.out.size; simp; omega
  · rw [Below.heap_setCell _ _ _ _ (by simpa using h2), HG.out.block b (by omega) (fun e => own_bytes HOW.out e.symm h3), H1.out.rest b h2]
set_option maxHeartbeats 1000000 in
set_option maxRecDepth 100000 in
theorem endLine_calls (B R : Nat) (T : TkB) (g : ByteArray) (w : World) (h : IsW B R T g w) (hlen : T.length + 1 ≤ 140737488355328) (hB : B ≤ w.heap.size) :
    Calls Tryz.prog 89 #[.pointer (some ⟨R, 0, none⟩)] w fun e w' => e = .returned (.tuple #[]) ∧ IsW B R (T ++ [10]) ⟨#[]⟩ w' ∧ WBut B R w w' := by
  have C := Lib.hid (writeB_calls B R T g w h hlen hB)
  have hR := h.lt
  clear h
  go_enter Tryz.func89, Tryz.ntmps89
  go_wp2_with (go_at_call 149; refine (C.out).mono ?_)
  rintro e w1 ⟨rfl, h1, b1⟩
  have H1 := Lib.hid h1
  have B1 := Lib.hid b1
  obtain ⟨cg, fg⟩ := h1.gap
  have hR1 := h1.lt
  clear h1 b1 C
  go_wp2
  go_end0
  have h3 := H1.out.setGap (g' := ⟨#[]⟩)
  exact ⟨rfl, h3.1, B1.out.trans h3.2⟩
end Go.Proofs.YthilicmhdkmipaaGreatDoor
/- What the listed variables hold: the tables of words, the table of tens. -/
namespace Go.Proofs.YthilicmhdkmipaaGreatDoor
open Go.ChangeShapes Go.WideShapes Go.RowKit
set_option linter.unusedVariables false

/-- a list that mapM made, element by element -/
theorem mapM_atW {α β : Type} {f : α → Option β} : ∀ {l : List α} {ys : List β}, l.mapM f = some ys → ∀ (i : Nat) x, l[i]? = some x → ∃ b, ys[i]? = some b ∧ f x = some b
  | [], ys, h, i, x, hx => by simp at hx
  | a :: l, ys, h, i, x, hx => by
    rw [List.mapM_cons] at h
    obtain ⟨b, hb, h⟩ := Option.bind_eq_some_iff.1 h
    obtain ⟨bs, hbs, h⟩ := Option.bind_eq_some_iff.1 h
    obtain rfl : b :: bs = ys := by simpa using h
    cases i with
    | zero => obtain rfl : a = x := by simpa using hx
              exact ⟨b, rfl, hb⟩
    | succ i =>
      obtain ⟨c, h1, h2⟩ := mapM_atW hbs i x (by simpa using hx)
      exact ⟨c, by simpa using h1, h2⟩
/-- an array of texts that reads as a table -/
theorem cells_of_words {H : Type} {enc : TypeId × Value → H} {P : Program} {w : World} {base : Nat} {sp : Nat → Bool} {held : Bool} {fuel : Nat} {t e : TypeId} {n : Nat} {cs : List Value} {zs : List TkB} {p : List MemPlace}
    (ht : P.underlying t = some (.array n e)) (he : P.underlying e = some .string) (hce : P.cellsOf e = 1) (hct : P.cellsOf t = n)
    (h : DataW.trod enc P w base sp held fuel t cs = some (.agg (zs.map fun z => .lit (.string z)), p)) : ∀ (i : Nat) (z : TkB), i < n → zs[i]? = some z → cs[i]? = some (.string ⟨z.toArray⟩) := by
  intro i z hi hz
  cases fuel with
  | zero => simp [DataW.trod] at h
  | succ fuel =>
    simp only [DataW.trod, ht, hce, hct, Nat.mul_one] at h
    split at h
    · rename_i hl
      obtain ⟨xs, hm, hx⟩ := Option.map_eq_some_iff.1 h
      have hxs : xs.map (·.1) = zs.map fun z => (DataW.lit (.string z) : DataW H) := by
        have := congrArg Prod.fst hx
        simpa using this
      obtain ⟨b, hb, hf⟩ := mapM_atW hm i i (by simp [hi])
      obtain ⟨s, hc, rfl, _⟩ := DataW.trod_string he hf
      have h1 : cs[i]? = some (.string s) := by
        have := congrArg (·[0]?) hc
        simpa [List.getElem?_take, List.getElem?_drop] using this
      have h2 : (xs.map (·.1))[i]? = some (DataW.lit (.string s.data.toList) : DataW H) := by simp [hb]
      rw [hxs] at h2
      simp only [List.getElem?_map, hz, Option.map_some, Option.some.injEq, DataW.lit.injEq, Lit.string.injEq] at h2
      rw [h1, h2]
    · cases h
def typeTab : List TkB := (List.range 13).map fun (k : Nat) => typeWord (k : Int)
def exprTab : List TkB := (List.range 37).map fun (k : Nat) => exprWord (k : Int)
set_option maxRecDepth 100000 in
theorem words_of_laid {W : World} (h : laidMetH Tryz.prog Rows.showPartsRow.laid W) : Words W.heap.size W := by
  rw [MakeChecks.laidMetH_plain _ _ _ (by kernel_rfl)] at h
  obtain ⟨ps, ⟨g0, t0, cs0, f0, p0, q0, hg0, ht0, hv0, hd0, ⟨g1, t1, cs1, f1, p1, q1, hg1, ht1, hv1, hd1, ⟨g2, t2, cs2, f2, p2, q2, hg2, ht2, hv2, hd2, ⟨g3, t3, cs3, f3, p3, q3, hg3, ht3, hv3, hd3, ⟨g4, t4, cs4, f4, p4, q4, hg4, ht4, hv4, hd4, _, _⟩, _⟩, _⟩, _⟩, _⟩, _, _⟩ := h
  obtain rfl := Option.some.inj ((show Tryz.prog.globalNamed "internal/strconv.uint64pow10" = some 4 by kernel_rfl).symm.trans hg2)
  obtain rfl := Option.some.inj ((show (Tryz.prog.globals[4]?).map (·.type) = some 241 by kernel_rfl).symm.trans ht2)
  have ng3 : Tryz.prog.globalNamed "weftway/show.exprWords" = some 1 := by kernel_rfl
  have ng4 : Tryz.prog.globalNamed "weftway/show.typeWords" = some 0 := by kernel_rfl
  obtain rfl := Option.some.inj (ng3.symm.trans hg3)
  obtain rfl := Option.some.inj ((show (Tryz.prog.globals[1]?).map (·.type) = some 165 by kernel_rfl).symm.trans ht3)
  obtain rfl := Option.some.inj (ng4.symm.trans hg4)
  obtain rfl := Option.some.inj ((show (Tryz.prog.globals[0]?).map (·.type) = some 157 by kernel_rfl).symm.trans ht4)
  have htens : Lib.TabIs Tryz.prog W "internal/strconv.uint64pow10" .u64 Lib.pow10Tab := by
    unfold Lib.TabIs
    rw [hv2, ← Lib.cells_of_tab (zs := Lib.pow10Tab) Tryz.underlying241 Tryz.underlying214 (by kernel_rfl) (by kernel_rfl) hd2]
  have he := cells_of_words (zs := exprTab) Tryz.underlying165 Tryz.underlying9 (by kernel_rfl) (by kernel_rfl) (by rw [← show Rows.laid_weftway_show_exprWords = (DataW.agg (exprTab.map fun z => DataW.lit (Lit.string z)) : DataW Unit) by kernel_rfl]; exact hd3)
  have ht := cells_of_words (zs := typeTab) Tryz.underlying157 Tryz.underlying9 (by kernel_rfl) (by kernel_rfl) (by rw [← show Rows.laid_weftway_show_typeWords = (DataW.agg (typeTab.map fun z => DataW.lit (Lit.string z)) : DataW Unit) by kernel_rfl]; exact hd4)
  have ce : ∀ k : Nat, k ≤ 36 → W.cell? ⟨1, k, none⟩ = some (.string ⟨(exprWord k).toArray⟩) := fun k hk => by
    rw [World.var?_cell ng3 hv3 k]
    have := he k (exprWord k) (by omega) (by unfold exprTab; rw [List.getElem?_map, List.getElem?_range (by omega)]; rfl)
    simpa using this
  have ct : ∀ k : Nat, k ≤ 12 → W.cell? ⟨0, k, none⟩ = some (.string ⟨(typeWord k).toArray⟩) := fun k hk => by
    rw [World.var?_cell ng4 hv4 k]
    have := ht k (typeWord k) (by omega) (by unfold typeTab; rw [List.getElem?_map, List.getElem?_range (by omega)]; rfl)
    simpa using this
  exact ⟨⟨World.block_lt_of_cell? _ ⟨_, 0, none⟩ (ct 0 (by omega)), World.block_lt_of_cell? _ ⟨_, 0, none⟩ (ce 0 (by omega))⟩, ct, ce, Lib.tabBelow_of_tabIs htens⟩
end Go.Proofs.YthilicmhdkmipaaGreatDoor
