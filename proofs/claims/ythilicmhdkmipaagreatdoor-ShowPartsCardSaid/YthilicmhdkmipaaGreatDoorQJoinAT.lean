/- Contracts of package num: what each function of it returns, whatever its arguments. -/
import Derived.Test.YthilicmhdkmipaaGreatDoorChecked
import Derived.Test.YthilicmhdkmipaaGreatDoorQJoinAM
import Derived.WalkKit
import Derived.Outline
import Derived.Lib.Hide
import Derived.Laws.Externs
import Derived.BigQuiet
import Derived.Below
import Derived.Laws.World
import Derived.Deep.Cut
import Derived.Deep.CutRange
import Derived.StillTailTactics
import Derived.Test.YthilicmhdkmipaaGreatDoorQJoinAL
import Derived.Lib.ItoaLen
namespace Go.Proofs.YthilicmhdkmipaaGreatDoor
open Go.RowKit
set_option linter.unusedVariables false

set_option maxHeartbeats 400000 in
theorem side_calls (b : Bool) (x : Int) (h0 : 0 ≤ x) (h1 : x < 18446744073709551616) (w : World) :
    Calls Tryz.prog 196 #[.bool b, .int .u64 x] w fun e w' => e = .returned (.agg #[.bool (sgn (sv b x)), .int .u64 (mag (sv b x))]) ∧ Below w.heap.size w w' := by
  have e1 := Lib.hid (sgn_sv b x h0)
  have e2 := Lib.hid (mag_sv b x h0)
  cases b
  · go_enter Tryz.func196, Tryz.ntmps196
    go_wp2
    exact bodyPost_ret (v := .agg #[.bool false, .int .u64 x]) (by simp [results, Tryz.results196, go_sem]) rfl ⟨ret_sd (by rw [e1.out]; rfl) e2.out.symm, (Below.refl _ _).alloc (Nat.le_refl _) _⟩
  · go_enter Tryz.func196, Tryz.ntmps196
    go_wp2
    exact bodyPost_ret (v := .agg #[.bool (x != 0), .int .u64 x]) (by simp [results, Tryz.results196, go_sem]) rfl ⟨ret_sd (by rw [e1.out]; rfl) e2.out.symm, (Below.refl _ _).alloc (Nat.le_refl _) _⟩

set_option maxHeartbeats 400000 in
theorem number_pos (x : Int) (h0 : 0 ≤ x) (h1 : x < 9223372036854775808) (w : World) :
    Calls Tryz.prog 197 #[.agg #[.bool false, .int .u64 x]] w fun e w' => e = .returned (.tuple #[.int .i64 x, .int .i64 0]) ∧ Below w.heap.size w w' := by
  go_enter Tryz.func197, Tryz.ntmps197
  go_wp2
  go_ret2
  exact ⟨rfl, (Below.refl _ _).alloc (Nat.le_refl _) _⟩
set_option maxHeartbeats 400000 in
theorem number_neg (x : Int) (h0 : 0 ≤ x) (h1 : x < 9223372036854775808) (hq : (x == 9223372036854775808) = false) (w : World) :
    Calls Tryz.prog 197 #[.agg #[.bool true, .int .u64 x]] w fun e w' => e = .returned (.tuple #[.int .i64 (-x), .int .i64 0]) ∧ Below w.heap.size w w' := by
  go_enter Tryz.func197, Tryz.ntmps197
  go_wp2
  go_ret2
  exact ⟨rfl, (Below.refl _ _).alloc (Nat.le_refl _) _⟩
set_option maxHeartbeats 400000 in
theorem number_least (x : Int) (h0 : 0 ≤ x) (hq : (x == 9223372036854775808) = true) (w : World) :
    Calls Tryz.prog 197 #[.agg #[.bool true, .int .u64 x]] w fun e w' => e = .returned (.tuple #[.int .i64 (-9223372036854775808), .int .i64 0]) ∧ Below w.heap.size w w' := by
  go_enter Tryz.func197, Tryz.ntmps197
  go_wp2
  go_ret2
  exact ⟨rfl, (Below.refl _ _).alloc (Nat.le_refl _) _⟩
set_option maxHeartbeats 400000 in
theorem number_over (b : Bool) (x : Int) (h0 : 9223372036854775808 ≤ x) (hq : b = true → (x == 9223372036854775808) = false) (w : World) :
    Calls Tryz.prog 197 #[.agg #[.bool b, .int .u64 x]] w fun e w' => e = .returned (.tuple #[.int .i64 0, .int .i64 10]) ∧ Below w.heap.size w w' := by
  cases b
  · clear hq
    go_enter Tryz.func197, Tryz.ntmps197
    go_wp2
    go_ret2
    exact ⟨rfl, (Below.refl _ _).alloc (Nat.le_refl _) _⟩
  · replace hq := hq rfl
    go_enter Tryz.func197, Tryz.ntmps197
    go_wp2
    go_ret2
    exact ⟨rfl, (Below.refl _ _).alloc (Nat.le_refl _) _⟩

theorem number_calls (n : Int) (w : World) :
    Calls Tryz.prog 197 #[.agg #[.bool (sgn n), .int .u64 (mag n)]] w fun e w' => e = .returned (.tuple #[.int .i64 (fitv n), .int .i64 (fite n)]) ∧ Below w.heap.size w w' := by
  by_cases h : n < 0
  · rw [sgn_true h, mag_neg h]
    by_cases k : n = -9223372036854775808
    · subst k
      exact number_least _ (by omega) (by decide) w
    · by_cases l : n < -9223372036854775808
      · rw [fitv_out (Or.inl l), fite_out (Or.inl l)]
        exact number_over true (-n) (by omega) (fun _ => beq_eq_false_iff_ne.2 (by omega)) w
      · rw [fitv_in (by omega) (by omega), fite_in (by omega) (by omega)]
        have := number_neg (-n) (by omega) (by omega) (beq_eq_false_iff_ne.2 (by omega)) w
        rw [Int.neg_neg] at this
        exact this
  · rw [sgn_false (by omega), mag_pos (by omega)]
    by_cases l : n < 9223372036854775808
    · rw [fitv_in (by omega) (by omega), fite_in (by omega) (by omega)]
      exact number_pos n (by omega) l w
    · rw [fitv_out (by omega), fite_out (by omega)]
      exact number_over false n (by omega) (fun h => by cases h) w
end Go.Proofs.YthilicmhdkmipaaGreatDoor
/- The plain part beneath num.Parse: what digits say. -/
namespace Go.Proofs.YthilicmhdkmipaaGreatDoor
open Go.RowKit
set_option linter.unusedVariables false

/-- is a byte a digit? -/
def dgt (c : UInt8) : Bool := decide (48 ≤ c.toNat ∧ c.toNat ≤ 57)
/-- one or more digits? -/
def digs (l : List UInt8) : Bool := !l.isEmpty && l.all dgt
/-- what digits say -/
def dval (l : List UInt8) : Nat := l.foldl (fun n c => n * 10 + (c.toNat - 48)) 0

theorem take_snoc (s : ByteArray) (k : Nat) (h : k < s.size) : s.data.toList.take (k + 1) = s.data.toList.take k ++ [s[k]] := by
  rw [List.take_succ_eq_append_getElem (by simpa using h)]; rfl
theorem take_all (s : ByteArray) : s.data.toList.take s.size = s.data.toList := List.take_of_length_le (by simp)
theorem dval_snoc (l : List UInt8) (c : UInt8) : dval (l ++ [c]) = dval l * 10 + (c.toNat - 48) := by simp [dval, List.foldl_append]
theorem dval_nil : dval [] = 0 := rfl
theorem dgt_iff (c : UInt8) : dgt c = true ↔ 48 ≤ c.toNat ∧ c.toNat ≤ 57 := by simp [dgt]
theorem dgt_no {c : UInt8} (h : c.toNat < 48 ∨ 57 < c.toNat) : dgt c = false := by
  simp only [dgt, decide_eq_false_iff_not]; omega

theorem byte_mem (s : ByteArray) (k : Nat) (h : k < s.size) : s[k] ∈ s.data.toList := by
  have : s[k] = s.data[k]'h := rfl
  rw [this, Array.mem_toList_iff]
  exact Array.getElem_mem h
theorem digs_no (s : ByteArray) (k : Nat) (h : k < s.size) (hd : dgt s[k] = false) : digs s.data.toList = false := by
  unfold digs
  rw [Bool.and_eq_false_iff]
  right
  rw [List.all_eq_false]
  exact ⟨s[k], byte_mem s k h, by rw [hd]; simp⟩
theorem all_snoc {s : ByteArray} {k : Nat} (h : k < s.size) (ha : (s.data.toList.take k).all dgt = true) (hd : dgt s[k] = true) : (s.data.toList.take (k + 1)).all dgt = true := by
  rw [take_snoc s k h, List.all_append, ha]; simp [hd]
theorem digs_end {s : ByteArray} (ha : (s.data.toList.take s.size).all dgt = true) : digs s.data.toList = !s.data.toList.isEmpty := by
  rw [take_all] at ha; unfold digs; rw [ha, Bool.and_true]
theorem all_at {s : ByteArray} (h : digs s.data.toList = true) (k : Nat) (hk : k < s.size) : 48 ≤ s[k].toNat ∧ s[k].toNat ≤ 57 := by
  unfold digs at h
  rw [Bool.and_eq_true, List.all_eq_true] at h
  exact (dgt_iff _).1 (h.2 s[k] (byte_mem s k hk))
theorem dval_le_append (l r : List UInt8) : dval l ≤ dval (l ++ r) := by
  induction r generalizing l with
  | nil => simp
  | cons c r ih =>
    have := ih (l ++ [c])
    rw [dval_snoc, List.append_assoc] at this
    simp only [List.singleton_append] at this
    omega
theorem dval_prefix (l : List UInt8) (k : Nat) : dval (l.take k) ≤ dval l := by
  have := dval_le_append (l.take k) (l.drop k)
  rw [List.take_append_drop] at this
  exact this
/-- once the digits ahead of one say too much, all of them do -/
theorem dval_over (s : ByteArray) (k : Nat) (h : k < s.size) (ho : 922337203685477580 < dval (s.data.toList.take k)) : 9223372036854775809 < dval s.data.toList := by
  have h1 := dval_prefix s.data.toList (k + 1)
  rw [take_snoc s k h, dval_snoc] at h1
  omega
/-- the size that digits say, if a number may have it; the error beside it -/
def szv (l : List UInt8) : Int := if dval l ≤ 9223372036854775809 then (dval l : Int) else 0
def sze (l : List UInt8) : Int := if dval l ≤ 9223372036854775809 then 0 else 10
theorem szv_in {l : List UInt8} (h : dval l ≤ 9223372036854775809) : szv l = (dval l : Int) := by unfold szv; rw [if_pos h]
theorem sze_in {l : List UInt8} (h : dval l ≤ 9223372036854775809) : sze l = 0 := by unfold sze; rw [if_pos h]
theorem szv_out {l : List UInt8} (h : 9223372036854775809 < dval l) : szv l = 0 := by unfold szv; rw [if_neg (by omega)]
theorem sze_out {l : List UInt8} (h : 9223372036854775809 < dval l) : sze l = 10 := by unfold sze; rw [if_neg (by omega)]
theorem dval_step (s : ByteArray) (k : Nat) (h : k < s.size) (h48 : 48 ≤ s[k].toNat) : (dval (s.data.toList.take (k + 1)) : Int) = (dval (s.data.toList.take k) : Int) * 10 + ((s[k].toNat : Int) - 48) := by
  rw [take_snoc s k h, dval_snoc]; omega
theorem ret_bool {a b : Bool} (h : a = b) : Ending.returned (.bool a) = .returned (.bool b) := by rw [h]
end Go.Proofs.YthilicmhdkmipaaGreatDoor
/- A region that draws its order, reads old memory alone, and calls what makes memory: one walk in the order of the text, over all worlds that lie over the one it began in. -/
namespace Go.Proofs.YthilicmhdkmipaaGreatDoor
open Go.RowKit
set_option linter.unusedVariables false

/-- a world over W0: all that was there lies as it lay -/
structure Over (W0 : World) where
  w : World
  h : Below W0.heap.size W0 w
def Over.base (W0 : World) : Over W0 := ⟨W0, Below.refl _ _⟩
def Over.next {W0 : World} (n : Over W0) {w' : World} (b : Below n.w.heap.size n.w w') : Over W0 := ⟨w', n.h.trans (b.mono n.h.size)⟩
instance overSome (W0 : World) : Nonempty (Over W0) := ⟨Over.base W0⟩
theorem Over.cells {W0 : World} : ∀ (n : Over W0) (b o : Nat), b < W0.heap.size → n.w.cell? ⟨b, o, none⟩ = W0.cell? ⟨b, o, none⟩ := fun n b o h => n.h.cell (p := ⟨b, o, none⟩) h
theorem wp_region_over {P : Program} {id : Nat} {Q : Exit → Act → World → Prop} {a : Act} {w : World} {l : List Oper} (hm : P.follows .mixedOrders = true) (hB : Region.lexB .any l.toArray = true)
    (h : wpQuiet P l.toArray (fun w' => ∃ n : Over w, w' = n.w) (fun a' => ∀ w', (∃ n : Over w, w' = n.w) → Q .normal a' w') l a) : (Code.region id l.toArray true).wp P Q a w :=
  wp_region_quiet (C := fun w' => ∃ n : Over w, w' = n.w) hm hB ⟨⟨w.drew, (Below.refl _ w).drew⟩, rfl⟩ (by simpa using h)
theorem over_calls {P : Program} {W0 : World} {n : Over W0} {f : FuncId} {args : Array Value} {v : Value}
    (h : Calls P f args n.w fun e w' => e = .returned v ∧ Below n.w.heap.size n.w w') : Calls P f args n.w fun e w'' => e = .returned v ∧ ∃ m : Over W0, w'' = m.w :=
  h.mono fun e w ⟨he, b⟩ => ⟨he, n.next b, rfl⟩
end Go.Proofs.YthilicmhdkmipaaGreatDoor
/- More plain arithmetic: what a quotient may come to. -/
namespace Go.Proofs.YthilicmhdkmipaaGreatDoor

theorem tdiv_bounds (a b : Int) (a0 : -9223372036854775808 ≤ a) (a1 : a ≤ 9223372036854775807) (h : ¬ (a = -9223372036854775808 ∧ b = -1)) : -9223372036854775808 ≤ a.tdiv b ∧ a.tdiv b ≤ 9223372036854775807 := by
  have l : (a.tdiv b).natAbs ≤ a.natAbs := by rw [Int.natAbs_tdiv]; exact Nat.div_le_self _ _
  by_cases e : a = -9223372036854775808
  · have hb : ¬ b = -1 := fun k => h ⟨e, k⟩
    by_cases hb0 : b = 0
    · subst hb0; rw [Int.tdiv_zero]; omega
    · by_cases hp : 0 < b
      · have : a.tdiv b ≤ 0 := by
          have k := Int.tdiv_nonneg (show 0 ≤ -a by omega) (show 0 ≤ b by omega)
          rw [Int.neg_tdiv] at k
          omega
        omega
      · have l2 : (a.tdiv b).natAbs ≤ a.natAbs / 2 := by
          rw [Int.natAbs_tdiv]
          exact Nat.div_le_div_left (by omega) (by omega)
        omega
  · omega
theorem share_parts (a b : Int) (hb : ¬ b = 0) : (0 ≤ a → 0 ≤ remv a b) ∧ (a ≤ 0 → remv a b ≤ 0) ∧ b * a.tdiv b + remv a b = a ∧ (0 < b → remv a b < b ∧ -b < remv a b) ∧ (b < 0 → remv a b < -b ∧ b < remv a b) ∧ (0 ≤ a → 0 ≤ b * a.tdiv b) ∧ (a ≤ 0 → b * a.tdiv b ≤ 0) := by
  unfold remv
  rw [if_neg hb]
  have e := Int.mul_tdiv_add_tmod a b
  have s1 : 0 ≤ a → 0 ≤ a.tmod b := fun h => Int.tmod_nonneg _ h
  have s2 : a ≤ 0 → a.tmod b ≤ 0 := fun h => by
    have k := Int.tmod_nonneg b (show 0 ≤ -a by omega)
    rw [Int.neg_tmod] at k
    omega
  have l : (a.tmod b).natAbs < b.natAbs := by rw [Int.natAbs_tmod]; exact Nat.mod_lt _ (by omega)
  have l2 : (a.tmod b).natAbs ≤ a.natAbs := by rw [Int.natAbs_tmod]; exact Nat.mod_le _ _
  generalize a.tmod b = r at *
  generalize b * a.tdiv b = p at *
  refine ⟨s1, s2, e, ?_, ?_, ?_, ?_⟩ <;> omega
end Go.Proofs.YthilicmhdkmipaaGreatDoor
/- The writer's own: tokens, lists with commas between, a line's end. -/
namespace Go.Proofs.YthilicmhdkmipaaGreatDoor
open Go.RowKit
set_option linter.unusedVariables false

/-- from a text T0, with G0 ahead of the next token, the tokens ts were written -/
def AtW (B R : Nat) (T0 G0 : TkB) (ts : List TkB) (w : World) : Prop := IsW B R (T0 ++ puts G0 ts) ⟨(gapA G0 ts).toArray⟩ w
/-- the text isn't too long -/
def Lim (T0 G0 : TkB) (ts : List TkB) : Prop := (T0 ++ puts G0 ts).length ≤ 1000000000
theorem puts_len (g : TkB) (a b : List TkB) : (puts g a).length ≤ (puts g (a ++ b)).length := by rw [puts_append, List.length_append]; omega
theorem Lim.less {T0 G0 : TkB} {a b : List TkB} (h : Lim T0 G0 (a ++ b)) : Lim T0 G0 a := by
  unfold Lim at *
  have := puts_len G0 a b
  rw [List.length_append] at *
  omega
theorem AtW.stays {B R : Nat} {T0 G0 : TkB} {ts : List TkB} {w w' : World} (h : AtW B R T0 G0 ts w) (k : Below w.heap.size w w') : AtW B R T0 G0 ts w' := IsW.stays h k
theorem AtW.lt {B R : Nat} {T0 G0 : TkB} {ts : List TkB} {w : World} (h : AtW B R T0 G0 ts w) : R < w.heap.size := IsW.lt h
/-- the gap's cell -/
theorem IsW.gap {B R : Nat} {T : TkB} {g : ByteArray} {w : World} (h : IsW B R T g w) : w.cell? ⟨R, 2, none⟩ = some (.string g) ∧ w.frozen? ⟨R, 2, none⟩ = false := by
  obtain ⟨_, p, v, _, hb, _⟩ := h
  exact ⟨by rw [Lib.cell_of_heap hb]; rfl, Lib.frozen_of_heap hb 2⟩
theorem IsW.setGap {B R : Nat} {T : TkB} {g g' : ByteArray} {w : World} (h : IsW B R T g w) : IsW B R T g' (w.setCell ⟨R, 2, none⟩ (.string g')) ∧ WBut B R w (w.setCell ⟨R, 2, none⟩ (.string g')) := by
  obtain ⟨hB, p, v, hp, hb, ho⟩ := h
  have hne := IsW.owner hb ho
  refine ⟨⟨hB, p, v, hp, heap_setCell_same w R 2 _ _ _ hb, ho.kept (row := some R) ⟨rfl, rfl, rfl, by simp, fun j _ hn => Below.heap_setCell _ _ _ _ (fun e => hn (by simpa using e))⟩ (by
    right; intro e; exact hne (by simpa using e))⟩, (Below.refl B w).setCell (p := ⟨R, 2, none⟩) hB _, by simp, fun b _ h2 _ => Below.heap_setCell _ _ _ _ (by simpa using h2)⟩
theorem kT_mk (l : TkB) : kT ⟨l.toArray⟩ = l := by unfold kT; simp
/-- one token more -/
theorem puts_one (T0 G0 : TkB) (ts : List TkB) (t : TkB) : T0 ++ puts G0 (ts ++ [t]) = T0 ++ puts G0 ts ++ gapA G0 ts ++ t := by
  rw [puts_append, puts, puts]; simp
theorem gapA_one (G0 : TkB) (ts : List TkB) (t : TkB) : gapA G0 (ts ++ [t]) = [32] := by
  rw [gapA_append]; rfl
set_option maxRecDepth 100000 in
set_option maxHeartbeats 2000000 in
theorem put_calls (B R : Nat) (toks : List ByteArray) (S o cap : Nat) (T0 G0 : TkB) (ts : List TkB) (w : World) (hB : B ≤ w.heap.size) (hn : toks.length ≤ 1000000) (hA : AtW B R T0 G0 ts w) (hS : Safe R w S) (hr : NRow w S o toks) (hL : Lim T0 G0 (ts ++ toks.map kT)) :
    Calls Tryz.prog 98 #[.pointer (some ⟨R, 0, none⟩), .slice (some ⟨S, o, none⟩) toks.length cap] w fun e w' => e = .returned (.tuple #[]) ∧ AtW B R T0 G0 (ts ++ toks.map kT) w' ∧ WBut B R w w' := by
  obtain ⟨n, hx⟩ : ∃ n, n = toks.length := ⟨_, rfl⟩
  rw [← hx] at hn ⊢
  have Hx := Lib.hid hx
  have HR := Lib.hid hr
  have HS := Lib.hid hS
  have HL := Lib.hid hL
  have HA := Lib.hid hA
  clear hx hr hS hL hA
  go_enter Tryz.func98, Tryz.ntmps98
  go_wp2_with fail
  go_loopw [8] (fun i wr => ∃ k : Nat, k ≤ n ∧ i = .int .i64 k ∧ Hid (AtW B R T0 G0 (ts ++ (toks.map kT).take k) wr) ∧ Hid (WBut B R w wr) ∧ Hid (Safe R wr S))
    (fun i _ => n - (intOf i).toNat)
  case atStart => exact ⟨0, by omega, rfl, Lib.hid (by simpa using HA.out), Lib.hid (WBut.refl B R w), HS⟩
  case round =>
    obtain ⟨k, hk, rfl, Hw, Hb, Hs⟩ := hrel
    by_cases hlt : k < n
    · obtain ⟨a, ha, hin⟩ := (⟨toks[k]'(by rw [← Hx.out]; exact hlt), List.getElem?_eq_getElem _, List.getElem_mem _⟩ : ∃ a, toks[k]? = some a ∧ a ∈ toks)
      have hcell : ∀ j v, w.cell? ⟨S, j, none⟩ = some v → wr.cell? ⟨S, j, none⟩ = some v := fun j v h => (HS.out.cell Hb.out j).trans h
      obtain ⟨hsa, ca⟩ := NRow.get HR.out ha
      have c0 : wr.cell? ⟨S, o + k, none⟩ = some (.string a) := by
        have := hcell _ _ (ca 0 _ rfl)
        simpa using this
      have hSlt : S < wr.heap.size := Hs.out.lt
      have hRlt : R < wr.heap.size := Hw.out.lt
      have hBr : B ≤ wr.heap.size := Nat.le_trans hB Hb.out.size
      obtain ⟨gp, hgp⟩ : ∃ gp : ByteArray, gp = ⟨(gapA G0 (ts ++ (toks.map kT).take k)).toArray⟩ := ⟨_, rfl⟩
      obtain ⟨T, hT⟩ : ∃ T, T = T0 ++ puts G0 (ts ++ (toks.map kT).take k) := ⟨_, rfl⟩
      have hI : IsW B R T gp wr := by rw [hT, hgp]; exact Hw.out
      have htake : ts ++ (toks.map kT).take (k + 1) = (ts ++ (toks.map kT).take k) ++ [kT a] := by
        rw [List.append_assoc]
        congr 1
        rw [List.take_add_one, List.getElem?_map, ha]
        rfl
      have hnext : T0 ++ puts G0 (ts ++ (toks.map kT).take (k + 1)) = T ++ kT gp ++ kT a := by
        rw [htake, puts_one, hT, hgp, kT_mk (gapA G0 _)]
      have hgapn : gapA G0 (ts ++ (toks.map kT).take (k + 1)) = [32] := by rw [htake, gapA_one]
      have hlen : (T ++ kT gp ++ kT a).length ≤ 1000000000 := by
        rw [← hnext]
        have h1 : Lim T0 G0 ((ts ++ (toks.map kT).take (k + 1)) ++ (toks.map kT).drop (k + 1)) := by
          rw [List.append_assoc, List.take_append_drop]; exact HL.out
        exact h1.less
      rw [List.length_append, List.length_append] at hlen
      have hl1 : (kT gp).length = gp.size := rfl
      have hl2 : (kT a).length = a.size := rfl
      obtain ⟨cg, fg⟩ := hI.gap
      have HI := Lib.hid hI
      have HN := Lib.hid hnext
      have HG := Lib.hid hgapn
      clear hcell ca ha hin hgp hT htake hnext hgapn hI Hw
      go_upto_region 3 with (fail)
      go_still_tail 7, (by kernel_rfl)
      go_wp2_with fail
      refine (writeW_calls B R T gp gp wr.drew (IsW.stays HI.out (Below.refl _ wr).drew) (by omega) (by simpa using hBr)).mono ?_
      rintro e w1 ⟨rfl, h1, b1⟩
      have H1 := Lib.hid h1
      have B1 : Hid (WBut B R wr w1) := Lib.hid ((WBut.of (Below.refl _ wr).drew hBr).trans b1)
      have z1 : B ≤ w1.heap.size := Nat.le_trans hBr B1.out.size
      clear h1 b1
      go_wp2_with fail
      refine (writeW_calls B R (T ++ kT gp) gp a w1 H1.out (by rw [List.length_append]; omega) z1).mono ?_
      rintro e w2 ⟨rfl, h2, b2⟩
      have H2 := Lib.hid h2
      have B2 : Hid (WBut B R wr w2) := Lib.hid (B1.out.trans b2)
      obtain ⟨cg2, fg2⟩ := h2.gap
      have hR2 : R < w2.heap.size := h2.lt
      clear h2 b2 c0 cg fg
      go_wp2
      have h3 := H2.out.setGap (g' := ⟨#[32]⟩)
      go_roundw
      case rel =>
        refine ⟨k + 1, by omega, by go_num, Lib.hid ?_, Lib.hid (Hb.out.trans (B2.out.trans h3.2)), Lib.hid (Hs.out.but (B2.out.trans h3.2))⟩
        unfold AtW
        rw [HN.out, HG.out]
        exact h3.1
      case measure => simp [intOf]; omega
    · obtain rfl : k = n := by omega
      have hall : (toks.map kT).take k = toks.map kT := List.take_of_length_le (by rw [List.length_map, Hx.out]; exact Nat.le_refl _)
      go_wp2
      go_end0
      exact ⟨rfl, by rw [← hall]; exact Hw.out, Hb.out⟩
end Go.Proofs.YthilicmhdkmipaaGreatDoor
/- How long the texts of types, places and expressions are that are not too great. -/
namespace Go.Proofs.YthilicmhdkmipaaGreatDoor
open Go.RowKit
set_option linter.unusedVariables false

/-- what a row of tokens weighs: its bytes, and a blank for each -/
def wtT : List TkB → Nat
  | [] => 0
  | t :: l => t.length + 1 + wtT l
theorem wtT_app : ∀ a b : List TkB, wtT (a ++ b) = wtT a + wtT b
  | [], b => by simp [wtT]
  | t :: a, b => by rw [List.cons_append, wtT, wtT, wtT_app a b]; omega
theorem wtT_len : ∀ a : List TkB, a.length ≤ wtT a
  | [] => by simp [wtT]
  | t :: a => by rw [List.length_cons, wtT]; have := wtT_len a; omega
theorem wtT_mem : ∀ {a : List TkB} {t : TkB}, t ∈ a → t.length ≤ wtT a
  | u :: a, t, h => by
    rw [wtT]
    rcases List.mem_cons.1 h with rfl | h
    · omega
    · have := wtT_mem h; omega
theorem wtT_puts : ∀ (a : List TkB) (g : TkB), (puts g a).length ≤ g.length + wtT a
  | [], g => by simp [puts]
  | t :: a, g => by
    rw [puts, List.length_append, List.length_append, wtT]
    have := wtT_puts a [32]
    simp at this; omega
theorem wtT_line (a : List TkB) : (lineT a).length ≤ wtT a := by
  have := wtT_puts a []
  simpa [lineT] using this
theorem typeWord_len (k : Int) : (typeWord k).length ≤ 8 := by
  unfold typeWord
  generalize k.toNat = j
  by_cases h : j < 13
  · have hall : ∀ j : Fin 13, (([[], [105, 110, 116], [98, 111, 111, 108], [117, 110, 105, 116], [], [66, 111, 120], [67, 101, 108, 108], [82, 99], [65, 114, 99], [77, 117, 116, 101, 120], [65, 116, 111, 109, 105, 99], [83, 101, 110, 100, 101, 114], [82, 101, 99, 101, 105, 118, 101, 114]] : List TkB).getD j.val []).length ≤ 8 := by decide
    exact hall ⟨j, h⟩
  · rw [List.getD_eq_getElem?_getD, List.getElem?_eq_none (by simp; omega)]; simp
theorem exprWord_len (k : Int) : (exprWord k).length ≤ 6 := by
  unfold exprWord
  generalize k.toNat = j
  by_cases h : j < 37
  · have hall : ∀ j : Fin 37, (([[], [], [], [], [], [], [], [45], [110, 111, 116], [43], [45], [42], [47], [37], [60], [61, 61], [97, 110, 100], [111, 114], [], [], [], [98, 111, 120], [117, 110, 98, 111, 120], [99, 101, 108, 108], [103, 101, 116], [115, 101, 116], [114, 99], [97, 114, 99], [99, 108, 111, 110, 101], [109, 117, 116, 101, 120], [111, 112, 101, 110], [97, 116, 111, 109, 105, 99], [108, 111, 97, 100], [115, 116, 111, 114, 101], [102, 101, 116, 99, 104], [115, 101, 110, 100], [114, 101, 99, 118]] : List TkB).getD j.val []).length ≤ 6 := by decide
    exact hall ⟨j, h⟩
  · rw [List.getD_eq_getElem?_getD, List.getElem?_eq_none (by simp; omega)]; simp
theorem nameR_ok {m : Int} {n : Nat} (h : 0 ≤ nameR m n) : nameR m n = m - 5 - n := by
  unfold nameR at *
  split at h
  · omega
  · rename_i h2; rw [if_neg h2]
theorem typesR_neg : ∀ (l : List PT) (m : Int), m < 0 → typesR l m = m
  | [], m, _ => by rw [typesR]
  | t :: l, m, h => by rw [typesR, if_pos h]
theorem exprsR_neg : ∀ (l : List PE) (m : Int), m < 0 → exprsR l m = m
  | [], m, _ => by rw [exprsR]
  | t :: l, m, h => by rw [exprsR, if_pos h]
theorem kT_len (s : ByteArray) : (kT s).length = s.size := rfl
mutual
theorem typeR_w : ∀ (t : PT) (m : Int), 0 ≤ typeR t m → (wtT (tokT t) : Int) + 2 ≤ 5 * (m - typeR t m)
  | .mk k n ts, m, h => by
    rw [typeR] at h ⊢
    by_cases h0 : nameR m n.size < 0
    · rw [typesR_neg _ _ h0] at h; omega
    have hn := nameR_ok (m := m) (n := n.size) (by omega)
    have ih := typesR_w ts (nameR m n.size) h
    have hk := typeWord_len k
    have hkl := kT_len n
    rw [tokT]
    split
    · simp only [wtT]; omega
    · split
      · simp only [wtT]; omega
      · split
        · simp only [wtT, wAmp, List.length_cons, List.length_nil]; omega
        · split
          · simp only [wtT, wAmp, wMut, List.length_cons, List.length_nil]; omega
          · simp only [wtT, wLess, wMore, wtT_app, List.length_cons, List.length_nil]; omega
theorem typesR_w : ∀ (l : List PT) (m : Int), 0 ≤ typesR l m → (wtT (tokTs l) : Int) ≤ 5 * (m - typesR l m)
  | [], m, h => by rw [typesR, tokTs]; simp [wtT]
  | t :: l, m, h => by
    rw [typesR] at h ⊢
    by_cases h0 : m < 0
    · rw [if_pos h0] at h; omega
    rw [if_neg h0] at h ⊢
    by_cases h1 : typeR t m < 0
    · rw [typesR_neg _ _ h1] at h; omega
    have a := typeR_w t m (by omega)
    have b := typesR_w l (typeR t m) h
    rw [tokTs]
    have : (0 : Int) ≤ (wtT (tokTs l) : Int) := by omega
    omega
end
/-- names, and steps -/
theorem namesR_w : ∀ (l : List ByteArray) (m : Int), 0 ≤ listR (fun s m => nameR m s.size) l m → (wtT (stepsT l) : Int) ≤ 5 * (m - listR (fun s m => nameR m s.size) l m) ∧ (wtT (l.map kT) : Int) + 4 * l.length ≤ 5 * (m - listR (fun s m => nameR m s.size) l m)
  | [], m, h => by simp [listR, stepsT, wtT]
  | s :: l, m, h => by
    rw [listR] at h ⊢
    by_cases h0 : m < 0
    · rw [if_pos h0] at h; omega
    rw [if_neg h0] at h ⊢
    by_cases h1 : nameR m s.size < 0
    · rw [listR_neg h1] at h; omega
    have hn := nameR_ok (m := m) (n := s.size) (by omega)
    obtain ⟨a, b⟩ := namesR_w l (nameR m s.size) h
    have hkl := kT_len s
    constructor
    · rw [stepsT]; simp only [wtT, wDot, List.length_cons, List.length_nil]; omega
    · rw [List.map_cons, wtT, List.length_cons]; omega
theorem placeR_w (x : PP) (m : Int) (h : 0 ≤ placeR x m) : (wtT (tokP x) : Int) ≤ 5 * (m - placeR x m) ∧ (wtT (x.path.map kT) : Int) + 4 * x.path.length ≤ 5 * (m - placeR x m) ∧ placeR x m + 10 ≤ m := by
  unfold placeR namesR at *
  by_cases h0 : nameR m x.name.size - 5 < 0
  · rw [listR_neg h0] at h; omega
  have hn := nameR_ok (m := m) (n := x.name.size) (by omega)
  obtain ⟨a, b⟩ := namesR_w x.path _ h
  have hkl := kT_len x.name
  refine ⟨?_, by omega, by omega⟩
  unfold tokP
  rw [wtT]
  omega
end Go.Proofs.YthilicmhdkmipaaGreatDoor
