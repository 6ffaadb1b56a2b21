/- sets.Join, Less. -/
import Derived.Test.YtcllflpfmpggoaaSetsCode1
import Derived.Test.YtcllflpfmpggoaaOver
import Derived.Deep.MidRow
namespace Go.Proofs.Ytcllflpfmpggoaa
open Go.RowKit
set_option linter.unusedVariables false

theorem infoState : (Try.prog.info? 32).map (fun i => (i.zero, i.size, i.bytes)) = some (some (.agg #[.bool false, .slice none 0 0]), 2, 32) := by kernel_rfl
theorem two_at {w : World} {g : Nat} {x y : Value} (h0 : w.cell? ⟨g, 0, none⟩ = some x) (h1 : w.cell? ⟨g, 1, none⟩ = some y) : w.rangeAt g 0 [x, y] := by
  intro j v hj
  match j, hj with
  | 0, hj => cases hj; exact h0
  | 1, hj => cases hj; exact h1
theorem results_state {fn : Func} {p : Tmp} (h : fn.results = #[.cell p 32]) (tmps : Array Value) (w : World) (g : Nat) (x y : Value) (hp : tmps.getD p undef = .pointer (some ⟨g, 0, none⟩)) (h0 : w.cell? ⟨g, 0, none⟩ = some x) (h1 : w.cell? ⟨g, 1, none⟩ = some y) :
    (results fn tmps).run Try.prog w = .ok (.agg #[x, y]) w := by
  have hp' : tmps[p]?.getD undef = .pointer (some ⟨g, 0, none⟩) := by simpa using hp
  have hl := run_loadVar_mid (P := Try.prog) w g 0 32 [x, y] _ (two_at h0 h1) Try.underlying32 rfl (by kernel_rfl)
  simp [results, h, hp', asAddr, hl]

def lessB (da : Bool) (la : List ByteArray) (db : Bool) (lb : List ByteArray) : Bool := db || (!da && withinN la lb)
set_option maxRecDepth 100000 in
set_option maxHeartbeats 2000000 in
theorem less_calls (B : Nat) (da db : Bool) (a b : List ByteArray) (va vb : Value) (hla : a.length ≤ 1000) (hlb : b.length ≤ 1000) (w : World) (hB : B ≤ w.heap.size) (ha : SIn B w a va) (hb : SIn B w b vb) :
    Calls Try.prog 26 #[.agg #[.bool da, va], .agg #[.bool db, vb]] w fun e w' => e = .returned (.bool (lessB da a db b)) ∧ Below w.heap.size w w' := by
  have HC : Hid (∀ W, Below w.heap.size w W → _) := Lib.hid fun W (h : Below w.heap.size w W) => within_calls B a b va vb hla hlb W (Nat.le_trans hB h.size) (ha.below (h.mono hB)) (hb.below (h.mono hB))
  obtain ⟨a1, c1, rfl⟩ := ha.of
  obtain ⟨a2, c2, rfl⟩ := hb.of
  unfold lessB
  generalize withinN a b = r at *
  clear ha hb hla hlb
  generalize a.length = n1 at *
  generalize b.length = n2 at *
  cases db
  · cases da
    · go_enter Try.func26, Try.ntmps26
      go_wp2_with fail
      obtain ⟨W1, hW⟩ : ∃ W, W = (w.alloc (.cells #[.bool false, .slice a1 n1 c1] 32)).alloc (.cells #[.bool false, .slice a2 n2 c2] 32) := ⟨_, rfl⟩
      have b1 : Below w.heap.size w W1 := by rw [hW]; exact box2 _ _ _
      rw [← hW]
      clear hW
      have H1 := Lib.hid (HC.out W1 b1)
      have Hb := Lib.hid b1
      clear b1 HC
      refine H1.out.mono ?_
      rintro e w2 ⟨rfl, b2⟩
      go_wp2_with fail
      go_ret
      exact ⟨ret_bool (by simp), Hb.out.trans (b2.mono Hb.out.size)⟩
    · go_enter Try.func26, Try.ntmps26
      go_wp2_with fail
      go_ret
      exact ⟨rfl, box2 _ _ _⟩
  · go_enter Try.func26, Try.ntmps26
    go_wp2_with fail
    go_ret
    exact ⟨rfl, box2 _ _ _⟩

def joinL (da : Bool) (a : List ByteArray) (db : Bool) (b : List ByteArray) : List ByteArray :=
  if da && db then [] else if da then pickN b b true else if db then pickN a a true else pickN a b true
/-- the end of Join: what is built stands in the result's cells -/
theorem join_end {w W1 w2 : World} {l : List ByteArray} {v : Value} {g : Nat} (hb1 : Below w.heap.size w W1) (hg : g < W1.heap.size) (hg0 : w.heap.size ≤ g) (hb2 : Below W1.heap.size W1 w2) (ho : w2.ownsRow W1.heap.size 9 1 v l.length (l.map .string)) (hs : ∀ z, z ∈ l → z.size ≤ strMax) (hl : l.length ≤ 1000) (z0 z1 : Value) :
    SIn (((w2.setCell ⟨g, 0, none⟩ z0).setCell ⟨g, 1, none⟩ z1)).heap.size ((w2.setCell ⟨g, 0, none⟩ z0).setCell ⟨g, 1, none⟩ z1) l v ∧ Below w.heap.size w ((w2.setCell ⟨g, 0, none⟩ z0).setCell ⟨g, 1, none⟩ z1) := by
  have h1 : ((w2.setCell ⟨g, 0, none⟩ z0).setCell ⟨g, 1, none⟩ z1).ownsRow W1.heap.size 9 1 v l.length (l.map .string) := own_set (own_set ho hg _) hg _
  refine ⟨own_S h1 hs (by unfold maxLen; omega), ?_⟩
  exact ((hb1.trans (hb2.mono hb1.size)).setCell hg0 _).setCell hg0 _

theorem join_cells {w : World} {g : Nat} {x0 x1 z0 z1 : Value} (k0 : w.cell? ⟨g, 0, none⟩ = some x0) (k1 : w.cell? ⟨g, 1, none⟩ = some x1) :
    ((w.setCell ⟨g, 0, none⟩ z0).setCell ⟨g, 1, none⟩ z1).cell? ⟨g, 0, none⟩ = some z0 ∧ ((w.setCell ⟨g, 0, none⟩ z0).setCell ⟨g, 1, none⟩ z1).cell? ⟨g, 1, none⟩ = some z1 := by
  constructor
  · rw [World.cell?_setCell_other (h := by simp)]
    exact World.cell?_setCell_same _ _ _ k0
  · refine World.cell?_setCell_same _ _ _ (u := x1) ?_
    rw [World.cell?_setCell_other (h := by simp)]
    exact k1

set_option maxRecDepth 100000 in
set_option maxHeartbeats 2000000 in
theorem join_calls (B : Nat) (da db : Bool) (a b : List ByteArray) (va vb : Value) (hla : a.length ≤ 1000) (hlb : b.length ≤ 1000) (w : World) (hB : B ≤ w.heap.size) (ha : SIn B w a va) (hb : SIn B w b vb) :
    Calls Try.prog 25 #[.agg #[.bool da, va], .agg #[.bool db, vb]] w fun e w' => ∃ v', e = .returned (.agg #[.bool (da && db), v']) ∧ SIn w'.heap.size w' (joinL da a db b) v' ∧ Below w.heap.size w w' := by
  have HC : Hid (∀ W, Below w.heap.size w W → _) := Lib.hid fun W (h : Below w.heap.size w W) => common_calls B a b va vb hla hlb W (Nat.le_trans hB h.size) (ha.below (h.mono hB)) (hb.below (h.mono hB))
  have HA : Hid (∀ W, Below w.heap.size w W → _) := Lib.hid fun W (h : Below w.heap.size w W) => common_calls B a a va va hla hla W (Nat.le_trans hB h.size) (ha.below (h.mono hB)) (ha.below (h.mono hB))
  have HD : Hid (∀ W, Below w.heap.size w W → _) := Lib.hid fun W (h : Below w.heap.size w W) => common_calls B b b vb vb hlb hlb W (Nat.le_trans hB h.size) (hb.below (h.mono hB)) (hb.below (h.mono hB))
  have S0 := Lib.hid (pick_small (b := b) (is := true) ha)
  have S1 := Lib.hid (pick_small (b := a) (is := true) ha)
  have S2 := Lib.hid (pick_small (b := b) (is := true) hb)
  have L0 := Lib.hid (Nat.le_trans (pick_len a b true) hla)
  have L1 := Lib.hid (Nat.le_trans (pick_len a a true) hla)
  have L2 := Lib.hid (Nat.le_trans (pick_len b b true) hlb)
  obtain ⟨a1, c1, rfl⟩ := ha.of
  obtain ⟨a2, c2, rfl⟩ := hb.of
  unfold joinL
  generalize pickN a b true = l0 at *
  generalize pickN a a true = l1 at *
  generalize pickN b b true = l2 at *
  clear ha hb hla hlb
  generalize a.length = n1 at *
  generalize b.length = n2 at *
  cases db
  · cases da
    · show Calls _ _ _ _ fun e w' => ∃ v', e = .returned (.agg #[.bool false, v']) ∧ SIn w'.heap.size w' l0 v' ∧ Below w.heap.size w w'
      clear HA HD S1 S2 L1 L2
      go_enter Try.func25, Try.ntmps25
      go_wp2_with fail
      obtain ⟨W1, hW⟩ : ∃ W, W = ((w.alloc (.cells #[.bool false, .slice a1 n1 c1] 32)).alloc (.cells #[.bool false, .slice a2 n2 c2] 32)).alloc (.cells #[.bool false, .slice none 0 0] 32) := ⟨_, rfl⟩
      have b1 : Below w.heap.size w W1 := by rw [hW]; exact (box2 _ _ _).alloc (by simp; omega) _
      have z1 : w.heap.size + 1 + 1 < W1.heap.size := by rw [hW]; simp
      have k0 : W1.cell? ⟨w.heap.size + 1 + 1, 0, none⟩ = some (.bool false) := by rw [hW]; go_simp
      have k1 : W1.cell? ⟨w.heap.size + 1 + 1, 1, none⟩ = some (.slice none 0 0) := by rw [hW]; go_simp
      have f0 : W1.frozen? ⟨w.heap.size + 1 + 1, 0, none⟩ = false := by rw [hW]; go_simp
      have f1 : W1.frozen? ⟨w.heap.size + 1 + 1, 1, none⟩ = false := by rw [hW]; go_simp
      rw [← hW]
      clear hW
      refine (HC.out W1 b1).mono ?_
      rintro e w2 ⟨v, rfl, ho, b2⟩
      have k0 := (b2.cell (p := ⟨w.heap.size + 1 + 1, 0, none⟩) z1).trans k0
      have k1 := (b2.cell (p := ⟨w.heap.size + 1 + 1, 1, none⟩) z1).trans k1
      have f0 := (b2.frozen (p := ⟨w.heap.size + 1 + 1, 0, none⟩) z1).trans f0
      have f1 := (b2.frozen (p := ⟨w.heap.size + 1 + 1, 1, none⟩) z1).trans f1
      obtain ⟨va, vc, rfl⟩ := own_shape ho
      have HE := Lib.hid (join_end b1 z1 (by omega) b2 ho S0.out L0.out (.bool false) (.slice va l0.length vc))
      clear b1 b2 ho HC S0 L0
      generalize l0.length = n3 at *
      go_wp2_with fail
      have HF := Lib.hid (join_cells (z0 := .bool false) (z1 := .slice va n3 vc) k0 k1)
      refine bodyPost_ret (v := .agg #[.bool false, .slice va n3 vc]) (results_state rfl _ _ (w.heap.size + 1 + 1) _ _ rfl HF.out.1 HF.out.2) rfl ⟨_, rfl, HE.out.1, HE.out.2⟩
    · show Calls _ _ _ _ fun e w' => ∃ v', e = .returned (.agg #[.bool false, v']) ∧ SIn w'.heap.size w' l2 v' ∧ Below w.heap.size w w'
      clear HA HC S0 S1 L0 L1
      go_enter Try.func25, Try.ntmps25
      go_wp2_with fail
      obtain ⟨W1, hW⟩ : ∃ W, W = ((w.alloc (.cells #[.bool false, .slice a2 n2 c2] 32)).alloc (.cells #[.bool false, .slice a2 n2 c2] 32)).alloc (.cells #[.bool false, .slice none 0 0] 32) := ⟨_, rfl⟩
      have b1 : Below w.heap.size w W1 := by rw [hW]; exact (box2 _ _ _).alloc (by simp; omega) _
      have z1 : w.heap.size + 1 + 1 < W1.heap.size := by rw [hW]; simp
      have k0 : W1.cell? ⟨w.heap.size + 1 + 1, 0, none⟩ = some (.bool false) := by rw [hW]; go_simp
      have k1 : W1.cell? ⟨w.heap.size + 1 + 1, 1, none⟩ = some (.slice none 0 0) := by rw [hW]; go_simp
      have f0 : W1.frozen? ⟨w.heap.size + 1 + 1, 0, none⟩ = false := by rw [hW]; go_simp
      have f1 : W1.frozen? ⟨w.heap.size + 1 + 1, 1, none⟩ = false := by rw [hW]; go_simp
      rw [← hW]
      clear hW
      refine (HD.out W1 b1).mono ?_
      rintro e w2 ⟨v, rfl, ho, b2⟩
      have k0 := (b2.cell (p := ⟨w.heap.size + 1 + 1, 0, none⟩) z1).trans k0
      have k1 := (b2.cell (p := ⟨w.heap.size + 1 + 1, 1, none⟩) z1).trans k1
      have f0 := (b2.frozen (p := ⟨w.heap.size + 1 + 1, 0, none⟩) z1).trans f0
      have f1 := (b2.frozen (p := ⟨w.heap.size + 1 + 1, 1, none⟩) z1).trans f1
      obtain ⟨va, vc, rfl⟩ := own_shape ho
      have HE := Lib.hid (join_end b1 z1 (by omega) b2 ho S2.out L2.out (.bool false) (.slice va l2.length vc))
      clear b1 b2 ho HD S2 L2
      generalize l2.length = n3 at *
      go_wp2_with fail
      have HF := Lib.hid (join_cells (z0 := .bool false) (z1 := .slice va n3 vc) k0 k1)
      refine bodyPost_ret (v := .agg #[.bool false, .slice va n3 vc]) (results_state rfl _ _ (w.heap.size + 1 + 1) _ _ rfl HF.out.1 HF.out.2) rfl ⟨_, rfl, HE.out.1, HE.out.2⟩
  · cases da
    · show Calls _ _ _ _ fun e w' => ∃ v', e = .returned (.agg #[.bool false, v']) ∧ SIn w'.heap.size w' l1 v' ∧ Below w.heap.size w w'
      clear HC HD S0 S2 L0 L2
      go_enter Try.func25, Try.ntmps25
      go_wp2_with fail
      obtain ⟨W1, hW⟩ : ∃ W, W = ((w.alloc (.cells #[.bool false, .slice a1 n1 c1] 32)).alloc (.cells #[.bool false, .slice a1 n1 c1] 32)).alloc (.cells #[.bool false, .slice none 0 0] 32) := ⟨_, rfl⟩
      have b1 : Below w.heap.size w W1 := by rw [hW]; exact (box2 _ _ _).alloc (by simp; omega) _
      have z1 : w.heap.size + 1 + 1 < W1.heap.size := by rw [hW]; simp
      have k0 : W1.cell? ⟨w.heap.size + 1 + 1, 0, none⟩ = some (.bool false) := by rw [hW]; go_simp
      have k1 : W1.cell? ⟨w.heap.size + 1 + 1, 1, none⟩ = some (.slice none 0 0) := by rw [hW]; go_simp
      have f0 : W1.frozen? ⟨w.heap.size + 1 + 1, 0, none⟩ = false := by rw [hW]; go_simp
      have f1 : W1.frozen? ⟨w.heap.size + 1 + 1, 1, none⟩ = false := by rw [hW]; go_simp
      rw [← hW]
      clear hW
      refine (HA.out W1 b1).mono ?_
      rintro e w2 ⟨v, rfl, ho, b2⟩
      have k0 := (b2.cell (p := ⟨w.heap.size + 1 + 1, 0, none⟩) z1).trans k0
      have k1 := (b2.cell (p := ⟨w.heap.size + 1 + 1, 1, none⟩) z1).trans k1
      have f0 := (b2.frozen (p := ⟨w.heap.size + 1 + 1, 0, none⟩) z1).trans f0
      have f1 := (b2.frozen (p := ⟨w.heap.size + 1 + 1, 1, none⟩) z1).trans f1
      obtain ⟨va, vc, rfl⟩ := own_shape ho
      have HE := Lib.hid (join_end b1 z1 (by omega) b2 ho S1.out L1.out (.bool false) (.slice va l1.length vc))
      clear b1 b2 ho HA S1 L1
      generalize l1.length = n3 at *
      go_wp2_with fail
      have HF := Lib.hid (join_cells (z0 := .bool false) (z1 := .slice va n3 vc) k0 k1)
      refine bodyPost_ret (v := .agg #[.bool false, .slice va n3 vc]) (results_state rfl _ _ (w.heap.size + 1 + 1) _ _ rfl HF.out.1 HF.out.2) rfl ⟨_, rfl, HE.out.1, HE.out.2⟩
    · show Calls _ _ _ _ fun e w' => ∃ v', e = .returned (.agg #[.bool true, v']) ∧ SIn w'.heap.size w' [] v' ∧ Below w.heap.size w w'
      clear HA HD HC S0 S1 S2 L0 L1 L2
      go_enter Try.func25, Try.ntmps25
      go_wp2_with fail
      refine bodyPost_ret (v := .agg #[.bool true, .slice none 0 0]) (results_state rfl _ _ (w.heap.size + 1 + 1) _ _ rfl (by go_simp) (by go_simp)) rfl ⟨_, rfl, ⟨0, 0, ⟨Nat.zero_le _, none, 0, rfl, Nat.le_refl _, .inl rfl⟩, fun j s h => by cases h⟩, (box2 _ _ _).alloc (by simp; omega) _⟩
end Go.Proofs.Ytcllflpfmpggoaa
