/- TreeApart: the walk. -/
import Derived.Test.YtojeijeimpffgaaGreatQTreeAwake
import Derived.Test.YtojeijeimpffgaaGreatQTreeGreat
import Derived.Test.YtojeijeimpffgaaGreatQTreeRefPT
import Derived.Test.YtojeijeimpffgaaGreatQJoinM
import Derived.Test.YtojeijeimpffgaaGreatQJoinL
import Derived.Test.YtojeijeimpffgaaGreatQJoinB
import Derived.Test.YtojeijeimpffgaaGreatQTreePartP
import Derived.Deep.RegionHeld3
import Derived.Deep.Cut
import Derived.Deep.CutRange
import Derived.Test.YtojeijeimpffgaaGreatQJoinD
namespace Go.Proofs.YtojeijeimpffgaaGreat
open Go.RowKit
set_option linter.unusedVariables false

theorem below_alloc {a w : World} (h : Below a.heap.size a w) (o : Obj) : Below a.heap.size a (w.alloc o) := h.alloc h.size o
theorem first_below {a w1 w' : World} (hw : Below a.heap.size a w1) (b : Below w1.heap.size w1 w') : Below a.heap.size a w' := hw.trans (b.mono hw.size)
theorem box_one {a w : World} {v : Value} {t : TypeId} (b : Below (a.alloc (.cells #[v] t)).heap.size (a.alloc (.cells #[v] t)) w) : w.cell? ⟨a.heap.size, 0, none⟩ = some v ∧ w.frozen? ⟨a.heap.size, 0, none⟩ = false ∧ a.heap.size < w.heap.size := by
  have hs := b.size
  have h1 : a.heap.size < (a.alloc (.cells #[v] t)).heap.size := by simp
  have hb := (b.block a.heap.size h1).trans (heap_alloc_new a (.cells #[v] t))
  exact ⟨cell_of_row w _ 0 _ _ _ hb, box_frozen hb, Nat.lt_of_lt_of_le h1 hs⟩
theorem box_two {a w : World} {u v : Value} {s t : TypeId} (b : Below ((a.alloc (.cells #[u] s)).alloc (.cells #[v] t)).heap.size ((a.alloc (.cells #[u] s)).alloc (.cells #[v] t)) w) : w.cell? ⟨a.heap.size, 0, none⟩ = some u ∧ w.frozen? ⟨a.heap.size, 0, none⟩ = false ∧ w.cell? ⟨a.heap.size + 1, 0, none⟩ = some v ∧ w.frozen? ⟨a.heap.size + 1, 0, none⟩ = false ∧ a.heap.size + 1 < w.heap.size := by
  have hs := b.size
  have h1 : a.heap.size + 1 < ((a.alloc (.cells #[u] s)).alloc (.cells #[v] t)).heap.size := by simp
  obtain ⟨h2, h3, h4⟩ := box_one b
  have hb := (b.block a.heap.size (by omega)).trans ((Below.heap_alloc _ (.cells #[v] t) a.heap.size (by simp)).trans (heap_alloc_new a (.cells #[u] s)))
  rw [show (a.alloc (.cells #[u] s)).heap.size = a.heap.size + 1 from by simp] at h2 h3
  exact ⟨cell_of_row w _ 0 _ _ _ hb, box_frozen hb, h2, h3, Nat.lt_of_lt_of_le h1 hs⟩
theorem box_oneD {a w : World} {v : Value} {t : TypeId} (b : Below (a.alloc (.cells #[v] t)).drew.heap.size (a.alloc (.cells #[v] t)).drew w) : w.cell? ⟨a.heap.size, 0, none⟩ = some v ∧ w.frozen? ⟨a.heap.size, 0, none⟩ = false ∧ a.heap.size < w.heap.size := box_one (((Below.refl _ _).drew).trans b)
theorem box_twoD {a w : World} {u v : Value} {s t : TypeId} (b : Below ((a.alloc (.cells #[u] s)).alloc (.cells #[v] t)).drew.heap.size ((a.alloc (.cells #[u] s)).alloc (.cells #[v] t)).drew w) : w.cell? ⟨a.heap.size, 0, none⟩ = some u ∧ w.frozen? ⟨a.heap.size, 0, none⟩ = false ∧ w.cell? ⟨a.heap.size + 1, 0, none⟩ = some v ∧ w.frozen? ⟨a.heap.size + 1, 0, none⟩ = false ∧ a.heap.size + 1 < w.heap.size := box_two (((Below.refl _ _).drew).trans b)
theorem box_one_k {a w : World} {v : Value} {t : TypeId} {G : Prop} (b : Below (a.alloc (.cells #[v] t)).heap.size (a.alloc (.cells #[v] t)) w) (k : w.cell? ⟨a.heap.size, 0, none⟩ = some v → w.frozen? ⟨a.heap.size, 0, none⟩ = false → a.heap.size < w.heap.size → G) : G := by
  obtain ⟨h1, h2, h3⟩ := box_one b; exact k h1 h2 h3
theorem box_two_k {a w : World} {u v : Value} {s t : TypeId} {G : Prop} (b : Below ((a.alloc (.cells #[u] s)).alloc (.cells #[v] t)).heap.size ((a.alloc (.cells #[u] s)).alloc (.cells #[v] t)) w) (k : w.cell? ⟨a.heap.size, 0, none⟩ = some u → w.frozen? ⟨a.heap.size, 0, none⟩ = false → w.cell? ⟨a.heap.size + 1, 0, none⟩ = some v → w.frozen? ⟨a.heap.size + 1, 0, none⟩ = false → a.heap.size + 1 < w.heap.size → G) : G := by
  obtain ⟨h1, h2, h3, h4, h5⟩ := box_two b; exact k h1 h2 h3 h4 h5
theorem box_oneD_k {a w : World} {v : Value} {t : TypeId} {G : Prop} (b : Below (a.alloc (.cells #[v] t)).drew.heap.size (a.alloc (.cells #[v] t)).drew w) (k : w.cell? ⟨a.heap.size, 0, none⟩ = some v → w.frozen? ⟨a.heap.size, 0, none⟩ = false → a.heap.size < w.heap.size → G) : G := by
  obtain ⟨h1, h2, h3⟩ := box_oneD b; exact k h1 h2 h3
theorem box_twoD_k {a w : World} {u v : Value} {s t : TypeId} {G : Prop} (b : Below ((a.alloc (.cells #[u] s)).alloc (.cells #[v] t)).drew.heap.size ((a.alloc (.cells #[u] s)).alloc (.cells #[v] t)).drew w) (k : w.cell? ⟨a.heap.size, 0, none⟩ = some u → w.frozen? ⟨a.heap.size, 0, none⟩ = false → w.cell? ⟨a.heap.size + 1, 0, none⟩ = some v → w.frozen? ⟨a.heap.size + 1, 0, none⟩ = false → a.heap.size + 1 < w.heap.size → G) : G := by
  obtain ⟨h1, h2, h3, h4, h5⟩ := box_twoD b; exact k h1 h2 h3 h4 h5
theorem lt_k {a b c : Nat} {G : Prop} (h : a < b) (h2 : b ≤ c) (k : a < c → G) : G := k (Nat.lt_of_lt_of_le h h2)
theorem low_drew {B : Nat} {W0 w : World} (h : ∀ b o, b < B → w.cell? ⟨b, o, none⟩ = W0.cell? ⟨b, o, none⟩) : ∀ b o, b < B → w.drew.cell? ⟨b, o, none⟩ = W0.cell? ⟨b, o, none⟩ := h
theorem low_alloc {B : Nat} {W0 w : World} (h : ∀ b o, b < B → w.cell? ⟨b, o, none⟩ = W0.cell? ⟨b, o, none⟩) (hB : B ≤ w.heap.size) (x : Obj) : ∀ b o, b < B → (w.alloc x).cell? ⟨b, o, none⟩ = W0.cell? ⟨b, o, none⟩ := fun b o hb =>
  (World.cell?_of_block (Below.heap_alloc w x b (by omega))).trans (h b o hb)
theorem progIn_below {B : Nat} {W W' : World} {l : List PI} {v : Value} (h : ProgIn B W l v) (b : Below B W W') : ProgIn B W' l v := by
  obtain ⟨b1, o, h1, h2⟩ := h
  exact ⟨b1, o, h1, PI.Row.below' b h1 h2⟩
theorem ProgIn.later {W W' : World} {l : List PI} {v : Value} (h : ProgIn W.heap.size W l v) (b : Below W.heap.size W W') : ProgIn W'.heap.size W' l v := by
  obtain ⟨b1, o, h1, h2⟩ := h
  exact ⟨b1, o, h1.up b.size, PI.Row.reads b.size (fun a v hc => (b.cell (World.block_lt_of_cell? W a hc)).trans hc) h2⟩
/-- what was made in blocks from m below H stays what it is as long as these lie as they lay -/
def LiesP (m H : Nat) (W : World) (l : List PI) (v : Value) : Prop := ∀ W', H ≤ W'.heap.size → (∀ i, m ≤ i → i < H → W'.heap[i]? = W.heap[i]?) → ProgIn W'.heap.size W' l v
theorem lies_two {w3 w4 wx : World} {m1 m2 : Nat} {p q : List PI} {v1 v2 : Value} (hA : LiesP m1 w3.heap.size w3 p v1) (hE : LiesP m2 w4.heap.size w4 q v2) (b3 : w3.heap.size ≤ wx.heap.size) (b4 : w4.heap.size ≤ wx.heap.size)
    (b6 : ∀ i, m1 ≤ i → i < w3.heap.size → wx.heap[i]? = w3.heap[i]?) (b8 : ∀ i, m2 ≤ i → i < w4.heap.size → wx.heap[i]? = w4.heap[i]?) :
    (∀ W, Below wx.heap.size wx W → ProgIn W.heap.size W p v1) ∧ (∀ W, Below wx.heap.size wx W → ProgIn W.heap.size W q v2) :=
  ⟨fun W h => hA W (by have := h.size; omega) fun i h1 h2 => (h.block i (by omega)).trans (b6 i h1 h2), fun W h => hE W (by have := h.size; omega) fun i h1 h2 => (h.block i (by omega)).trans (b8 i h1 h2)⟩
attribute [local go_sem ↓] Go.wp_at_zero Go.wp_at_succ
set_option maxRecDepth 100000 in
set_option maxHeartbeats 8000000 in
theorem treeApart0_walk (p q pe : List PI) (p1 : Option Addr) (n q1 : Nat) (p2 : Option Addr) (n2 q2 : Nat) (w : World) (hp : ProgIn w.heap.size w p (.slice p1 n q1)) (hq : ProgIn w.heap.size w q (.slice p2 n2 q2)) (d sz : Nat) (wp s : Bool)
    (AW : Hid (∀ W, Below w.heap.size w W → Calls Tryz.prog 14 #[] W fun e w' => e = .returned (.bool true) ∧ Below W.heap.size W w'))
    (GP : Hid (∀ W v, Below w.heap.size w W → ProgIn W.heap.size W p v → Calls Tryz.prog 5 #[.agg #[v]] W fun e w' => e = .returned (.bool false) ∧ Below W.heap.size W w'))
    (GQ : Hid (∀ W v, Below w.heap.size w W → ProgIn W.heap.size W q v → Calls Tryz.prog 5 #[.agg #[v]] W fun e w' => e = .returned (.bool false) ∧ Below W.heap.size W w'))
    (CC : Hid (∀ W, Below w.heap.size w W → Calls Tryz.prog 15 #[.agg #[.slice p1 n q1]] W fun e w' => ∃ ua uc, e = .returned (.agg #[.slice ua n uc]) ∧ Hid (LiesP W.heap.size w'.heap.size w' p (.slice ua n uc)) ∧ Below W.heap.size W w'))
    (CE : Hid (∀ W, Below w.heap.size w W → Calls Tryz.prog 16 #[.agg #[.slice p1 n q1]] W fun e w' => ∃ ua uc, e = .returned (.agg #[.slice ua n uc]) ∧ Hid (LiesP W.heap.size w'.heap.size w' pe (.slice ua n uc)) ∧ Below W.heap.size W w'))
    (CF : Hid (∀ W v, ProgIn W.heap.size W pe v → Calls Tryz.prog 16 #[.agg #[v]] W fun e w' => ∃ v2, e = .returned (.agg #[v2]) ∧ Hid (ProgIn w'.heap.size w' pe v2) ∧ Below W.heap.size W w'))
    (SM : Hid (∀ W l m v1 v2, ProgIn W.heap.size W l v1 → ProgIn W.heap.size W m v2 → Calls Tryz.prog 17 #[.agg #[v1], .agg #[v2]] W fun e w' => e = .returned (.bool (sameProg false l m)) ∧ Below W.heap.size W w'))
    (RS : Hid (∀ W v1 v2, ProgIn W.heap.size W pe v1 → ProgIn W.heap.size W pe v2 → Calls Tryz.prog 13 #[.agg #[v1], .agg #[v2], .bool true] W fun e w' => e = .returned (.bool true) ∧ Below W.heap.size W w'))
    (WH : Hid (∀ W v, Below w.heap.size w W → (ProgIn W.heap.size W p v ∨ ProgIn W.heap.size W pe v) → Calls Tryz.prog 7 #[.agg #[v]] W fun e w' => e = .returned (.bool wp) ∧ Below W.heap.size W w'))
    (DP : Hid (∀ W v, Below w.heap.size w W → (ProgIn W.heap.size W p v ∨ ProgIn W.heap.size W pe v) → Calls Tryz.prog 9 #[.agg #[v]] W fun e w' => e = .returned (.int .i64 (d : Int)) ∧ Below W.heap.size W w'))
    (SP : Hid (∀ W v, Below w.heap.size w W → (ProgIn W.heap.size W p v ∨ ProgIn W.heap.size W pe v) → Calls Tryz.prog 11 #[.agg #[v]] W fun e w' => e = .returned (.int .i64 (sz : Int)) ∧ Below W.heap.size W w'))
    (h1 : sameProg false p p = true) (h2 : sameProg false p pe = true) (h3 : sameProg false p q = s) (h4 : sameProg false q p = s) :
    Calls Tryz.prog 4 #[.agg #[.slice p1 n q1], .agg #[.slice p2 n2 q2]] w fun r w' => r = .returned (.bool true) ∧ Below w.heap.size w w' := by
  have PP := Lib.hid (fun (W : World) (h : Below w.heap.size w W) => ProgIn.later hp h)
  have PQ := Lib.hid (fun (W : World) (h : Below w.heap.size w W) => ProgIn.later hq h)
  have bx := Lib.hid (box2 w (.cells #[.slice p1 n q1] 24) (.cells #[.slice p2 n2 q2] 24))
  have H1 := Lib.hid h1
  have H2 := Lib.hid h2
  have H3 := Lib.hid h3
  have H4 := Lib.hid h4
  clear hp hq h1 h2 h3 h4
  go_enter Tryz.func4, Tryz.ntmps4
  go_wp2_with fail
  refine (AW.out _ bx.out).mono ?_; rintro e w1 ⟨rfl, b1⟩
  have bel1 := Lib.hid (up_tr bx.out b1)
  have hc1 := old_cells b1
  go_wp2_with fail
  refine (GP.out _ _ bel1.out (PP.out _ bel1.out)).mono ?_; rintro e w2 ⟨rfl, b2⟩
  have bel2 := Lib.hid (up_tr bel1.out b2)
  have qq := up_tr b1 b2
  have hc2 := old_cells qq
  clear hc1 b1 b2
  go_wp2_with fail
  refine (GQ.out _ _ bel2.out (PQ.out _ bel2.out)).mono ?_; rintro e wa ⟨rfl, b3⟩
  have BA : Hid (Below w.heap.size w wa) := Lib.hid (up_tr bel2.out b3)
  have q3 := up_tr qq b3
  have z0 : w.heap.size + 2 ≤ wa.heap.size := by have := q3.size; simpa using this
  have a0 : wa.cell? ⟨w.heap.size, 0, none⟩ = some (.slice p1 n q1) := (q3.cell (p := ⟨w.heap.size, 0, none⟩) (by first | (simp; done) | (simp; omega))).trans (by go_simp)
  have a1 : wa.cell? ⟨w.heap.size + 1, 0, none⟩ = some (.slice p2 n2 q2) := (q3.cell (p := ⟨w.heap.size + 1, 0, none⟩) (by first | (simp; done) | (simp; omega))).trans (by go_simp)
  have zb : w.heap.size < wa.heap.size := by omega
  have zc : w.heap.size + 1 < wa.heap.size := by omega
  clear hc2 b3 qq q3 bel1 bel2 GP GQ AW bx z0
  go_upto_region 5 with (fail)
  have CC2 : Hid (∀ W, Below wa.heap.size wa W → Calls Tryz.prog 15 #[.agg #[.slice p1 n q1]] W fun e w' => ∃ ua uc, e = .returned (.agg #[.slice ua n uc]) ∧ Hid (LiesP W.heap.size w'.heap.size w' p (.slice ua n uc)) ∧ Below W.heap.size W w') := Lib.hid fun W h => CC.out W (BA.out.trans (h.mono (by omega)))
  have CE2 : Hid (∀ W, Below wa.heap.size wa W → Calls Tryz.prog 16 #[.agg #[.slice p1 n q1]] W fun e w' => ∃ ua uc, e = .returned (.agg #[.slice ua n uc]) ∧ Hid (LiesP W.heap.size w'.heap.size w' pe (.slice ua n uc)) ∧ Below W.heap.size W w') := Lib.hid fun W h => CE.out W (BA.out.trans (h.mono (by omega)))
  clear CC CE
  go_cut [5, 6] from 7 to 84 (fun s5 s6 wx => ∃ x y xa xc ya yc, s5 = .pointer (some ⟨x, 0, none⟩) ∧ s6 = .pointer (some ⟨y, 0, none⟩) ∧ wx.cell? ⟨x, 0, none⟩ = some (.slice xa n xc) ∧ wx.cell? ⟨y, 0, none⟩ = some (.slice ya n yc) ∧ x < wx.heap.size ∧ y < wx.heap.size ∧ wa.heap.size ≤ x ∧ wa.heap.size ≤ y ∧ Hid (Below wa.heap.size wa wx) ∧ Hid ((∀ W, Below wx.heap.size wx W → ProgIn W.heap.size W p (.slice xa n xc)) ∧ (∀ W, Below wx.heap.size wx W → ProgIn W.heap.size W pe (.slice ya n yc))))
  case first =>
    have HB : Hid (Below wa.heap.size wa wa.drew) := Lib.hid (Below.refl _ wa).drew
    have XB : ∀ b o, b < wa.heap.size → wa.drew.cell? ⟨b, o, none⟩ = wa.cell? ⟨b, o, none⟩ := fun b o _ => rfl
    have zh : wa.heap.size ≤ wa.drew.heap.size := Nat.le_refl _
    go_region_law
      (first
        | (go_simp; go_at_call 15; (first | (with_reducible refine (CC2.out _ HB.out).mono ?_) | (with_reducible refine (CC2.out _ (below_alloc (Below.refl _ wa) _).drew).mono ?_) | (with_reducible refine (CC2.out _ (below_alloc (below_alloc (Below.refl _ wa) _) _).drew).mono ?_))
           rintro e w3 ⟨xa, xc, rfl, hA, bA⟩
           have HB : Hid (Below wa.heap.size wa w3) := Lib.hid ((first_below (by first | exact HB.out | exact (below_alloc (Below.refl _ wa) _).drew | exact (below_alloc (below_alloc (Below.refl _ wa) _) _).drew) bA))
           have XB : ∀ b o, b < wa.heap.size → w3.cell? ⟨b, o, none⟩ = wa.cell? ⟨b, o, none⟩ := low_of HB.out (Nat.le_refl _)
           have zh : wa.heap.size ≤ w3.heap.size := HB.out.size
           have HBA := Lib.hid bA
           have zA : wa.heap.size ≤ w3.heap.size := HB.out.size
           have zw : w.heap.size < w3.heap.size := Nat.lt_of_lt_of_le zb zh
           have a0 : w3.cell? ⟨w.heap.size, 0, none⟩ = some (.slice p1 n q1) := (XB w.heap.size 0 zb).trans a0
           obtain ⟨cA, fA⟩ := bcell bA
           have sA := bA.size
           (try ((with_reducible refine box_twoD_k (a := wa) bA ?_); intro k1 k2 k3 k4 k5))
           (try ((with_reducible refine box_oneD_k (a := wa) bA ?_); intro k1 k2 k3))
           clear bA)
        | (go_simp; go_at_call 16; (first | (with_reducible refine (CE2.out _ HB.out).mono ?_) | (with_reducible refine (CE2.out _ (below_alloc HB.out _)).mono ?_) | (with_reducible refine (CE2.out _ (below_alloc (below_alloc HB.out _) _)).mono ?_))
           rintro e w4 ⟨ya, yc, rfl, hE, bE⟩
           have XB : ∀ b o, b < wa.heap.size → w4.cell? ⟨b, o, none⟩ = wa.cell? ⟨b, o, none⟩ := low_of (first_below (by first | exact HB.out | exact below_alloc HB.out _ | exact below_alloc (below_alloc HB.out _) _) bE) (Nat.le_refl _)
           have HB : Hid (Below wa.heap.size wa w4) := Lib.hid (first_below (by first | exact HB.out | exact below_alloc HB.out _ | exact below_alloc (below_alloc HB.out _) _) bE)
           have zh : wa.heap.size ≤ w4.heap.size := HB.out.size
           have HBE := Lib.hid bE
           have zw4 : w.heap.size < w4.heap.size := Nat.lt_of_lt_of_le zb zh
           obtain ⟨cE, fE⟩ := bcell bE
           have B34 : Below w3.heap.size w3 w4 := (by first | exact bE | exact ((Below.refl _ w3).alloc (Nat.le_refl _) _).trans (bE.mono (by simp)) | exact (((Below.refl _ w3).alloc (Nat.le_refl _) _).alloc (by simp) _).trans (bE.mono (by simp; omega)))
           obtain ⟨c34, f34⟩ := bcell B34
           have s34 := B34.size
           (try ((with_reducible refine lt_k k3 s34 ?_); intro e3))
           (try ((with_reducible refine lt_k k5 s34 ?_); intro e5))
           (try ((with_reducible refine lt_k (Nat.lt_of_succ_lt k5) s34 ?_); intro e6))
           (try ((with_reducible refine lt_k (Nat.lt_of_succ_lt k5) (Nat.le_refl _) ?_); intro e7))
           (try ((with_reducible refine box_two_k (a := w3) bE ?_); intro k6 k7 k8 k9 k0; (with_reducible refine lt_k (Nat.lt_of_succ_lt k0) (Nat.le_refl _) ?_); intro e8))
           (try ((with_reducible refine box_one_k (a := w3) bE ?_); intro k6 k7 k8))
           have sE := bE.size
           clear bE))
    all_goals
      go_wp2_with fail
      go_meet
      case rel =>
        refine ⟨_, _, xa, xc, ya, yc, rfl, rfl, ?a1, ?a2, ?a3, ?a4, ?a5, ?a6, Lib.hid ?a7, Lib.hid (lies_two hA.out hE.out ?b3 ?b4 ?b6 ?b8)⟩
        case a1 => go_simp
        case a2 => go_simp
        case a3 => first | omega | (simp; done) | (simp; omega)
        case a4 => first | omega | (simp; done) | (simp; omega)
        case a5 => first | omega | (simp; done) | (simp; omega)
        case a6 => first | omega | (simp; done) | (simp; omega)
        case a7 =>
          repeat (first | exact HB.out | refine below_alloc ?_ _ | refine Below.setCell ?_ (by first | (simp; done) | (simp; exact zA) | (simp; omega)) _)
        case b3 => first | omega | (simp; done) | (simp; omega)
        case b4 => first | exact Nat.le_refl _ | omega | (simp; done) | (simp; omega)
        case b6 =>
          intro i h1 h2
          (try simp at h1)
          repeat (first | rw [Below.heap_alloc _ _ i (by first | omega | (simp; omega))] | rw [Below.heap_setCell _ _ _ i (by first | omega | (simp; omega))])
          exact B34.block i h2
        case b8 =>
          intro i h1 h2
          (try simp at h1)
          repeat (first | rw [Below.heap_alloc _ _ i (by first | omega | (simp; omega))] | rw [Below.heap_setCell _ _ _ i (by first | omega | (simp; omega))])
  case rest =>
    obtain ⟨x, y, xa, xc, ya, yc, rfl, rfl, hx, hy, hxl, hyl, hxa, hya, HBx, HC⟩ := hcut
    have sx := HBx.out.size
    have WX : Hid (Below w.heap.size w wc) := Lib.hid (BA.out.trans (HBx.out.mono (by omega)))
    have c0 : wc.cell? ⟨w.heap.size, 0, none⟩ = some (.slice p1 n q1) := (HBx.out.cell (p := ⟨w.heap.size, 0, none⟩) (by simp; omega)).trans a0
    have c1 : wc.cell? ⟨w.heap.size + 1, 0, none⟩ = some (.slice p2 n2 q2) := (HBx.out.cell (p := ⟨w.heap.size + 1, 0, none⟩) (by simp; omega)).trans a1
    have z0 : w.heap.size < wc.heap.size := by omega
    have z1 : w.heap.size + 1 < wc.heap.size := by omega
    have LA : Hid (∀ W, Below wc.heap.size wc W → ProgIn W.heap.size W p (.slice xa n xc)) := Lib.hid HC.out.1
    have LB : Hid (∀ W, Below wc.heap.size wc W → ProgIn W.heap.size W pe (.slice ya n yc)) := Lib.hid HC.out.2
    have KW : Hid (∀ W, Below wc.heap.size wc W → Below w.heap.size w W) := Lib.hid fun W h => WX.out.trans (h.mono WX.out.size)
    have LP : Hid (∀ W, Below wc.heap.size wc W → ProgIn W.heap.size W p (.slice p1 n q1)) := Lib.hid fun W h => PP.out W (KW.out W h)
    have LQ : Hid (∀ W, Below wc.heap.size wc W → ProgIn W.heap.size W q (.slice p2 n2 q2)) := Lib.hid fun W h => PQ.out W (KW.out W h)
    clear HC CC2 CE2 BA HBx PP PQ sx a0 a1 zb zc hxa hya
    go_upto_region 6 with (fail)
    have hF := Over.cells (W0 := wc)
    have A1 : Hid (∀ n' : Over wc, Calls Tryz.prog 17 #[.agg #[.slice p1 n q1], .agg #[.slice xa n xc]] n'.w fun e w'' => e = .returned (.bool true) ∧ ∃ m : Over wc, w'' = m.w) := Lib.hid fun n' => over_calls (by have := SM.out n'.w p p _ _ (LP.out _ n'.h) (LA.out _ n'.h); rwa [H1.out] at this)
    have A2 : Hid (∀ n' : Over wc, Calls Tryz.prog 17 #[.agg #[.slice p1 n q1], .agg #[.slice ya n yc]] n'.w fun e w'' => e = .returned (.bool true) ∧ ∃ m : Over wc, w'' = m.w) := Lib.hid fun n' => over_calls (by have := SM.out n'.w p pe _ _ (LP.out _ n'.h) (LB.out _ n'.h); rwa [H2.out] at this)
    have A3 : Hid (∀ n' : Over wc, Calls Tryz.prog 17 #[.agg #[.slice p1 n q1], .agg #[.slice p1 n q1]] n'.w fun e w'' => e = .returned (.bool true) ∧ ∃ m : Over wc, w'' = m.w) := Lib.hid fun n' => over_calls (by have := SM.out n'.w p p _ _ (LP.out _ n'.h) (LP.out _ n'.h); rwa [H1.out] at this)
    have A4 : Hid (∀ n' : Over wc, Calls Tryz.prog 17 #[.agg #[.slice p1 n q1], .agg #[.slice p2 n2 q2]] n'.w fun e w'' => e = .returned (.bool s) ∧ ∃ m : Over wc, w'' = m.w) := Lib.hid fun n' => over_calls (by have := SM.out n'.w p q _ _ (LP.out _ n'.h) (LQ.out _ n'.h); rwa [H3.out] at this)
    have A5 : Hid (∀ n' : Over wc, Calls Tryz.prog 17 #[.agg #[.slice p2 n2 q2], .agg #[.slice p1 n q1]] n'.w fun e w'' => e = .returned (.bool s) ∧ ∃ m : Over wc, w'' = m.w) := Lib.hid fun n' => over_calls (by have := SM.out n'.w q p _ _ (LQ.out _ n'.h) (LP.out _ n'.h); rwa [H4.out] at this)
    have A6 : Hid (∀ n' : Over wc, Calls Tryz.prog 17 #[.agg #[.slice xa n xc], .agg #[.slice p2 n2 q2]] n'.w fun e w'' => e = .returned (.bool s) ∧ ∃ m : Over wc, w'' = m.w) := Lib.hid fun n' => over_calls (by have := SM.out n'.w p q _ _ (LA.out _ n'.h) (LQ.out _ n'.h); rwa [H3.out] at this)
    have es : (s != s) = false := bne_self_eq_false s
    have ew : (wp == wp) = true := beq_self_eq_true wp
    have ed : ((d : Int) == (d : Int)) = true := beq_self_eq_true (d : Int)
    have ez : ((sz : Int) == (sz : Int)) = true := beq_self_eq_true (sz : Int)
    refine wp_region_over (by kernel_rfl) (by kernel_rfl) ?_
    repeat (go_big_quiet_step ((first | (go_at_call 17; with_reducible exact A1.out _) | (go_at_call 17; with_reducible exact A2.out _) | (go_at_call 17; with_reducible exact A3.out _) | (go_at_call 17; with_reducible exact A4.out _) | (go_at_call 17; with_reducible exact A5.out _) | (go_at_call 17; with_reducible exact A6.out _))))
    refine wpQuiet_nil ?_
    rintro _ ⟨m, rfl⟩
    have e0 := m.cells w.heap.size 0 z0
    have e2 := m.cells x 0 hxl
    have e3 := m.cells y 0 hyl
    have zm := m.h.size
    rw [c0] at e0
    rw [hx] at e2
    rw [hy] at e3
    have y0 : w.heap.size < m.w.heap.size := by omega
    have y2 : x < m.w.heap.size := by omega
    have y3 : y < m.w.heap.size := by omega
    have MB := Lib.hid m.h
    clear A1 A2 A3 A4 A5 A6 hF c0 c1 hx hy z0 z1 hxl hyl zm
    generalize m.w = wd at *
    have KD : Hid (∀ W, Below wd.heap.size wd W → Below wc.heap.size wc W) := Lib.hid fun W h => MB.out.trans (h.mono MB.out.size)
    have W1 : Hid (∀ W, Below wd.heap.size wd W → Calls Tryz.prog 7 #[.agg #[.slice xa n xc]] W fun e w' => e = .returned (.bool wp) ∧ Below W.heap.size W w') := Lib.hid fun W h => WH.out W _ (KW.out _ (KD.out _ h)) (.inl (LA.out _ (KD.out _ h)))
    have W2 : Hid (∀ W, Below wd.heap.size wd W → Calls Tryz.prog 7 #[.agg #[.slice p1 n q1]] W fun e w' => e = .returned (.bool wp) ∧ Below W.heap.size W w') := Lib.hid fun W h => WH.out W _ (KW.out _ (KD.out _ h)) (.inl (LP.out _ (KD.out _ h)))
    have W3 : Hid (∀ W, Below wd.heap.size wd W → Calls Tryz.prog 7 #[.agg #[.slice ya n yc]] W fun e w' => e = .returned (.bool wp) ∧ Below W.heap.size W w') := Lib.hid fun W h => WH.out W _ (KW.out _ (KD.out _ h)) (.inr (LB.out _ (KD.out _ h)))
    have D2 : Hid (∀ W, Below wd.heap.size wd W → Calls Tryz.prog 9 #[.agg #[.slice p1 n q1]] W fun e w' => e = .returned (.int .i64 (d : Int)) ∧ Below W.heap.size W w') := Lib.hid fun W h => DP.out W _ (KW.out _ (KD.out _ h)) (.inl (LP.out _ (KD.out _ h)))
    have D3 : Hid (∀ W, Below wd.heap.size wd W → Calls Tryz.prog 9 #[.agg #[.slice ya n yc]] W fun e w' => e = .returned (.int .i64 (d : Int)) ∧ Below W.heap.size W w') := Lib.hid fun W h => DP.out W _ (KW.out _ (KD.out _ h)) (.inr (LB.out _ (KD.out _ h)))
    have S2 : Hid (∀ W, Below wd.heap.size wd W → Calls Tryz.prog 11 #[.agg #[.slice p1 n q1]] W fun e w' => e = .returned (.int .i64 (sz : Int)) ∧ Below W.heap.size W w') := Lib.hid fun W h => SP.out W _ (KW.out _ (KD.out _ h)) (.inl (LP.out _ (KD.out _ h)))
    have S3 : Hid (∀ W, Below wd.heap.size wd W → Calls Tryz.prog 11 #[.agg #[.slice ya n yc]] W fun e w' => e = .returned (.int .i64 (sz : Int)) ∧ Below W.heap.size W w') := Lib.hid fun W h => SP.out W _ (KW.out _ (KD.out _ h)) (.inr (LB.out _ (KD.out _ h)))
    have E3 : Hid (∀ W, Below wd.heap.size wd W → Calls Tryz.prog 16 #[.agg #[.slice ya n yc]] W fun e w' => ∃ v2, e = .returned (.agg #[v2]) ∧ Hid (ProgIn w'.heap.size w' pe v2) ∧ Below W.heap.size W w') := Lib.hid fun W h => CF.out W _ (LB.out _ (KD.out _ h))
    have R3 : Hid (∀ W v2, Hid (ProgIn W.heap.size W pe v2) → Below wd.heap.size wd W → Calls Tryz.prog 13 #[.agg #[v2], .agg #[.slice ya n yc], .bool true] W fun e w' => e = .returned (.bool true) ∧ Below W.heap.size W w') := Lib.hid fun W v2 h2 h => RS.out W _ _ h2.out (LB.out _ (KD.out _ h))
    have KE : Hid (∀ W, Below wd.heap.size wd W → Below w.heap.size w W) := Lib.hid fun W h => KW.out _ (KD.out _ h)
    clear KD KW MB LA LB LP LQ WH DP SP CF RS SM H1 H2 H3 H4 WX
    go_upto_region 8 with (fail)
    have HB : Hid (Below wd.heap.size wd wd.drew) := Lib.hid (Below.refl _ wd).drew
    have XB : ∀ b o, b < wd.heap.size → wd.drew.cell? ⟨b, o, none⟩ = wd.cell? ⟨b, o, none⟩ := fun b o _ => rfl
    go_region_held3 (fun w' => ∀ b o, b < wd.heap.size → w'.cell? ⟨b, o, none⟩ = wd.cell? ⟨b, o, none⟩) (with_reducible exact XB)
      (first
        | (go_at_call 7; (with_reducible refine (W1.out _ HB.out).mono ?_)
           rintro e x0 ⟨rfl, bj⟩
           have zh := HB.out.size
           have HB : Hid (Below wd.heap.size wd x0) := Lib.hid (HB.out.trans (bj.mono zh))
           have XB : ∀ b o, b < wd.heap.size → x0.cell? ⟨b, o, none⟩ = wd.cell? ⟨b, o, none⟩ := low_of HB.out (Nat.le_refl _)
           clear bj zh)
        | (go_at_call 7; (with_reducible refine (W2.out _ HB.out).mono ?_)
           rintro e x1 ⟨rfl, bj⟩
           have zh := HB.out.size
           have HB : Hid (Below wd.heap.size wd x1) := Lib.hid (HB.out.trans (bj.mono zh))
           have XB : ∀ b o, b < wd.heap.size → x1.cell? ⟨b, o, none⟩ = wd.cell? ⟨b, o, none⟩ := low_of HB.out (Nat.le_refl _)
           clear bj zh)
        | (go_at_call 7; (with_reducible refine (W3.out _ HB.out).mono ?_)
           rintro e x2 ⟨rfl, bj⟩
           have zh := HB.out.size
           have HB : Hid (Below wd.heap.size wd x2) := Lib.hid (HB.out.trans (bj.mono zh))
           have XB : ∀ b o, b < wd.heap.size → x2.cell? ⟨b, o, none⟩ = wd.cell? ⟨b, o, none⟩ := low_of HB.out (Nat.le_refl _)
           clear bj zh)
        | (go_at_call 9; (with_reducible refine (D2.out _ HB.out).mono ?_)
           rintro e x3 ⟨rfl, bj⟩
           have zh := HB.out.size
           have HB : Hid (Below wd.heap.size wd x3) := Lib.hid (HB.out.trans (bj.mono zh))
           have XB : ∀ b o, b < wd.heap.size → x3.cell? ⟨b, o, none⟩ = wd.cell? ⟨b, o, none⟩ := low_of HB.out (Nat.le_refl _)
           clear bj zh)
        | (go_at_call 9; (with_reducible refine (D3.out _ HB.out).mono ?_)
           rintro e x4 ⟨rfl, bj⟩
           have zh := HB.out.size
           have HB : Hid (Below wd.heap.size wd x4) := Lib.hid (HB.out.trans (bj.mono zh))
           have XB : ∀ b o, b < wd.heap.size → x4.cell? ⟨b, o, none⟩ = wd.cell? ⟨b, o, none⟩ := low_of HB.out (Nat.le_refl _)
           clear bj zh)
        | (go_at_call 11; (with_reducible refine (S2.out _ HB.out).mono ?_)
           rintro e x5 ⟨rfl, bj⟩
           have zh := HB.out.size
           have HB : Hid (Below wd.heap.size wd x5) := Lib.hid (HB.out.trans (bj.mono zh))
           have XB : ∀ b o, b < wd.heap.size → x5.cell? ⟨b, o, none⟩ = wd.cell? ⟨b, o, none⟩ := low_of HB.out (Nat.le_refl _)
           clear bj zh)
        | (go_at_call 11; (with_reducible refine (S3.out _ HB.out).mono ?_)
           rintro e x6 ⟨rfl, bj⟩
           have zh := HB.out.size
           have HB : Hid (Below wd.heap.size wd x6) := Lib.hid (HB.out.trans (bj.mono zh))
           have XB : ∀ b o, b < wd.heap.size → x6.cell? ⟨b, o, none⟩ = wd.cell? ⟨b, o, none⟩ := low_of HB.out (Nat.le_refl _)
           clear bj zh)
        | (go_at_call 16; (with_reducible refine (E3.out _ HB.out).mono ?_)
           rintro e x8 ⟨v2, rfl, hv2, bj⟩
           have zh := HB.out.size
           have HB : Hid (Below wd.heap.size wd x8) := Lib.hid (HB.out.trans (bj.mono zh))
           have XB : ∀ b o, b < wd.heap.size → x8.cell? ⟨b, o, none⟩ = wd.cell? ⟨b, o, none⟩ := low_of HB.out (Nat.le_refl _)
           clear bj zh)
        | (go_at_call 13; (with_reducible refine (R3.out _ _ hv2 HB.out).mono ?_)
           rintro e x9 ⟨rfl, bj⟩
           have zh := HB.out.size
           have HB : Hid (Below wd.heap.size wd x9) := Lib.hid (HB.out.trans (bj.mono zh))
           have XB : ∀ b o, b < wd.heap.size → x9.cell? ⟨b, o, none⟩ = wd.cell? ⟨b, o, none⟩ := low_of HB.out (Nat.le_refl _)
           clear bj zh))
    have HFm := Lib.hid (KE.out _ HB.out)
    go_wp2
    go_ret
    exact ⟨rfl, HFm.out⟩
set_option maxRecDepth 100000 in
set_option maxHeartbeats 8000000 in
theorem treeApart1_walk (p : List PI) (p1 : Option Addr) (n1 c1 : Nat) (p2 : Option Addr) (n2 c2 : Nat) (w : World) (hp : ProgIn w.heap.size w p (.slice p1 n1 c1))
    (AW : Hid (∀ W, Below w.heap.size w W → Calls Tryz.prog 14 #[] W fun e w' => e = .returned (.bool true) ∧ Below W.heap.size W w'))
    (GP : Hid (∀ W v, Below w.heap.size w W → ProgIn W.heap.size W p v → Calls Tryz.prog 5 #[.agg #[v]] W fun e w' => e = .returned (.bool true) ∧ Below W.heap.size W w')) :
    Calls Tryz.prog 4 #[.agg #[.slice p1 n1 c1], .agg #[.slice p2 n2 c2]] w fun r w' => r = .returned (.bool true) ∧ Below w.heap.size w w' := by
  have PP := Lib.hid (fun (W : World) (h : Below w.heap.size w W) => ProgIn.later hp h)
  have bx := Lib.hid (box2 w (.cells #[.slice p1 n1 c1] 24) (.cells #[.slice p2 n2 c2] 24))
  clear hp
  go_enter Tryz.func4, Tryz.ntmps4
  go_wp2_with fail
  refine (AW.out _ bx.out).mono ?_; rintro e w1 ⟨rfl, b1⟩
  have bel1 := Lib.hid (up_tr bx.out b1)
  have hc1 := old_cells b1
  go_wp2_with fail
  refine (GP.out _ _ bel1.out (PP.out _ bel1.out)).mono ?_; rintro e w2 ⟨rfl, b2⟩
  have bel2 := Lib.hid (up_tr bel1.out b2)
  clear b2
  go_wp2
  go_ret
  exact ⟨rfl, bel2.out⟩
set_option maxRecDepth 100000 in
set_option maxHeartbeats 8000000 in
theorem treeApart2_walk (p q : List PI) (p1 : Option Addr) (n1 c1 : Nat) (p2 : Option Addr) (n2 c2 : Nat) (w : World) (hp : ProgIn w.heap.size w p (.slice p1 n1 c1)) (hq : ProgIn w.heap.size w q (.slice p2 n2 c2))
    (AW : Hid (∀ W, Below w.heap.size w W → Calls Tryz.prog 14 #[] W fun e w' => e = .returned (.bool true) ∧ Below W.heap.size W w'))
    (GP : Hid (∀ W v, Below w.heap.size w W → ProgIn W.heap.size W p v → Calls Tryz.prog 5 #[.agg #[v]] W fun e w' => e = .returned (.bool false) ∧ Below W.heap.size W w'))
    (GQ : Hid (∀ W v, Below w.heap.size w W → ProgIn W.heap.size W q v → Calls Tryz.prog 5 #[.agg #[v]] W fun e w' => e = .returned (.bool true) ∧ Below W.heap.size W w')) :
    Calls Tryz.prog 4 #[.agg #[.slice p1 n1 c1], .agg #[.slice p2 n2 c2]] w fun r w' => r = .returned (.bool true) ∧ Below w.heap.size w w' := by
  have PP := Lib.hid (fun (W : World) (h : Below w.heap.size w W) => ProgIn.later hp h)
  have PQ := Lib.hid (fun (W : World) (h : Below w.heap.size w W) => ProgIn.later hq h)
  have bx := Lib.hid (box2 w (.cells #[.slice p1 n1 c1] 24) (.cells #[.slice p2 n2 c2] 24))
  clear hp hq
  go_enter Tryz.func4, Tryz.ntmps4
  go_wp2_with fail
  refine (AW.out _ bx.out).mono ?_; rintro e w1 ⟨rfl, b1⟩
  have bel1 := Lib.hid (up_tr bx.out b1)
  have hc1 := old_cells b1
  go_wp2_with fail
  refine (GP.out _ _ bel1.out (PP.out _ bel1.out)).mono ?_; rintro e w2 ⟨rfl, b2⟩
  have bel2 := Lib.hid (up_tr bel1.out b2)
  have qq := up_tr b1 b2
  have hc2 := old_cells qq
  clear hc1 b1 b2
  go_wp2_with fail
  refine (GQ.out _ _ bel2.out (PQ.out _ bel2.out)).mono ?_; rintro e w3 ⟨rfl, b3⟩
  have bel3 := Lib.hid (up_tr bel2.out b3)
  clear b3
  go_wp2
  go_ret
  exact ⟨rfl, bel3.out⟩
theorem progIn_shape {B : Nat} {W : World} {l : List PI} {v : Value} (h : ProgIn B W l v) : ∃ ao n c, v = .slice ao n c := by
  obtain ⟨b, o, ⟨_, ao, c, e, _⟩, _⟩ := h
  exact ⟨ao, _, c, e⟩
theorem IsF.lies {m : Nat} {W : World} {l : List PI} {v : Value} (h : IsF m W l v) : LiesP m W.heap.size W l v := fun W' hs k => by
  obtain ⟨b, o, h1, h2⟩ := h
  refine ⟨b, o, h1.up hs, PI.Row.reads hs (fun a x hc => ?_) h2⟩
  obtain ⟨h3, h4, _⟩ := Fr.cell hc
  exact (World.cell?_of_block (k _ h4 (World.block_lt_of_cell? W a h3))).trans h3
set_option maxHeartbeats 2000000 in
theorem treeApart_walk (p q : List PI) (p1 : Option Addr) (n1 c1 : Nat) (p2 : Option Addr) (n2 c2 : Nat) (w : World) (hm : MaxOk w) (hp : ProgIn w.heap.size w p (.slice p1 n1 c1)) (hq : ProgIn w.heap.size w q (.slice p2 n2 c2)) :
    Calls Tryz.prog 4 #[.agg #[.slice p1 n1 c1], .agg #[.slice p2 n2 c2]] w fun r w' => r = .returned (.bool true) ∧ Below w.heap.size w w' := by
  have hn : n1 = p.length := by
    obtain ⟨b, o, h1, _⟩ := hp
    exact (slv_len h1).1
  have AW : Hid (∀ W, Below w.heap.size w W → Calls Tryz.prog 14 #[] W fun e w' => e = .returned (.bool true) ∧ Below W.heap.size W w') := Lib.hid fun W b => awake_calls W (hm.below b)
  by_cases hg : progR p 20000 < 0
  · exact treeApart1_walk p p1 n1 c1 p2 n2 c2 w hp AW (Lib.hid fun W v b h => by
      have := great_calls W.heap.size p v W (Nat.le_refl _) h
      rwa [decide_eq_true hg] at this)
  · have GP : Hid (∀ W v, Below w.heap.size w W → ProgIn W.heap.size W p v → Calls Tryz.prog 5 #[.agg #[v]] W fun e w' => e = .returned (.bool false) ∧ Below W.heap.size W w') := Lib.hid fun W v b h => by
      have := great_calls W.heap.size p v W (Nat.le_refl _) h
      rwa [decide_eq_false hg] at this
    by_cases hg2 : progR q 20000 < 0
    · exact treeApart2_walk p q p1 n1 c1 p2 n2 c2 w hp hq AW GP (Lib.hid fun W v b h => by
        have := great_calls W.heap.size q v W (Nat.le_refl _) h
        rwa [decide_eq_true hg2] at this)
    · obtain ⟨hb, hs⟩ := prog_bound hg
      obtain ⟨hl, hS⟩ := progR_sm hg
      have hl2 : (p.map (erI false)).length ≤ 1000000 := by rw [List.length_map]; exact hl
      have hS2 : ∀ x, x ∈ p.map (erI false) → SmI x := fun x hx => by
        obtain ⟨y, h1, rfl⟩ := List.mem_map.1 hx
        exact smI_er false (hS y h1)
      have he := rtP_er false p
      refine treeApart0_walk p q (p.map (erI false)) p1 n1 c1 p2 n2 c2 w hp hq (depthR (rtP p)) (sizeR (rtP p)) (wholeR 40 (rtP p)) (sameProg false p q) AW GP (Lib.hid fun W v b h => by
        have := great_calls W.heap.size q v W (Nat.le_refl _) h
        rwa [decide_eq_false hg2] at this) (Lib.hid fun W b => ?_) (Lib.hid fun W b => ?_) (Lib.hid fun W v h => ?_) (Lib.hid fun W l m v1 v2 h1 h2 => topSame_calls W.heap.size l m v1 v2 W (Nat.le_refl _) h1 h2) (Lib.hid fun W v1 v2 h1 h2 => ?_) (Lib.hid fun W v b h => ?_) (Lib.hid fun W v b h => ?_) (Lib.hid fun W v b h => ?_) (sameProg_refl false p) (sameProg_er2 false p) rfl (sameProg_comm false q p)
      · have h1 := copy_calls p hl hS w.heap.size (.slice p1 n1 c1) W b.size (progIn_below hp b)
        rw [← hn, erIs_true] at h1
        refine h1.mono ?_
        rintro e w' ⟨ua, uc, h2, h3, h4⟩
        exact ⟨ua, uc, h2, Lib.hid h3.out.lies, h4⟩
      · have h1 := erase_calls p hl hS w.heap.size (.slice p1 n1 c1) W b.size (progIn_below hp b)
        rw [← hn] at h1
        refine h1.mono ?_
        rintro e w' ⟨ua, uc, h2, h3, h4⟩
        exact ⟨ua, uc, h2, Lib.hid h3.out.lies, h4⟩
      · have h1 := erase_calls (p.map (erI false)) hl2 hS2 W.heap.size v W (Nat.le_refl _) h
        rw [erP_twice] at h1
        refine h1.mono ?_
        rintro e w' ⟨ua, uc, h2, h3, h4⟩
        exact ⟨_, h2, Lib.hid (h3.out.lies w' (Nat.le_refl _) fun _ _ _ => rfl), h4⟩
      · have := refProg_callsT W.heap.size _ _ v1 v2 W (Nat.le_refl _) h1 h2
        rwa [sameProg_refl] at this
      · rcases h with h | h
        · obtain ⟨ao, n, c, rfl⟩ := progIn_shape h
          exact topWhole_calls W.heap.size _ ao n c W (Nat.le_refl _) (hm.below b) h
        · obtain ⟨ao, n, c, rfl⟩ := progIn_shape h
          have := topWhole_calls W.heap.size _ ao n c W (Nat.le_refl _) (hm.below b) h
          rwa [he] at this
      · rcases h with h | h
        · obtain ⟨ao, n, c, rfl⟩ := progIn_shape h
          exact topDepth_calls W.heap.size _ ao n c W (Nat.le_refl _) (hm.below b) h (by omega)
        · obtain ⟨ao, n, c, rfl⟩ := progIn_shape h
          have := topDepth_calls W.heap.size _ ao n c W (Nat.le_refl _) (hm.below b) h (by rw [he]; omega)
          rwa [he] at this
      · rcases h with h | h
        · obtain ⟨ao, n, c, rfl⟩ := progIn_shape h
          exact topSize_calls W.heap.size _ ao n c W (Nat.le_refl _) (hm.below b) h (by omega)
        · obtain ⟨ao, n, c, rfl⟩ := progIn_shape h
          have := topSize_calls W.heap.size _ ao n c W (Nat.le_refl _) (hm.below b) h (by rw [he]; omega)
          rwa [he] at this
end Go.Proofs.YtojeijeimpffgaaGreat
