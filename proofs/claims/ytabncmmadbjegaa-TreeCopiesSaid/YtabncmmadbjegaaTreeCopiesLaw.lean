/- TreeCopies: the walk. -/
import Derived.Test.YtabncmmadbjegaaTreeCopier
import Derived.Test.YtabncmmadbjegaaTreeSpoil
import Derived.Test.YtabncmmadbjegaaTreeSmall
import Derived.Test.YtabncmmadbjegaaTreeRefPT
import Derived.Test.YtabncmmadbjegaaTreeGreat
import Derived.Deep.RegionHeld3
import Derived.Deep.Cut
import Derived.Deep.CutRange
namespace Go.Proofs.Ytabncmmadbjegaa
open Go.RowKit
set_option linter.unusedVariables false

theorem below_alloc {a w : World} (h : Below a.heap.size a w) (o : Obj) : Below a.heap.size a (w.alloc o) := h.alloc h.size o
theorem first_below {a w1 w' : World} (hw : Below a.heap.size a w1) (b : Below w1.heap.size w1 w') : Below a.heap.size a w' := hw.trans (b.mono hw.size)
theorem box_one {a w : World} {v : Value} {t : TypeId} (b : Below (a.alloc (.cells #[v] t)).heap.size (a.alloc (.cells #[v] t)) w) : w.cell? ⟨a.heap.size, 0, none⟩ = some v ∧ w.frozen? ⟨a.heap.size, 0, none⟩ = false ∧ a.heap.size < w.heap.size := by
  have hs := b.size
  have h1 : a.heap.size < (a.alloc (.cells #[v] t)).heap.size := by simp
  have hb := (b.block a.heap.size h1).trans (heap_alloc_new a (.cells #[v] t))
  exact ⟨cell_of_row w _ 0 _ _ _ hb, box_frozen hb, Nat.lt_of_lt_of_le h1 hs⟩
theorem box_two {a w : World} {u v : Value} {s t : TypeId} (b : Below ((a.alloc (.cells #[u] s)).alloc (.cells #[v] t)).heap.size ((a.alloc (.cells #[u] s)).alloc (.cells #[v] t)) w) : w.cell? ⟨a.heap.size, 0, none⟩ = some u ∧ w.frozen? ⟨a.heap.size, 0, none⟩ = false ∧ w.cell? ⟨a.heap.size + 1, 0, none⟩ = some v ∧ w.frozen? ⟨a.heap.size + 1, 0, none⟩ = false ∧ a.heap.size + 1 < w.heap.size := by
  have hs := b.size
  have h1 : a.heap.size + 1 < ((a.alloc (.cells #[u] s)).alloc (.cells #[v] t)).heap.size := by simp
  obtain ⟨h2, h3, h4⟩ := box_one b
  have hb := (b.block a.heap.size (by omega)).trans ((Below.heap_alloc _ (.cells #[v] t) a.heap.size (by simp)).trans (heap_alloc_new a (.cells #[u] s)))
  rw [show (a.alloc (.cells #[u] s)).heap.size = a.heap.size + 1 from by simp] at h2 h3
  exact ⟨cell_of_row w _ 0 _ _ _ hb, box_frozen hb, h2, h3, Nat.lt_of_lt_of_le h1 hs⟩
theorem box_oneD {a w : World} {v : Value} {t : TypeId} (b : Below (a.alloc (.cells #[v] t)).drew.heap.size (a.alloc (.cells #[v] t)).drew w) : w.cell? ⟨a.heap.size, 0, none⟩ = some v ∧ w.frozen? ⟨a.heap.size, 0, none⟩ = false ∧ a.heap.size < w.heap.size := box_one (((Below.refl _ _).drew).trans b)
theorem box_twoD {a w : World} {u v : Value} {s t : TypeId} (b : Below ((a.alloc (.cells #[u] s)).alloc (.cells #[v] t)).drew.heap.size ((a.alloc (.cells #[u] s)).alloc (.cells #[v] t)).drew w) : w.cell? ⟨a.heap.size, 0, none⟩ = some u ∧ w.frozen? ⟨a.heap.size, 0, none⟩ = false ∧ w.cell? ⟨a.heap.size + 1, 0, none⟩ = some v ∧ w.frozen? ⟨a.heap.size + 1, 0, none⟩ = false ∧ a.heap.size + 1 < w.heap.size := box_two (((Below.refl _ _).drew).trans b)
theorem box_one_k {a w : World} {v : Value} {t : TypeId} {G : Prop} (b : Below (a.alloc (.cells #[v] t)).heap.size (a.alloc (.cells #[v] t)) w) (k : w.cell? ⟨a.heap.size, 0, none⟩ = some v → w.frozen? ⟨a.heap.size, 0, none⟩ = false → a.heap.size < w.heap.size → G) : G := by
  obtain ⟨h1, h2, h3⟩ := box_one b; exact k h1 h2 h3
theorem box_two_k {a w : World} {u v : Value} {s t : TypeId} {G : Prop} (b : Below ((a.alloc (.cells #[u] s)).alloc (.cells #[v] t)).heap.size ((a.alloc (.cells #[u] s)).alloc (.cells #[v] t)) w) (k : w.cell? ⟨a.heap.size, 0, none⟩ = some u → w.frozen? ⟨a.heap.size, 0, none⟩ = false → w.cell? ⟨a.heap.size + 1, 0, none⟩ = some v → w.frozen? ⟨a.heap.size + 1, 0, none⟩ = false → a.heap.size + 1 < w.heap.size → G) : G := by
  obtain ⟨h1, h2, h3, h4, h5⟩ := box_two b; exact k h1 h2 h3 h4 h5
theorem box_oneD_k {a w : World} {v : Value} {t : TypeId} {G : Prop} (b : Below (a.alloc (.cells #[v] t)).drew.heap.size (a.alloc (.cells #[v] t)).drew w) (k : w.cell? ⟨a.heap.size, 0, none⟩ = some v → w.frozen? ⟨a.heap.size, 0, none⟩ = false → a.heap.size < w.heap.size → G) : G := by
  obtain ⟨h1, h2, h3⟩ := box_oneD b; exact k h1 h2 h3
theorem box_twoD_k {a w : World} {u v : Value} {s t : TypeId} {G : Prop} (b : Below ((a.alloc (.cells #[u] s)).alloc (.cells #[v] t)).drew.heap.size ((a.alloc (.cells #[u] s)).alloc (.cells #[v] t)).drew w) (k : w.cell? ⟨a.heap.size, 0, none⟩ = some u → w.frozen? ⟨a.heap.size, 0, none⟩ = false → w.cell? ⟨a.heap.size + 1, 0, none⟩ = some v → w.frozen? ⟨a.heap.size + 1, 0, none⟩ = false → a.heap.size + 1 < w.heap.size → G) : G := by
  obtain ⟨h1, h2, h3, h4, h5⟩ := box_twoD b; exact k h1 h2 h3 h4 h5
theorem cop_two {wa w3 w4 wx : World} {m1 m2 y : Nat} {p q : List PI} {v1 v2 : Value} (hA : IsF m1 w3 p v1) (hE : IsF m2 w4 q v2) (b1 : wa.heap.size ≤ m1) (b2 : w3.heap.size ≤ m2) (b3 : w3.heap.size ≤ wx.heap.size) (b4 : w4.heap.size ≤ wx.heap.size)
    (b6 : ∀ i, m1 ≤ i → i < w3.heap.size → wx.heap[i]? = w3.heap[i]?) (b8 : ∀ i, m2 ≤ i → i < w4.heap.size → wx.heap[i]? = w4.heap[i]?) (b9 : y < m1 ∨ w3.heap.size ≤ y) (b0 : wa.heap.size ≤ w3.heap.size) :
    ∃ mA hA mB hB, wa.heap.size ≤ hA ∧ wa.heap.size ≤ mA ∧ hA ≤ mB ∧ hA ≤ wx.heap.size ∧ hB ≤ wx.heap.size ∧ IsB mA hA wx p v1 ∧ IsB mB hB wx q v2 ∧ (y < mA ∨ hA ≤ y) :=
  ⟨m1, w3.heap.size, m2, w4.heap.size, b0, b1, b2, b3, b4, IsB.of hA b3 (Nat.le_refl _) b6, IsB.of hE b4 (Nat.le_refl _) b8, b9⟩
theorem lt_k {a b c : Nat} {G : Prop} (h : a < b) (h2 : b ≤ c) (k : a < c → G) : G := k (Nat.lt_of_lt_of_le h h2)
theorem low_drew {B : Nat} {W0 w : World} (h : ∀ b o, b < B → w.cell? ⟨b, o, none⟩ = W0.cell? ⟨b, o, none⟩) : ∀ b o, b < B → w.drew.cell? ⟨b, o, none⟩ = W0.cell? ⟨b, o, none⟩ := h
theorem low_alloc {B : Nat} {W0 w : World} (h : ∀ b o, b < B → w.cell? ⟨b, o, none⟩ = W0.cell? ⟨b, o, none⟩) (hB : B ≤ w.heap.size) (x : Obj) : ∀ b o, b < B → (w.alloc x).cell? ⟨b, o, none⟩ = W0.cell? ⟨b, o, none⟩ := fun b o hb =>
  (World.cell?_of_block (Below.heap_alloc w x b (by omega))).trans (h b o hb)
theorem progIn_below {B : Nat} {W W' : World} {l : List PI} {v : Value} (h : ProgIn B W l v) (b : Below B W W') : ProgIn B W' l v := by
  obtain ⟨b1, o, h1, h2⟩ := h
  exact ⟨b1, o, h1, PI.Row.below' b h1 h2⟩
theorem IsF.prog {m : Nat} {W : World} {l : List PI} {v : Value} (h : IsF m W l v) : ProgIn W.heap.size W l v := by
  obtain ⟨b, o, h1, h2⟩ := h
  exact ⟨b, o, h1, PI.Row.reads (Nat.le_refl _) (Reads.only _ _) h2⟩
theorem ProgIn.later {W W' : World} {l : List PI} {v : Value} (h : ProgIn W.heap.size W l v) (b : Below W.heap.size W W') : ProgIn W'.heap.size W' l v := by
  obtain ⟨b1, o, h1, h2⟩ := h
  exact ⟨b1, o, h1.up b.size, PI.Row.reads b.size (fun a v hc => (b.cell (World.block_lt_of_cell? W a hc)).trans hc) h2⟩
theorem spoil_low {k m H : Nat} {W W' : World} (h : Spoil m H W W') (h1 : k ≤ m) (h2 : k ≤ W.heap.size) : Below k W W' := ⟨h.os, h.tape, h.output, h.size, fun b hb => h.keep b (Nat.lt_of_lt_of_le hb h2) (.inl (Nat.lt_of_lt_of_le hb h1))⟩
/-- what a copy is: a and where -/
structure Cop (m : Nat) (W : World) (l : List PI) (v : Value) (n : Nat) (wx : World) : Prop where
  f : IsF m W l v
  b : Below W.heap.size W wx
attribute [local go_sem ↓] Go.wp_at_zero Go.wp_at_succ
set_option maxRecDepth 100000 in
set_option maxHeartbeats 6400000 in
theorem treeCopies_walk (p : List PI) (p1 : Option Addr) (n q1 : Nat) (w : World) (hp : ProgIn w.heap.size w p (.slice p1 n q1)) :
    Calls Try.prog 3 #[.agg #[.slice p1 n q1]] w fun e w' => e = .returned (.bool true) ∧ Below w.heap.size w w' := by
  have hn : n = p.length := by
    obtain ⟨b, o, h1, _⟩ := hp
    exact (slv_len h1).1
  have HP := Lib.hid hp
  by_cases G : progR p 20000 < 0
  · have GR : Hid (∀ W, Below w.heap.size w W → Calls Try.prog 4 #[.agg #[.slice p1 n q1]] W fun e w' => e = .returned (.bool true) ∧ Below W.heap.size W w') := Lib.hid fun W h => by
      have := great_calls w.heap.size p _ W h.size (progIn_below HP.out h)
      rwa [decide_eq_true G] at this
    clear hp hn G
    go_enter Try.func3, Try.ntmps3
    go_wp2_with (go_at_call 4; (with_reducible refine (GR.out (w.alloc (.cells #[.slice p1 n q1] 24)) ((Below.refl _ w).alloc (Nat.le_refl _) _)).mono ?_); rintro e w1 ⟨rfl, b1⟩; have B1 := Lib.hid b1; clear b1)
    (try simp only [Exit.inBlock, Exit.then])
    go_ret
    exact ⟨rfl, ((Below.refl _ w).alloc (Nat.le_refl _) _).trans (B1.out.mono (by simp))⟩
  · obtain ⟨hl, hS⟩ := progR_sm G
    have GF : Hid (∀ W, Below w.heap.size w W → Calls Try.prog 4 #[.agg #[.slice p1 n q1]] W fun e w' => e = .returned (.bool false) ∧ Below W.heap.size W w') := Lib.hid fun W h => by
      have := great_calls w.heap.size p _ W h.size (progIn_below HP.out h)
      rwa [decide_eq_false G] at this
    have CO : Hid (∀ W at', Below w.heap.size w W → Calls Try.prog 5 #[.agg #[.slice p1 n q1], .bool at'] W fun e w' => ∃ ua uc, e = .returned (.agg #[.slice ua n uc]) ∧ Hid (ProgIn w'.heap.size w' (p.map (erI at')) (.slice ua n uc)) ∧ Below W.heap.size W w') := Lib.hid fun W at' h => by
      have h1 := copyI_calls at' p hl (fun x hx => (hS x hx).few) w.heap.size (.slice p1 n q1) W h.size (progIn_below HP.out h)
      rw [← hn] at h1
      refine h1.mono ?_
      rintro e w' ⟨ua, uc, he, h2, h3⟩
      obtain ⟨b, o, k1, k2⟩ := h2.out
      exact ⟨ua, uc, he, Lib.hid ⟨b, o, k1, PI.Row.reads (Nat.le_refl _) (Reads.only _ _) k2⟩, h3⟩
    have CC : Hid (∀ W, Below w.heap.size w W → Calls Try.prog 6 #[.agg #[.slice p1 n q1]] W fun e w' => ∃ ua uc, e = .returned (.agg #[.slice ua n uc]) ∧ Hid (IsF W.heap.size w' p (.slice ua n uc)) ∧ Below W.heap.size W w') := Lib.hid fun W h => by
      have h1 := copy_calls p hl hS w.heap.size (.slice p1 n q1) W h.size (progIn_below HP.out h)
      rwa [← hn, erIs_true] at h1
    have CE : Hid (∀ W, Below w.heap.size w W → Calls Try.prog 7 #[.agg #[.slice p1 n q1]] W fun e w' => ∃ ua uc, e = .returned (.agg #[.slice ua n uc]) ∧ Hid (IsF W.heap.size w' (p.map (erI false)) (.slice ua n uc)) ∧ Below W.heap.size W w') := Lib.hid fun W h => by
      have h1 := erase_calls p hl hS w.heap.size (.slice p1 n q1) W h.size (progIn_below HP.out h)
      rwa [← hn] at h1
    have SA : Hid (∀ W xs v1 v2, Hid (ProgIn W.heap.size W xs v1) → Hid (ProgIn W.heap.size W xs v2) → Calls Try.prog 8 #[.agg #[v1], .agg #[v2], .bool true] W fun e w' => e = .returned (.bool true) ∧ Below W.heap.size W w') := Lib.hid fun W xs v1 v2 h1 h2 => by
      have := refProg_callsT W.heap.size xs xs v1 v2 W (Nat.le_refl _) h1.out h2.out
      rwa [sameProg_refl] at this
    clear hp hn G hl hS
    go_enter Try.func3, Try.ntmps3
    go_upto_region 4 with (first
      | (go_at_call 4; (with_reducible refine (GF.out (w.alloc (.cells #[.slice p1 n q1] 24)) ((Below.refl _ w).alloc (Nat.le_refl _) _)).mono ?_)
         rintro e w1 ⟨rfl, b1⟩
         have B1 : Hid (Below w.heap.size w w1) := Lib.hid (((Below.refl _ w).alloc (Nat.le_refl _) _).trans (b1.mono (by simp)))
         have c1 : w1.cell? ⟨w.heap.size, 0, none⟩ = some (.slice p1 n q1) := (b1.cell (p := ⟨w.heap.size, 0, none⟩) (by simp)).trans (by go_simp)
         have z1 : w.heap.size < w1.heap.size := by have := b1.size; simp at this; omega
         clear b1)
      | (go_at_call 5; (with_reducible refine (CO.out w1 true B1.out).mono ?_)
         rintro e w2 ⟨ua, uc, rfl, hw, b2⟩
         have B2 : Hid (Below w.heap.size w w2) := Lib.hid (B1.out.trans (b2.mono (by omega)))
         have c2 : w2.cell? ⟨w.heap.size, 0, none⟩ = some (.slice p1 n q1) := (b2.cell (p := ⟨w.heap.size, 0, none⟩) (by simp; omega)).trans c1
         have z2 : w.heap.size < w2.heap.size := by have := b2.size; omega
         clear b2 c1))
    obtain ⟨wa, hwa⟩ : ∃ W, W = w2.alloc (Obj.cells #[.slice ua n uc] 24) := ⟨_, rfl⟩
    rw [← hwa]
    have a0 : wa.cell? ⟨w.heap.size, 0, none⟩ = some (.slice p1 n q1) := by rw [hwa]; go_simp
    have a3 : wa.cell? ⟨w2.heap.size, 0, none⟩ = some (.slice ua n uc) := by rw [hwa]; go_simp
    have BA : Hid (Below w.heap.size w wa) := Lib.hid (hwa ▸ B2.out.alloc (by omega) _)
    have B2a : Hid (Below w2.heap.size w2 wa) := Lib.hid (hwa ▸ (Below.refl _ w2).alloc (Nat.le_refl _) _)
    have za : w2.heap.size < wa.heap.size := by rw [hwa]; simp
    have zb : w.heap.size < wa.heap.size := by omega
    rw [erIs_true] at hw
    have CC2 : Hid (∀ W, Below wa.heap.size wa W → Calls Try.prog 6 #[.agg #[.slice p1 n q1]] W fun e w' => ∃ ua uc, e = .returned (.agg #[.slice ua n uc]) ∧ Hid (IsF W.heap.size w' p (.slice ua n uc)) ∧ Below W.heap.size W w') := Lib.hid fun W h => CC.out W (BA.out.trans (h.mono (by omega)))
    have CE2 : Hid (∀ W, Below wa.heap.size wa W → Calls Try.prog 7 #[.agg #[.slice p1 n q1]] W fun e w' => ∃ ua uc, e = .returned (.agg #[.slice ua n uc]) ∧ Hid (IsF W.heap.size w' (p.map (erI false)) (.slice ua n uc)) ∧ Below W.heap.size W w') := Lib.hid fun W h => CE.out W (BA.out.trans (h.mono (by omega)))
    clear hwa c2 B1 B2 CC CE GF z1 z2
    go_cut [4, 5] from 6 to 31 (fun s4 s5 wx => ∃ x y xa xc ya yc, s4 = .pointer (some ⟨x, 0, none⟩) ∧ s5 = .pointer (some ⟨y, 0, none⟩) ∧ wx.cell? ⟨x, 0, none⟩ = some (.slice xa n xc) ∧ wx.cell? ⟨y, 0, none⟩ = some (.slice ya n yc) ∧ x < wx.heap.size ∧ y < wx.heap.size ∧ wa.heap.size ≤ x ∧ wa.heap.size ≤ y ∧ Hid (Below wa.heap.size wa wx) ∧ Hid (∃ mA hA mB hB, wa.heap.size ≤ hA ∧ wa.heap.size ≤ mA ∧ hA ≤ mB ∧ hA ≤ wx.heap.size ∧ hB ≤ wx.heap.size ∧ IsB mA hA wx p (.slice xa n xc) ∧ IsB mB hB wx (p.map (erI false)) (.slice ya n yc) ∧ (y < mA ∨ hA ≤ y)))
    case first =>
      have HB : Hid (Below wa.heap.size wa wa.drew) := Lib.hid (Below.refl _ wa).drew
      have XB : ∀ b o, b < wa.heap.size → wa.drew.cell? ⟨b, o, none⟩ = wa.cell? ⟨b, o, none⟩ := fun b o _ => rfl
      have zh : wa.heap.size ≤ wa.drew.heap.size := Nat.le_refl _
      go_region_law
        (first
          | (go_simp; go_at_call 6; (first | (with_reducible refine (CC2.out _ HB.out).mono ?_) | (with_reducible refine (CC2.out _ (below_alloc (Below.refl _ wa) _).drew).mono ?_) | (with_reducible refine (CC2.out _ (below_alloc (below_alloc (Below.refl _ wa) _) _).drew).mono ?_))
             rintro e w3 ⟨xa, xc, rfl, hA, bA⟩
             have HB : Hid (Below wa.heap.size wa w3) := Lib.hid ((first_below (by first | exact HB.out | exact (below_alloc (Below.refl _ wa) _).drew | exact (below_alloc (below_alloc (Below.refl _ wa) _) _).drew) bA))
             have XB : ∀ b o, b < wa.heap.size → w3.cell? ⟨b, o, none⟩ = wa.cell? ⟨b, o, none⟩ := low_of HB.out (Nat.le_refl _)
             have zh : wa.heap.size ≤ w3.heap.size := HB.out.size
             have HBA := Lib.hid bA
             have zA : wa.heap.size ≤ w3.heap.size := HB.out.size
             have zw : w.heap.size < w3.heap.size := Nat.lt_of_lt_of_le zb zh
             have a0 : w3.cell? ⟨w.heap.size, 0, none⟩ = some (.slice p1 n q1) := (XB w.heap.size 0 zb).trans a0
             obtain ⟨cA, fA⟩ := bcell bA
             have sA := bA.size
             (try ((with_reducible refine box_twoD_k (a := wa) bA ?_); intro k1 k2 k3 k4 k5))
             (try ((with_reducible refine box_oneD_k (a := wa) bA ?_); intro k1 k2 k3))
             clear bA)
          | (go_simp; go_at_call 7; (first | (with_reducible refine (CE2.out _ HB.out).mono ?_) | (with_reducible refine (CE2.out _ (below_alloc HB.out _)).mono ?_) | (with_reducible refine (CE2.out _ (below_alloc (below_alloc HB.out _) _)).mono ?_))
             rintro e w4 ⟨ya, yc, rfl, hE, bE⟩
             have XB : ∀ b o, b < wa.heap.size → w4.cell? ⟨b, o, none⟩ = wa.cell? ⟨b, o, none⟩ := low_of (first_below (by first | exact HB.out | exact below_alloc HB.out _ | exact below_alloc (below_alloc HB.out _) _) bE) (Nat.le_refl _)
             have HB : Hid (Below wa.heap.size wa w4) := Lib.hid (first_below (by first | exact HB.out | exact below_alloc HB.out _ | exact below_alloc (below_alloc HB.out _) _) bE)
             have zh : wa.heap.size ≤ w4.heap.size := HB.out.size
             have HBE := Lib.hid bE
             have zw4 : w.heap.size < w4.heap.size := Nat.lt_of_lt_of_le zb zh
             obtain ⟨cE, fE⟩ := bcell bE
             have B34 : Below w3.heap.size w3 w4 := (by first | exact bE | exact ((Below.refl _ w3).alloc (Nat.le_refl _) _).trans (bE.mono (by simp)) | exact (((Below.refl _ w3).alloc (Nat.le_refl _) _).alloc (by simp) _).trans (bE.mono (by simp; omega)))
             obtain ⟨c34, f34⟩ := bcell B34
             have s34 := B34.size
             (try ((with_reducible refine lt_k k3 s34 ?_); intro e3))
             (try ((with_reducible refine lt_k k5 s34 ?_); intro e5))
             (try ((with_reducible refine lt_k (Nat.lt_of_succ_lt k5) s34 ?_); intro e6))
             (try ((with_reducible refine lt_k (Nat.lt_of_succ_lt k5) (Nat.le_refl _) ?_); intro e7))
             (try ((with_reducible refine box_two_k (a := w3) bE ?_); intro k6 k7 k8 k9 k0; (with_reducible refine lt_k (Nat.lt_of_succ_lt k0) (Nat.le_refl _) ?_); intro e8))
             (try ((with_reducible refine box_one_k (a := w3) bE ?_); intro k6 k7 k8))
             have sE := bE.size
             clear bE))
      all_goals
        go_wp2_with fail
        go_meet
        case rel =>
          refine ⟨_, _, xa, xc, ya, yc, rfl, rfl, ?a1, ?a2, ?a3, ?a4, ?a5, ?a6, Lib.hid ?a7, Lib.hid (cop_two hA.out hE.out ?b1 ?b2 ?b3 ?b4 ?b6 ?b8 ?b9 zA)⟩
          case a1 => go_simp
          case a2 => go_simp
          case a3 => first | omega | (simp; done) | (simp; omega)
          case a4 => first | omega | (simp; done) | (simp; omega)
          case a5 => first | omega | (simp; done) | (simp; omega)
          case a6 => first | omega | (simp; done) | (simp; omega)
          case a7 =>
            repeat (first | exact HB.out | refine below_alloc ?_ _ | refine Below.setCell ?_ (by first | (simp; done) | (simp; exact zA) | (simp; omega)) _)
          case b1 => first | exact Nat.le_refl _ | (simp; done) | (simp; omega)
          case b2 => first | exact Nat.le_refl _ | (simp; done) | (simp; omega)
          case b3 => first | omega | (simp; done) | (simp; omega)
          case b4 => first | exact Nat.le_refl _ | omega | (simp; done) | (simp; omega)
          case b6 =>
            intro i h1 h2
            (try simp at h1)
            repeat (first | rw [Below.heap_alloc _ _ i (by first | omega | (simp; omega))] | rw [Below.heap_setCell _ _ _ i (by first | omega | (simp; omega))])
            exact B34.block i h2
          case b8 =>
            intro i h1 h2
            (try simp at h1)
            repeat (first | rw [Below.heap_alloc _ _ i (by first | omega | (simp; omega))] | rw [Below.heap_setCell _ _ _ i (by first | omega | (simp; omega))])
          case b9 => first | (left; simp; done) | (left; simp; omega) | (right; omega) | (right; simp; omega) | (left; omega) | (right; exact Nat.le_refl _)
    case rest =>
      obtain ⟨x, y, xa, xc, ya, yc, rfl, rfl, hx, hy, hxl, hyl, hxa, hya, HBx, HC⟩ := hcut
      obtain ⟨mA, hA, mB, hB, e0, e1, e2, e3, e4, HIA, HIB, hyA⟩ := HC.out
      have IA := Lib.hid HIA
      have IB := Lib.hid HIB
      have sx := HBx.out.size
      have WX : Hid (Below w.heap.size w wc) := Lib.hid (BA.out.trans (HBx.out.mono (by omega)))
      have PW : Hid (∀ W, Below wc.heap.size wc W → ProgIn W.heap.size W p (.slice p1 n q1)) := Lib.hid fun W h => ProgIn.later HP.out (WX.out.trans (h.mono (by have := WX.out.size; omega)))
      have K1 : Hid (∀ W, Below wc.heap.size wc W → Calls Try.prog 8 #[.agg #[.slice xa n xc], .agg #[.slice p1 n q1], .bool true] W fun e w' => e = .returned (.bool true) ∧ Below W.heap.size W w') :=
        Lib.hid fun W h => SA.out W p _ _ (Lib.hid (ProgIn.later (IsB.prog IA.out) h)) (Lib.hid (PW.out W h))
      have K2 : Hid (∀ W, Below wc.heap.size wc W → Calls Try.prog 5 #[.agg #[.slice p1 n q1], .bool false] W fun e w' => ∃ ua uc, e = .returned (.agg #[.slice ua n uc]) ∧ Hid (ProgIn w'.heap.size w' (p.map (erI false)) (.slice ua n uc)) ∧ Below W.heap.size W w') :=
        Lib.hid fun W h => CO.out W false (WX.out.trans (h.mono (by have := WX.out.size; omega)))
      have K3 : Hid (∀ W va vc, Hid (ProgIn W.heap.size W (p.map (erI false)) (.slice va n vc)) → Below wc.heap.size wc W → Calls Try.prog 8 #[.agg #[.slice ya n yc], .agg #[.slice va n vc], .bool true] W fun e w' => e = .returned (.bool true) ∧ Below W.heap.size W w') :=
        Lib.hid fun W va vc hv h => SA.out W _ _ _ (Lib.hid (ProgIn.later (IsB.prog IB.out) h)) hv
      have cx0 : wc.cell? ⟨w.heap.size, 0, none⟩ = some (.slice p1 n q1) := (HBx.out.cell (p := ⟨w.heap.size, 0, none⟩) (by simp; omega)).trans a0
      have cx3 : wc.cell? ⟨w2.heap.size, 0, none⟩ = some (.slice ua n uc) := (HBx.out.cell (p := ⟨w2.heap.size, 0, none⟩) (by simp; omega)).trans a3
      have zx0 : w.heap.size < wc.heap.size := by omega
      have zx3 : w2.heap.size < wc.heap.size := by omega
      clear CC2 CE2 HC HIA HIB a0 a3 CO
      have HB : Hid (Below wc.heap.size wc wc.drew) := Lib.hid (Below.refl _ wc).drew
      have XB : ∀ b o, b < wc.heap.size → wc.drew.cell? ⟨b, o, none⟩ = wc.cell? ⟨b, o, none⟩ := fun b o _ => rfl
      go_wp2_with fail
      go_region_held3 (fun w' => ∀ b o, b < wc.heap.size → w'.cell? ⟨b, o, none⟩ = wc.cell? ⟨b, o, none⟩) (with_reducible exact XB)
        (first
          | (go_at_call 8; (with_reducible refine (K1.out _ HB.out).mono ?_)
             rintro e w3 ⟨rfl, b3⟩
             have zh := HB.out.size
             have HB : Hid (Below wc.heap.size wc w3) := Lib.hid (HB.out.trans (b3.mono zh))
             have XB : ∀ b o, b < wc.heap.size → w3.cell? ⟨b, o, none⟩ = wc.cell? ⟨b, o, none⟩ := low_of HB.out (Nat.le_refl _)
             clear b3 zh)
          | (go_at_call 5; (with_reducible refine (K2.out _ HB.out).mono ?_)
             rintro e w4 ⟨va, vc, rfl, hv, b4⟩
             have zh := HB.out.size
             have HB : Hid (Below wc.heap.size wc w4) := Lib.hid (HB.out.trans (b4.mono zh))
             have XB : ∀ b o, b < wc.heap.size → w4.cell? ⟨b, o, none⟩ = wc.cell? ⟨b, o, none⟩ := low_of HB.out (Nat.le_refl _)
             clear b4 zh)
          | (go_at_call 8; (with_reducible refine (K3.out _ _ _ hv HB.out).mono ?_)
             rintro e w5 ⟨rfl, b5⟩
             have zh := HB.out.size
             have HB : Hid (Below wc.heap.size wc w5) := Lib.hid (HB.out.trans (b5.mono zh))
             have XB : ∀ b o, b < wc.heap.size → w5.cell? ⟨b, o, none⟩ = wc.cell? ⟨b, o, none⟩ := low_of HB.out (Nat.le_refl _)
             clear b5 zh))
      go_wp2_with (first
        | (go_at_call 9; (with_reducible refine (spoil_calls mA p (.slice xa n xc) hA w5 (IsB.keep IA.out HB.out.size fun i _ h => HB.out.block i (by omega)) (by have := HB.out.size; omega)).mono ?_)
           rintro e w6 ⟨rfl, b6⟩
           have z6 := b6.size
           have z5 := HB.out.size
           have S6 : Hid (Spoil mA hA w5 w6) := Lib.hid b6
           have cy6 : w6.cell? ⟨y, 0, none⟩ = some (.slice ya n yc) := (World.cell?_of_block (b6.keep y (by omega) hyA)).trans ((XB y 0 hyl).trans hy)
           have c60 : w6.cell? ⟨w.heap.size, 0, none⟩ = some (.slice p1 n q1) := (World.cell?_of_block (b6.keep w.heap.size (by omega) (.inl (by omega)))).trans ((XB w.heap.size 0 zx0).trans cx0)
           have c63 : w6.cell? ⟨w2.heap.size, 0, none⟩ = some (.slice ua n uc) := (World.cell?_of_block (b6.keep w2.heap.size (by omega) (.inl (by omega)))).trans ((XB w2.heap.size 0 zx3).trans cx3)
           have IB6 : Hid (IsB mB hB w6 (p.map (erI false)) (.slice ya n yc)) := Lib.hid (IsB.keep IB.out (by omega) fun i h1 h2 => (b6.keep i (by omega) (.inr (by omega))).trans (HB.out.block i (by omega)))
           clear b6 XB))
      go_wp2_with (first
        | (go_at_call 9; (with_reducible refine (spoil_calls mB (p.map (erI false)) (.slice ya n yc) hB w6 IB6.out (by have := HB.out.size; omega)).mono ?_)
           rintro e w7 ⟨rfl, b7⟩
           have z7 := b7.size
           have c70 : w7.cell? ⟨w.heap.size, 0, none⟩ = some (.slice p1 n q1) := (World.cell?_of_block (b7.keep w.heap.size (by omega) (.inl (by omega)))).trans c60
           have c73 : w7.cell? ⟨w2.heap.size, 0, none⟩ = some (.slice ua n uc) := (World.cell?_of_block (b7.keep w2.heap.size (by omega) (.inl (by omega)))).trans c63
           have B57 : Hid (Below wa.heap.size w5 w7) := Lib.hid ((spoil_low S6.out e1 (by omega)).trans (spoil_low b7 (by omega) (by omega)))
           clear b7)
        | (go_at_call 8; (with_reducible refine (SA.out w7 p _ _ (Lib.hid ?hs1) (Lib.hid ?hs2)).mono ?_)
           rotate_left 2
           rintro e w8 ⟨rfl, b8⟩))
      · go_ret
        exact ⟨rfl, ((WX.out.trans (HB.out.mono (by omega))).trans (B57.out.mono (by omega))).trans (b8.mono (by omega))⟩
      case hs1 => exact ProgIn.later HP.out ((WX.out.trans (HB.out.mono (by omega))).trans (B57.out.mono (by omega)))
      case hs2 => exact ProgIn.later hw.out (((B2a.out.trans (HBx.out.mono (by omega))).trans (HB.out.mono (by omega))).trans (B57.out.mono (by omega)))
end Go.Proofs.Ytabncmmadbjegaa
