/- PathsOwn: what is told of a place is memory of its own, and the place stays as it was. -/
import Derived.Test.YtipiiaghjkhkbaaPathsCopy
import Derived.Test.YtipiiaghjkhkbaaPathsVarsLaw
namespace Go.Proofs.Ytipiiaghjkhkbaa
open Go.RowKit
set_option linter.unusedVariables false

/-- a row of one's own, opened -/
theorem own_open {w : World} {base : Nat} {e : TypeId} {v : Value} {n : Nat} {l : List ByteArray} (h : w.ownsRow base e 1 v n (l.map .string)) (hm : n ≤ maxLen) :
    ∃ ao cap g, v = .slice ao n cap ∧ (n ≠ 0 → ao = some ⟨g, 0, none⟩ ∧ base ≤ g ∧ g < w.heap.size) ∧ ∀ (j : Nat) s, l[j]? = some s → w.cell? ⟨g, j, none⟩ = some (.string s) ∧ w.frozen? ⟨g, j, none⟩ = false := by
  obtain ⟨⟨_, ao, cap, hv, _, h3⟩, h4⟩ := own_cells h hm
  refine ⟨ao, cap, rowAt v, hv, fun h0 => ?_, fun j s hj => ?_⟩
  · obtain ⟨e1, e2⟩ := h3.resolve_left h0
    refine ⟨e1, ?_, e2⟩
    have := (h.lt (rowAt v) (by rw [hv, e1]; simp [Value.ownBlock, rowAt])).1
    exact this
  · have := h4 j (.string s) (by rw [List.getElem?_map, hj]; rfl)
    rwa [Nat.zero_add] at this
/-- its cells are there, and may be written -/
def Stor (g : Nat) (l : List ByteArray) (w : World) : Prop := ∀ (j : Nat) s, l[j]? = some s → (w.cell? ⟨g, j, none⟩).isSome = true ∧ w.frozen? ⟨g, j, none⟩ = false
theorem Stor.set {g : Nat} {l : List ByteArray} {w : World} (h : Stor g l w) (p : Addr) (z : Value) : Stor g l (w.setCell p z) := fun j s hj => by
  obtain ⟨h1, h2⟩ := h j s hj
  refine ⟨?_, by rw [World.frozen?_setCell]; exact h2⟩
  by_cases e : p = ⟨g, j, none⟩
  · subst e
    rw [World.cell?_setCell_same' _ _ _ h1]; rfl
  · rw [World.cell?_setCell_other _ _ _ _ e]; exact h1
theorem Stor.of {g : Nat} {l : List ByteArray} {w : World} (h : ∀ (j : Nat) s, l[j]? = some s → w.cell? ⟨g, j, none⟩ = some (.string s) ∧ w.frozen? ⟨g, j, none⟩ = false) : Stor g l w := fun j s hj => ⟨by rw [(h j s hj).1]; rfl, (h j s hj).2⟩
theorem rows_up {g n : Nat} {l : List ByteArray} {w w' : World} (hg : n ≠ 0 → g < w.heap.size) (hl : n = l.length) (k : Below w.heap.size w w') (h : ∀ (j : Nat) s, l[j]? = some s → w.cell? ⟨g, j, none⟩ = some (.string s) ∧ w.frozen? ⟨g, j, none⟩ = false) :
    ∀ (j : Nat) s, l[j]? = some s → w'.cell? ⟨g, j, none⟩ = some (.string s) ∧ w'.frozen? ⟨g, j, none⟩ = false := fun j s hj => by
  have hlt : g < w.heap.size := hg (by rw [hl]; exact some_pos hj)
  exact ⟨(k.cell (p := ⟨g, j, none⟩) hlt).trans (h j s hj).1, (k.frozen (p := ⟨g, j, none⟩) hlt).trans (h j s hj).2⟩
theorem one_least (x : PP) : leastP [x] = [x] := by
  have : leastI 1 (keyAt [x]) 0 = true := by
    unfold leastI outs
    simp
  unfold leastP sel
  show ((List.range 1).filter (leastI 1 (keyAt [x]))).filterMap _ = _
  rw [show List.range 1 = [0] from rfl, List.filter_cons_of_pos (by exact this)]
  rfl
/-- all but some blocks is as it was -/
def KeptBut (G : Nat → Prop) (w w' : World) : Prop := w'.heap.size = w.heap.size ∧ ∀ b, ¬ G b → w'.heap[b]? = w.heap[b]?
theorem KeptBut.refl (G : Nat → Prop) (w : World) : KeptBut G w w := ⟨rfl, fun _ _ => rfl⟩
theorem KeptBut.set {G : Nat → Prop} {w w' : World} (h : KeptBut G w w') (p : Addr) (z : Value) (hp : G p.block) : KeptBut G w (w'.setCell p z) :=
  ⟨by simp [h.1], fun b hb => (Below.heap_setCell w' p z b (fun e => hb (by rw [e]; exact hp))).trans (h.2 b hb)⟩
theorem KeptBut.cell {G : Nat → Prop} {w w' : World} (h : KeptBut G w w') {b o : Nat} (hb : ¬ G b) {u : Option Value} (hc : w.cell? ⟨b, o, none⟩ = u) : w'.cell? ⟨b, o, none⟩ = u :=
  (World.cell?_of_block (h.2 b hb)).trans hc
theorem KeptBut.frozen {G : Nat → Prop} {w w' : World} (h : KeptBut G w w') {b o : Nat} (hb : ¬ G b) {u : Bool} (hc : w.frozen? ⟨b, o, none⟩ = u) : w'.frozen? ⟨b, o, none⟩ = u :=
  (World.frozen?_of_block (h.2 b hb)).trans hc

theorem al_up {b j : Nat} {W : World} {s : Value} (hz : b < W.heap.size) (h : W.cell? ⟨b, j, none⟩ = some s) : ∀ o : Obj, (W.alloc o).cell? ⟨b, j, none⟩ = some s :=
  fun o => ((box1 W o).cell (p := ⟨b, j, none⟩) hz).trans h
theorem ce_up {b j : Nat} {W W' : World} {s : Value} (hz : b < W.heap.size) (k : Below W.heap.size W W') (h : W.cell? ⟨b, j, none⟩ = some s) : W'.cell? ⟨b, j, none⟩ = some s :=
  (k.cell (p := ⟨b, j, none⟩) hz).trans h
theorem SIn.kept {B : Nat} {w w' : World} {l : List ByteArray} {v : Value} {G : Nat → Prop} (h : SIn B w l v) (k : KeptBut G w w') (hG : ∀ b, b < B → ¬ G b) : SIn B w' l v := by
  obtain ⟨b, o, hs, hr⟩ := h
  exact ⟨b, o, hs, fun j s hj => ⟨(hr j s hj).1, k.cell (hG b (hs.lt (some_pos hj))) (hr j s hj).2⟩⟩
theorem SIn.at {B : Nat} {w : World} {l : List ByteArray} {ao : Option Addr} {n cap : Nat} (h : SIn B w l (.slice ao n cap)) : ∃ b o, (l.length ≠ 0 → ao = some ⟨b, o, none⟩ ∧ b < B) ∧ RowS w b o l := by
  obtain ⟨b, o, ⟨_, ao', cap', he, _, h4⟩, hr⟩ := h
  obtain ⟨rfl, _, rfl⟩ := Value.slice.inj he
  exact ⟨b, o, fun h => h4.resolve_left h, hr⟩
theorem LIn.one {B b : Nat} {w : World} {x : PP} {v : Value} (h0 : w.cell? ⟨b, 0, none⟩ = some (.string x.name)) (h1 : w.cell? ⟨b, 1, none⟩ = some v) (hx : x.In B w v) (hb : b < B) : LIn B w [x] (.slice (some ⟨b, 0, none⟩) 1 1) := by
  refine ⟨b, 0, ⟨by show 1 ≤ maxLen; decide, _, 1, rfl, Nat.le_refl _, .inr ⟨rfl, hb⟩⟩, fun j y hj => ?_⟩
  match j, hj with
  | 0, hj => cases hj; exact ⟨v, h0, h1, hx⟩
/-- what Least hands back of one place -/
theorem least_one (B : Nat) (x : PP) (lv : Value) (hsh : Short x) (w : World) (hB : B ≤ w.heap.size) (hl : LIn B w [x] lv) :
    Calls Try.prog 24 #[lv] w fun e w' => ∃ g cap vz, e = .returned (.slice (some ⟨g, 0, none⟩) 1 cap) ∧ Hid (w.heap.size ≤ g ∧ g < w'.heap.size ∧ w'.cell? ⟨g, 0, none⟩ = some (.string x.name) ∧ w'.cell? ⟨g, 1, none⟩ = some vz ∧ ∀ a, vz.ownBlock = some a → a ≠ g) ∧ Hid (w'.ownsRow w.heap.size 9 1 vz x.path.length (x.path.map .string)) ∧ Below w.heap.size w w' := by
  refine (least_calls B [x] lv (by simp) (fun y hy => by rw [List.mem_singleton] at hy; rw [hy]; exact hsh) w hB hl).mono ?_
  rintro e w' ⟨v, Z, rfl, hZ, hown, hoz, hb⟩
  rw [one_least] at hZ
  match Z, hZ with
  | [(y, vz)], hZ =>
    have hy : y = x := by simpa using hZ
    subst hy
    have h1 : w'.ownsRow w.heap.size 9 1 vz y.path.length (y.path.map .string) := hoz (y, vz) (by simp)
    obtain ⟨⟨_, ao, cap, hv, _, h3⟩, h4⟩ := own_cells hown (by show 1 ≤ maxLen; decide)
    obtain ⟨e1, e2⟩ := h3.resolve_left (by simp)
    refine ⟨rowAt v, cap, vz, by rw [hv, e1]; rfl, Lib.hid ⟨?_, e2, ?_, ?_, ?_⟩, Lib.hid h1, hb⟩
    · exact (hown.lt (rowAt v) (by rw [hv, e1]; simp [Value.ownBlock, rowAt])).1
    · have := (h4 0 (.string y.name) (by simp [cells2])).1
      rwa [Nat.zero_add] at this
    · have := (h4 1 vz (by simp [cells2])).1
      rwa [Nat.zero_add] at this
    · intro a ha e
      subst e
      rcases hown.2 with ⟨h, h0⟩ | ⟨g1, cap1, cur1, k1, _, k2, _⟩
      · cases hv.symm.trans h
      · rcases h1.2 with ⟨m1, _⟩ | ⟨g2, cap2, cur2, m1, _, m2, _⟩
        · rw [m1] at ha; cases ha
        · have ea : g2 = rowAt v := by rw [m1] at ha; simpa [Value.ownBlock] using ha
          have eg : rowAt v = g1 := by rw [k1]; rfl
          rw [ea, eg, k2] at m2
          cases m2

/-- the blocks that the law writes to are among these -/
def OwnG (lim bA bB gl b : Nat) : Prop := lim ≤ b ∧ b ≠ bA ∧ b ≠ bB ∧ b ≠ gl

set_option maxRecDepth 100000 in
set_option maxHeartbeats 8000000 in
theorem pathsOwn_walk (w : World) (x : PP) (va : Value) (h1 : x.In w.heap.size w va) (st : List ByteArray) (vs : Value) (h2 : SIn w.heap.size w st vs) :
    Calls Try.prog 6 #[.agg #[.string x.name, va], vs] w fun e w' => e = .returned (.bool true) ∧ Below w.heap.size w w' := by
  have L1 := Lib.hid fun W (h : Below w.heap.size w W) => long_calls x w.heap.size va W h.size (h1.below h)
  have hsm : st.length ≤ maxLen := by
    obtain ⟨_, _, ⟨h, _⟩, _⟩ := h2
    exact h
  unfold maxLen at hsm
  have HX := Lib.hid h1
  have HS := Lib.hid h2
  obtain ⟨ao1, cap1, rfl⟩ := h1.shape
  obtain ⟨ao2, cap2, rfl⟩ := h2.shape
  obtain ⟨n, hn⟩ : ∃ n, n = x.path.length := ⟨_, rfl⟩
  obtain ⟨m, hm⟩ : ∃ m, m = st.length := ⟨_, rfl⟩
  have Ht : Hid (longP x = false → n ≤ 100 ∧ Short x) := Lib.hid fun h => ⟨by rw [hn]; exact (tight_of h).path, (tight_of h).short⟩
  rw [← hn] at L1 HX ⊢
  rw [← hm] at HS hsm ⊢
  have Hn := Lib.hid hn
  have Hm := Lib.hid hm
  generalize longP x = l1 at *
  clear hn hm h1 h2
  go_enter Try.func6, Try.ntmps6
  go_wp2_with fail
  obtain ⟨W0, hW⟩ : ∃ W, W = w.alloc (.cells #[.string x.name, .slice ao1 n cap1] 24) := ⟨_, rfl⟩
  have f0 : W0.cell? ⟨w.heap.size, 0, none⟩ = some (.string x.name) := by rw [hW]; go_simp
  have f1 : W0.cell? ⟨w.heap.size, 1, none⟩ = some (.slice ao1 n cap1) := by rw [hW]; go_simp
  have z1 : w.heap.size < W0.heap.size := by rw [hW]; simp
  have bel0 : Below w.heap.size w W0 := by rw [hW]; exact box1 _ _
  rw [← hW]
  clear hW
  refine (L1.out W0 bel0).mono ?_
  rintro e w1 ⟨rfl, b1⟩
  obtain ⟨f0, f1, z1⟩ := pl_up z1 b1 f0 f1
  have Hb := Lib.hid (bel0.trans (b1.mono bel0.size))
  clear b1 L1 bel0
  cases l1
  rotate_left
  · go_wp2_with fail
    go_ret
    exact ⟨rfl, Hb.out⟩
  by_cases hm20 : (m : Int) > 20
  · go_wp2_with fail
    go_ret
    exact ⟨rfl, Hb.out⟩
  obtain ⟨hn100, hsh⟩ := Ht.out rfl
  have Hsh := Lib.hid hsh
  clear hsh Ht
  go_wp2_with fail
  have hN : n = x.path.length := Hn.out
  have C0 := Lib.hid (copy_calls x (by omega) w.heap.size _ w1 Hb.out.size (HX.out.below Hb.out))
  rw [← hN] at C0
  clear hN
  refine C0.out.mono ?_
  rintro e w2 ⟨ai, ci, rfl, HI, b1⟩
  obtain ⟨f0, f1, z1⟩ := pl_up z1 b1 f0 f1
  have Hb := Lib.hid (Hb.out.trans (b1.mono Hb.out.size))
  clear b1 C0
  have X0 : ∀ o : Obj, (w2.alloc o).cell? ⟨w.heap.size, 0, none⟩ = some (.string x.name) := fun o => ((box1 w2 o).cell (p := ⟨w.heap.size, 0, none⟩) z1).trans f0
  go_wp2_with fail
  obtain ⟨W3, hW⟩ : ∃ W, W = w2.alloc (.cells #[.string x.name, .slice ai n ci] 24) := ⟨_, rfl⟩
  have b3 : Below w2.heap.size w2 W3 := by rw [hW]; exact box1 _ _
  have i0 : W3.cell? ⟨w2.heap.size, 0, none⟩ = some (.string x.name) := by rw [hW]; go_simp
  have i1 : W3.cell? ⟨w2.heap.size, 1, none⟩ = some (.slice ai n ci) := by rw [hW]; go_simp
  have z3 : w2.heap.size < W3.heap.size := by rw [hW]; simp
  rw [← hW]
  have s1 := z1
  have s2 := z3
  obtain ⟨f0, f1, z1⟩ := pl_up z1 b3 f0 f1
  have Hb := Lib.hid (Hb.out.trans (b3.mono Hb.out.size))
  have HI3 : Hid (x.In W3.heap.size W3 (.slice ai n ci)) := Lib.hid ((HI.out.below b3).mono b3.size)
  clear hW b3 X0
  have hlen : x.path.length + st.length ≤ 1000000 := by rw [← Hn.out, ← Hm.out]; omega
  have z2 : w2.heap.size < W3.heap.size := z3
  have CA := Lib.hid (with_calls x st hlen W3.heap.size _ _ W3 (Nat.le_refl _) HI3.out ((HS.out.below Hb.out).mono Hb.out.size))
  refine CA.out.mono ?_
  rintro e w4 ⟨v4, rfl, ha, b1⟩
  clear CA z3
  rw [← Hn.out, ← Hm.out] at ha hlen
  obtain ⟨ao4, cap4, ga, rfl, hga, hra⟩ := own_open ha (by unfold maxLen; omega)
  have Hga := Lib.hid hga
  have Hra := Lib.hid hra
  have HNL : Hid (n + m = (x.path ++ st).length) := Lib.hid (by rw [List.length_append, ← Hn.out, ← Hm.out])
  clear ha hga hra
  obtain ⟨f0, f1, z1⟩ := pl_up z1 b1 f0 f1
  obtain ⟨i0, i1, z2⟩ := pl_up z2 b1 i0 i1
  have Hb := Lib.hid (Hb.out.trans (b1.mono Hb.out.size))
  have HI4 : Hid (x.In W3.heap.size w4 (.slice ai n ci)) := Lib.hid (HI3.out.below b1)
  have s3 : W3.heap.size ≤ w4.heap.size := b1.size
  clear b1 HI3 HI
  have X0 := al_up z2 i0
  have X1 := al_up z2 i1
  go_wp2_with fail
  obtain ⟨W5, hW⟩ : ∃ W, W = w4.alloc (.cells #[.string x.name, .slice ao4 (n + m) cap4] 24) := ⟨_, rfl⟩
  have b3 : Below w4.heap.size w4 W5 := by rw [hW]; exact box1 _ _
  have a1 : W5.cell? ⟨w4.heap.size, 1, none⟩ = some (.slice ao4 (n + m) cap4) := by rw [hW]; go_simp
  have z4 : w4.heap.size < W5.heap.size := by rw [hW]; simp
  rw [← hW]
  obtain ⟨f0, f1, z1⟩ := pl_up z1 b3 f0 f1
  obtain ⟨i0, i1, z2⟩ := pl_up z2 b3 i0 i1
  have Hb := Lib.hid (Hb.out.trans (b3.mono Hb.out.size))
  have HI5 : Hid (x.In W3.heap.size W5 (.slice ai n ci)) := Lib.hid (HI4.out.below (b3.mono s3))
  have Hra := Lib.hid (rows_up (fun h => (Hga.out h).2.2) HNL.out b3 Hra.out)
  have Hga : Hid (n + m ≠ 0 → ao4 = some ⟨ga, 0, none⟩ ∧ W3.heap.size ≤ ga ∧ ga < w4.heap.size) := Hga
  clear hW b3 X0 X1 HI4
  have CB := Lib.hid (with_calls x [] (by rw [← Hn.out, List.length_nil]; omega) W5.heap.size _ _ W5 (Nat.le_refl _) (HI5.out.mono (by omega)) (SIn.nil _ _))
  rw [List.append_nil, List.length_nil, Nat.add_zero, ← Hn.out] at CB
  refine CB.out.mono ?_
  rintro e w6 ⟨v6, rfl, hbr, b1⟩
  clear CB
  obtain ⟨ao6, cap6, gb, rfl, hgb, hrb⟩ := own_open hbr (by unfold maxLen; omega)
  have Hgb := Lib.hid hgb
  have Hrb := Lib.hid hrb
  have HBI : Hid (x.In w6.heap.size w6 (.slice ao6 n cap6)) := Lib.hid ⟨HX.out.1, own_S hbr (fun s hs => by have := Hsh.out.each s hs; unfold strMax; omega) (by unfold maxLen; omega)⟩
  clear hbr hgb hrb
  obtain ⟨f0, f1, z1⟩ := pl_up z1 b1 f0 f1
  obtain ⟨i0, i1, z2⟩ := pl_up z2 b1 i0 i1
  have a1 := ce_up z4 b1 a1
  have s5 : W5.heap.size ≤ w6.heap.size := b1.size
  have Hb := Lib.hid (Hb.out.trans (b1.mono Hb.out.size))
  have HI6 : Hid (x.In W3.heap.size w6 (.slice ai n ci)) := Lib.hid (HI5.out.below (b1.mono (by omega)))
  have Hra := Lib.hid (rows_up (fun h => by have := (Hga.out h).2.2; omega) HNL.out b1 Hra.out)
  clear b1 HI5
  have X0 := al_up z2 i0
  have X1 := al_up z2 i1
  go_wp2_with fail
  obtain ⟨W7, hW⟩ : ∃ W, W = (w6.alloc (.cells #[.string x.name, .slice ao6 n cap6] 24)).alloc (.cells #[.string x.name, .slice ai n ci] 24) := ⟨_, rfl⟩
  have b3 : Below w6.heap.size w6 W7 := by rw [hW]; exact box2 _ _ _
  have b0 : W7.cell? ⟨w6.heap.size, 0, none⟩ = some (.string x.name) := by rw [hW]; go_simp
  have b1' : W7.cell? ⟨w6.heap.size, 1, none⟩ = some (.slice ao6 n cap6) := by rw [hW]; go_simp
  have l0 : W7.cell? ⟨w6.heap.size + 1, 0, none⟩ = some (.string x.name) := by rw [hW]; go_simp
  have l1 : W7.cell? ⟨w6.heap.size + 1, 1, none⟩ = some (.slice ai n ci) := by rw [hW]; go_simp
  have z7 : w6.heap.size + 1 < W7.heap.size := by rw [hW]; simp
  have z6 : w6.heap.size < W7.heap.size := by omega
  rw [← hW]
  obtain ⟨f0, f1, z1⟩ := pl_up z1 b3 f0 f1
  obtain ⟨i0, i1, z2⟩ := pl_up z2 b3 i0 i1
  have a1 := ce_up (by omega) b3 a1
  have Hb := Lib.hid (Hb.out.trans (b3.mono Hb.out.size))
  have HI7 : Hid (x.In W3.heap.size W7 (.slice ai n ci)) := Lib.hid (HI6.out.below (b3.mono (by omega)))
  have Hra := Lib.hid (rows_up (fun h => by have := (Hga.out h).2.2; omega) HNL.out b3 Hra.out)
  have Hrb := Lib.hid (rows_up (fun h => (Hgb.out h).2.2) Hn.out b3 Hrb.out)
  have b67 := Lib.hid b3
  clear hW b3 X0 X1 HI6
  have CL := Lib.hid (least_one W7.heap.size x _ Hsh.out W7 (Nat.le_refl _) (LIn.one l0 l1 (HI7.out.mono (by omega)) z7))
  rw [← Hn.out] at CL
  clear l0 l1
  refine CL.out.mono ?_
  rintro e w8 ⟨gl, capl, vz, rfl, Hl, hz, b1⟩
  clear CL
  obtain ⟨hl0, hl1, l0, l1, hzl⟩ := Hl.out
  clear Hl
  obtain ⟨aoz, capz, gz, rfl, hgz, hrz⟩ := own_open hz.out (by unfold maxLen; omega)
  have hgzl : n ≠ 0 → gz ≠ gl := fun h => hzl gz (by rw [(hgz h).1]; rfl)
  have Hgz := Lib.hid hgz
  have Hgzl := Lib.hid hgzl
  clear hgzl hzl
  have Hrz := Lib.hid hrz
  clear hz hgz hrz
  obtain ⟨f0, f1, z1⟩ := pl_up z1 b1 f0 f1
  obtain ⟨i0, i1, z2⟩ := pl_up z2 b1 i0 i1
  obtain ⟨b0, b1', z6⟩ := pl_up z6 b1 b0 b1'
  have a1 := ce_up (by omega) b1 a1
  have s7 : W7.heap.size ≤ w8.heap.size := b1.size
  have Hb := Lib.hid (Hb.out.trans (b1.mono Hb.out.size))
  have HI8 : Hid (x.In W3.heap.size w8 (.slice ai n ci)) := Lib.hid (HI7.out.below (b1.mono (by omega)))
  have Hra := Lib.hid (rows_up (fun h => by have := (Hga.out h).2.2; omega) HNL.out b1 Hra.out)
  have Hrb := Lib.hid (rows_up (fun h => by have := (Hgb.out h).2.2; omega) Hn.out b1 Hrb.out)
  have b78 := Lib.hid b1
  clear b1 HI7
  have HB8 : Hid (x.In w8.heap.size w8 (.slice ao6 n cap6)) := Lib.hid ((HBI.out.below (b67.out.trans (b78.out.mono b67.out.size))).mono (by omega))
  clear b67 b78 HBI
  go_wp2_with fail
  have CS := Lib.hid (refSame_calls w8.heap.size x x (.slice ao6 n cap6) (.slice ao1 n cap1) w8 (Nat.le_refl _) HB8.out ((HX.out.below Hb.out).mono Hb.out.size))
  rw [show sameP x x = true from by simp [sameP]] at CS
  refine CS.out.mono ?_
  rintro e w9 ⟨rfl, b1⟩
  clear CS HB8
  obtain ⟨f0, f1, z1⟩ := pl_up z1 b1 f0 f1
  obtain ⟨i0, i1, z2⟩ := pl_up z2 b1 i0 i1
  obtain ⟨b0, b1', z6⟩ := pl_up z6 b1 b0 b1'
  obtain ⟨l0, l1, hl1⟩ := pl_up hl1 b1 l0 l1
  have a1 := ce_up (by omega) b1 a1
  have s8 : w8.heap.size ≤ w9.heap.size := b1.size
  have Hb := Lib.hid (Hb.out.trans (b1.mono Hb.out.size))
  have HI9 : Hid (x.In W3.heap.size w9 (.slice ai n ci)) := Lib.hid (HI8.out.below (b1.mono (by omega)))
  have Hra := Lib.hid (rows_up (fun h => by have := (Hga.out h).2.2; omega) HNL.out b1 Hra.out)
  have Hrb := Lib.hid (rows_up (fun h => by have := (Hgb.out h).2.2; omega) Hn.out b1 Hrb.out)
  have Hrz := Lib.hid (rows_up (fun h => by have := (Hgz.out h).2.2; omega) Hn.out b1 Hrz.out)
  have HX9 : Hid (SIn w.heap.size w9 x.path (.slice ao1 n cap1)) := Lib.hid (HX.out.2.below Hb.out)
  have HS9 : Hid (SIn w.heap.size w9 st (.slice ao2 m cap2)) := Lib.hid (HS.out.below Hb.out)
  have Hnm := Lib.hid HX.out.1
  clear b1 HI8 HX HS b0 l0
  obtain ⟨nm, hnm⟩ : ∃ nm, nm = x.name := ⟨_, rfl⟩
  have HOld : Hid (∀ b, b < W3.heap.size → ¬ OwnG W3.heap.size w4.heap.size w6.heap.size gl b) := Lib.hid fun b h1 h2 => by have := h2.1; omega
  have HnA : Hid (¬ OwnG W3.heap.size w4.heap.size w6.heap.size gl w4.heap.size) := Lib.hid fun h => h.2.1 rfl
  have HnB : Hid (¬ OwnG W3.heap.size w4.heap.size w6.heap.size gl w6.heap.size) := Lib.hid fun h => h.2.2.1 rfl
  have HnL : Hid (¬ OwnG W3.heap.size w4.heap.size w6.heap.size gl gl) := Lib.hid fun h => h.2.2.2 rfl
  have HgA : Hid (n + m ≠ 0 → OwnG W3.heap.size w4.heap.size w6.heap.size gl ga) := Lib.hid fun h => by
    have := Hga.out h
    exact ⟨this.2.1, by omega, by omega, by omega⟩
  have HgB : Hid (n ≠ 0 → OwnG W3.heap.size w4.heap.size w6.heap.size gl gb) := Lib.hid fun h => by
    have := Hgb.out h
    exact ⟨by omega, by omega, by omega, by omega⟩
  have HgZ : Hid (n ≠ 0 → OwnG W3.heap.size w4.heap.size w6.heap.size gl gz) := Lib.hid fun h => by
    have := Hgz.out h
    exact ⟨by omega, by omega, by omega, Hgzl.out h⟩
  clear nm hnm
  go_wp2_with fail
  go_loopw [9] (fun i wr => ∃ k : Nat, k ≤ n + m ∧ i = .int .i64 k ∧ Hid (KeptBut (OwnG W3.heap.size w4.heap.size w6.heap.size gl) w9 wr) ∧ Hid (Below w.heap.size w wr) ∧ Hid (Stor gb x.path wr) ∧ Hid (Stor gz x.path wr) ∧
      Hid (∀ (j : Nat) s, k ≤ j → (x.path ++ st)[j]? = some s → wr.cell? ⟨ga, j, none⟩ = some (.string s) ∧ wr.frozen? ⟨ga, j, none⟩ = false))
    (fun i _ => n + m - (intOf i).toNat)
  case atStart => exact ⟨0, Nat.zero_le _, rfl, Lib.hid (KeptBut.refl _ _), Hb, Lib.hid (Stor.of Hrb.out), Lib.hid (Stor.of Hrz.out), Lib.hid fun j s _ hj => Hra.out j s hj⟩
  case round =>
    obtain ⟨k, hk, rfl, HK, HB, HSb, HSz, HA⟩ := hrel
    clear Hra Hrb Hrz Hb
    have hk0 : 0 ≤ (k : Int) := by omega
    have A1 := HK.out.cell HnA.out a1
    have F1 := HK.out.cell (HOld.out _ (by omega)) f1
    by_cases hlt : k < n + m
    · obtain ⟨s, hs, _⟩ := get_at (l := x.path ++ st) (k := k) (by rw [← HNL.out]; exact hlt)
      obtain ⟨rfl, hga1, hga2⟩ := Hga.out (by omega)
      obtain ⟨g0, g1⟩ := HA.out k s (Nat.le_refl _) hs
      have es : (!s.toList == s.toList) = false := str_neq' rfl
      have hk2 : (k : Int) < (n : Int) + (m : Int) := by omega
      have hG := Lib.hid (HgA.out (by omega))
      by_cases hkn : k < n
      · have hx : x.path[k]? = some s := by rw [List.getElem?_append_left (by rw [← Hn.out]; exact hkn)] at hs; exact hs
        obtain ⟨bx, ox, h4, hr1⟩ := (HX9.out.kept HK.out (fun b h => HOld.out b (by omega))).at
        obtain ⟨rfl, hbx⟩ := h4 (by rw [← Hn.out]; omega)
        have FP := (hr1 k s hx).2
        have hk1 : (k : Int) < (n : Int) := by omega
        have HA' : Hid (∀ z (j : Nat) s, k + 1 ≤ j → (x.path ++ st)[j]? = some s → (wr.setCell ⟨ga, k, none⟩ z).cell? ⟨ga, j, none⟩ = some (.string s) ∧ (wr.setCell ⟨ga, k, none⟩ z).frozen? ⟨ga, j, none⟩ = false) := Lib.hid fun z j s hj h => by
          obtain ⟨g2, g3⟩ := HA.out j s (by omega) h
          exact ⟨by rw [World.cell?_setCell_other _ _ _ _ (by intro e; simp only [Addr.mk.injEq] at e; omega)]; exact g2, by rw [World.frozen?_setCell]; exact g3⟩
        clear hr1 h4 hs HA
        go_wp2_with fail
        go_roundw
        case rel => exact ⟨k + 1, by omega, by go_num, Lib.hid (HK.out.set _ _ hG.out), Lib.hid (HB.out.setCell (p := ⟨ga, k, none⟩) (by show w.heap.size ≤ ga; omega) _), Lib.hid (HSb.out.set _ _), Lib.hid (HSz.out.set _ _), Lib.hid fun j s => HA'.out _ j s⟩
        case measure => simp [intOf]; omega
      · obtain ⟨d, rfl⟩ : ∃ d, k = n + d := ⟨k - n, by omega⟩
        have hx : st[d]? = some s := by rw [List.getElem?_append_right (by rw [← Hn.out]; omega), ← Hn.out, Nat.add_sub_cancel_left] at hs; exact hs
        obtain ⟨bs, os, h4, hr1⟩ := (HS9.out.kept HK.out (fun b h => HOld.out b (by omega))).at
        obtain ⟨rfl, hbx⟩ := h4 (by rw [← Hm.out]; omega)
        have FP := (hr1 d s hx).2
        have hk1 : ¬ (n : Int) + (d : Int) < (n : Int) := by omega
        have hd0 : 0 ≤ (d : Int) := by omega
        have hdm : (d : Int) < (m : Int) := by omega
        have ed : (n : Int) + (d : Int) - (n : Int) = (d : Int) := by omega
        have HA' : Hid (∀ z (j : Nat) s, n + d + 1 ≤ j → (x.path ++ st)[j]? = some s → (wr.setCell ⟨ga, n + d, none⟩ z).cell? ⟨ga, j, none⟩ = some (.string s) ∧ (wr.setCell ⟨ga, n + d, none⟩ z).frozen? ⟨ga, j, none⟩ = false) := Lib.hid fun z j s hj h => by
          obtain ⟨g2, g3⟩ := HA.out j s (by omega) h
          exact ⟨by rw [World.cell?_setCell_other _ _ _ _ (by intro e; simp only [Addr.mk.injEq] at e; omega)]; exact g2, by rw [World.frozen?_setCell]; exact g3⟩
        clear hr1 h4 hs HA
        go_wp2_with fail
        go_roundw
        case rel => exact ⟨n + d + 1, by omega, by go_num, Lib.hid (HK.out.set _ _ hG.out), Lib.hid (HB.out.setCell (p := ⟨ga, n + d, none⟩) (by show w.heap.size ≤ ga; omega) _), Lib.hid (HSb.out.set _ _), Lib.hid (HSz.out.set _ _), Lib.hid fun j s => HA'.out _ j s⟩
        case measure => simp [intOf]; omega
    · obtain rfl : k = n + m := by omega
      clear HA Hga HgA F1 hlt hk
      obtain ⟨wo, rfl⟩ : ∃ wo : World, wo = wr := ⟨_, rfl⟩
      go_wp2_with fail
      go_loopw [11] (fun i wr => ∃ k : Nat, k ≤ n ∧ i = .int .i64 k ∧ Hid (KeptBut (OwnG W3.heap.size w4.heap.size w6.heap.size gl) w9 wr) ∧ Hid (Below w.heap.size w wr) ∧ Hid (Stor gb x.path wr) ∧ Hid (Stor gz x.path wr))
        (fun i _ => n - (intOf i).toNat)
      case atStart => exact ⟨0, Nat.zero_le _, rfl, HK, HB, HSb, HSz⟩
      case round =>
        clear HK HB HSb HSz A1 hk0 wo
        obtain ⟨k, hk, rfl, HK, HB, HSb, HSz⟩ := hrel
        have hk0 : 0 ≤ (k : Int) := by omega
        have B1 := HK.out.cell HnB.out b1'
        have L1 := HK.out.cell HnL.out l1
        by_cases hlt : k < n
        · have hk1 : (k : Int) < (n : Int) := by omega
          obtain ⟨s, hs, _⟩ := get_at (l := x.path) (k := k) (by rw [← Hn.out]; exact hlt)
          obtain ⟨rfl, hgb1, hgb2⟩ := Hgb.out (by omega)
          obtain ⟨rfl, hgz1, hgz2⟩ := Hgz.out (by omega)
          have hne : gz ≠ gl := Hgzl.out (by omega)
          have hG := Lib.hid (HgB.out (by omega))
          have hG2 := Lib.hid (HgZ.out (by omega))
          obtain ⟨g0, g1⟩ := HSb.out k s hs
          obtain ⟨v0, g0⟩ := Option.isSome_iff_exists.1 g0
          obtain ⟨g2, g3⟩ := HSz.out k s hs
          obtain ⟨v2, g2⟩ := Option.isSome_iff_exists.1 g2
          have n1 : gb ≠ gl := by omega
          have n2 : gb ≠ gz := by omega
          clear hs
          go_wp2_with fail
          go_roundw
          case rel => exact ⟨k + 1, by omega, by go_num, Lib.hid ((HK.out.set _ _ hG.out).set _ _ hG2.out), Lib.hid ((HB.out.setCell (p := ⟨gb, k, none⟩) (by show w.heap.size ≤ gb; omega) _).setCell (p := ⟨gz, k, none⟩) (by show w.heap.size ≤ gz; omega) _), Lib.hid ((HSb.out.set _ _).set _ _), Lib.hid ((HSz.out.set _ _).set _ _)⟩
          case measure => simp [intOf]; omega
        · obtain rfl : n = k := by omega
          have I0 := HK.out.cell (HOld.out _ s2) i0
          have I1 := HK.out.cell (HOld.out _ s2) i1
          have F0 := HK.out.cell (HOld.out _ (by omega)) f0
          have F1 := HK.out.cell (HOld.out _ (by omega)) f1
          have HIr : Hid (x.In W3.heap.size wr (.slice ai n ci)) := Lib.hid ⟨HI9.out.1, HI9.out.2.kept HK.out HOld.out⟩
          have HXr : Hid (SIn w.heap.size wr x.path (.slice ao1 n cap1)) := Lib.hid (HX9.out.kept HK.out (fun b h => HOld.out b (by omega)))
          have hsz : wr.heap.size = w9.heap.size := HK.out.1
          have zI : w2.heap.size < wr.heap.size := by omega
          have zF : w.heap.size < wr.heap.size := by omega
          have zW : W3.heap.size ≤ wr.heap.size := by omega
          clear hsz L1 HSb HSz HnA HnB HnL HgB HgZ HK HOld HI9 HX9 HS9 i0 i1 f0 f1 hk hlt hl0 hl1 z4 z6 z7 s3 s5 s7 s8 Hgb Hgz Hgzl
          go_wp2_with fail
          refine (root_row x W3.heap.size _ wr zW HIr.out).mono ?_
          rintro e w11 ⟨ao11, cap11, rfl, HR, b1⟩
          obtain ⟨I0, I1, zI⟩ := pl_up zI b1 I0 I1
          obtain ⟨F0, F1, zF⟩ := pl_up zF b1 F0 F1
          have Hb := Lib.hid (HB.out.trans (b1.mono (by omega)))
          have HIr := Lib.hid (HIr.out.below (b1.mono zW))
          have HXr := Lib.hid (HXr.out.below (b1.mono (by omega)))
          have zW : W3.heap.size ≤ w11.heap.size := Nat.le_trans zW b1.size
          clear b1 HR B1 HB
          have X0 := al_up zI I0
          have X1 := al_up zI I1
          have Y0 := al_up zF F0
          have Y1 := al_up zF F1
          go_wp2_with fail
          obtain ⟨W12, hW⟩ : ∃ W, W = w11.alloc (.cells #[.string x.name, .slice ao11 0 cap11] 24) := ⟨_, rfl⟩
          have b3 : Below w11.heap.size w11 W12 := by rw [hW]; exact box1 _ _
          have r0 : W12.cell? ⟨w11.heap.size, 0, none⟩ = some (.string x.name) := by rw [hW]; go_simp
          have r1 : W12.cell? ⟨w11.heap.size, 1, none⟩ = some (.slice ao11 0 cap11) := by rw [hW]; go_simp
          have zR : w11.heap.size < W12.heap.size := by rw [hW]; simp
          rw [← hW]
          obtain ⟨F0, F1, zF⟩ := pl_up zF b3 F0 F1
          have Hb := Lib.hid (Hb.out.trans (b3.mono Hb.out.size))
          have HIr := Lib.hid (HIr.out.below (b3.mono zW))
          have HXr := Lib.hid (HXr.out.below (b3.mono (by omega)))
          have CS := Lib.hid (refSame_calls W12.heap.size x x (.slice ai n ci) (.slice ao1 n cap1) W12 (Nat.le_refl _) (HIr.out.mono (by omega)) ⟨HIr.out.1, HXr.out.mono (by omega)⟩)
          rw [show sameP x x = true from by simp [sameP]] at CS
          clear hW b3 X0 X1 Y0 Y1 HIr HXr
          refine CS.out.mono ?_
          rintro e w13 ⟨rfl, b1⟩
          obtain ⟨F0, F1, zF⟩ := pl_up zF b1 F0 F1
          obtain ⟨r0, r1, zR⟩ := pl_up zR b1 r0 r1
          have Hb := Lib.hid (Hb.out.trans (b1.mono Hb.out.size))
          have es : (x.name.toList == x.name.toList) = true := str_eq rfl
          clear b1 CS
          go_wp2_with fail
          refine (awake_calls w13).mono ?_
          rintro e w14 ⟨rfl, b1⟩
          have Hb := Lib.hid (Hb.out.trans (b1.mono Hb.out.size))
          clear b1
          go_wp2_with fail
          go_ret
          exact ⟨rfl, Hb.out⟩
end Go.Proofs.Ytipiiaghjkhkbaa
