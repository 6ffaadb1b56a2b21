/- The laws' own spoil: it writes to the rows of its loans, and to those of their steps, and nowhere else. -/
import Derived.Test.YtaoalplglfdobaaDoorLoansLaw2
namespace Go.Proofs.YtaoalplglfdobaaDoor
open Go.RowKit
set_option linter.unusedVariables false

/-- what spoil reads and writes is there -/
structure Spo (Z : List (LN × Value)) (gv : Nat) (w : World) : Prop where
  row : ∀ (j : Nat) p, Z[j]? = some p → w.cell? ⟨gv, j * 4 + 1, none⟩ = some p.2 ∧ (w.cell? ⟨gv, j * 4 + 3, none⟩).isSome = true ∧ w.frozen? ⟨gv, j * 4 + 3, none⟩ = false
  pat : ∀ (j : Nat) p, Z[j]? = some p → ∀ g n c, p.2 = .slice (some ⟨g, 0, none⟩) n c → ∀ i, i < n → (w.cell? ⟨g, i, none⟩).isSome = true ∧ w.frozen? ⟨g, i, none⟩ = false
theorem some_set {w : World} {p q : Addr} {z : Value} (h : (w.cell? q).isSome = true) : ((w.setCell p z).cell? q).isSome = true := by
  by_cases e : p = q
  · subst e
    rw [World.cell?_setCell_same' _ _ _ h]; rfl
  · rw [World.cell?_setCell_other _ _ _ _ e]; exact h
theorem Spo.path {Z : List (LN × Value)} {gv : Nat} {w : World} (h : Spo Z gv w) {g i : Nat} (z : Value) (hg : g ≠ gv) : Spo Z gv (w.setCell ⟨g, i, none⟩ z) where
  row := fun j p hp => by
    obtain ⟨h1, h2, h3⟩ := h.row j p hp
    exact ⟨by rw [World.cell?_setCell_other _ _ _ _ (by intro e; simp only [Addr.mk.injEq] at e; exact hg e.1)]; exact h1, some_set h2, by rw [World.frozen?_setCell]; exact h3⟩
  pat := fun j p hp g n c he i hi => by
    obtain ⟨h1, h2⟩ := h.pat j p hp g n c he i hi
    exact ⟨some_set h1, by rw [World.frozen?_setCell]; exact h2⟩
theorem Spo.till {Z : List (LN × Value)} {gv : Nat} {w : World} (h : Spo Z gv w) {k : Nat} (z : Value) : Spo Z gv (w.setCell ⟨gv, k * 4 + 3, none⟩ z) where
  row := fun j p hp => by
    obtain ⟨h1, h2, h3⟩ := h.row j p hp
    exact ⟨by rw [World.cell?_setCell_other _ _ _ _ (by intro e; simp only [Addr.mk.injEq] at e; omega)]; exact h1, some_set h2, by rw [World.frozen?_setCell]; exact h3⟩
  pat := fun j p hp g n c he i hi => by
    obtain ⟨h1, h2⟩ := h.pat j p hp g n c he i hi
    exact ⟨some_set h1, by rw [World.frozen?_setCell]; exact h2⟩
/-- two rows of unlike types lie apart -/
theorem own_apart {w : World} {base base' : Nat} {e e' : TypeId} {size size' : Nat} {v u : Value} {n m : Nat} {xs ys : List Value} (h : w.ownsRow base e size v n xs) (hu : w.ownsRow base' e' size' u m ys) (he : e ≠ e') {a b : Nat} (ha : v.ownBlock = some a) (hb : u.ownBlock = some b) : a ≠ b := by
  rintro rfl
  rcases h.2 with ⟨h1, _⟩ | ⟨g, cap, cur, h1, _, h2, _⟩
  · rw [h1] at ha; cases ha
  · rcases hu.2 with ⟨k1, _⟩ | ⟨g', cap', cur', k1, _, k2, _⟩
    · rw [k1] at hb; cases hb
    · rw [h1] at ha; rw [k1] at hb
      have e1 : g = a := by simpa [Value.ownBlock] using ha
      have e2 : g' = a := by simpa [Value.ownBlock] using hb
      rw [e1] at h2; rw [e2, h2] at k2
      cases k2
      exact he rfl

set_option maxRecDepth 100000 in
set_option maxHeartbeats 4000000 in
theorem spoil_calls (base top : Nat) (Z : List (LN × Value)) (v : Value) (n : Nat) (w : World) (hnl : n ≤ 1000) (hnZ : n = Z.length) (hO : w.ownsRow base 36 4 v n (cells4 Z))
    (hP : ∀ p, p ∈ Z → w.ownsRow base 9 1 p.2 p.1.place.path.length (p.1.place.path.map .string) ∧ p.1.place.path.length ≤ 1000) (hT : ∀ b, v.ownBlock = some b → b < top) (hT2 : ∀ p, p ∈ Z → ∀ b, p.2.ownBlock = some b → b < top) :
    Calls Tryd.prog 24 #[v] w fun e w' => e = .returned (.tuple #[]) ∧ SameQ (fun b => ¬ (base ≤ b ∧ b < top)) w w' ∧ Below base w w' ∧ w'.heap.size = w.heap.size := by
  obtain ⟨⟨hm, ao, cap, rfl, hc, ha⟩, hcell⟩ := own_cells hO (by unfold maxLen; omega)
  obtain ⟨gv, hgv⟩ : ∃ g, g = rowAt (.slice ao n cap) := ⟨_, rfl⟩
  rw [← hgv] at ha hcell
  have hown : n ≠ 0 → (Value.slice ao n cap).ownBlock = some gv := fun h0 => by
    obtain ⟨e1, _⟩ := ha.resolve_left h0
    rw [e1]; rfl
  have hS : Spo Z gv w := by
    refine ⟨fun j p hp => ?_, fun j p hp g m c he i hi => ?_⟩
    · obtain ⟨c0, c1, c2, c3⟩ := cells4_at hp
      have d1 := hcell _ _ c1
      have d3 := hcell _ _ c3
      rw [Nat.zero_add] at d1 d3
      exact ⟨d1.1, by rw [d3.1]; rfl, d3.2⟩
    · obtain ⟨hr, hl⟩ := hP p (List.mem_of_getElem? hp)
      obtain ⟨ua, uc, hv⟩ := own_shape hr
      rw [he] at hv
      obtain ⟨hv1, rfl, rfl⟩ := Value.slice.inj hv
      obtain ⟨_, h2⟩ := own_cells hr (by unfold maxLen; omega)
      have hs : (p.1.place.path.map Value.string)[i]? = some (.string p.1.place.path[i]) := by rw [List.getElem?_map, List.getElem?_eq_getElem hi]; rfl
      have := h2 i _ hs
      rw [he] at this
      simp only [rowAt, Nat.zero_add] at this
      exact ⟨by rw [this.1]; rfl, this.2⟩
  have hG : n ≠ 0 → base ≤ gv ∧ gv < top := fun h0 => ⟨(hO.lt gv (hown h0)).1, hT gv (hown h0)⟩
  have hGP : ∀ (j : Nat) p, Z[j]? = some p → ∀ g m c, p.2 = .slice (some ⟨g, 0, none⟩) m c → base ≤ g ∧ g < top ∧ g ≠ gv := fun j p hp g m c he => by
    have hmem := List.mem_of_getElem? hp
    have ho : p.2.ownBlock = some g := by rw [he]; rfl
    have h0 : n ≠ 0 := by rw [hnZ]; exact some_pos hp
    exact ⟨((hP p hmem).1.lt g ho).1, hT2 p hmem g ho, fun e => own_apart (hP p hmem).1 hO (by decide) ho (hown h0) e⟩
  have hSh : ∀ (j : Nat) p, Z[j]? = some p → ∃ g c, (p.2 = .slice none p.1.place.path.length c ∧ p.1.place.path.length = 0) ∨ p.2 = .slice (some ⟨g, 0, none⟩) p.1.place.path.length c := fun j p hp => by
    rcases (hP p (List.mem_of_getElem? hp)).1.2 with ⟨h1, h2⟩ | ⟨g, c, _, h1, _⟩
    · exact ⟨0, 0, .inl ⟨by rw [h1, h2], h2⟩⟩
    · exact ⟨g, c, .inr h1⟩
  have HLen : Hid (∀ (j : Nat) p, Z[j]? = some p → p.1.place.path.length ≤ 1000) := Lib.hid fun j p hp => (hP p (List.mem_of_getElem? hp)).2
  have ha2 : n ≠ 0 → ao = some ⟨gv, 0, none⟩ := fun h0 => (ha.resolve_left h0).1
  have HS := Lib.hid hS
  have HG := Lib.hid hG
  have HGP := Lib.hid hGP
  have HSh := Lib.hid hSh
  have HA := Lib.hid ha2
  have Hn := Lib.hid hnZ
  clear hS hG hGP hSh ha2 hnZ hO hP hT hT2 hown hcell ha hgv hm hc
  go_enter Tryd.func24, Tryd.ntmps24
  go_wp2_with fail
  go_loopw [2] (fun i wr => ∃ k : Nat, k ≤ n ∧ i = .int .i64 k ∧ Hid (Spo Z gv wr) ∧ Hid (SameQ (fun b => ¬ (base ≤ b ∧ b < top)) w wr) ∧ Hid (Below base w wr) ∧ Hid (wr.heap.size = w.heap.size))
    (fun i _ => n - (intOf i).toNat)
  case atStart => exact ⟨0, by omega, rfl, HS, Lib.hid (SameQ.refl _ _), Lib.hid (Below.refl _ _), Lib.hid rfl⟩
  case round =>
    clear HS
    obtain ⟨k, hk, rfl, HS, HQ, HB, HZ⟩ := hrel
    have hk0 : 0 ≤ (k : Int) := by omega
    by_cases hlt : k < n
    · obtain ⟨p, hp, _⟩ := get_at (l := Z) (k := k) (by rw [← Hn.out]; exact hlt)
      obtain rfl := HA.out (by omega)
      obtain ⟨hg1, hg2⟩ := HG.out (by omega)
      have hk1 : (k : Int) < (n : Int) := by omega
      obtain ⟨g, c, hv⟩ := HSh.out k p hp
      have Hp := Lib.hid hp
      have hml := HLen.out k p hp
      obtain ⟨m, hm⟩ : ∃ m, m = p.1.place.path.length := ⟨_, rfl⟩
      rw [← hm] at hv hml
      have HV := Lib.hid hv
      have HR : Hid (∀ W : World, Spo Z gv W → W.cell? ⟨gv, k * 4 + 1, none⟩ = some p.2) := Lib.hid fun W hW => (hW.row k p Hp.out).1
      obtain ⟨u, hu⟩ : ∃ u, u = p.2 := ⟨_, rfl⟩
      rw [← hu] at HV HR
      have HP : Hid (∀ W : World, Spo Z gv W → ∀ g c, u = .slice (some ⟨g, 0, none⟩) m c → ∀ i, i < m → (W.cell? ⟨g, i, none⟩).isSome = true ∧ W.frozen? ⟨g, i, none⟩ = false) := Lib.hid fun W hW g c he i hi => hW.pat k p Hp.out g m c (hu ▸ he) i hi
      have HW : Hid (∀ g c, u = .slice (some ⟨g, 0, none⟩) m c → base ≤ g ∧ g < top ∧ g ≠ gv) := Lib.hid fun g c he => HGP.out k p Hp.out g m c (hu ▸ he)
      have HTl : Hid (∀ W : World, Spo Z gv W → (W.cell? ⟨gv, k * 4 + 3, none⟩).isSome = true ∧ W.frozen? ⟨gv, k * 4 + 3, none⟩ = false) := Lib.hid fun W hW => (hW.row k p Hp.out).2
      clear hv hu hm hp
      obtain ⟨m1, c1, hsh⟩ : ∃ m1 c1, u = .slice m1 m c1 := by
        rcases HV.out with ⟨h, _⟩ | h
        · exact ⟨_, _, h⟩
        · exact ⟨_, _, h⟩
      subst hsh
      obtain ⟨wo, rfl⟩ : ∃ x : World, x = wr := ⟨_, rfl⟩
      go_wp2_with fail
      go_loopw [3] (fun j wr => ∃ q : Nat, q ≤ m ∧ j = .int .i64 q ∧ Hid (Spo Z gv wr) ∧ Hid (SameQ (fun b => ¬ (base ≤ b ∧ b < top)) w wr) ∧ Hid (Below base w wr) ∧ Hid (wr.heap.size = w.heap.size))
        (fun j _ => m - (intOf j).toNat)
      case atStart => exact ⟨0, by omega, rfl, HS, HQ, HB, HZ⟩
      case round =>
        clear HS HQ HB HZ wo
        obtain ⟨q, hq, rfl, HS, HQ, HB, HZ⟩ := hrel
        have hq0 : 0 ≤ (q : Int) := by omega
        have r1 := HR.out wr HS.out
        by_cases hqm : q < m
        · have hq1 : (q : Int) < (m : Int) := by omega
          have hm1 : m1 = some ⟨g, 0, none⟩ := by
            rcases HV.out with ⟨_, h⟩ | h
            · omega
            · exact (Value.slice.inj h).1
          subst hm1
          obtain ⟨hw1, hw2, hw3⟩ := HW.out g c1 rfl
          obtain ⟨h1, h2⟩ := HP.out wr HS.out g c1 rfl q hqm
          obtain ⟨v0, h1⟩ := Option.isSome_iff_exists.1 h1
          go_wp2_with fail
          go_roundw
          case rel => exact ⟨q + 1, by omega, by go_num, Lib.hid (HS.out.path _ hw3), Lib.hid (HQ.out.set _ _ (by simp; omega)), Lib.hid (HB.out.setCell (p := ⟨g, q, none⟩) hw1 _), Lib.hid (by simpa using HZ.out)⟩
          case measure => simp [intOf]; omega
        · obtain rfl : m = q := by omega
          obtain ⟨h1, h2⟩ := HTl.out wr HS.out
          obtain ⟨v0, h1⟩ := Option.isSome_iff_exists.1 h1
          go_wp2_with fail
          go_roundw
          case rel => exact ⟨k + 1, by omega, by go_num, Lib.hid (HS.out.till _), Lib.hid (HQ.out.set _ _ (by simp; omega)), Lib.hid (HB.out.setCell (p := ⟨gv, k * 4 + 3, none⟩) hg1 _), Lib.hid (by simpa using HZ.out)⟩
          case measure => simp [intOf]; omega
    · obtain rfl : n = k := by omega
      go_wp2_with fail
      go_end0
      exact ⟨rfl, HQ.out, HB.out, HZ.out⟩
end Go.Proofs.YtaoalplglfdobaaDoor
