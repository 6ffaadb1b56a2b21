/- The laws' own Twin and spoil; where rows of loans lie. -/
import Derived.Test.YtaoalplglfdobaaDoorLoansRef2
import Derived.Deep.RegionLaw
namespace Go.Proofs.YtaoalplglfdobaaDoor
open Go.RowKit
set_option linter.unusedVariables false

/-! ### where rows lie: in blocks of Q alone -/
def PP.At (Q : Nat → Prop) (w : World) (x : PP) (v : Value) : Prop := x.name.size ≤ strMax ∧ x.path.length ≤ maxLen ∧ ∃ ao cap b o, v = .slice ao x.path.length cap ∧ x.path.length ≤ cap ∧ (x.path.length ≠ 0 → ao = some ⟨b, o, none⟩ ∧ Q b) ∧ RowS w b o x.path
def NAt (Q : Nat → Prop) (w : World) (l : List LN) (v : Value) : Prop :=
  l.length ≤ maxLen ∧ ∃ ao cap b o, v = .slice ao l.length cap ∧ l.length ≤ cap ∧ (l.length ≠ 0 → ao = some ⟨b, o, none⟩ ∧ Q b) ∧ ∀ (j : Nat) x, l[j]? = some x → ∃ v, CellN w b (o + j * 4) x v ∧ x.place.At Q w v
theorem PP.At.in {Q : Nat → Prop} {w : World} {x : PP} {v : Value} {B : Nat} (h : x.At Q w v) (hQ : ∀ b, Q b → b < B) : x.In B w v := by
  obtain ⟨h1, h2, ao, cap, b, o, hv, hc, ha, hr⟩ := h
  refine ⟨h1, b, o, ⟨h2, ao, cap, hv, hc, ?_⟩, hr⟩
  by_cases h0 : x.path.length = 0
  · exact .inl h0
  · exact .inr ⟨(ha h0).1, hQ b (ha h0).2⟩
theorem NAt.in {Q : Nat → Prop} {w : World} {l : List LN} {v : Value} {B : Nat} (h : NAt Q w l v) (hQ : ∀ b, Q b → b < B) : NIn B w l v := by
  obtain ⟨h2, ao, cap, b, o, hv, hc, ha, hr⟩ := h
  refine ⟨b, o, ⟨h2, ao, cap, hv, hc, ?_⟩, fun j x hj => ?_⟩
  · by_cases h0 : l.length = 0
    · exact .inl h0
    · exact .inr ⟨(ha h0).1, hQ b (ha h0).2⟩
  · obtain ⟨u, h3, h4⟩ := hr j x hj
    exact ⟨u, h3, h4.in hQ⟩
theorem PP.At.weak {Q Q' : Nat → Prop} {w : World} {x : PP} {v : Value} (h : x.At Q w v) (hQ : ∀ b, Q b → Q' b) : x.At Q' w v := by
  obtain ⟨h1, h2, ao, cap, b, o, hv, hc, ha, hr⟩ := h
  exact ⟨h1, h2, ao, cap, b, o, hv, hc, fun h => ⟨(ha h).1, hQ b (ha h).2⟩, hr⟩
theorem NAt.weak {Q Q' : Nat → Prop} {w : World} {l : List LN} {v : Value} (h : NAt Q w l v) (hQ : ∀ b, Q b → Q' b) : NAt Q' w l v := by
  obtain ⟨h2, ao, cap, b, o, hv, hc, ha, hr⟩ := h
  exact ⟨h2, ao, cap, b, o, hv, hc, fun h => ⟨(ha h).1, hQ b (ha h).2⟩, fun j x hj => by
    obtain ⟨u, h3, h4⟩ := hr j x hj
    exact ⟨u, h3, h4.weak hQ⟩⟩
/-- the blocks of Q lie as they lay -/
def SameQ (Q : Nat → Prop) (w w' : World) : Prop := ∀ b, Q b → w'.heap[b]? = w.heap[b]?
theorem SameQ.refl (Q : Nat → Prop) (w : World) : SameQ Q w w := fun _ _ => rfl
theorem SameQ.trans {Q : Nat → Prop} {w w' w'' : World} (h : SameQ Q w w') (k : SameQ Q w' w'') : SameQ Q w w'' := fun b hb => (k b hb).trans (h b hb)
theorem SameQ.of_below {Q : Nat → Prop} {w w' : World} {B : Nat} (h : Below B w w') (hQ : ∀ b, Q b → b < B) : SameQ Q w w' := fun b hb => h.block b (hQ b hb)
theorem SameQ.weak {Q Q' : Nat → Prop} {w w' : World} (h : SameQ Q w w') (hQ : ∀ b, Q' b → Q b) : SameQ Q' w w' := fun b hb => h b (hQ b hb)
theorem SameQ.set {Q : Nat → Prop} {w w' : World} (h : SameQ Q w w') (p : Addr) (z : Value) (hp : ¬ Q p.block) : SameQ Q w (w'.setCell p z) := fun b hb => (Below.heap_setCell w' p z b (fun e => hp (e ▸ hb))).trans (h b hb)
theorem SameQ.cell {Q : Nat → Prop} {w w' : World} (h : SameQ Q w w') {b o : Nat} (hb : Q b) {u : Option Value} (hc : w.cell? ⟨b, o, none⟩ = u) : w'.cell? ⟨b, o, none⟩ = u := (World.cell?_of_block (h b hb)).trans hc
theorem PP.At.same {Q : Nat → Prop} {w w' : World} {x : PP} {v : Value} (h : x.At Q w v) (k : SameQ Q w w') : x.At Q w' v := by
  obtain ⟨h1, h2, ao, cap, b, o, hv, hc, ha, hr⟩ := h
  exact ⟨h1, h2, ao, cap, b, o, hv, hc, ha, fun j s hj => ⟨(hr j s hj).1, k.cell (ha (some_pos hj)).2 (hr j s hj).2⟩⟩
theorem NAt.same {Q : Nat → Prop} {w w' : World} {l : List LN} {v : Value} (h : NAt Q w l v) (k : SameQ Q w w') : NAt Q w' l v := by
  obtain ⟨h2, ao, cap, b, o, hv, hc, ha, hr⟩ := h
  refine ⟨h2, ao, cap, b, o, hv, hc, ha, fun j x hj => ?_⟩
  obtain ⟨u, ⟨y0, y1, y2, y3⟩, h4⟩ := hr j x hj
  have hb := (ha (some_pos hj)).2
  exact ⟨u, ⟨k.cell hb y0, k.cell hb y1, k.cell hb y2, k.cell hb y3⟩, h4.same k⟩
theorem NAt.shape {Q : Nat → Prop} {w : World} {l : List LN} {v : Value} (h : NAt Q w l v) : ∃ ao cap, v = .slice ao l.length cap := by
  obtain ⟨_, ao, cap, _, _, hv, _⟩ := h
  exact ⟨ao, cap, hv⟩
theorem NAt.pairs {Q : Nat → Prop} {w : World} {l : List LN} {ao : Option Addr} {n cap : Nat} (h : NAt Q w l (.slice ao n cap)) :
    ∃ (Z : List (LN × Value)) (b o : Nat), Z.map Prod.fst = l ∧ n = Z.length ∧ (n ≠ 0 → ao = some ⟨b, o, none⟩ ∧ Q b) ∧ ∀ (j : Nat) p, Z[j]? = some p → CellN w b (o + j * 4) p.1 p.2 ∧ p.1.place.At Q w p.2 := by
  obtain ⟨h2, ao', cap', b, o, hv, hc, ha, hr⟩ := h
  obtain ⟨rfl, rfl, rfl⟩ := Value.slice.inj hv
  have h2 : ∀ j : Nat, ∃ v, ∀ x, l[j]? = some x → CellN w b (o + j * 4) x v ∧ x.place.At Q w v := by
    intro j
    cases hj : l[j]? with
    | none => exact ⟨undef, fun x hx => by cases hx⟩
    | some x =>
      obtain ⟨v, h1⟩ := hr j x hj
      exact ⟨v, fun y hy => by cases hy; exact h1⟩
  obtain ⟨f, hf⟩ := Classical.skolem.1 h2
  refine ⟨l.mapIdx fun j x => (x, f j), b, o, ?_, by simp, ha, ?_⟩
  · apply List.ext_getElem?
    intro j
    rw [List.getElem?_map, List.getElem?_mapIdx]
    cases l[j]? <;> rfl
  · intro j p hp
    rw [List.getElem?_mapIdx, Option.map_eq_some_iff] at hp
    obtain ⟨x, hx, rfl⟩ := hp
    exact hf j x hx
theorem PP.At.one {Q : Nat → Prop} {w : World} {x : PP} {v : Value} (h : x.At Q w v) : v.oneCell' = true := by
  obtain ⟨_, _, ao, cap, _, _, rfl, _⟩ := h
  rfl
/-- a row of one's own lies at a block from base on -/
theorem own_NAt {Q : Nat → Prop} {base : Nat} {w : World} {Z : List (LN × Value)} {e : TypeId} {v : Value} {n : Nat} (h : w.ownsRow base e 4 v n (cells4 Z)) (hn : n = Z.length) (hi : ∀ p, p ∈ Z → p.1.place.At Q w p.2) (hQ : ∀ b, base ≤ b → b < w.heap.size → Q b) (hm : Z.length ≤ maxLen) :
    NAt Q w (Z.map Prod.fst) v := by
  subst hn
  obtain ⟨⟨_, ao, cap, hv, hc, ha⟩, h2⟩ := own_cells h hm
  refine ⟨by rw [List.length_map]; exact hm, ao, cap, rowAt v, 0, by rw [List.length_map]; exact hv, by rw [List.length_map]; exact hc, fun h0 => ?_, fun j x hj => ?_⟩
  · rw [List.length_map] at h0
    obtain ⟨e1, e2⟩ := ha.resolve_left h0
    refine ⟨e1, hQ _ ?_ e2⟩
    exact (h.lt (rowAt v) (by rw [hv, e1]; simp [Value.ownBlock, rowAt])).1
  · rw [List.getElem?_map, Option.map_eq_some_iff] at hj
    obtain ⟨p, hp, rfl⟩ := hj
    obtain ⟨c0, c1, c2, c3⟩ := cells4_at hp
    exact ⟨p.2, ⟨(h2 _ _ c0).1, (h2 _ _ c1).1, (h2 _ _ c2).1, (h2 _ _ c3).1⟩, hi p (List.mem_of_getElem? hp)⟩

set_option maxRecDepth 100000 in
set_option maxHeartbeats 4000000 in
theorem twin_calls (Q : Nat → Prop) (l : List LN) (v : Value) (hl : l.length ≤ 1000) (w : World) (hQ : ∀ b, Q b → b < w.heap.size) (h : NAt Q w l v) :
    Calls Tryd.prog 14 #[v] w fun e w' => ∃ ao cap, e = .returned (.slice ao l.length cap) ∧ NAt (fun b => Q b ∨ (w.heap.size ≤ b ∧ b < w'.heap.size)) w' l (.slice ao l.length cap) ∧ Below w.heap.size w w' := by
  obtain ⟨i0, hi, hz0, hz1, hz2⟩ := info_parts infoLoan
  obtain ⟨ao, cap, rfl⟩ := h.shape
  obtain ⟨n, hn⟩ : ∃ n, n = l.length := ⟨_, rfl⟩
  rw [← hn] at h hl ⊢
  obtain ⟨Z, b, o, hZ, hnZ, ha, hz⟩ := h.pairs
  have HA : Hid (Z.take n = Z) := Lib.hid (by rw [hnZ]; exact List.take_length)
  have HT : Hid (∀ k p, Z[k]? = some p → Z.take (k + 1) = Z.take k ++ [p]) := Lib.hid fun k p hp => by rw [List.take_add_one, hp]; rfl
  have Hn := Lib.hid hnZ
  have HZ := Lib.hid hZ
  have Hz := Lib.hid hz
  have H1 := Lib.hid ha
  have HQ := Lib.hid hQ
  clear h hZ hnZ ha hz hn hQ
  go_enter Tryd.func14, Tryd.ntmps14
  go_wp2_with fail
  go_loopw [4, 3] (fun i u wr => ∃ k : Nat, k ≤ n ∧ i = .int .i64 k ∧ Hid (wr.ownsRow w.heap.size 37 4 u k (cells4 (Z.take k))) ∧ Hid (Below w.heap.size w wr))
    (fun i _ _ => n - (intOf i).toNat)
  case atStart => exact ⟨0, by omega, rfl, Lib.hid (by simpa [cells4] using World.ownsRow_nil _ w.heap.size 37 4), Lib.hid (Below.refl _ _)⟩
  case round =>
    obtain ⟨k, hk, rfl, HO, HB⟩ := hrel
    obtain ⟨u, rfl⟩ : ∃ x, x = u3 := ⟨_, rfl⟩
    have hk0 : 0 ≤ (k : Int) := by omega
    by_cases hlt : k < n
    · obtain ⟨p, hp, _⟩ := get_at (l := Z) (k := k) (by rw [← Hn.out]; exact hlt)
      obtain ⟨rfl, hqb⟩ := H1.out (by omega)
      have hbw : b < w.heap.size := HQ.out b hqb
      have hk1 : (k : Int) < (n : Int) := by omega
      obtain ⟨cc, yi⟩ := Hz.out k p hp
      obtain ⟨y0, y1, y2, y3⟩ := cc.below hbw HB.out
      have hone := yi.one
      have HN := Lib.hid (HT.out k p hp)
      have hws : w.heap.size ≤ wr.heap.size := HB.out.size
      have Hown1 := Lib.hid (own_below HO.out (show Below wr.heap.size wr wr.drew from (Below.refl _ wr).drew))
      clear hp cc yi hqb
      obtain ⟨⟨⟨sy, py⟩, ya, yt⟩, vy⟩ := p
      change wr.cell? ⟨b, o + k * 4, none⟩ = some (.string sy) at y0
      change wr.cell? ⟨b, o + k * 4 + 1, none⟩ = some vy at y1
      change wr.cell? ⟨b, o + k * 4 + 2, none⟩ = some (.bool ya) at y2
      change wr.cell? ⟨b, o + k * 4 + 3, none⟩ = some (.int .i64 yt) at y3
      change vy.oneCell' = true at hone
      go_wp2_with fail
      go_region_law
        (refine step_append_lies _ (by rfl) _ _ _ (by rfl) w.heap.size 37 i0 _ 4 56 Tryd.underlying31 hi hz0 hz1 hz2 rfl (by omega) u k _ (by rfl) (Hown1.out.alloc _) ⟨wr.heap.size, 0, none⟩ 1 1 [.string sy, vy, .bool ya, .int .i64 yt] (by rfl) (by rfl) (four_news wr.drew _ _ _ _ _) (four_one hone)
              (by omega) (by unfold maxLen; omega) (by omega) (by simp; omega) (wr.heap.size + 1) (by simp) ?_
         intro gg cap1 w2' hown1 hgrow hat hlt2)
      all_goals
        have Hb2 : Hid (Below w.heap.size w w2') := Lib.hid (((HB.out.drew).alloc (by simp; omega) _).grown hgrow (by simp; omega) (fun i hi => (Hown1.out.lt i hi).1))
        have HO2 : Hid (w2'.ownsRow w.heap.size 37 4 (.slice (some ⟨gg, 0, none⟩) (k + 1) cap1) (k + 1) (cells4 (Z.take (k + 1)))) := Lib.hid (by rw [HN.out, cells4_snoc]; exact hown1)
        clear hown1 hgrow hat Hown1 HO hone
        go_wp2_with fail
        go_roundw
        case rel => exact ⟨k + 1, by omega, by go_num, HO2, Hb2⟩
        case measure => simp [intOf]; omega
    · obtain rfl : n = k := by omega
      rw [HA.out] at HO
      have hin : NAt (fun b => Q b ∨ (w.heap.size ≤ b ∧ b < wr.heap.size)) wr (Z.map Prod.fst) u := own_NAt HO.out Hn.out (fun p hp => by
        obtain ⟨j, hj⟩ := List.mem_iff_getElem?.1 hp
        exact ((Hz.out j p hj).2.same (SameQ.of_below HB.out HQ.out)).weak fun b h => .inl h) (fun b h1 h2 => .inr ⟨h1, h2⟩) (by rw [← Hn.out]; unfold maxLen; omega)
      rw [HZ.out] at hin
      obtain ⟨na, nc, rfl⟩ := own_shape HO.out
      have HI := Lib.hid hin
      clear hin HO
      go_wp2_with fail
      go_ret
      exact ⟨_, _, rfl, HI.out, HB.out⟩
end Go.Proofs.YtaoalplglfdobaaDoor
