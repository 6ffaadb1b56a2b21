/- The law's own Twin, once more: where its row lies, and where its steps do. -/
import Derived.Test.YtaoalplglfdobaaDoorLoansLaw2
namespace Go.Proofs.YtaoalplglfdobaaDoor
open Go.RowKit
set_option linter.unusedVariables false

set_option maxRecDepth 100000 in
set_option maxHeartbeats 4000000 in
theorem twinZ_calls (Q : Nat → Prop) (l : List LN) (v : Value) (hl : l.length ≤ 1000) (w : World) (hQ : ∀ b, Q b → b < w.heap.size) (h : NAt Q w l v) :
    Calls Tryd.prog 14 #[v] w fun e w' => ∃ Z ao cap, e = .returned (.slice ao l.length cap) ∧ (Z.map Prod.fst = l ∧ w'.ownsRow w.heap.size 37 4 (.slice ao l.length cap) Z.length (cells4 Z) ∧ ∀ p, p ∈ Z → p.1.place.At Q w' p.2) ∧ Below w.heap.size w w' := by
  obtain ⟨i0, hi, hz0, hz1, hz2⟩ := info_parts infoLoan
  obtain ⟨ao, cap, rfl⟩ := h.shape
  obtain ⟨n, hn⟩ : ∃ n, n = l.length := ⟨_, rfl⟩
  rw [← hn] at h hl ⊢
  obtain ⟨Z, b, o, hZ, hnZ, ha, hz⟩ := h.pairs
  have HA : Hid (Z.take n = Z) := Lib.hid (by rw [hnZ]; exact List.take_length)
  have HT : Hid (∀ k p, Z[k]? = some p → Z.take (k + 1) = Z.take k ++ [p]) := Lib.hid fun k p hp => by rw [List.take_add_one, hp]; rfl
  have Hn := Lib.hid hnZ
  have HZ := Lib.hid hZ
  have Hz := Lib.hid hz
  have H1 := Lib.hid ha
  have HQ := Lib.hid hQ
  clear h hZ hnZ ha hz hn hQ
  go_enter Tryd.func14, Tryd.ntmps14
  go_wp2_with fail
  go_loopw [4, 3] (fun i u wr => ∃ k : Nat, k ≤ n ∧ i = .int .i64 k ∧ Hid (wr.ownsRow w.heap.size 37 4 u k (cells4 (Z.take k))) ∧ Hid (Below w.heap.size w wr))
    (fun i _ _ => n - (intOf i).toNat)
  case atStart => exact ⟨0, by omega, rfl, Lib.hid (by simpa [cells4] using World.ownsRow_nil _ w.heap.size 37 4), Lib.hid (Below.refl _ _)⟩
  case round =>
    obtain ⟨k, hk, rfl, HO, HB⟩ := hrel
    obtain ⟨u, rfl⟩ : ∃ x, x = u3 := ⟨_, rfl⟩
    have hk0 : 0 ≤ (k : Int) := by omega
    by_cases hlt : k < n
    · obtain ⟨p, hp, _⟩ := get_at (l := Z) (k := k) (by rw [← Hn.out]; exact hlt)
      obtain ⟨rfl, hqb⟩ := H1.out (by omega)
      have hbw : b < w.heap.size := HQ.out b hqb
      have hk1 : (k : Int) < (n : Int) := by omega
      obtain ⟨cc, yi⟩ := Hz.out k p hp
      obtain ⟨y0, y1, y2, y3⟩ := cc.below hbw HB.out
      have hone := yi.one
      have HN := Lib.hid (HT.out k p hp)
      have hws : w.heap.size ≤ wr.heap.size := HB.out.size
      have Hown1 := Lib.hid (own_below HO.out (show Below wr.heap.size wr wr.drew from (Below.refl _ wr).drew))
      clear hp cc yi hqb
      obtain ⟨⟨⟨sy, py⟩, ya, yt⟩, vy⟩ := p
      change wr.cell? ⟨b, o + k * 4, none⟩ = some (.string sy) at y0
      change wr.cell? ⟨b, o + k * 4 + 1, none⟩ = some vy at y1
      change wr.cell? ⟨b, o + k * 4 + 2, none⟩ = some (.bool ya) at y2
      change wr.cell? ⟨b, o + k * 4 + 3, none⟩ = some (.int .i64 yt) at y3
      change vy.oneCell' = true at hone
      go_wp2_with fail
      go_region_law
        (refine step_append_lies _ (by rfl) _ _ _ (by rfl) w.heap.size 37 i0 _ 4 56 Tryd.underlying31 hi hz0 hz1 hz2 rfl (by omega) u k _ (by rfl) (Hown1.out.alloc _) ⟨wr.heap.size, 0, none⟩ 1 1 [.string sy, vy, .bool ya, .int .i64 yt] (by rfl) (by rfl) (four_news wr.drew _ _ _ _ _) (four_one hone)
              (by omega) (by unfold maxLen; omega) (by omega) (by simp; omega) (wr.heap.size + 1) (by simp) ?_
         intro gg cap1 w2' hown1 hgrow hat hlt2)
      all_goals
        have Hb2 : Hid (Below w.heap.size w w2') := Lib.hid (((HB.out.drew).alloc (by simp; omega) _).grown hgrow (by simp; omega) (fun i hi => (Hown1.out.lt i hi).1))
        have HO2 : Hid (w2'.ownsRow w.heap.size 37 4 (.slice (some ⟨gg, 0, none⟩) (k + 1) cap1) (k + 1) (cells4 (Z.take (k + 1)))) := Lib.hid (by rw [HN.out, cells4_snoc]; exact hown1)
        clear hown1 hgrow hat Hown1 HO hone
        go_wp2_with fail
        go_roundw
        case rel => exact ⟨k + 1, by omega, by go_num, HO2, Hb2⟩
        case measure => simp [intOf]; omega
    · obtain rfl : n = k := by omega
      rw [HA.out] at HO
      have hal : ∀ p, p ∈ Z → p.1.place.At Q wr p.2 := fun p hp => by
        obtain ⟨j, hj⟩ := List.mem_iff_getElem?.1 hp
        exact (Hz.out j p hj).2.same (SameQ.of_below HB.out HQ.out)
      obtain ⟨na, nc, hu⟩ : ∃ na nc, u = .slice na n nc := by
        rcases HO.out.2 with ⟨h1, h2⟩ | ⟨_, _, _, h1, _⟩
        · exact ⟨none, 0, by rw [h1, h2]⟩
        · exact ⟨_, _, h1⟩
      subst hu
      have HI := Lib.hid (show Z.map Prod.fst = l ∧ wr.ownsRow w.heap.size 37 4 (.slice na n nc) Z.length (cells4 Z) ∧ ∀ p, p ∈ Z → p.1.place.At Q wr p.2 from ⟨HZ.out, by rw [← Hn.out]; exact HO.out, hal⟩)
      clear hal HO
      go_wp2_with fail
      go_ret
      exact ⟨Z, _, _, rfl, HI.out, HB.out⟩
end Go.Proofs.YtaoalplglfdobaaDoor
