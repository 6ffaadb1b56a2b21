/- What fits: items, programs (made by gen_fitsS.py). -/
import Derived.Test.YthilicmhdkmipaaGreatDoorITreeFitsS
namespace Go.Proofs.YthilicmhdkmipaaGreatDoor
open Go.RowKit
set_option linter.unusedVariables false

set_option maxHeartbeats 4000000 in
theorem itemShape_calls (k : Int) (hk : 0 ≤ k ∧ k ≤ 255) (w : World) :
    Calls Tryz.prog 262 #[.int .u8 k] w fun e w' => e = .returned (.agg (iSh k).cells) ∧ Below w.heap.size w w' := by
  rcases (show (k = 0 ∨ 3 < k) ∨ k = 1 ∨ k = 2 ∨ k = 3 by omega) with h | rfl | rfl | rfl
  · have e0 : iSh k = iSh 0 := by
      rcases h with rfl | h
      · rfl
      · unfold iSh; repeat rw [if_neg (by omega)]
    rw [e0]
    have n1 : (k == 1) = false := ne_beq (by omega)
    have n2 : (k == 2) = false := ne_beq (by omega)
    have n3 : (k == 3) = false := ne_beq (by omega)
    clear e0 h
    go_enter Tryz.func262, Tryz.ntmps262
    go_wp2_with fail
    (try simp only [Exit.inBlock, Exit.then])
    exact bodyPost_ret (v := .agg (iSh 0).cells) (by rw [results_cell1 rfl]; go_simp; rfl) rfl ⟨rfl, box1 w _⟩
  · clear hk; go_enter Tryz.func262, Tryz.ntmps262; go_wp2_with fail; (try simp only [Exit.inBlock, Exit.then]); exact bodyPost_ret (v := .agg (iSh 1).cells) (by rw [results_cell1 rfl]; go_simp; rfl) rfl ⟨rfl, box1 w _⟩
  · clear hk; go_enter Tryz.func262, Tryz.ntmps262; go_wp2_with fail; (try simp only [Exit.inBlock, Exit.then]); exact bodyPost_ret (v := .agg (iSh 2).cells) (by rw [results_cell1 rfl]; go_simp; rfl) rfl ⟨rfl, box1 w _⟩
  · clear hk; go_enter Tryz.func262, Tryz.ntmps262; go_wp2_with fail; (try simp only [Exit.inBlock, Exit.then]); exact bodyPost_ret (v := .agg (iSh 3).cells) (by rw [results_cell1 rfl]; go_simp; rfl) rfl ⟨rfl, box1 w _⟩
set_option maxHeartbeats 1000000 in
theorem notField_calls (fl : PF) (hs : fl.name.size ≤ maxLen) (va : Option Addr) (n c : Nat) (g x : Nat) (hx3 : x ≤ 3) (w : World) (hm : MaxOk w) (hg : w.cell? ⟨g, 2, none⟩ = some (.int .u8 x)) :
    Calls Tryz.prog 263 #[.agg #[.string fl.name, .int .u8 fl.type.kind, .string fl.type.name, .slice va n c], .pointer (some ⟨g, 0, none⟩)] w fun e w' => e = .returned (.bool (!fieldB x fl)) ∧ Below w.heap.size w w' := by
  have C1 : Hid (∀ w', Below w.heap.size w w' → Calls Tryz.prog 161 #[.int .u8 x, .string fl.name] w' fun e w'' => e = .returned (.bool (fieldB x fl)) ∧ Below w'.heap.size w' w'') := Lib.hid fun w' hw => textFits_calls x hx3 fl.name hs w' (hm.below hw)
  have hlt := World.block_lt_of_cell? _ _ hg
  have hg' : w.cell? ⟨g, 0 + 2, none⟩ = some (.int .u8 x) := hg
  clear hm hs
  generalize fieldB x fl = q at *
  have bx := Lib.hid (box1 w (.cells #[.string fl.name, .int .u8 fl.type.kind, .string fl.type.name, .slice va n c] 127))
  go_enter Tryz.func263, Tryz.ntmps263
  go_wp2_with fail
  refine (C1.out _ bx.out).mono ?_; rintro e w1 ⟨rfl, b1⟩
  go_wp2
  go_ret
  exact ⟨rfl, up_tr bx.out b1⟩
set_option maxHeartbeats 2000000 in
theorem indexField_calls (B : Nat) (l : List PF) (b1 o1 : Nat) (v1 : Value) (g fx : Nat) (w : World) (hB : B ≤ w.heap.size) (hm : MaxOk w) (s1 : SlV B v1 l.length b1 o1) (r1 : PF.Row B w b1 o1 l) (hx3 : fx ≤ 3) (hg : w.cell? ⟨g, 2, none⟩ = some (.int .u8 fx)) :
    Calls Tryz.prog 266 #[v1, .func (.func 263) #[] #[.pointer (some ⟨g, 0, none⟩)]] w fun e w' => (∃ r : Int, e = .returned (.int .i64 r) ∧ decide (0 ≤ r) = l.any (fun s => (!(fieldB fx) s))) ∧ Below w.heap.size w w' := by
  obtain ⟨m1, ao1, cap1, rfl, h1⟩ := s1
  unfold maxLen at m1
  obtain ⟨n, hx⟩ : ∃ n, n = l.length := ⟨_, rfl⟩
  rw [← hx] at m1 h1 ⊢
  have Hx := Lib.hid hx
  have Hr := Lib.hid r1
  have H1 := Lib.hid h1
  have Hm := Lib.hid hm
  clear hx r1 h1 hm
  have hE : ∀ args w, (callFunc 263 args).run Tryz.prog w = .ok (.enter 263 args) w := enters_of Tryz.func263 (by kernel_rfl) rfl
  go_enter Tryz.func266, Tryz.ntmps266
  go_wp2_with fail
  go_loopw [8] (fun i wr => ∃ k : Nat, k ≤ n ∧ i = .int .i64 k ∧ Below w.heap.size w wr ∧ Hid (∀ (j : Nat) x, j < k → l[j]? = some x → (!(fieldB fx) x) = false))
    (fun i _ => n - (intOf i).toNat)
  case atStart => exact ⟨0, by omega, rfl, Below.refl _ _, Lib.hid fun j x hj => by omega⟩
  case round =>
    obtain ⟨k, hk, rfl, hbel, HK⟩ := hrel
    have hsz := hbel.size
    have hbB := hbel.mono hB
    by_cases hlt : k < n
    · obtain ⟨a, ha, hin⟩ := get_at (l := l) (k := k) (by rw [← Hx.out]; exact hlt)
      obtain ⟨rfl, hb1⟩ := H1.out.resolve_left (by omega)
      obtain ⟨va, ca, ia⟩ := PF.Row.get (PF.Row.below hbB hb1 Hr.out) ha
      obtain ⟨pa0, m0, k0, rfl⟩ := ia.shape
      have c0 : wr.cell? ⟨b1, o1 + k * 4, none⟩ = some (.string a.name) := ca 0 _ rfl
      have c1 : wr.cell? ⟨b1, o1 + k * 4 + 1, none⟩ = some (.int .u8 a.type.kind) := ca 1 _ rfl
      have c2 : wr.cell? ⟨b1, o1 + k * 4 + 2, none⟩ = some (.string a.type.name) := ca 2 _ rfl
      have c3 : wr.cell? ⟨b1, o1 + k * 4 + 3, none⟩ = some (.slice pa0 m0 k0) := ca 3 _ rfl
      have C := Lib.hid (notField_calls a ia.1 pa0 m0 k0 g fx hx3 wr (Hm.out.below hbel) ((hbel.cell (p := ⟨g, 2, none⟩) (World.block_lt_of_cell? _ _ hg)).trans hg))
      have g1 : b1 < wr.heap.size := by omega
      have Ha := Lib.hid ha
      generalize hp : (!(fieldB fx) a) = pa at *
      have Hp := Lib.hid hp
      clear ha ca hin ia hp
      go_wp2_with fail
      refine C.out.mono ?_
      rintro e w2 ⟨rfl, b2⟩
      have b3 := hbel.trans (b2.mono (by omega))
      clear b2 c0 c1 c2 c3
      cases pa
      · have HK2 : Hid (∀ (j : Nat) x, j < k + 1 → l[j]? = some x → (!(fieldB fx) x) = false) := Lib.hid fun j x hj hx => by
          by_cases e : j = k
          · subst e
            rw [Ha.out] at hx
            cases hx
            exact Hp.out
          · exact HK.out j x (by omega) hx
        go_wp2
        go_roundw
        case rel => exact ⟨k + 1, by omega, by go_num, b3, HK2⟩
        case measure => simp [intOf]; omega
      · have hres := Lib.hid (any_yes (p := fun s => (!(fieldB fx) s)) Ha.out Hp.out)
        go_wp2
        go_ret
        exact ⟨⟨k, rfl, by rw [hres.out]; simp⟩, b3⟩
    · obtain rfl : k = n := by omega
      have hres := Lib.hid (any_no (p := fun s => (!(fieldB fx) s)) fun j x hx => HK.out j x (by rw [Hx.out]; exact (List.getElem?_eq_some_iff.1 hx).1) hx)
      go_wp2
      go_ret
      exact ⟨⟨-1, rfl, by rw [hres.out]; simp⟩, hbel⟩
set_option maxHeartbeats 1000000 in
theorem containsField_calls (B : Nat) (l : List PF) (b1 o1 : Nat) (v1 : Value) (g fx : Nat) (w : World) (hB : B ≤ w.heap.size) (hm : MaxOk w) (s1 : SlV B v1 l.length b1 o1) (r1 : PF.Row B w b1 o1 l) (hx3 : fx ≤ 3) (hg : w.cell? ⟨g, 2, none⟩ = some (.int .u8 fx)) :
    Calls Tryz.prog 264 #[v1, .func (.func 263) #[] #[.pointer (some ⟨g, 0, none⟩)]] w fun e w' => e = .returned (.bool (l.any (fun s => (!(fieldB fx) s)))) ∧ Below w.heap.size w w' := by
  have C := Lib.hid (indexField_calls B l b1 o1 v1 g fx w hB hm s1 r1 hx3 hg)
  obtain ⟨ao1, cap1, rfl⟩ := s1.shape
  generalize l.any (fun s => (!(fieldB fx) s)) = res at *
  clear r1 s1 hm hg
  go_enter Tryz.func264, Tryz.ntmps264
  go_wp2_with fail
  refine C.out.mono ?_
  rintro e w2 ⟨⟨r, rfl, hr⟩, b2⟩
  go_wp2
  go_ret
  exact ⟨ret_bool (by rw [← hr]), b2⟩
theorem not_anyF (l : List PF) (p : PF → Bool) : (!(l.any fun s => !p s)) = l.all p := by
  rw [Bool.eq_iff_iff]; simp
theorem iSh_names (k : Int) : (iSh k).name ≤ 3 ∧ (iSh k).field ≤ 3 ∧ (iSh k).fields ≤ 3 ∧ (iSh k).rest ≤ 3 := by
  unfold iSh
  repeat' (first | (refine ⟨?_, ?_, ?_, ?_⟩ <;> simp <;> done) | split)
set_option maxRecDepth 100000 in
set_option maxHeartbeats 8000000 in
theorem itemFits_calls (B : Nat) (kd : Int) (nm : ByteArray) (fs : List PF) (ty : PT) (bo : List PS) (ret : PE) (pos : Int) (a1 a2 a3 a4 a5 : Option Addr) (n1 n2 n3 n4 n5 c1 c2 c3 c4 c5 : Nat) (b o : Nat) (w : World) (hB : B ≤ w.heap.size) (hm : MaxOk w) (hb : b < w.heap.size)
    (hc : CellsAt w b o [.int .u8 kd, .string nm, .slice a1 n1 c1, .int .u8 ty.kind, .string ty.name, .slice a2 n2 c2, .slice a3 n3 c3, .int .u8 ret.op, .int .i64 ret.int, .string ret.name, .string ret.second, .string ret.place.name, .slice a4 n4 c4, .slice a5 n5 c5, .int .i64 ret.pos, .int .i64 pos]) (he : PI.In B w ⟨kd, nm, fs, ty, bo, ret, pos⟩ ⟨.slice a1 n1 c1, .slice a2 n2 c2, .slice a3 n3 c3, ⟨.slice a4 n4 c4, .slice a5 n5 c5⟩⟩) :
    Calls Tryz.prog 259 #[.agg #[.pointer (some ⟨b, o, none⟩)]] w fun e w' => e = .returned (.bool (fitII (iSh kd) nm fs bo)) ∧ Below w.heap.size w w' := by
  obtain ⟨⟨hu, _, hz⟩, ⟨b1, o1, s1, r1⟩, _, ⟨b3, o3, s3, r3⟩, _⟩ := he
  have c0_ : w.cell? ⟨b, o, none⟩ = some (.int .u8 kd) := hc 0 _ rfl
  have c1_ : w.cell? ⟨b, o + 1, none⟩ = some (.string nm) := hc 1 _ rfl
  have c2_ : w.cell? ⟨b, o + 2, none⟩ = some (.slice a1 n1 c1) := hc 2 _ rfl
  have c6_ : w.cell? ⟨b, o + 6, none⟩ = some (.slice a3 n3 c3) := hc 6 _ rfl
  have hk := u8_lt hu
  obtain ⟨hn1, hn2, _, _⟩ := iSh_names kd
  obtain rfl : n1 = fs.length := s1.len
  have D : Hid (∀ w', Calls Tryz.prog 262 #[.int .u8 kd] w' fun e w'' => e = .returned (.agg (iSh kd).cells) ∧ Below w'.heap.size w' w'') := Lib.hid fun w' => itemShape_calls kd hk w'
  have T : Hid (∀ w', Below w.heap.size w w' → Calls Tryz.prog 161 #[.int .u8 (iSh kd).name, .string nm] w' fun e w'' => e = .returned (.bool (txB (iSh kd).name nm)) ∧ Below w'.heap.size w' w'') := Lib.hid fun w' hw => textFits_calls _ hn1 nm hz w' (hm.below hw)
  have C : Hid (∀ w' g, Below w.heap.size w w' → w'.cell? ⟨g, 2, none⟩ = some (.int .u8 (iSh kd).field) → Calls Tryz.prog 264 #[.slice a1 fs.length c1, .func (.func 263) #[] #[.pointer (some ⟨g, 0, none⟩)]] w' fun e w'' => e = .returned (.bool (fs.any (fun s => (!(fieldB (iSh kd).field) s)))) ∧ Below w'.heap.size w' w'') :=
    Lib.hid fun w' g hw hg => containsField_calls B fs b1 o1 _ g _ w' (by have := hw.size; omega) (hm.below hw) s1 (PF.Row.below' (hw.mono hB) s1 r1) hn2 hg
  have hf : fitII (iSh kd) nm fs bo = ((iSh kd).known && (txB (iSh kd).name nm && (decide (fs.length ≤ 6) && (!(fs.any (fun s => (!(fieldB (iSh kd).field) s))) && ((iSh kd).body || decide (n3 = 0)))))) := by rw [not_anyF, s3.len]; rfl
  rw [hf]
  clear hf hc hm hu hk hn1 hn2 s1 r1 s3 r3 hz
  generalize txB (iSh kd).name nm = x1 at *
  generalize fs.any (fun s => (!(fieldB (iSh kd).field) s)) = x2 at *
  generalize fs.length = n1 at *
  generalize iSh kd = h at *
  obtain ⟨kn, sn, sf, bdy, sfs, srs⟩ := h
  simp only [ISh.cells] at *
  cases kn
  · skip
    as_aux_lemma =>
      go_enter Tryz.func259, Tryz.ntmps259
      go_wp2_with fail
      refine (D.out _).mono ?_; rintro e w1 ⟨rfl, b1⟩
      have bel1 : Below w.heap.size w w1 := up_tr (box1 w _) b1
      have hz1 : w.heap.size < w1.heap.size := by have := b1.size; simp at this; omega
      have hbx : w1.cell? ⟨w.heap.size, 0, none⟩ = some (.pointer (some ⟨b, o, none⟩)) := (b1.cell (p := ⟨w.heap.size, 0, none⟩) (by simp)).trans (by go_simp)
      have k0 : w1.cell? ⟨b, o, none⟩ = some (.int .u8 kd) := (bel1.cell (p := ⟨b, o, none⟩) hb).trans c0_
      have k1 : w1.cell? ⟨b, o + 1, none⟩ = some (.string nm) := (bel1.cell (p := ⟨b, o + 1, none⟩) hb).trans c1_
      have k2 : w1.cell? ⟨b, o + 2, none⟩ = some (.slice a1 n1 c1) := (bel1.cell (p := ⟨b, o + 2, none⟩) hb).trans c2_
      have k6 : w1.cell? ⟨b, o + 6, none⟩ = some (.slice a3 n3 c3) := (bel1.cell (p := ⟨b, o + 6, none⟩) hb).trans c6_
      have BEL1 := Lib.hid bel1
      clear b1 bel1 c0_ c1_ c2_ c6_ D
      go_upto_region 3 with (fail)
      obtain ⟨W0, hW0⟩ : ∃ W0, W0 = w1.alloc (.cells #[.bool false, .int .u8 sn, .int .u8 sf, .bool bdy, .int .u8 sfs, .int .u8 srs] 293) := ⟨_, rfl⟩
      rw [← hW0]
      have z1 : w1.heap.size < W0.heap.size := by rw [hW0]; simp
      have z2 : b < W0.heap.size := by have := BEL1.out.size; omega
      have z3 : w.heap.size < W0.heap.size := by omega
      have q0 : W0.cell? ⟨w.heap.size, 0, none⟩ = some (.pointer (some ⟨b, o, none⟩)) := by rw [hW0]; go_simp
      have g0 : W0.cell? ⟨w1.heap.size, 0, none⟩ = some (.bool false) := by rw [hW0]; go_simp
      have g1 : W0.cell? ⟨w1.heap.size, 1, none⟩ = some (.int .u8 sn) := by rw [hW0]; go_simp
      have g2 : W0.cell? ⟨w1.heap.size, 2, none⟩ = some (.int .u8 sf) := by rw [hW0]; go_simp
      have g3 : W0.cell? ⟨w1.heap.size, 3, none⟩ = some (.bool bdy) := by rw [hW0]; go_simp
      have d0 : W0.cell? ⟨b, o, none⟩ = some (.int .u8 kd) := by rw [hW0]; exact ((box1 w1 _).cell (p := ⟨b, o, none⟩) (by have := BEL1.out.size; simp; omega)).trans k0
      have d1 : W0.cell? ⟨b, o + 1, none⟩ = some (.string nm) := by rw [hW0]; exact ((box1 w1 _).cell (p := ⟨b, o + 1, none⟩) (by have := BEL1.out.size; simp; omega)).trans k1
      have d2 : W0.cell? ⟨b, o + 2, none⟩ = some (.slice a1 n1 c1) := by rw [hW0]; exact ((box1 w1 _).cell (p := ⟨b, o + 2, none⟩) (by have := BEL1.out.size; simp; omega)).trans k2
      have d6 : W0.cell? ⟨b, o + 6, none⟩ = some (.slice a3 n3 c3) := by rw [hW0]; exact ((box1 w1 _).cell (p := ⟨b, o + 6, none⟩) (by have := BEL1.out.size; simp; omega)).trans k6
      have BW : Below w.heap.size w W0 := by rw [hW0]; exact BEL1.out.alloc (by omega) _
      have hF := Over.cells (W0 := W0)
      have K4 := Lib.hid (fun (n : Over W0) => (show Below w.heap.size w n.w from BW.trans (n.h.mono (by omega))))
      have A1 : Hid (∀ n' : Over W0, Calls Tryz.prog 161 #[.int .u8 sn, .string nm] n'.w fun e w'' => e = .returned (.bool x1) ∧ ∃ m : Over W0, w'' = m.w) := Lib.hid fun n' => over_calls (T.out _ (K4.out n'))
      have A2 : Hid (∀ n' : Over W0, Calls Tryz.prog 264 #[.slice a1 n1 c1, .func (.func 263) #[] #[.pointer (some ⟨w1.heap.size, 0, none⟩)]] n'.w fun e w'' => e = .returned (.bool x2) ∧ ∃ m : Over W0, w'' = m.w) := Lib.hid fun n' => over_calls (C.out _ _ (K4.out n') ((n'.h.cell (p := ⟨w1.heap.size, 2, none⟩) z1).trans g2))
      clear T C BW hW0 k0 k1 k2 k6 hbx
      refine wp_region_over (by kernel_rfl) (by kernel_rfl) ?_
      repeat (go_big_quiet_step ((first | (go_at_call 161; exact A1.out _) | (go_at_call 264; exact A2.out _))))
      refine wpQuiet_nil ?_
      rintro _ ⟨m, rfl⟩
      have HF := Lib.hid (K4.out m)
      go_wp2
      go_ret
      exact ⟨ret_bool (by simp), HF.out⟩
  · cases x1
    · skip
      as_aux_lemma =>
        go_enter Tryz.func259, Tryz.ntmps259
        go_wp2_with fail
        refine (D.out _).mono ?_; rintro e w1 ⟨rfl, b1⟩
        have bel1 : Below w.heap.size w w1 := up_tr (box1 w _) b1
        have hz1 : w.heap.size < w1.heap.size := by have := b1.size; simp at this; omega
        have hbx : w1.cell? ⟨w.heap.size, 0, none⟩ = some (.pointer (some ⟨b, o, none⟩)) := (b1.cell (p := ⟨w.heap.size, 0, none⟩) (by simp)).trans (by go_simp)
        have k0 : w1.cell? ⟨b, o, none⟩ = some (.int .u8 kd) := (bel1.cell (p := ⟨b, o, none⟩) hb).trans c0_
        have k1 : w1.cell? ⟨b, o + 1, none⟩ = some (.string nm) := (bel1.cell (p := ⟨b, o + 1, none⟩) hb).trans c1_
        have k2 : w1.cell? ⟨b, o + 2, none⟩ = some (.slice a1 n1 c1) := (bel1.cell (p := ⟨b, o + 2, none⟩) hb).trans c2_
        have k6 : w1.cell? ⟨b, o + 6, none⟩ = some (.slice a3 n3 c3) := (bel1.cell (p := ⟨b, o + 6, none⟩) hb).trans c6_
        have BEL1 := Lib.hid bel1
        clear b1 bel1 c0_ c1_ c2_ c6_ D
        go_upto_region 3 with (fail)
        obtain ⟨W0, hW0⟩ : ∃ W0, W0 = w1.alloc (.cells #[.bool true, .int .u8 sn, .int .u8 sf, .bool bdy, .int .u8 sfs, .int .u8 srs] 293) := ⟨_, rfl⟩
        rw [← hW0]
        have z1 : w1.heap.size < W0.heap.size := by rw [hW0]; simp
        have z2 : b < W0.heap.size := by have := BEL1.out.size; omega
        have z3 : w.heap.size < W0.heap.size := by omega
        have q0 : W0.cell? ⟨w.heap.size, 0, none⟩ = some (.pointer (some ⟨b, o, none⟩)) := by rw [hW0]; go_simp
        have g0 : W0.cell? ⟨w1.heap.size, 0, none⟩ = some (.bool true) := by rw [hW0]; go_simp
        have g1 : W0.cell? ⟨w1.heap.size, 1, none⟩ = some (.int .u8 sn) := by rw [hW0]; go_simp
        have g2 : W0.cell? ⟨w1.heap.size, 2, none⟩ = some (.int .u8 sf) := by rw [hW0]; go_simp
        have g3 : W0.cell? ⟨w1.heap.size, 3, none⟩ = some (.bool bdy) := by rw [hW0]; go_simp
        have d0 : W0.cell? ⟨b, o, none⟩ = some (.int .u8 kd) := by rw [hW0]; exact ((box1 w1 _).cell (p := ⟨b, o, none⟩) (by have := BEL1.out.size; simp; omega)).trans k0
        have d1 : W0.cell? ⟨b, o + 1, none⟩ = some (.string nm) := by rw [hW0]; exact ((box1 w1 _).cell (p := ⟨b, o + 1, none⟩) (by have := BEL1.out.size; simp; omega)).trans k1
        have d2 : W0.cell? ⟨b, o + 2, none⟩ = some (.slice a1 n1 c1) := by rw [hW0]; exact ((box1 w1 _).cell (p := ⟨b, o + 2, none⟩) (by have := BEL1.out.size; simp; omega)).trans k2
        have d6 : W0.cell? ⟨b, o + 6, none⟩ = some (.slice a3 n3 c3) := by rw [hW0]; exact ((box1 w1 _).cell (p := ⟨b, o + 6, none⟩) (by have := BEL1.out.size; simp; omega)).trans k6
        have BW : Below w.heap.size w W0 := by rw [hW0]; exact BEL1.out.alloc (by omega) _
        have hF := Over.cells (W0 := W0)
        have K4 := Lib.hid (fun (n : Over W0) => (show Below w.heap.size w n.w from BW.trans (n.h.mono (by omega))))
        have A1 : Hid (∀ n' : Over W0, Calls Tryz.prog 161 #[.int .u8 sn, .string nm] n'.w fun e w'' => e = .returned (.bool false) ∧ ∃ m : Over W0, w'' = m.w) := Lib.hid fun n' => over_calls (T.out _ (K4.out n'))
        have A2 : Hid (∀ n' : Over W0, Calls Tryz.prog 264 #[.slice a1 n1 c1, .func (.func 263) #[] #[.pointer (some ⟨w1.heap.size, 0, none⟩)]] n'.w fun e w'' => e = .returned (.bool x2) ∧ ∃ m : Over W0, w'' = m.w) := Lib.hid fun n' => over_calls (C.out _ _ (K4.out n') ((n'.h.cell (p := ⟨w1.heap.size, 2, none⟩) z1).trans g2))
        clear T C BW hW0 k0 k1 k2 k6 hbx
        refine wp_region_over (by kernel_rfl) (by kernel_rfl) ?_
        repeat (go_big_quiet_step ((first | (go_at_call 161; exact A1.out _) | (go_at_call 264; exact A2.out _))))
        refine wpQuiet_nil ?_
        rintro _ ⟨m, rfl⟩
        have HF := Lib.hid (K4.out m)
        go_wp2
        go_ret
        exact ⟨ret_bool (by simp), HF.out⟩
    · by_cases hl : n1 ≤ 6
      · have dl : decide ((n1 : Int) ≤ 6) = true := by simpa using (by omega : (n1 : Int) ≤ 6)
        have Hl := Lib.hid (show decide (n1 ≤ 6) = true by simpa using hl)
        cases x2
        · cases bdy
          · by_cases h3 : n3 = 0
            · subst h3
              as_aux_lemma =>
                go_enter Tryz.func259, Tryz.ntmps259
                go_wp2_with fail
                refine (D.out _).mono ?_; rintro e w1 ⟨rfl, b1⟩
                have bel1 : Below w.heap.size w w1 := up_tr (box1 w _) b1
                have hz1 : w.heap.size < w1.heap.size := by have := b1.size; simp at this; omega
                have hbx : w1.cell? ⟨w.heap.size, 0, none⟩ = some (.pointer (some ⟨b, o, none⟩)) := (b1.cell (p := ⟨w.heap.size, 0, none⟩) (by simp)).trans (by go_simp)
                have k0 : w1.cell? ⟨b, o, none⟩ = some (.int .u8 kd) := (bel1.cell (p := ⟨b, o, none⟩) hb).trans c0_
                have k1 : w1.cell? ⟨b, o + 1, none⟩ = some (.string nm) := (bel1.cell (p := ⟨b, o + 1, none⟩) hb).trans c1_
                have k2 : w1.cell? ⟨b, o + 2, none⟩ = some (.slice a1 n1 c1) := (bel1.cell (p := ⟨b, o + 2, none⟩) hb).trans c2_
                have k6 : w1.cell? ⟨b, o + 6, none⟩ = some (.slice a3 0 c3) := (bel1.cell (p := ⟨b, o + 6, none⟩) hb).trans c6_
                have BEL1 := Lib.hid bel1
                clear b1 bel1 c0_ c1_ c2_ c6_ D
                go_upto_region 3 with (fail)
                obtain ⟨W0, hW0⟩ : ∃ W0, W0 = w1.alloc (.cells #[.bool true, .int .u8 sn, .int .u8 sf, .bool false, .int .u8 sfs, .int .u8 srs] 293) := ⟨_, rfl⟩
                rw [← hW0]
                have z1 : w1.heap.size < W0.heap.size := by rw [hW0]; simp
                have z2 : b < W0.heap.size := by have := BEL1.out.size; omega
                have z3 : w.heap.size < W0.heap.size := by omega
                have q0 : W0.cell? ⟨w.heap.size, 0, none⟩ = some (.pointer (some ⟨b, o, none⟩)) := by rw [hW0]; go_simp
                have g0 : W0.cell? ⟨w1.heap.size, 0, none⟩ = some (.bool true) := by rw [hW0]; go_simp
                have g1 : W0.cell? ⟨w1.heap.size, 1, none⟩ = some (.int .u8 sn) := by rw [hW0]; go_simp
                have g2 : W0.cell? ⟨w1.heap.size, 2, none⟩ = some (.int .u8 sf) := by rw [hW0]; go_simp
                have g3 : W0.cell? ⟨w1.heap.size, 3, none⟩ = some (.bool false) := by rw [hW0]; go_simp
                have d0 : W0.cell? ⟨b, o, none⟩ = some (.int .u8 kd) := by rw [hW0]; exact ((box1 w1 _).cell (p := ⟨b, o, none⟩) (by have := BEL1.out.size; simp; omega)).trans k0
                have d1 : W0.cell? ⟨b, o + 1, none⟩ = some (.string nm) := by rw [hW0]; exact ((box1 w1 _).cell (p := ⟨b, o + 1, none⟩) (by have := BEL1.out.size; simp; omega)).trans k1
                have d2 : W0.cell? ⟨b, o + 2, none⟩ = some (.slice a1 n1 c1) := by rw [hW0]; exact ((box1 w1 _).cell (p := ⟨b, o + 2, none⟩) (by have := BEL1.out.size; simp; omega)).trans k2
                have d6 : W0.cell? ⟨b, o + 6, none⟩ = some (.slice a3 0 c3) := by rw [hW0]; exact ((box1 w1 _).cell (p := ⟨b, o + 6, none⟩) (by have := BEL1.out.size; simp; omega)).trans k6
                have BW : Below w.heap.size w W0 := by rw [hW0]; exact BEL1.out.alloc (by omega) _
                have hF := Over.cells (W0 := W0)
                have K4 := Lib.hid (fun (n : Over W0) => (show Below w.heap.size w n.w from BW.trans (n.h.mono (by omega))))
                have A1 : Hid (∀ n' : Over W0, Calls Tryz.prog 161 #[.int .u8 sn, .string nm] n'.w fun e w'' => e = .returned (.bool true) ∧ ∃ m : Over W0, w'' = m.w) := Lib.hid fun n' => over_calls (T.out _ (K4.out n'))
                have A2 : Hid (∀ n' : Over W0, Calls Tryz.prog 264 #[.slice a1 n1 c1, .func (.func 263) #[] #[.pointer (some ⟨w1.heap.size, 0, none⟩)]] n'.w fun e w'' => e = .returned (.bool false) ∧ ∃ m : Over W0, w'' = m.w) := Lib.hid fun n' => over_calls (C.out _ _ (K4.out n') ((n'.h.cell (p := ⟨w1.heap.size, 2, none⟩) z1).trans g2))
                clear T C BW hW0 k0 k1 k2 k6 hbx
                refine wp_region_over (by kernel_rfl) (by kernel_rfl) ?_
                repeat (go_big_quiet_step ((first | (go_at_call 161; exact A1.out _) | (go_at_call 264; exact A2.out _))))
                refine wpQuiet_nil ?_
                rintro _ ⟨m, rfl⟩
                have HF := Lib.hid (K4.out m)
                go_wp2
                go_ret
                exact ⟨ret_bool (by simp [Hl.out]), HF.out⟩
            · have e3 : ((n3 : Int) == 0) = false := ne_beq (by omega)
              have H3 := Lib.hid h3
              clear h3
              as_aux_lemma =>
                go_enter Tryz.func259, Tryz.ntmps259
                go_wp2_with fail
                refine (D.out _).mono ?_; rintro e w1 ⟨rfl, b1⟩
                have bel1 : Below w.heap.size w w1 := up_tr (box1 w _) b1
                have hz1 : w.heap.size < w1.heap.size := by have := b1.size; simp at this; omega
                have hbx : w1.cell? ⟨w.heap.size, 0, none⟩ = some (.pointer (some ⟨b, o, none⟩)) := (b1.cell (p := ⟨w.heap.size, 0, none⟩) (by simp)).trans (by go_simp)
                have k0 : w1.cell? ⟨b, o, none⟩ = some (.int .u8 kd) := (bel1.cell (p := ⟨b, o, none⟩) hb).trans c0_
                have k1 : w1.cell? ⟨b, o + 1, none⟩ = some (.string nm) := (bel1.cell (p := ⟨b, o + 1, none⟩) hb).trans c1_
                have k2 : w1.cell? ⟨b, o + 2, none⟩ = some (.slice a1 n1 c1) := (bel1.cell (p := ⟨b, o + 2, none⟩) hb).trans c2_
                have k6 : w1.cell? ⟨b, o + 6, none⟩ = some (.slice a3 n3 c3) := (bel1.cell (p := ⟨b, o + 6, none⟩) hb).trans c6_
                have BEL1 := Lib.hid bel1
                clear b1 bel1 c0_ c1_ c2_ c6_ D
                go_upto_region 3 with (fail)
                obtain ⟨W0, hW0⟩ : ∃ W0, W0 = w1.alloc (.cells #[.bool true, .int .u8 sn, .int .u8 sf, .bool false, .int .u8 sfs, .int .u8 srs] 293) := ⟨_, rfl⟩
                rw [← hW0]
                have z1 : w1.heap.size < W0.heap.size := by rw [hW0]; simp
                have z2 : b < W0.heap.size := by have := BEL1.out.size; omega
                have z3 : w.heap.size < W0.heap.size := by omega
                have q0 : W0.cell? ⟨w.heap.size, 0, none⟩ = some (.pointer (some ⟨b, o, none⟩)) := by rw [hW0]; go_simp
                have g0 : W0.cell? ⟨w1.heap.size, 0, none⟩ = some (.bool true) := by rw [hW0]; go_simp
                have g1 : W0.cell? ⟨w1.heap.size, 1, none⟩ = some (.int .u8 sn) := by rw [hW0]; go_simp
                have g2 : W0.cell? ⟨w1.heap.size, 2, none⟩ = some (.int .u8 sf) := by rw [hW0]; go_simp
                have g3 : W0.cell? ⟨w1.heap.size, 3, none⟩ = some (.bool false) := by rw [hW0]; go_simp
                have d0 : W0.cell? ⟨b, o, none⟩ = some (.int .u8 kd) := by rw [hW0]; exact ((box1 w1 _).cell (p := ⟨b, o, none⟩) (by have := BEL1.out.size; simp; omega)).trans k0
                have d1 : W0.cell? ⟨b, o + 1, none⟩ = some (.string nm) := by rw [hW0]; exact ((box1 w1 _).cell (p := ⟨b, o + 1, none⟩) (by have := BEL1.out.size; simp; omega)).trans k1
                have d2 : W0.cell? ⟨b, o + 2, none⟩ = some (.slice a1 n1 c1) := by rw [hW0]; exact ((box1 w1 _).cell (p := ⟨b, o + 2, none⟩) (by have := BEL1.out.size; simp; omega)).trans k2
                have d6 : W0.cell? ⟨b, o + 6, none⟩ = some (.slice a3 n3 c3) := by rw [hW0]; exact ((box1 w1 _).cell (p := ⟨b, o + 6, none⟩) (by have := BEL1.out.size; simp; omega)).trans k6
                have BW : Below w.heap.size w W0 := by rw [hW0]; exact BEL1.out.alloc (by omega) _
                have hF := Over.cells (W0 := W0)
                have K4 := Lib.hid (fun (n : Over W0) => (show Below w.heap.size w n.w from BW.trans (n.h.mono (by omega))))
                have A1 : Hid (∀ n' : Over W0, Calls Tryz.prog 161 #[.int .u8 sn, .string nm] n'.w fun e w'' => e = .returned (.bool true) ∧ ∃ m : Over W0, w'' = m.w) := Lib.hid fun n' => over_calls (T.out _ (K4.out n'))
                have A2 : Hid (∀ n' : Over W0, Calls Tryz.prog 264 #[.slice a1 n1 c1, .func (.func 263) #[] #[.pointer (some ⟨w1.heap.size, 0, none⟩)]] n'.w fun e w'' => e = .returned (.bool false) ∧ ∃ m : Over W0, w'' = m.w) := Lib.hid fun n' => over_calls (C.out _ _ (K4.out n') ((n'.h.cell (p := ⟨w1.heap.size, 2, none⟩) z1).trans g2))
                clear T C BW hW0 k0 k1 k2 k6 hbx
                refine wp_region_over (by kernel_rfl) (by kernel_rfl) ?_
                repeat (go_big_quiet_step ((first | (go_at_call 161; exact A1.out _) | (go_at_call 264; exact A2.out _))))
                refine wpQuiet_nil ?_
                rintro _ ⟨m, rfl⟩
                have HF := Lib.hid (K4.out m)
                go_wp2
                go_ret
                exact ⟨ret_bool (by simp [Hl.out, H3.out]), HF.out⟩
          · skip
            as_aux_lemma =>
              go_enter Tryz.func259, Tryz.ntmps259
              go_wp2_with fail
              refine (D.out _).mono ?_; rintro e w1 ⟨rfl, b1⟩
              have bel1 : Below w.heap.size w w1 := up_tr (box1 w _) b1
              have hz1 : w.heap.size < w1.heap.size := by have := b1.size; simp at this; omega
              have hbx : w1.cell? ⟨w.heap.size, 0, none⟩ = some (.pointer (some ⟨b, o, none⟩)) := (b1.cell (p := ⟨w.heap.size, 0, none⟩) (by simp)).trans (by go_simp)
              have k0 : w1.cell? ⟨b, o, none⟩ = some (.int .u8 kd) := (bel1.cell (p := ⟨b, o, none⟩) hb).trans c0_
              have k1 : w1.cell? ⟨b, o + 1, none⟩ = some (.string nm) := (bel1.cell (p := ⟨b, o + 1, none⟩) hb).trans c1_
              have k2 : w1.cell? ⟨b, o + 2, none⟩ = some (.slice a1 n1 c1) := (bel1.cell (p := ⟨b, o + 2, none⟩) hb).trans c2_
              have k6 : w1.cell? ⟨b, o + 6, none⟩ = some (.slice a3 n3 c3) := (bel1.cell (p := ⟨b, o + 6, none⟩) hb).trans c6_
              have BEL1 := Lib.hid bel1
              clear b1 bel1 c0_ c1_ c2_ c6_ D
              go_upto_region 3 with (fail)
              obtain ⟨W0, hW0⟩ : ∃ W0, W0 = w1.alloc (.cells #[.bool true, .int .u8 sn, .int .u8 sf, .bool true, .int .u8 sfs, .int .u8 srs] 293) := ⟨_, rfl⟩
              rw [← hW0]
              have z1 : w1.heap.size < W0.heap.size := by rw [hW0]; simp
              have z2 : b < W0.heap.size := by have := BEL1.out.size; omega
              have z3 : w.heap.size < W0.heap.size := by omega
              have q0 : W0.cell? ⟨w.heap.size, 0, none⟩ = some (.pointer (some ⟨b, o, none⟩)) := by rw [hW0]; go_simp
              have g0 : W0.cell? ⟨w1.heap.size, 0, none⟩ = some (.bool true) := by rw [hW0]; go_simp
              have g1 : W0.cell? ⟨w1.heap.size, 1, none⟩ = some (.int .u8 sn) := by rw [hW0]; go_simp
              have g2 : W0.cell? ⟨w1.heap.size, 2, none⟩ = some (.int .u8 sf) := by rw [hW0]; go_simp
              have g3 : W0.cell? ⟨w1.heap.size, 3, none⟩ = some (.bool true) := by rw [hW0]; go_simp
              have d0 : W0.cell? ⟨b, o, none⟩ = some (.int .u8 kd) := by rw [hW0]; exact ((box1 w1 _).cell (p := ⟨b, o, none⟩) (by have := BEL1.out.size; simp; omega)).trans k0
              have d1 : W0.cell? ⟨b, o + 1, none⟩ = some (.string nm) := by rw [hW0]; exact ((box1 w1 _).cell (p := ⟨b, o + 1, none⟩) (by have := BEL1.out.size; simp; omega)).trans k1
              have d2 : W0.cell? ⟨b, o + 2, none⟩ = some (.slice a1 n1 c1) := by rw [hW0]; exact ((box1 w1 _).cell (p := ⟨b, o + 2, none⟩) (by have := BEL1.out.size; simp; omega)).trans k2
              have d6 : W0.cell? ⟨b, o + 6, none⟩ = some (.slice a3 n3 c3) := by rw [hW0]; exact ((box1 w1 _).cell (p := ⟨b, o + 6, none⟩) (by have := BEL1.out.size; simp; omega)).trans k6
              have BW : Below w.heap.size w W0 := by rw [hW0]; exact BEL1.out.alloc (by omega) _
              have hF := Over.cells (W0 := W0)
              have K4 := Lib.hid (fun (n : Over W0) => (show Below w.heap.size w n.w from BW.trans (n.h.mono (by omega))))
              have A1 : Hid (∀ n' : Over W0, Calls Tryz.prog 161 #[.int .u8 sn, .string nm] n'.w fun e w'' => e = .returned (.bool true) ∧ ∃ m : Over W0, w'' = m.w) := Lib.hid fun n' => over_calls (T.out _ (K4.out n'))
              have A2 : Hid (∀ n' : Over W0, Calls Tryz.prog 264 #[.slice a1 n1 c1, .func (.func 263) #[] #[.pointer (some ⟨w1.heap.size, 0, none⟩)]] n'.w fun e w'' => e = .returned (.bool false) ∧ ∃ m : Over W0, w'' = m.w) := Lib.hid fun n' => over_calls (C.out _ _ (K4.out n') ((n'.h.cell (p := ⟨w1.heap.size, 2, none⟩) z1).trans g2))
              clear T C BW hW0 k0 k1 k2 k6 hbx
              refine wp_region_over (by kernel_rfl) (by kernel_rfl) ?_
              repeat (go_big_quiet_step ((first | (go_at_call 161; exact A1.out _) | (go_at_call 264; exact A2.out _))))
              refine wpQuiet_nil ?_
              rintro _ ⟨m, rfl⟩
              have HF := Lib.hid (K4.out m)
              go_wp2
              go_ret
              exact ⟨ret_bool (by simp [Hl.out]), HF.out⟩
        · skip
          as_aux_lemma =>
            go_enter Tryz.func259, Tryz.ntmps259
            go_wp2_with fail
            refine (D.out _).mono ?_; rintro e w1 ⟨rfl, b1⟩
            have bel1 : Below w.heap.size w w1 := up_tr (box1 w _) b1
            have hz1 : w.heap.size < w1.heap.size := by have := b1.size; simp at this; omega
            have hbx : w1.cell? ⟨w.heap.size, 0, none⟩ = some (.pointer (some ⟨b, o, none⟩)) := (b1.cell (p := ⟨w.heap.size, 0, none⟩) (by simp)).trans (by go_simp)
            have k0 : w1.cell? ⟨b, o, none⟩ = some (.int .u8 kd) := (bel1.cell (p := ⟨b, o, none⟩) hb).trans c0_
            have k1 : w1.cell? ⟨b, o + 1, none⟩ = some (.string nm) := (bel1.cell (p := ⟨b, o + 1, none⟩) hb).trans c1_
            have k2 : w1.cell? ⟨b, o + 2, none⟩ = some (.slice a1 n1 c1) := (bel1.cell (p := ⟨b, o + 2, none⟩) hb).trans c2_
            have k6 : w1.cell? ⟨b, o + 6, none⟩ = some (.slice a3 n3 c3) := (bel1.cell (p := ⟨b, o + 6, none⟩) hb).trans c6_
            have BEL1 := Lib.hid bel1
            clear b1 bel1 c0_ c1_ c2_ c6_ D
            go_upto_region 3 with (fail)
            obtain ⟨W0, hW0⟩ : ∃ W0, W0 = w1.alloc (.cells #[.bool true, .int .u8 sn, .int .u8 sf, .bool bdy, .int .u8 sfs, .int .u8 srs] 293) := ⟨_, rfl⟩
            rw [← hW0]
            have z1 : w1.heap.size < W0.heap.size := by rw [hW0]; simp
            have z2 : b < W0.heap.size := by have := BEL1.out.size; omega
            have z3 : w.heap.size < W0.heap.size := by omega
            have q0 : W0.cell? ⟨w.heap.size, 0, none⟩ = some (.pointer (some ⟨b, o, none⟩)) := by rw [hW0]; go_simp
            have g0 : W0.cell? ⟨w1.heap.size, 0, none⟩ = some (.bool true) := by rw [hW0]; go_simp
            have g1 : W0.cell? ⟨w1.heap.size, 1, none⟩ = some (.int .u8 sn) := by rw [hW0]; go_simp
            have g2 : W0.cell? ⟨w1.heap.size, 2, none⟩ = some (.int .u8 sf) := by rw [hW0]; go_simp
            have g3 : W0.cell? ⟨w1.heap.size, 3, none⟩ = some (.bool bdy) := by rw [hW0]; go_simp
            have d0 : W0.cell? ⟨b, o, none⟩ = some (.int .u8 kd) := by rw [hW0]; exact ((box1 w1 _).cell (p := ⟨b, o, none⟩) (by have := BEL1.out.size; simp; omega)).trans k0
            have d1 : W0.cell? ⟨b, o + 1, none⟩ = some (.string nm) := by rw [hW0]; exact ((box1 w1 _).cell (p := ⟨b, o + 1, none⟩) (by have := BEL1.out.size; simp; omega)).trans k1
            have d2 : W0.cell? ⟨b, o + 2, none⟩ = some (.slice a1 n1 c1) := by rw [hW0]; exact ((box1 w1 _).cell (p := ⟨b, o + 2, none⟩) (by have := BEL1.out.size; simp; omega)).trans k2
            have d6 : W0.cell? ⟨b, o + 6, none⟩ = some (.slice a3 n3 c3) := by rw [hW0]; exact ((box1 w1 _).cell (p := ⟨b, o + 6, none⟩) (by have := BEL1.out.size; simp; omega)).trans k6
            have BW : Below w.heap.size w W0 := by rw [hW0]; exact BEL1.out.alloc (by omega) _
            have hF := Over.cells (W0 := W0)
            have K4 := Lib.hid (fun (n : Over W0) => (show Below w.heap.size w n.w from BW.trans (n.h.mono (by omega))))
            have A1 : Hid (∀ n' : Over W0, Calls Tryz.prog 161 #[.int .u8 sn, .string nm] n'.w fun e w'' => e = .returned (.bool true) ∧ ∃ m : Over W0, w'' = m.w) := Lib.hid fun n' => over_calls (T.out _ (K4.out n'))
            have A2 : Hid (∀ n' : Over W0, Calls Tryz.prog 264 #[.slice a1 n1 c1, .func (.func 263) #[] #[.pointer (some ⟨w1.heap.size, 0, none⟩)]] n'.w fun e w'' => e = .returned (.bool true) ∧ ∃ m : Over W0, w'' = m.w) := Lib.hid fun n' => over_calls (C.out _ _ (K4.out n') ((n'.h.cell (p := ⟨w1.heap.size, 2, none⟩) z1).trans g2))
            clear T C BW hW0 k0 k1 k2 k6 hbx
            refine wp_region_over (by kernel_rfl) (by kernel_rfl) ?_
            repeat (go_big_quiet_step ((first | (go_at_call 161; exact A1.out _) | (go_at_call 264; exact A2.out _))))
            refine wpQuiet_nil ?_
            rintro _ ⟨m, rfl⟩
            have HF := Lib.hid (K4.out m)
            go_wp2
            go_ret
            exact ⟨ret_bool (by simp), HF.out⟩
      · have dl : decide ((n1 : Int) ≤ 6) = false := by simpa using (by omega : 6 < (n1 : Int))
        have Hl := Lib.hid (show decide (n1 ≤ 6) = false by simpa using (by omega : 6 < n1))
        clear hl
        as_aux_lemma =>
          go_enter Tryz.func259, Tryz.ntmps259
          go_wp2_with fail
          refine (D.out _).mono ?_; rintro e w1 ⟨rfl, b1⟩
          have bel1 : Below w.heap.size w w1 := up_tr (box1 w _) b1
          have hz1 : w.heap.size < w1.heap.size := by have := b1.size; simp at this; omega
          have hbx : w1.cell? ⟨w.heap.size, 0, none⟩ = some (.pointer (some ⟨b, o, none⟩)) := (b1.cell (p := ⟨w.heap.size, 0, none⟩) (by simp)).trans (by go_simp)
          have k0 : w1.cell? ⟨b, o, none⟩ = some (.int .u8 kd) := (bel1.cell (p := ⟨b, o, none⟩) hb).trans c0_
          have k1 : w1.cell? ⟨b, o + 1, none⟩ = some (.string nm) := (bel1.cell (p := ⟨b, o + 1, none⟩) hb).trans c1_
          have k2 : w1.cell? ⟨b, o + 2, none⟩ = some (.slice a1 n1 c1) := (bel1.cell (p := ⟨b, o + 2, none⟩) hb).trans c2_
          have k6 : w1.cell? ⟨b, o + 6, none⟩ = some (.slice a3 n3 c3) := (bel1.cell (p := ⟨b, o + 6, none⟩) hb).trans c6_
          have BEL1 := Lib.hid bel1
          clear b1 bel1 c0_ c1_ c2_ c6_ D
          go_upto_region 3 with (fail)
          obtain ⟨W0, hW0⟩ : ∃ W0, W0 = w1.alloc (.cells #[.bool true, .int .u8 sn, .int .u8 sf, .bool bdy, .int .u8 sfs, .int .u8 srs] 293) := ⟨_, rfl⟩
          rw [← hW0]
          have z1 : w1.heap.size < W0.heap.size := by rw [hW0]; simp
          have z2 : b < W0.heap.size := by have := BEL1.out.size; omega
          have z3 : w.heap.size < W0.heap.size := by omega
          have q0 : W0.cell? ⟨w.heap.size, 0, none⟩ = some (.pointer (some ⟨b, o, none⟩)) := by rw [hW0]; go_simp
          have g0 : W0.cell? ⟨w1.heap.size, 0, none⟩ = some (.bool true) := by rw [hW0]; go_simp
          have g1 : W0.cell? ⟨w1.heap.size, 1, none⟩ = some (.int .u8 sn) := by rw [hW0]; go_simp
          have g2 : W0.cell? ⟨w1.heap.size, 2, none⟩ = some (.int .u8 sf) := by rw [hW0]; go_simp
          have g3 : W0.cell? ⟨w1.heap.size, 3, none⟩ = some (.bool bdy) := by rw [hW0]; go_simp
          have d0 : W0.cell? ⟨b, o, none⟩ = some (.int .u8 kd) := by rw [hW0]; exact ((box1 w1 _).cell (p := ⟨b, o, none⟩) (by have := BEL1.out.size; simp; omega)).trans k0
          have d1 : W0.cell? ⟨b, o + 1, none⟩ = some (.string nm) := by rw [hW0]; exact ((box1 w1 _).cell (p := ⟨b, o + 1, none⟩) (by have := BEL1.out.size; simp; omega)).trans k1
          have d2 : W0.cell? ⟨b, o + 2, none⟩ = some (.slice a1 n1 c1) := by rw [hW0]; exact ((box1 w1 _).cell (p := ⟨b, o + 2, none⟩) (by have := BEL1.out.size; simp; omega)).trans k2
          have d6 : W0.cell? ⟨b, o + 6, none⟩ = some (.slice a3 n3 c3) := by rw [hW0]; exact ((box1 w1 _).cell (p := ⟨b, o + 6, none⟩) (by have := BEL1.out.size; simp; omega)).trans k6
          have BW : Below w.heap.size w W0 := by rw [hW0]; exact BEL1.out.alloc (by omega) _
          have hF := Over.cells (W0 := W0)
          have K4 := Lib.hid (fun (n : Over W0) => (show Below w.heap.size w n.w from BW.trans (n.h.mono (by omega))))
          have A1 : Hid (∀ n' : Over W0, Calls Tryz.prog 161 #[.int .u8 sn, .string nm] n'.w fun e w'' => e = .returned (.bool true) ∧ ∃ m : Over W0, w'' = m.w) := Lib.hid fun n' => over_calls (T.out _ (K4.out n'))
          have A2 : Hid (∀ n' : Over W0, Calls Tryz.prog 264 #[.slice a1 n1 c1, .func (.func 263) #[] #[.pointer (some ⟨w1.heap.size, 0, none⟩)]] n'.w fun e w'' => e = .returned (.bool x2) ∧ ∃ m : Over W0, w'' = m.w) := Lib.hid fun n' => over_calls (C.out _ _ (K4.out n') ((n'.h.cell (p := ⟨w1.heap.size, 2, none⟩) z1).trans g2))
          clear T C BW hW0 k0 k1 k2 k6 hbx
          refine wp_region_over (by kernel_rfl) (by kernel_rfl) ?_
          repeat (go_big_quiet_step ((first | (go_at_call 161; exact A1.out _) | (go_at_call 264; exact A2.out _))))
          refine wpQuiet_nil ?_
          rintro _ ⟨m, rfl⟩
          have HF := Lib.hid (K4.out m)
          go_wp2
          go_ret
          exact ⟨ret_bool (by simp [Hl.out]), HF.out⟩
set_option maxHeartbeats 1000000 in
theorem progFits_calls (a : Option Addr) (n c b : Nat) (w : World) (hb : b < w.heap.size) (hc : w.cell? ⟨b, 0, none⟩ = some (.slice a n c)) :
    Calls Tryz.prog 241 #[.agg #[.pointer (some ⟨b, 0, none⟩)]] w fun e w' => e = .returned (.bool (decide (n ≤ 30))) ∧ Below w.heap.size w w' := by
  by_cases hl : n ≤ 30
  · have dl : decide ((n : Int) ≤ 30) = true := by simpa using (by omega : (n : Int) ≤ 30)
    have Hl := Lib.hid (show decide (n ≤ 30) = true by simpa using hl)
    rw [Hl.out]
    go_enter Tryz.func241, Tryz.ntmps241
    go_wp2
    go_ret
    exact ⟨rfl, box1 w _⟩
  · have dl : decide ((n : Int) ≤ 30) = false := by simpa using (by omega : 30 < (n : Int))
    have Hl := Lib.hid (show decide (n ≤ 30) = false by simpa using (by omega : 30 < n))
    rw [Hl.out]
    clear hl
    go_enter Tryz.func241, Tryz.ntmps241
    go_wp2
    go_ret
    exact ⟨rfl, box1 w _⟩
end Go.Proofs.YthilicmhdkmipaaGreatDoor

