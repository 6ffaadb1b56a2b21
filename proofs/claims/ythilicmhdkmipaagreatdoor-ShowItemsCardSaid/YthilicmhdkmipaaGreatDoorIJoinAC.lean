/- Names, and what they are given. -/
import Derived.Test.YthilicmhdkmipaaGreatDoorIJoinAB
namespace Go.Proofs.YthilicmhdkmipaaGreatDoor
open Go.RowKit
set_option linter.unusedVariables false

theorem pairsT_get : ∀ (ns : List ByteArray) (l : List PE) (k : Nat) (a : List TkB), (pairsT ns (tokEs l))[k]? = some a → ∃ nm x, ns[k]? = some nm ∧ l[k]? = some x ∧ a = kT nm :: wGives :: tokE x
  | [], l, k, a, h => by rw [pairsT] at h; simp at h; intro _ _ _ _ h; cases h
  | n :: ns, [], k, a, h => by rw [tokEs, pairsT] at h; simp at h; intro _ _ _ _ _ h; cases h
  | n :: ns, x :: l, 0, a, h => by
    rw [tokEs, pairsT] at h
    obtain rfl : kT n :: wGives :: tokE x = a := by simpa using h
    exact ⟨n, x, rfl, rfl, rfl⟩
  | n :: ns, x :: l, k + 1, a, h => by
    rw [tokEs, pairsT] at h
    obtain ⟨nm, y, h1, h2, h3⟩ := pairsT_get ns l k a (by simpa using h)
    exact ⟨nm, y, by simpa using h1, by simpa using h2, h3⟩
theorem pairsT_len : ∀ (ns : List ByteArray) (l : List PE), ns.length = l.length → (pairsT ns (tokEs l)).length = l.length
  | [], [], _ => rfl
  | [], _ :: _, h => by simp at h
  | _ :: _, [], h => by simp at h
  | n :: ns, x :: l, h => by rw [tokEs, pairsT, List.length_cons, pairsT_len ns l (by simpa using h)]; rfl
theorem pairs1_enters : ∀ args w, (callFunc 160 args).run Tryz.prog w = .ok (.enter 160 args) w := enters_of Tryz.func160 (by kernel_rfl) rfl
set_option maxRecDepth 100000 in
set_option maxHeartbeats 4000000 in
theorem pairs1_calls (B R : Nat) (x : PE) (nm : ByteArray) (IH : ExprAt B R x) (k n1 n2 : Nat) (hk1 : k < n1) (hk2 : k < n2) (hn1 : n1 ≤ maxLen) (hn2 : n2 ≤ maxLen) (gw gn gl b o c b' o' c' : Nat) (T0 G0 : TkB) (ts : List TkB) (v : VE) (w : World) (hB : B ≤ w.heap.size) (hW : Words B w) (hA : AtW B R T0 G0 ts w) (hx : x.In B w v) (hs : nm.size ≤ maxLen) (hL : Lim T0 G0 (ts ++ (kT nm :: wGives :: tokE x)))
    (s0 : Safe R w gw) (s1 : Safe R w gn) (s2 : Safe R w gl)
    (h0 : w.cell? ⟨gw, 0, none⟩ = some (.pointer (some ⟨R, 0, none⟩))) (h1 : w.cell? ⟨gn, 0, none⟩ = some (.slice (some ⟨b, o, none⟩) n1 c)) (h2 : w.cell? ⟨gl, 0, none⟩ = some (.slice (some ⟨b', o', none⟩) n2 c'))
    (hbB : b < B) (hbB' : b' < B) (hc : w.cell? ⟨b, o + k, none⟩ = some (.string nm)) (hc' : CellsAt w b' (o' + k * 8) (x.cells v)) :
    Calls Tryz.prog 160 #[.int .i64 k, .pointer (some ⟨gw, 0, none⟩), .pointer (some ⟨gn, 0, none⟩), .pointer (some ⟨gl, 0, none⟩)] w fun e w' => e = .returned (.tuple #[]) ∧ AtW B R T0 G0 (ts ++ (kT nm :: wGives :: tokE x)) w' ∧ WBut B R w w' := by
  obtain ⟨p1, m1, c1, p2, m2, c2, rfl⟩ := hx.shape
  have hn1' : n1 ≤ 9223372036854775807 := by unfold maxLen at hn1; omega
  have hn2' : n2 ≤ 9223372036854775807 := by unfold maxLen at hn2; omega
  have e1 : ts ++ (kT nm :: wGives :: tokE x) = (ts ++ [kT nm, wGives]) ++ tokE x := by simp
  rw [e1] at hL ⊢
  have P1 := Lib.hid (put2_calls B R nm ⟨#[61]⟩ T0 G0 ts _ w (new_drew w (.cells #[.string nm, .string ⟨#[61]⟩] 9)) (drew_new w _) hB hA hs (by decide) hL.less)
  have HW := Lib.hid hW
  have HX := Lib.hid hx
  have HC := Lib.hid hc'
  have HL := Lib.hid hL
  have hb : b < w.heap.size := by omega
  have g0 := s0.lt
  have g1 := s1.lt
  clear hW hA hx hL e1 hc'
  go_enter Tryz.func160, Tryz.ntmps160
  go_upto_region 0 with (fail)
  go_cut [0] from 5 to 14 (fun s3 wx => s3 = .int .i64 k ∧ Hid (AtW B R T0 G0 (ts ++ [kT nm, wGives]) wx) ∧ Hid (WBut B R w wx))
  case first =>
    go_region_held3 (fun w' => w'.cell? ⟨gw, 0, none⟩ = some (.pointer (some ⟨R, 0, none⟩)) ∧ w'.cell? ⟨gn, 0, none⟩ = some (.slice (some ⟨b, o, none⟩) n1 c) ∧ w'.cell? ⟨b, o + k, none⟩ = some (.string nm)) (first | exact ⟨h0, h1, hc⟩ | exact ⟨(low_new w _ _ _ g0).trans h0, (low_new w _ _ _ g1).trans h1, (low_new w _ _ _ hb).trans hc⟩ | exact ⟨XA, XB, XC⟩)
      (first
        | (go_at_call 98; (with_reducible refine (P1.out).mono ?_)
           rintro e w2 ⟨rfl, q1, b1⟩
           have H1 := Lib.hid q1
           have B1 := Lib.hid b1
           have XA := (s0.cell b1 0).trans h0
           have XB := (s1.cell b1 0).trans h1
           have XC := (b1.bel.cell (p := ⟨b, o + k, none⟩) hbB).trans hc
           clear q1 b1))
    go_wp2_with fail
    go_meet
    case rel => exact ⟨rfl, H1, B1⟩
  case rest =>
    obtain ⟨rfl, H1, B1⟩ := hcut
    have y0 := (s0.cell B1.out 0).trans h0
    have y2 := (s2.cell B1.out 0).trans h2
    have hc2 := HC.out.below hbB' B1.out.bel
    have bd : Below wc.heap.size wc wc.drew := (Below.refl _ wc).drew
    have hBc : B ≤ wc.heap.size := Nat.le_trans hB B1.out.size
    have C := Lib.hid (IH T0 G0 (ts ++ [kT nm, wGives]) _ wc.drew (by simpa using hBc) ((HW.out.below B1.out.bel).below (bd.mono hBc)) (H1.out.stays bd) (PE.In.below (bd.mono hBc) (PE.In.below B1.out.bel HX.out)) HL.out)
    have C' : Hid (Calls Tryz.prog 69 #[.pointer (some ⟨R, 0, none⟩), .agg #[.int .u8 x.op, .int .i64 x.int, .string x.name, .string x.second, .string x.place.name, .slice p1 m1 c1, .slice p2 m2 c2, .int .i64 x.pos]] wc.drew fun e w' => e = .returned (.tuple #[]) ∧ AtW B R T0 G0 ((ts ++ [kT nm, wGives]) ++ tokE x) w' ∧ WBut B R wc.drew w') := Lib.hid C.out
    have x0 : wc.cell? ⟨b', o' + k * 8, none⟩ = some (.int .u8 x.op) := by simpa using hc2 0 _ rfl
    have x1 : wc.cell? ⟨b', o' + k * 8 + 1, none⟩ = some (.int .i64 x.int) := hc2 1 _ rfl
    have x2 : wc.cell? ⟨b', o' + k * 8 + 2, none⟩ = some (.string x.name) := hc2 2 _ rfl
    have x3 : wc.cell? ⟨b', o' + k * 8 + 3, none⟩ = some (.string x.second) := hc2 3 _ rfl
    have x4 : wc.cell? ⟨b', o' + k * 8 + 4, none⟩ = some (.string x.place.name) := hc2 4 _ rfl
    have x5 : wc.cell? ⟨b', o' + k * 8 + 5, none⟩ = some (.slice p1 m1 c1) := hc2 5 _ rfl
    have x6 : wc.cell? ⟨b', o' + k * 8 + 6, none⟩ = some (.slice p2 m2 c2) := hc2 6 _ rfl
    have x7 : wc.cell? ⟨b', o' + k * 8 + 7, none⟩ = some (.int .i64 x.pos) := hc2 7 _ rfl
    have WD : WBut B R w wc.drew := B1.out.trans (WBut.of bd hBc)
    clear IH C hc2 P1 h0 h1 h2 hc s0 s1 s2 HC
    go_upto_region 1 with (fail)
    go_region_with (first
      | (go_at_call 69; (with_reducible refine (C'.out).mono ?_)
         rintro e w3 ⟨rfl, h3, b3⟩
         have H3 := Lib.hid h3
         have B3 := Lib.hid (WD.trans b3)
         clear h3 b3))
    all_goals
      go_wp2
      go_end0
      exact ⟨rfl, H3.out, B3.out⟩
theorem neSS : (32 : TypeId) ≠ 5 := by decide
set_option maxRecDepth 100000 in
set_option maxHeartbeats 4000000 in
theorem pairs_calls (B R : Nat) (ns : List ByteArray) (l : List PE) (hlen : ns.length = l.length) (IH : ∀ x ∈ l, ExprAt B R x) (T0 G0 : TkB) (ts : List TkB) (vn v : Value) (b o b' o' : Nat) (w : World) (hB : B ≤ w.heap.size) (hW : Words B w) (hA : AtW B R T0 G0 ts w) (hsn : SlV B vn ns.length b o) (hrn : NRow w b o ns) (hs : SlV B v l.length b' o') (hr : PE.Row B w b' o' l) (hL : Lim T0 G0 (ts ++ joinT (pairsT ns (tokEs l)))) :
    Calls Tryz.prog 102 #[.pointer (some ⟨R, 0, none⟩), vn, v] w fun e w' => e = .returned (.tuple #[]) ∧ AtW B R T0 G0 (ts ++ joinT (pairsT ns (tokEs l))) w' ∧ WBut B R w w' := by
  obtain ⟨hnn, an, capn, rfl, kn⟩ := hsn
  obtain ⟨hn, ao, cap, rfl, k1⟩ := hs
  rw [hlen] at hnn kn ⊢
  have hRR : R < w.heap.size := hA.lt
  obtain ⟨w1, hw1⟩ : ∃ w1, w1 = ((w.alloc (.cells #[.pointer (some ⟨R, 0, none⟩)] 81)).alloc (.cells #[.slice an l.length capn] 32)).alloc (.cells #[.slice ao l.length cap] 35) := ⟨_, rfl⟩
  have bx : Below w.heap.size w w1 := by rw [hw1]; exact ((new_only _ _).alloc (by simp) _).alloc (by simp; omega) _
  have hz : w1.heap.size = w.heap.size + 3 := by rw [hw1]; simp
  have hg0 : w1.heap[w.heap.size]? = some (.cells #[.pointer (some ⟨R, 0, none⟩)] 81 (0, 0)) := by
    rw [hw1]; exact (Below.heap_alloc _ _ _ (by simp; omega)).trans ((Below.heap_alloc _ _ _ (by simp)).trans (heap_alloc_new w _))
  have hg1 : w1.heap[w.heap.size + 1]? = some (.cells #[.slice an l.length capn] 32 (0, 0)) := by
    rw [hw1]
    have := heap_alloc_new (w.alloc (.cells #[.pointer (some ⟨R, 0, none⟩)] 81)) (.cells #[.slice an l.length capn] 32)
    exact (Below.heap_alloc _ _ _ (by simp)).trans (by simpa using this)
  have hg2 : w1.heap[w.heap.size + 2]? = some (.cells #[.slice ao l.length cap] 35 (0, 0)) := by
    rw [hw1]
    have := heap_alloc_new ((w.alloc (.cells #[.pointer (some ⟨R, 0, none⟩)] 81)).alloc (.cells #[.slice an l.length capn] 32)) (.cells #[.slice ao l.length cap] 35)
    simpa using this
  have S0 : Safe R w1.drew w.heap.size := Safe.made (fr := (0, 0)) (show w1.drew.heap[w.heap.size]? = _ from hg0) nePW hRR
  have S1 : Safe R w1.drew (w.heap.size + 1) := Safe.made (fr := (0, 0)) (show w1.drew.heap[w.heap.size + 1]? = _ from hg1) neSS (by omega)
  have S2 : Safe R w1.drew (w.heap.size + 2) := Safe.made (fr := (0, 0)) (show w1.drew.heap[w.heap.size + 2]? = _ from hg2) neSE (by omega)
  have bd : Below w.heap.size w w1.drew := bx.drew
  have BX := Lib.hid (WBut.of bd hB (R := R))
  have c0 : w1.drew.cell? ⟨w.heap.size, 0, none⟩ = some (.pointer (some ⟨R, 0, none⟩)) := by rw [cell_of_row _ _ 0 _ _ _ (show w1.drew.heap[w.heap.size]? = _ from hg0)]; rfl
  have c1 : w1.drew.cell? ⟨w.heap.size + 1, 0, none⟩ = some (.slice an l.length capn) := by rw [cell_of_row _ _ 0 _ _ _ (show w1.drew.heap[w.heap.size + 1]? = _ from hg1)]; rfl
  have c2 : w1.drew.cell? ⟨w.heap.size + 2, 0, none⟩ = some (.slice ao l.length cap) := by rw [cell_of_row _ _ 0 _ _ _ (show w1.drew.heap[w.heap.size + 2]? = _ from hg2)]; rfl
  have hBd : B ≤ w1.drew.heap.size := Nat.le_trans hB bd.size
  have C := Lib.hid (list_calls B R (lb := #[.pointer (some ⟨w.heap.size, 0, none⟩), .pointer (some ⟨w.heap.size + 1, 0, none⟩), .pointer (some ⟨w.heap.size + 2, 0, none⟩)]) (pairsT ns (tokEs l)) T0 G0 ts w1.drew pairs1_enters hBd (hA.stays bd) (by rw [pairsT_len ns l hlen]; exact hn) hL (by
    intro k a ha us W hBW bW hAW hLW
    obtain ⟨nm, x, hnm, hx, rfl⟩ := pairsT_get ns l k a ha
    have hkl : k < l.length := (List.getElem?_eq_some_iff.1 hx).1
    obtain ⟨rfl, hbB⟩ := kn.resolve_left (by omega)
    obtain ⟨rfl, hbB'⟩ := k1.resolve_left (by omega)
    obtain ⟨vx, cx, ix⟩ := PE.Row.get hr hx
    obtain ⟨hsz, cn⟩ := NRow.get hrn hnm
    have bl : Below B w W := (bd.mono hB).trans bW.bel
    have cn' : W.cell? ⟨b, o + k, none⟩ = some (.string nm) := by
      have := cn.below hbB bl 0 _ rfl
      simpa using this
    exact pairs1_calls B R x nm (IH x (List.mem_of_getElem? hx)) k l.length l.length hkl hkl hn hn w.heap.size (w.heap.size + 1) (w.heap.size + 2) b o capn b' o' cap T0 G0 us vx W hBW (hW.below bl) hAW (PE.In.below bl ix) hsz hLW (S0.but bW) (S1.but bW) (S2.but bW) ((S0.cell bW 0).trans c0) ((S1.cell bW 0).trans c1) ((S2.cell bW 0).trans c2) hbB hbB' cn' (cx.below hbB' bl)))
  have C' : Hid (Calls Tryz.prog 145 #[.pointer (some ⟨R, 0, none⟩), .int .i64 l.length, .func (.func 160) #[] #[.pointer (some ⟨w.heap.size, 0, none⟩), .pointer (some ⟨w.heap.size + 1, 0, none⟩), .pointer (some ⟨w.heap.size + 2, 0, none⟩)]] w1.drew fun e w' => e = .returned (.tuple #[]) ∧ AtW B R T0 G0 (ts ++ joinT (pairsT ns (tokEs l))) w' ∧ WBut B R w1.drew w') := Lib.hid (by
    have := C.out
    rw [pairsT_len ns l hlen] at this
    exact this)
  have d0 : w1.cell? ⟨w.heap.size, 0, none⟩ = some (.pointer (some ⟨R, 0, none⟩)) := c0
  have d2 : w1.cell? ⟨w.heap.size + 2, 0, none⟩ = some (.slice ao l.length cap) := c2
  clear hW hA hr hrn hL IH C k1 kn S0 S1 S2
  generalize joinT (pairsT ns (tokEs l)) = tx at *
  generalize l.length = n at *
  go_enter Tryz.func102, Tryz.ntmps102
  go_upto_region 1 with (fail)
  (try simp only [size_alloc])
  rw [← hw1]
  clear hw1
  go_region_with (first
    | (go_at_call 145; (with_reducible refine (C'.out).mono ?_)
       rintro e w3 ⟨rfl, h3, b3⟩
       have H3 := Lib.hid h3
       have B3 := Lib.hid (BX.out.trans b3)
       clear h3 b3))
  all_goals
    go_wp2
    go_end0
    exact ⟨rfl, H3.out, B3.out⟩
end Go.Proofs.YthilicmhdkmipaaGreatDoor
/- What the writer writes of a row of fields. -/
namespace Go.Proofs.YthilicmhdkmipaaGreatDoor
open Go.RowKit
set_option linter.unusedVariables false

theorem fields1_enters : ∀ args w, (callFunc 176 args).run Tryz.prog w = .ok (.enter 176 args) w := enters_of Tryz.func176 (by kernel_rfl) rfl
theorem neSF : (65 : TypeId) ≠ 5 := by decide
set_option maxRecDepth 100000 in
set_option maxHeartbeats 4000000 in
theorem fields1_calls (B R : Nat) (f : PF) (IH : TypedAt B R f.type) (k n : Nat) (hk : k < n) (hn : n ≤ maxLen) (gw gl b o cap : Nat) (T0 G0 : TkB) (ts : List TkB) (v : Value) (w : World) (hB : B ≤ w.heap.size) (hW : Words B w) (hA : AtW B R T0 G0 ts w) (hx : f.In B w v) (hL : Lim T0 G0 (ts ++ fieldT f))
    (s0 : Safe R w gw) (s1 : Safe R w gl)
    (h0 : w.cell? ⟨gw, 0, none⟩ = some (.pointer (some ⟨R, 0, none⟩))) (h1 : w.cell? ⟨gl, 0, none⟩ = some (.slice (some ⟨b, o, none⟩) n cap))
    (hbB : b < B) (hc : CellsAt w b (o + k * 4) (f.cells v)) :
    Calls Tryz.prog 176 #[.int .i64 k, .pointer (some ⟨gw, 0, none⟩), .pointer (some ⟨gl, 0, none⟩)] w fun e w' => e = .returned (.tuple #[]) ∧ AtW B R T0 G0 (ts ++ fieldT f) w' ∧ WBut B R w w' := by
  obtain ⟨nm, t⟩ := f
  obtain ⟨hs, ht⟩ := hx
  dsimp only at hs ht IH
  obtain ⟨p1, m1, c1, rfl⟩ := ht.shape
  have hn' : n ≤ 9223372036854775807 := by unfold maxLen at hn; omega
  have e0 : fieldT ⟨nm, t⟩ = kT nm :: wColon :: tokT t := rfl
  have e1 : ts ++ fieldT ⟨nm, t⟩ = (ts ++ [kT nm, wColon]) ++ tokT t := by rw [e0]; simp
  rw [e1] at hL ⊢
  have P1 := Lib.hid (put2_calls B R nm ⟨#[58]⟩ T0 G0 ts _ w (new_drew w (.cells #[.string nm, .string ⟨#[58]⟩] 9)) (drew_new w _) hB hA hs (by decide) hL.less)
  have HW := Lib.hid hW
  have HX := Lib.hid ht
  have HC := Lib.hid hc
  have HL := Lib.hid hL
  have hb : b < w.heap.size := by omega
  have g0 := s0.lt
  have g1 := s1.lt
  have xn : w.cell? ⟨b, o + k * 4, none⟩ = some (.string nm) := by simpa using hc 0 _ rfl
  clear hW hA ht hL e1 e0 hc
  go_enter Tryz.func176, Tryz.ntmps176
  go_upto_region 0 with (fail)
  go_cut [0] from 4 to 14 (fun s3 wx => s3 = .int .i64 k ∧ Hid (AtW B R T0 G0 (ts ++ [kT nm, wColon]) wx) ∧ Hid (WBut B R w wx))
  case first =>
    go_region_held3 (fun w' => w'.cell? ⟨gw, 0, none⟩ = some (.pointer (some ⟨R, 0, none⟩)) ∧ w'.cell? ⟨gl, 0, none⟩ = some (.slice (some ⟨b, o, none⟩) n cap) ∧ w'.cell? ⟨b, o + k * 4, none⟩ = some (.string nm)) (first | exact ⟨h0, h1, xn⟩ | exact ⟨(low_new w _ _ _ g0).trans h0, (low_new w _ _ _ g1).trans h1, (low_new w _ _ _ hb).trans xn⟩ | exact ⟨XA, XB, XC⟩)
      (first
        | (go_at_call 98; (with_reducible refine (P1.out).mono ?_)
           rintro e w2 ⟨rfl, q1, b1⟩
           have H1 := Lib.hid q1
           have B1 := Lib.hid b1
           have XA := (s0.cell b1 0).trans h0
           have XB := (s1.cell b1 0).trans h1
           have XC := (b1.bel.cell (p := ⟨b, o + k * 4, none⟩) hbB).trans xn
           clear q1 b1))
    go_wp2_with fail
    go_meet
    case rel => exact ⟨rfl, H1, B1⟩
  case rest =>
    obtain ⟨rfl, H1, B1⟩ := hcut
    have y0 := (s0.cell B1.out 0).trans h0
    have y1 := (s1.cell B1.out 0).trans h1
    have hc2 := HC.out.below hbB B1.out.bel
    have bd : Below wc.heap.size wc wc.drew := (Below.refl _ wc).drew
    have hBc : B ≤ wc.heap.size := Nat.le_trans hB B1.out.size
    have C' : Hid (Calls Tryz.prog 66 #[.pointer (some ⟨R, 0, none⟩), .agg #[.int .u8 t.kind, .string t.name, .slice p1 m1 c1]] wc.drew fun e w' => e = .returned (.tuple #[]) ∧ AtW B R T0 G0 ((ts ++ [kT nm, wColon]) ++ tokT t) w' ∧ WBut B R wc.drew w') := Lib.hid (IH T0 G0 (ts ++ [kT nm, wColon]) _ wc.drew (by simpa using hBc) ((HW.out.below B1.out.bel).below (bd.mono hBc)) (H1.out.stays bd) (PT.In.below (bd.mono hBc) (PT.In.below B1.out.bel HX.out)) HL.out)
    have x1 : wc.cell? ⟨b, o + k * 4 + 1, none⟩ = some (.int .u8 t.kind) := hc2 1 _ rfl
    have x2 : wc.cell? ⟨b, o + k * 4 + 2, none⟩ = some (.string t.name) := hc2 2 _ rfl
    have x3 : wc.cell? ⟨b, o + k * 4 + 3, none⟩ = some (.slice p1 m1 c1) := hc2 3 _ rfl
    have WD : WBut B R w wc.drew := B1.out.trans (WBut.of bd hBc)
    clear IH hc2 P1 h0 h1 xn s0 s1 HC
    go_upto_region 1 with (fail)
    go_region_with (first
      | (go_at_call 66; (with_reducible refine (C'.out).mono ?_)
         rintro e w3 ⟨rfl, h3, b3⟩
         have H3 := Lib.hid h3
         have B3 := Lib.hid (WD.trans b3)
         clear h3 b3))
    all_goals
      go_wp2
      go_end0
      exact ⟨rfl, H3.out, B3.out⟩
set_option maxRecDepth 100000 in
set_option maxHeartbeats 4000000 in
theorem fields_calls (B R : Nat) (l : List PF) (IH : ∀ x ∈ l, TypedAt B R x.type) (T0 G0 : TkB) (ts : List TkB) (v : Value) (b o : Nat) (w : World) (hB : B ≤ w.heap.size) (hW : Words B w) (hA : AtW B R T0 G0 ts w) (hs : SlV B v l.length b o) (hr : PF.Row B w b o l) (hL : Lim T0 G0 (ts ++ joinT (l.map fieldT))) :
    Calls Tryz.prog 144 #[.pointer (some ⟨R, 0, none⟩), v] w fun e w' => e = .returned (.tuple #[]) ∧ AtW B R T0 G0 (ts ++ joinT (l.map fieldT)) w' ∧ WBut B R w w' := by
  obtain ⟨hn, ao, cap, rfl, k1⟩ := hs
  have hRR : R < w.heap.size := hA.lt
  obtain ⟨w1, hw1⟩ : ∃ w1, w1 = (w.alloc (.cells #[.pointer (some ⟨R, 0, none⟩)] 81)).alloc (.cells #[.slice ao l.length cap] 65) := ⟨_, rfl⟩
  have bx : Below w.heap.size w w1 := by rw [hw1]; exact (new_only _ _).alloc (by simp) _
  have hz : w1.heap.size = w.heap.size + 2 := by rw [hw1]; simp
  have hg0 : w1.heap[w.heap.size]? = some (.cells #[.pointer (some ⟨R, 0, none⟩)] 81 (0, 0)) := by
    rw [hw1]; exact (Below.heap_alloc _ _ _ (by simp)).trans (heap_alloc_new w _)
  have hg1 : w1.heap[w.heap.size + 1]? = some (.cells #[.slice ao l.length cap] 65 (0, 0)) := by
    rw [hw1]
    have := heap_alloc_new (w.alloc (.cells #[.pointer (some ⟨R, 0, none⟩)] 81)) (.cells #[.slice ao l.length cap] 65)
    simpa using this
  have S0 : Safe R w1.drew w.heap.size := Safe.made (fr := (0, 0)) (show w1.drew.heap[w.heap.size]? = _ from hg0) nePW hRR
  have S1 : Safe R w1.drew (w.heap.size + 1) := Safe.made (fr := (0, 0)) (show w1.drew.heap[w.heap.size + 1]? = _ from hg1) neSF (by omega)
  have bd : Below w.heap.size w w1.drew := bx.drew
  have BX := Lib.hid (WBut.of bd hB (R := R))
  have c0 : w1.drew.cell? ⟨w.heap.size, 0, none⟩ = some (.pointer (some ⟨R, 0, none⟩)) := by rw [cell_of_row _ _ 0 _ _ _ (show w1.drew.heap[w.heap.size]? = _ from hg0)]; rfl
  have c1 : w1.drew.cell? ⟨w.heap.size + 1, 0, none⟩ = some (.slice ao l.length cap) := by rw [cell_of_row _ _ 0 _ _ _ (show w1.drew.heap[w.heap.size + 1]? = _ from hg1)]; rfl
  have hBd : B ≤ w1.drew.heap.size := Nat.le_trans hB bd.size
  have C := Lib.hid (list_calls B R (lb := #[.pointer (some ⟨w.heap.size, 0, none⟩), .pointer (some ⟨w.heap.size + 1, 0, none⟩)]) (l.map fieldT) T0 G0 ts w1.drew fields1_enters hBd (hA.stays bd) (by rw [List.length_map]; exact hn) hL (by
    intro k a ha us W hBW bW hAW hLW
    rw [List.getElem?_map, Option.map_eq_some_iff] at ha
    obtain ⟨x, hx, rfl⟩ := ha
    have hkl : k < l.length := (List.getElem?_eq_some_iff.1 hx).1
    obtain ⟨rfl, hbB⟩ := k1.resolve_left (by omega)
    obtain ⟨vx, cx, ix⟩ := PF.Row.get hr hx
    have bl : Below B w W := (bd.mono hB).trans bW.bel
    exact fields1_calls B R x (IH x (List.mem_of_getElem? hx)) k l.length hkl hn w.heap.size (w.heap.size + 1) b o cap T0 G0 us vx W hBW (hW.below bl) hAW ⟨ix.1, PT.In.below bl ix.2⟩ hLW (S0.but bW) (S1.but bW) ((S0.cell bW 0).trans c0) ((S1.cell bW 0).trans c1) hbB (cx.below hbB bl)))
  have C' : Hid (Calls Tryz.prog 145 #[.pointer (some ⟨R, 0, none⟩), .int .i64 l.length, .func (.func 176) #[] #[.pointer (some ⟨w.heap.size, 0, none⟩), .pointer (some ⟨w.heap.size + 1, 0, none⟩)]] w1.drew fun e w' => e = .returned (.tuple #[]) ∧ AtW B R T0 G0 (ts ++ joinT (l.map fieldT)) w' ∧ WBut B R w1.drew w') := Lib.hid (by
    have := C.out
    rw [List.length_map] at this
    exact this)
  have d0 : w1.cell? ⟨w.heap.size, 0, none⟩ = some (.pointer (some ⟨R, 0, none⟩)) := c0
  have d1 : w1.cell? ⟨w.heap.size + 1, 0, none⟩ = some (.slice ao l.length cap) := c1
  clear hW hA hr hL IH C k1 S0 S1
  generalize joinT (l.map fieldT) = tx at *
  generalize l.length = n at *
  go_enter Tryz.func144, Tryz.ntmps144
  go_upto_region 1 with (fail)
  (try simp only [size_alloc])
  rw [← hw1]
  clear hw1
  go_region_with (first
    | (go_at_call 145; (with_reducible refine (C'.out).mono ?_)
       rintro e w3 ⟨rfl, h3, b3⟩
       have H3 := Lib.hid h3
       have B3 := Lib.hid (BX.out.trans b3)
       clear h3 b3))
  all_goals
    go_wp2
    go_end0
    exact ⟨rfl, H3.out, B3.out⟩
end Go.Proofs.YthilicmhdkmipaaGreatDoor
/- A sign between its two sides. -/
namespace Go.Proofs.YthilicmhdkmipaaGreatDoor
open Go.RowKit
set_option linter.unusedVariables false

set_option maxRecDepth 100000 in
set_option maxHeartbeats 8000000 in
theorem sidesW_calls (B R op own left : Nat) (hop : op ≤ 36) (hown : strongB (op : Int) = own) (hcs : (own = 0 ∧ left = 0) ∨ (own = 1 ∧ left = 1) ∨ (own = 3 ∧ left = 4) ∨ (own = 4 ∧ left = 4) ∨ (own = 5 ∧ left = 5)) (i : Int) (n s : ByteArray) (p : PP) (a a2 : PE) (pos : Int) (IH : ExprAt B R a) (IH2 : ExprAt B R a2) (T0 G0 : TkB) (ts : List TkB) (v : VE) (w : World) (hB : B ≤ w.heap.size) (hW : Words B w) (hA : AtW B R T0 G0 ts w) (hx : (PE.mk (op : Int) i n s p [a, a2] pos).In B w v) (hL : Lim T0 G0 (ts ++ (sideT left a.op (tokE a) ++ exprWord (op : Int) :: sideT (own + 1) a2.op (tokE a2)))) :
    Calls Tryz.prog 106 #[.pointer (some ⟨R, 0, none⟩), .agg ((PE.mk (op : Int) i n s p [a, a2] pos).cells v).toArray] w fun e w' => e = .returned (.tuple #[]) ∧ AtW B R T0 G0 (ts ++ (sideT left a.op (tokE a) ++ exprWord (op : Int) :: sideT (own + 1) a2.op (tokE a2))) w' ∧ WBut B R w w' := by
  obtain ⟨p1, n1, c1, ao, cap, b, o, rfl, ⟨_, _, hsn, hss⟩, _, hn, k1, hr⟩ := hx.parts
  obtain ⟨rfl, hbB⟩ := k1.resolve_left (by simp)
  have hRR : R < w.heap.size := hA.lt
  obtain ⟨w1, hw1⟩ : ∃ w1, w1 = w.alloc (.cells ((PE.mk (op : Int) i n s p [a, a2] pos).cells ⟨.slice p1 n1 c1, .slice (some ⟨b, o, none⟩) 2 cap⟩).toArray 37) := ⟨_, rfl⟩
  have bx : Below w.heap.size w w1 := by rw [hw1]; exact new_only _ _
  have hz : w.heap.size < w1.heap.size := by rw [hw1]; simp
  have EB : EBox R w.heap.size (PE.mk (op : Int) i n s p [a, a2] pos) ⟨.slice p1 n1 c1, .slice (some ⟨b, o, none⟩) 2 cap⟩ w1 := by rw [hw1]; exact EBox.new _ _ hRR
  obtain ⟨va, ca, ia⟩ := PE.Row.get hr (show ([a, a2] : List PE)[0]? = some a from rfl)
  obtain ⟨vb, cb, ib⟩ := PE.Row.get hr (show ([a, a2] : List PE)[1]? = some a2 from rfl)
  obtain ⟨q1, m1, d1, q2, m2, d2, rfl⟩ := ia.shape
  obtain ⟨r1, l1, f1, r2, l2, f2, rfl⟩ := ib.shape
  have hb : b < w.heap.size := by omega
  have BX := Lib.hid (WBut.of bx hB (R := R))
  have HS := Lib.hid fun (W : World) => strong_calls (op : Int) W
  rw [hown] at HS
  have HW := Lib.hid hW
  have HE := Lib.hid EB
  have HCA := Lib.hid ca
  have HIA := Lib.hid ia
  have HCB := Lib.hid cb
  have HIB := Lib.hid ib
  have e1 : ts ++ (sideT left a.op (tokE a) ++ exprWord (op : Int) :: sideT (own + 1) a2.op (tokE a2)) = ((ts ++ sideT left a.op (tokE a)) ++ [kT (wordE op)]) ++ sideT (own + 1) a2.op (tokE a2) := by rw [wordE_kT]; simp
  rw [e1] at hL ⊢
  have HL := Lib.hid hL
  have x0 : w1.cell? ⟨w.heap.size, 0, none⟩ = some (.int .u8 (op : Int)) := EB.has 0 _ rfl
  have x6 : w1.cell? ⟨w.heap.size, 6, none⟩ = some (.slice (some ⟨b, o, none⟩) 2 cap) := EB.has 6 _ rfl
  have cw := HCA.out.below hbB (bx.mono hB)
  have u0 : w1.cell? ⟨b, o, none⟩ = some (.int .u8 a.op) := by simpa using cw 0 _ rfl
  have u1 : w1.cell? ⟨b, o + 1, none⟩ = some (.int .i64 a.int) := by simpa using cw 1 _ rfl
  have u2 : w1.cell? ⟨b, o + 2, none⟩ = some (.string a.name) := by simpa using cw 2 _ rfl
  have u3 : w1.cell? ⟨b, o + 3, none⟩ = some (.string a.second) := by simpa using cw 3 _ rfl
  have u4 : w1.cell? ⟨b, o + 4, none⟩ = some (.string a.place.name) := by simpa using cw 4 _ rfl
  have u5 : w1.cell? ⟨b, o + 5, none⟩ = some (.slice q1 m1 d1) := by simpa using cw 5 _ rfl
  have u6 : w1.cell? ⟨b, o + 6, none⟩ = some (.slice q2 m2 d2) := by simpa using cw 6 _ rfl
  have u7 : w1.cell? ⟨b, o + 7, none⟩ = some (.int .i64 a.pos) := by simpa using cw 7 _ rfl
  have hb1 : b < w1.heap.size := by omega
  have hl4 : left ≤ 8 := by omega
  have ho8 : own + 1 ≤ 8 := by omega
  have C := Lib.hid (sideW_calls B R a IH left hl4 T0 G0 ts ⟨.slice q1 m1 d1, .slice q2 m2 d2⟩ w1 (by omega) (hW.below (bx.mono hB)) (hA.stays bx) (PE.In.below (bx.mono hB) ia) hL.less.less)
  obtain ⟨ow, how⟩ : ∃ ow : Int, ow = (own : Int) := ⟨_, rfl⟩
  obtain ⟨lf, hlf⟩ : ∃ lf : Int, lf = (left : Int) := ⟨_, rfl⟩
  obtain ⟨nx, hnx⟩ : ∃ nx : Int, nx = ((own + 1 : Nat) : Int) := ⟨_, rfl⟩
  have hcs' : (ow = 0 ∧ lf = 0 ∧ nx = 1) ∨ (ow = 1 ∧ lf = 1 ∧ nx = 2) ∨ (ow = 3 ∧ lf = 4 ∧ nx = 4) ∨ (ow = 4 ∧ lf = 4 ∧ nx = 5) ∨ (ow = 5 ∧ lf = 5 ∧ nx = 6) := by omega
  rw [← how] at HS
  rw [← hlf] at C
  have C' : Hid (Calls Tryz.prog 104 #[.pointer (some ⟨R, 0, none⟩), .agg #[.int .u8 a.op, .int .i64 a.int, .string a.name, .string a.second, .string a.place.name, .slice q1 m1 d1, .slice q2 m2 d2, .int .i64 a.pos], .int .u8 lf] w1 fun e w' => e = .returned (.tuple #[]) ∧ AtW B R T0 G0 (ts ++ sideT left a.op (tokE a)) w' ∧ WBut B R w1 w') := Lib.hid C.out
  have C2 := Lib.hid (fun (W : World) h1 h2 h3 h4 h5 => sideW_calls B R a2 IH2 (own + 1) ho8 T0 G0 ((ts ++ sideT left a.op (tokE a)) ++ [kT (wordE op)]) ⟨.slice r1 l1 f1, .slice r2 l2 f2⟩ W h1 h2 h3 h4 h5)
  rw [← hnx] at C2
  have hws := wordE_size op hop
  have hop1 : (0 : Int) ≤ (op : Int) := by omega
  have hop2 : (op : Int) < 37 := by omega
  have tw : ∀ W, Words B W → W.cell? ⟨1, op, none⟩ = some (.string (wordE op)) := fun W h => h.e op hop
  have HT := Lib.hid tw
  have hgB := hW.lt.2
  show Calls Tryz.prog 106 #[.pointer (some ⟨R, 0, none⟩), .agg #[.int .u8 (op : Int), .int .i64 i, .string n, .string s, .string p.name, .slice p1 n1 c1, .slice (some ⟨b, o, none⟩) 2 cap, .int .i64 pos]] w _
  have hw1' : w1 = w.alloc (.cells #[.int .u8 (op : Int), .int .i64 i, .string n, .string s, .string p.name, .slice p1 n1 c1, .slice (some ⟨b, o, none⟩) 2 cap, .int .i64 pos] 37) := hw1
  clear hw1 hW hA hx hr hL EB e1 bx C ca ia cb ib IH IH2 k1 hn cw tw hown how hlf hnx hcs hl4 ho8
  generalize wordE op = wd at *
  generalize sideT (own + 1) a2.op (tokE a2) = tr at *
  generalize sideT left a.op (tokE a) = tl at *
  rcases hcs' with ⟨rfl, rfl, rfl⟩ | ⟨rfl, rfl, rfl⟩ | ⟨rfl, rfl, rfl⟩ | ⟨rfl, rfl, rfl⟩ | ⟨rfl, rfl, rfl⟩
  all_goals
    go_enter Tryz.func106, Tryz.ntmps106
    go_upto_region 1 with (fail)
    rw [← hw1']
    clear hw1'
    go_wp2_with fail
    (with_reducible refine (HS.out _).mono ?_)
    rintro e w2 ⟨rfl, rfl⟩
    go_wp2_with fail
    (with_reducible refine (C'.out).mono ?_)
    rintro e w2 ⟨rfl, h2, b2⟩
    have B2 := Lib.hid (BX.out.trans b2)
    have E2 := HE.out.but b2
    have y0 : w2.cell? ⟨w.heap.size, 0, none⟩ = some (.int .u8 (op : Int)) := E2.has 0 _ rfl
    have hz2 := E2.lt
    have hB2 : B ≤ w2.heap.size := Nat.le_trans hB B2.out.size
    have tw2 := HT.out w2 (HW.out.below B2.out.bel)
    have hg2 : 1 < w2.heap.size := by omega
    have P2 := Lib.hid (put1_calls B R wd T0 G0 (ts ++ tl) _ w2 (new_drew w2 (.cells #[.string wd] 9)) (drew_new w2 _) hB2 h2 hws HL.out.less)
    have HE2 := Lib.hid E2
    have SG2 := E2.safe
    clear C' x0 x6 u0 u1 u2 u3 u4 u5 u6 u7 h2 E2 b2
    go_upto_region 6 with (fail)
    go_cut [3] from 21 to 30 (fun s3 wx => s3 = .pointer (some ⟨w.heap.size, 0, none⟩) ∧ Hid (AtW B R T0 G0 ((ts ++ tl) ++ [kT wd]) wx) ∧ Hid (WBut B R w2 wx))
    case first =>
      go_region_held3 (fun w' => w'.cell? ⟨w.heap.size, 0, none⟩ = some (.int .u8 (op : Int)) ∧ ∀ o, w'.cell? ⟨1, o, none⟩ = w2.cell? ⟨1, o, none⟩) (first | exact ⟨y0, fun _ => rfl⟩ | exact ⟨(low_new w2 _ _ _ hz2).trans y0, fun o => low_new w2 _ _ _ hg2⟩ | exact ⟨XB, XT⟩)
        (first
          | (go_at_call 98; (with_reducible refine (P2.out).mono ?_)
             rintro e w3 ⟨rfl, h1, b1⟩
             have H1 := Lib.hid h1
             have B1 := Lib.hid b1
             have XB := (SG2.cell b1 0).trans y0
             have XT := fun o => b1.bel.cell (p := ⟨1, o, none⟩) hgB
             clear h1 b1))
      go_wp2_with fail
      go_meet
      case rel => exact ⟨rfl, H1, B1⟩
    case rest =>
      obtain ⟨rfl, H1, B1⟩ := hcut
      have B3 := Lib.hid (B2.out.trans B1.out)
      have E3 := HE2.out.but B1.out
      have z6 : wc.cell? ⟨w.heap.size, 6, none⟩ = some (.slice (some ⟨b, o, none⟩) 2 cap) := E3.has 6 _ rfl
      have hzc := E3.lt
      have cw := HCB.out.below hbB B3.out.bel
      have u0 : wc.cell? ⟨b, o + 8, none⟩ = some (.int .u8 a2.op) := by simpa using cw 0 _ rfl
      have u1 : wc.cell? ⟨b, o + 8 + 1, none⟩ = some (.int .i64 a2.int) := by simpa using cw 1 _ rfl
      have u2 : wc.cell? ⟨b, o + 8 + 2, none⟩ = some (.string a2.name) := by simpa using cw 2 _ rfl
      have u3 : wc.cell? ⟨b, o + 8 + 3, none⟩ = some (.string a2.second) := by simpa using cw 3 _ rfl
      have u4 : wc.cell? ⟨b, o + 8 + 4, none⟩ = some (.string a2.place.name) := by simpa using cw 4 _ rfl
      have u5 : wc.cell? ⟨b, o + 8 + 5, none⟩ = some (.slice r1 l1 f1) := by simpa using cw 5 _ rfl
      have u6 : wc.cell? ⟨b, o + 8 + 6, none⟩ = some (.slice r2 l2 f2) := by simpa using cw 6 _ rfl
      have u7 : wc.cell? ⟨b, o + 8 + 7, none⟩ = some (.int .i64 a2.pos) := by simpa using cw 7 _ rfl
      have hBc : B ≤ wc.heap.size := Nat.le_trans hB B3.out.size
      have hbc : b < wc.heap.size := by omega
      have D := Lib.hid (C2.out wc hBc (HW.out.below B3.out.bel) H1.out (PE.In.below B3.out.bel HIB.out) HL.out)
      clear P2 y0 cw C2 HE2
      go_wp2_with fail
      refine (D.out).mono ?_
      rintro e w4 ⟨rfl, h4, b4⟩
      have H4 := Lib.hid h4
      have B4 := Lib.hid (B3.out.trans b4)
      clear h4 b4
      go_wp2
      go_end0
      exact ⟨rfl, H4.out, B4.out⟩
end Go.Proofs.YthilicmhdkmipaaGreatDoor
/- A word, and what it is asked of, in parentheses. -/
namespace Go.Proofs.YthilicmhdkmipaaGreatDoor
open Go.RowKit
set_option linter.unusedVariables false

set_option maxRecDepth 100000 in
set_option maxHeartbeats 8000000 in
theorem wordedW_calls (B R op : Nat) (hop : op ≤ 36) (i : Int) (n s : ByteArray) (p : PP) (l : List PE) (pos : Int) (hl : l.length ≤ 1) (hpl : p.name.size = 0 → l.length = 1) (IH : ∀ x ∈ l, ExprAt B R x) (T0 G0 : TkB) (ts : List TkB) (v : VE) (w : World) (hB : B ≤ w.heap.size) (hW : Words B w) (hA : AtW B R T0 G0 ts w) (hx : (PE.mk (op : Int) i n s p l pos).In B w v) (hL : Lim T0 G0 (ts ++ exprWord (op : Int) :: wOpen :: (placeT p (tokEs l) ++ [wEnd]))) :
    Calls Tryz.prog 107 #[.pointer (some ⟨R, 0, none⟩), .agg ((PE.mk (op : Int) i n s p l pos).cells v).toArray] w fun e w' => e = .returned (.tuple #[]) ∧ AtW B R T0 G0 (ts ++ exprWord (op : Int) :: wOpen :: (placeT p (tokEs l) ++ [wEnd])) w' ∧ WBut B R w w' := by
  obtain ⟨p1, n1, c1, ao, cap, b, o, rfl, ⟨_, _, hsn, hss⟩, hp, hn, k1, hr⟩ := hx.parts
  have hRR : R < w.heap.size := hA.lt
  obtain ⟨w1, hw1⟩ : ∃ w1, w1 = w.alloc (.cells ((PE.mk (op : Int) i n s p l pos).cells ⟨.slice p1 n1 c1, .slice ao l.length cap⟩).toArray 37) := ⟨_, rfl⟩
  have bx : Below w.heap.size w w1 := by rw [hw1]; exact new_only _ _
  have hz : w.heap.size < w1.heap.size := by rw [hw1]; simp
  have EB : EBox R w.heap.size (PE.mk (op : Int) i n s p l pos) ⟨.slice p1 n1 c1, .slice ao l.length cap⟩ w1 := by rw [hw1]; exact EBox.new _ _ hRR
  have e1 : ts ++ exprWord (op : Int) :: wOpen :: (placeT p (tokEs l) ++ [wEnd]) = ((ts ++ [kT (wordE op), wOpen]) ++ placeT p (tokEs l)) ++ [wEnd] := by rw [wordE_kT]; simp
  rw [e1] at hL ⊢
  have hws := wordE_size op hop
  have hop1 : (0 : Int) ≤ (op : Int) := by omega
  have hop2 : (op : Int) < 37 := by omega
  have P1 := Lib.hid (put2_calls B R (wordE op) ⟨#[40]⟩ T0 G0 ts _ w1 (new_drew w1 (.cells #[.string (wordE op), .string ⟨#[40]⟩] 9)) (drew_new w1 _) (by omega) (hA.stays bx) hws (by decide) hL.less.less)
  have BX := Lib.hid (WBut.of bx hB (R := R))
  have HW := Lib.hid hW
  have HR := Lib.hid hr
  have HL := Lib.hid hL
  have HE := Lib.hid EB
  have HP := Lib.hid hp
  have HIH := Lib.hid IH
  have HK := Lib.hid k1
  have HN := Lib.hid hn
  have x0 : w1.cell? ⟨w.heap.size, 0, none⟩ = some (.int .u8 (op : Int)) := EB.has 0 _ rfl
  have tw : w1.cell? ⟨1, op, none⟩ = some (.string (wordE op)) := (hW.below (bx.mono hB)).e op hop
  have hg : 1 < w1.heap.size := by have := hW.lt.2; omega
  have hgB := hW.lt.2
  show Calls Tryz.prog 107 #[.pointer (some ⟨R, 0, none⟩), .agg #[.int .u8 (op : Int), .int .i64 i, .string n, .string s, .string p.name, .slice p1 n1 c1, .slice ao l.length cap, .int .i64 pos]] w _
  have hw1' : w1 = w.alloc (.cells #[.int .u8 (op : Int), .int .i64 i, .string n, .string s, .string p.name, .slice p1 n1 c1, .slice ao l.length cap, .int .i64 pos] 37) := hw1
  have SG := EB.safe
  clear hw1 hW hA hx hr hL EB e1 bx hp IH k1 hn
  generalize wordE op = wd at *
  go_enter Tryz.func107, Tryz.ntmps107
  go_upto_region 1 with (fail)
  rw [← hw1']
  clear hw1'
  go_cut [3] from 5 to 14 (fun s3 wx => s3 = .pointer (some ⟨w.heap.size, 0, none⟩) ∧ Hid (AtW B R T0 G0 (ts ++ [kT wd, wOpen]) wx) ∧ Hid (WBut B R w1 wx))
  case first =>
    go_region_held3 (fun w' => w'.cell? ⟨w.heap.size, 0, none⟩ = some (.int .u8 (op : Int)) ∧ ∀ o, w'.cell? ⟨1, o, none⟩ = w1.cell? ⟨1, o, none⟩) (first | exact ⟨x0, fun _ => rfl⟩ | exact ⟨(low_new w1 _ _ _ hz).trans x0, fun o => low_new w1 _ _ _ hg⟩ | exact ⟨XB, XT⟩)
      (first
        | (go_at_call 98; (with_reducible refine (P1.out).mono ?_)
           rintro e w2 ⟨rfl, h1, b1⟩
           have H1 := Lib.hid h1
           have B1 := Lib.hid b1
           have XB := (SG.cell b1 0).trans x0
           have XT := fun o => b1.bel.cell (p := ⟨1, o, none⟩) hgB
           clear h1 b1))
    go_wp2_with fail
    go_meet
    case rel => exact ⟨rfl, H1, B1⟩
  case rest =>
    obtain ⟨rfl, H1, B1⟩ := hcut
    have BW := Lib.hid (BX.out.trans B1.out)
    have HE2 := Lib.hid (HE.out.but B1.out)
    have hBc : B ≤ wc.heap.size := Nat.le_trans hB BW.out.size
    have y4 : wc.cell? ⟨w.heap.size, 4, none⟩ = some (.string p.name) := HE2.out.has 4 _ rfl
    have y5 : wc.cell? ⟨w.heap.size, 5, none⟩ = some (.slice p1 n1 c1) := HE2.out.has 5 _ rfl
    have y6 : wc.cell? ⟨w.heap.size, 6, none⟩ = some (.slice ao l.length cap) := HE2.out.has 6 _ rfl
    have hzc := HE2.out.lt
    clear P1 x0 tw SG hg HE B1
    have hlen : (l.length : Int) = 0 ∨ (l.length : Int) = 1 := by omega
    have Hll := Lib.hid hlen
    -- the list, and the sign behind it, from a world in which the place was written
    have END : ∀ (us : List TkB) (W : World), Hid (WBut B R w W) → Hid (EBox R w.heap.size (PE.mk (op : Int) i n s p l pos) ⟨.slice p1 n1 c1, .slice ao l.length cap⟩ W) → Hid (AtW B R T0 G0 us W) → Hid (Lim T0 G0 ((us ++ joinT (tokEs l)) ++ [wEnd])) →
        Hid (Calls Tryz.prog 101 #[.pointer (some ⟨R, 0, none⟩), .slice ao l.length cap] W fun e w' => e = .returned (.tuple #[]) ∧ AtW B R T0 G0 (us ++ joinT (tokEs l)) w' ∧ WBut B R W w') := by
      intro us W hb he ha hlm
      exact Lib.hid (exprs_calls B R l HIH.out T0 G0 us _ b o W (Nat.le_trans hB hb.out.size) (HW.out.below hb.out.bel) ha.out ⟨HN.out, _, _, rfl, HK.out⟩ (by
        rcases HK.out with h | ⟨_, h⟩
        · have : l = [] := List.length_eq_zero_iff.1 h
          subst this; trivial
        · exact PE.Row.below hb.out.bel h HR.out) hlm.out.less)
    have HEND := Lib.hid END
    clear END
    have P9 : Hid (∀ (us : List TkB) (W : World), B ≤ W.heap.size → AtW B R T0 G0 us W → Lim T0 G0 (us ++ [wEnd]) → Calls Tryz.prog 98 #[.pointer (some ⟨R, 0, none⟩), .slice (some ⟨W.heap.size, 0, none⟩) 1 1] (W.alloc (.cells #[.string ⟨#[41]⟩] 9)) fun e w' => e = .returned (.tuple #[]) ∧ AtW B R T0 G0 (us ++ [wEnd]) w' ∧ WBut B R W w') := Lib.hid fun us W h1 h2 h3 => put1_calls B R ⟨#[41]⟩ T0 G0 us _ W (new_only W (.cells #[.string ⟨#[41]⟩] 9)) (heap_alloc_new W _) h1 h2 (by decide) h3
    by_cases hp0 : p.name.size = 0
    · have hl1 := hpl hp0
      have hk0 : kT p.name = [] := List.length_eq_zero_iff.1 hp0
      have hpt : placeT p (tokEs l) = joinT (tokEs l) := by unfold placeT; rw [if_pos hk0]
      have hne : p.name = ⟨#[]⟩ := by
        have : p.name.data.toList = [] := hk0
        have h2 : p.name.data = #[] := by simpa using this
        rw [← h2]
      have C1 := Lib.hid (HEND.out (ts ++ [kT wd, wOpen]) wc BW HE2 H1 (Lib.hid (by rw [← hpt]; exact HL.out))).out
      rw [hne] at y4
      have HPT := Lib.hid hpt
      clear hp0 hk0 hl hpl hlen hpt hl1
      go_wp2_with fail
      (with_reducible refine (C1.out).mono ?_)
      rintro e w3 ⟨rfl, h3, b3⟩
      have B3 := Lib.hid (BW.out.trans b3)
      have P3 := Lib.hid (P9.out _ w3 (Nat.le_trans hB B3.out.size) h3 (by rw [← HPT.out]; exact HL.out))
      clear h3 b3 C1
      go_wp2_with fail
      (with_reducible refine (P3.out).mono ?_)
      rintro e w9 ⟨rfl, h9, b9⟩
      have H9 := Lib.hid h9
      have B9 := Lib.hid (B3.out.trans b9)
      clear h9 b9
      go_wp2
      go_end0
      exact ⟨rfl, by rw [HPT.out]; exact H9.out, B9.out⟩
    · have hk0 : kT p.name ≠ [] := fun h => hp0 (by show (kT p.name).length = 0; rw [h]; rfl)
      have hne : (!p.name.toList.isEmpty) = true := by
        rw [ByteArray.toList_eq]
        have : p.name.data.toList.isEmpty = false := by
          cases h : p.name.data.toList with
          | nil => exact absurd h hk0
          | cons _ _ => rfl
        rw [this]; rfl
      have P2 := Lib.hid (place_calls B R p T0 G0 (ts ++ [kT wd, wOpen]) _ wc hBc H1.out (HP.out.below BW.out.bel))
      cases l with
      | nil =>
        have hpt : placeT p (tokEs []) = tokP p ++ joinT (tokEs []) := by unfold placeT; rw [if_neg hk0]; rfl
        have HPT := Lib.hid hpt
        have HL' := Lib.hid HL.out
        rw [hpt, ← List.append_assoc] at HL'
        have C2 := Lib.hid (P2.out HL'.out.less.less)
        have y6' : wc.cell? ⟨w.heap.size, 6, none⟩ = some (.slice ao 0 cap) := y6
        have HB := Lib.hid fun (W : World) (k : WBut B R wc W) => (HE2.out.but k).has 6 _ rfl
        clear hp0 hk0 hl hpl hlen hpt y6 P2 HL Hll
        go_wp2_with fail
        (with_reducible refine (C2.out).mono ?_)
        rintro e w2 ⟨rfl, h2, b2⟩
        have B2 := Lib.hid (BW.out.trans b2)
        have z6 : w2.cell? ⟨w.heap.size, 6, none⟩ = some (.slice ao 0 cap) := HB.out w2 b2
        have hz2 := (HE2.out.but b2).lt
        have C1 := Lib.hid (HEND.out ((ts ++ [kT wd, wOpen]) ++ tokP p) w2 B2 (Lib.hid (HE2.out.but b2)) (Lib.hid h2) HL').out
        have C1' : Hid (Calls Tryz.prog 101 #[.pointer (some ⟨R, 0, none⟩), .slice ao 0 cap] w2 fun e w' => e = .returned (.tuple #[]) ∧ AtW B R T0 G0 (((ts ++ [kT wd, wOpen]) ++ tokP p) ++ joinT (tokEs [])) w' ∧ WBut B R w2 w') := Lib.hid C1.out
        clear h2 b2 C2 C1 y4 y5 y6'
        go_wp2_with fail
        (with_reducible refine (C1'.out).mono ?_)
        rintro e w3 ⟨rfl, h3, b3⟩
        have B3 := Lib.hid (B2.out.trans b3)
        have P3 := Lib.hid (P9.out _ w3 (Nat.le_trans hB B3.out.size) h3 HL'.out)
        clear h3 b3 C1' z6
        go_wp2_with fail
        (with_reducible refine (P3.out).mono ?_)
        rintro e w9 ⟨rfl, h9, b9⟩
        have H9 := Lib.hid h9
        have B9 := Lib.hid (B3.out.trans b9)
        clear h9 b9
        go_wp2
        go_end0
        exact ⟨rfl, by rw [HPT.out, ← List.append_assoc]; exact H9.out, B9.out⟩
      | cons a r =>
        obtain rfl : r = [] := by cases r with
          | nil => rfl
          | cons _ _ => simp at hl
        have hpt : placeT p (tokEs [a]) = (tokP p ++ [wComma]) ++ joinT (tokEs [a]) := by unfold placeT; rw [if_neg hk0]; simp [tokEs]
        have HPT := Lib.hid hpt
        have HL' := Lib.hid HL.out
        rw [hpt, ← List.append_assoc, ← List.append_assoc] at HL'
        have C2 := Lib.hid (P2.out HL'.out.less.less.less)
        have y6' : wc.cell? ⟨w.heap.size, 6, none⟩ = some (.slice ao 1 cap) := y6
        have HB := Lib.hid fun (W : World) (k : WBut B R wc W) => (HE2.out.but k).has 6 _ rfl
        clear hp0 hk0 hl hpl hlen hpt y6 P2 HL Hll
        go_wp2_with fail
        (with_reducible refine (C2.out).mono ?_)
        rintro e w2 ⟨rfl, h2, b2⟩
        have B2 := Lib.hid (BW.out.trans b2)
        have z6 : w2.cell? ⟨w.heap.size, 6, none⟩ = some (.slice ao 1 cap) := HB.out w2 b2
        have HE3 := Lib.hid (HE2.out.but b2)
        have hz2 := HE3.out.lt
        have PC := Lib.hid (put1_calls B R ⟨#[44]⟩ T0 G0 ((ts ++ [kT wd, wOpen]) ++ tokP p) _ w2 (new_only w2 (.cells #[.string ⟨#[44]⟩] 9)) (heap_alloc_new w2 _) (Nat.le_trans hB B2.out.size) h2 (by decide) HL'.out.less.less)
        clear h2 b2 C2 y4 y5 y6'
        go_wp2_with fail
        (with_reducible refine (PC.out).mono ?_)
        rintro e w4 ⟨rfl, h4, b4⟩
        have B4 := Lib.hid (B2.out.trans b4)
        have z6' : w4.cell? ⟨w.heap.size, 6, none⟩ = some (.slice ao 1 cap) := (HE3.out.but b4).has 6 _ rfl
        have hz4 := (HE3.out.but b4).lt
        have C1 := Lib.hid (HEND.out (((ts ++ [kT wd, wOpen]) ++ tokP p) ++ [wComma]) w4 B4 (Lib.hid (HE3.out.but b4)) (Lib.hid h4) HL').out
        have C1' : Hid (Calls Tryz.prog 101 #[.pointer (some ⟨R, 0, none⟩), .slice ao 1 cap] w4 fun e w' => e = .returned (.tuple #[]) ∧ AtW B R T0 G0 ((((ts ++ [kT wd, wOpen]) ++ tokP p) ++ [wComma]) ++ joinT (tokEs [a])) w' ∧ WBut B R w4 w') := Lib.hid C1.out
        clear h4 b4 PC C1 z6
        go_wp2_with fail
        (with_reducible refine (C1'.out).mono ?_)
        rintro e w3 ⟨rfl, h3, b3⟩
        have B3 := Lib.hid (B4.out.trans b3)
        have P3 := Lib.hid (P9.out _ w3 (Nat.le_trans hB B3.out.size) h3 HL'.out)
        clear h3 b3 C1' z6'
        go_wp2_with fail
        (with_reducible refine (P3.out).mono ?_)
        rintro e w9 ⟨rfl, h9, b9⟩
        have H9 := Lib.hid h9
        have B9 := Lib.hid (B3.out.trans b9)
        clear h9 b9
        go_wp2
        go_end0
        exact ⟨rfl, by rw [HPT.out, ← List.append_assoc, ← List.append_assoc]; exact H9.out, B9.out⟩
end Go.Proofs.YthilicmhdkmipaaGreatDoor
