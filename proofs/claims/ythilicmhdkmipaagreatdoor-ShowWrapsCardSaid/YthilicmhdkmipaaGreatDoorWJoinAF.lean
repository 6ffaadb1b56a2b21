/- Contracts of package tree: slices.EqualFunc at its sort E (made by gen_same.py). -/
import Derived.Test.YthilicmhdkmipaaGreatDoorWJoinAZ
import Derived.Deep.Cut
import Derived.Test.YthilicmhdkmipaaGreatDoorWJoinAH
namespace Go.Proofs.YthilicmhdkmipaaGreatDoor
open Go.RowKit
set_option linter.unusedVariables false

/-- the contract of sameExpr at a first one -/
def SameEAt (B : Nat) (a : PE) : Prop := ∀ (b : PE) (va vb) (w : World), B ≤ w.heap.size → a.In B w va → b.In B w vb →
  Calls Tryz.prog 114 #[.agg (a.cells va).toArray, .agg (b.cells vb).toArray] w fun e w' => e = .returned (.bool (sameE false a b)) ∧ Below w.heap.size w w'
theorem sameExpr_enters : ∀ args w, (callFunc 114 args).run Tryz.prog w = .ok (.enter 114 args) w := enters_of Tryz.func114 (by kernel_rfl) rfl

set_option maxHeartbeats 2000000 in
theorem equalE_calls (B : Nat) (xs ys : List PE) (H : Hid (∀ a, a ∈ xs → SameEAt B a)) (b1 o1 b2 o2 : Nat) (v1 v2 : Value) (w : World) (hB : B ≤ w.heap.size)
    (s1 : SlV B v1 xs.length b1 o1) (r1 : PE.Row B w b1 o1 xs) (s2 : SlV B v2 ys.length b2 o2) (r2 : PE.Row B w b2 o2 ys) :
    Calls Tryz.prog 167 #[v1, v2, .func (.func 114) #[] #[]] w fun e w' => e = .returned (.bool (sameEs false xs ys)) ∧ Below w.heap.size w w' := by
  rw [sameEs_all false]
  obtain ⟨m1, ao1, cap1, rfl, h1⟩ := s1
  obtain ⟨m2, ao2, cap2, rfl, h2⟩ := s2
  unfold maxLen at m1 m2
  by_cases hn : xs.length = ys.length
  · have hyes := fun h => allW_yes (f := sameE false) hn h
    obtain ⟨n, hx⟩ : ∃ n, n = xs.length := ⟨_, rfl⟩
    have hy : n = ys.length := hx.trans hn
    rw [← hx] at m1 h1 ⊢
    rw [← hy] at m2 h2 ⊢
    have Hyes := Lib.hid hyes
    have Hx := Lib.hid hx
    have Hy := Lib.hid hy
    have Hr := Lib.hid r1
    have Hs := Lib.hid r2
    have H1 := Lib.hid h1
    have H2 := Lib.hid h2
    clear hyes hn hx hy r1 r2 h1 h2
    have hE := sameExpr_enters
    go_enter Tryz.func167, Tryz.ntmps167
    go_wp2_with fail
    go_loopw [17] (fun i wr => ∃ k : Nat, k ≤ n ∧ i = .int .i64 k ∧ Below w.heap.size w wr ∧ Hid (∀ (j : Nat) x y, j < k → xs[j]? = some x → ys[j]? = some y → sameE false x y = true))
      (fun i _ => n - (intOf i).toNat)
    case atStart => exact ⟨0, by omega, rfl, Below.refl _ _, Lib.hid fun j x y hj => by omega⟩
    case round =>
      obtain ⟨k, hk, rfl, hbel, HK⟩ := hrel
      have hsz := hbel.size
      have hbB := hbel.mono hB
      by_cases hlt : k < n
      · obtain ⟨a, ha, hin⟩ := get_at (l := xs) (k := k) (by rw [← Hx.out]; exact hlt)
        obtain ⟨b, hb, _⟩ := get_at (l := ys) (k := k) (by rw [← Hy.out]; exact hlt)
        obtain ⟨rfl, hb1⟩ := H1.out.resolve_left (by omega)
        obtain ⟨rfl, hb2⟩ := H2.out.resolve_left (by omega)
        obtain ⟨va, ca, ia⟩ := PE.Row.get (PE.Row.below hbB hb1 Hr.out) ha
        obtain ⟨vb, cb, ib⟩ := PE.Row.get (PE.Row.below hbB hb2 Hs.out) hb
        have g1 : b1 < wr.heap.size := by omega
        have g2 : b2 < wr.heap.size := by omega
        obtain ⟨pa0, na0, qa0, pa1, na1, qa1, rfl⟩ := ia.shape
        obtain ⟨pb0, nb0, qb0, pb1, nb1, qb1, rfl⟩ := ib.shape
        obtain ⟨opa, iva, nma, sca, pla, esa, ata⟩ := a
        obtain ⟨opb, ivb, nmb, scb, plb, esb, atb⟩ := b
        have c0 : wr.cell? ⟨b1, o1 + k * 8, none⟩ = some (.int .u8 opa) := ca 0 _ rfl
        have c1 : wr.cell? ⟨b1, o1 + k * 8 + 1, none⟩ = some (.int .i64 iva) := ca 1 _ rfl
        have c2 : wr.cell? ⟨b1, o1 + k * 8 + 2, none⟩ = some (.string nma) := ca 2 _ rfl
        have c3 : wr.cell? ⟨b1, o1 + k * 8 + 3, none⟩ = some (.string sca) := ca 3 _ rfl
        have c4 : wr.cell? ⟨b1, o1 + k * 8 + 4, none⟩ = some (.string pla.name) := ca 4 _ rfl
        have c5 : wr.cell? ⟨b1, o1 + k * 8 + 5, none⟩ = some (.slice pa0 na0 qa0) := ca 5 _ rfl
        have c6 : wr.cell? ⟨b1, o1 + k * 8 + 6, none⟩ = some (.slice pa1 na1 qa1) := ca 6 _ rfl
        have c7 : wr.cell? ⟨b1, o1 + k * 8 + 7, none⟩ = some (.int .i64 ata) := ca 7 _ rfl
        have d0 : wr.cell? ⟨b2, o2 + k * 8, none⟩ = some (.int .u8 opb) := cb 0 _ rfl
        have d1 : wr.cell? ⟨b2, o2 + k * 8 + 1, none⟩ = some (.int .i64 ivb) := cb 1 _ rfl
        have d2 : wr.cell? ⟨b2, o2 + k * 8 + 2, none⟩ = some (.string nmb) := cb 2 _ rfl
        have d3 : wr.cell? ⟨b2, o2 + k * 8 + 3, none⟩ = some (.string scb) := cb 3 _ rfl
        have d4 : wr.cell? ⟨b2, o2 + k * 8 + 4, none⟩ = some (.string plb.name) := cb 4 _ rfl
        have d5 : wr.cell? ⟨b2, o2 + k * 8 + 5, none⟩ = some (.slice pb0 nb0 qb0) := cb 5 _ rfl
        have d6 : wr.cell? ⟨b2, o2 + k * 8 + 6, none⟩ = some (.slice pb1 nb1 qb1) := cb 6 _ rfl
        have d7 : wr.cell? ⟨b2, o2 + k * 8 + 7, none⟩ = some (.int .i64 atb) := cb 7 _ rfl
        have C : Hid (∀ w', B ≤ w'.heap.size → PE.In B w' (.mk opa iva nma sca pla esa ata) ⟨.slice pa0 na0 qa0, .slice pa1 na1 qa1⟩ → PE.In B w' (.mk opb ivb nmb scb plb esb atb) ⟨.slice pb0 nb0 qb0, .slice pb1 nb1 qb1⟩ → Calls Tryz.prog 114 #[.agg #[.int .u8 opa, .int .i64 iva, .string nma, .string sca, .string pla.name, .slice pa0 na0 qa0, .slice pa1 na1 qa1, .int .i64 ata], .agg #[.int .u8 opb, .int .i64 ivb, .string nmb, .string scb, .string plb.name, .slice pb0 nb0 qb0, .slice pb1 nb1 qb1, .int .i64 atb]] w' fun e w'' => e = .returned (.bool (sameE false (.mk opa iva nma sca pla esa ata) (.mk opb ivb nmb scb plb esb atb))) ∧ Below w'.heap.size w' w'') := Lib.hid (H.out _ hin _ _ _)
        have Ia := Lib.hid ia
        have Ib := Lib.hid ib
        have Ha := Lib.hid ha
        have Hb := Lib.hid hb
        clear ha hb ia ib ca cb hin
        go_wp2_with fail
        refine (C.out _ (by simp; omega) (Ia.out.below (box2B _ (by omega) _ _)) (Ib.out.below (box2B _ (by omega) _ _))).mono ?_
        rintro e w2 ⟨rfl, b2⟩
        have b3 := ((hbel.alloc (by omega) _).alloc (by simp; omega) _).trans (b2.mono (by simp; omega))
        clear b2 c0 d0 c1 d1 c2 d2 c3 d3 c4 d4 c5 d5 c6 d6 c7 d7
        cases hs : sameE false (.mk opa iva nma sca pla esa ata) (.mk opb ivb nmb scb plb esb atb)
        · have hres := Lib.hid (allW_no Ha.out Hb.out hs)
          clear hs
          go_wp2
          go_ret
          exact ⟨ret_bool hres.out.symm, b3⟩
        · have HK2 := Lib.hid (allW_step HK.out Ha.out Hb.out hs)
          clear hs
          go_wp2
          go_roundw
          case rel => exact ⟨k + 1, by omega, by go_num, b3, HK2⟩
          case measure => simp [intOf]; omega
      · obtain rfl : k = n := by omega
        have hres := Lib.hid (Hyes.out fun j x y hx hy => HK.out j x y (by rw [Hx.out]; exact (List.getElem?_eq_some_iff.1 hx).1) hx hy)
        go_wp2
        go_ret
        exact ⟨ret_bool hres.out.symm, hbel⟩
  · have e1 : ((xs.length : Int) != (ys.length : Int)) = true := by rw [bne_iff_ne]; omega
    rw [allW_len hn]
    clear hn
    go_enter Tryz.func167, Tryz.ntmps167
    go_wp2
    go_ret
    exact ⟨rfl, Below.refl _ _⟩
end Go.Proofs.YthilicmhdkmipaaGreatDoor
/- Contracts of package tree: sameness, SameE (made by gen_same.py). -/
namespace Go.Proofs.YthilicmhdkmipaaGreatDoor
open Go.RowKit
set_option linter.unusedVariables false

set_option maxRecDepth 100000 in
set_option maxHeartbeats 4000000 in
theorem sameE_step (B : Nat) (opa iva : Int) (nma sca : ByteArray) (pla : PP) (esa : List PE) (ata : Int) (H : ∀ a, a ∈ esa → SameEAt B a) : SameEAt B (.mk opa iva nma sca pla esa ata) := by
  intro b va vb w hB ha hb
  obtain ⟨opb, ivb, nmb, scb, plb, esb, atb⟩ := b
  obtain ⟨pa0, na0, qa0, pa1, na1, qa1, rfl⟩ := ha.shape
  obtain ⟨pb0, nb0, qb0, pb1, nb1, qb1, rfl⟩ := hb.shape
  obtain ⟨_, hpa, ba, oa, sa, ra⟩ := ha
  obtain ⟨_, hpb, bb, ob, sb, rb⟩ := hb
  show Calls Tryz.prog 114 #[.agg #[.int .u8 opa, .int .i64 iva, .string nma, .string sca, .string pla.name, .slice pa0 na0 qa0, .slice pa1 na1 qa1, .int .i64 ata], .agg #[.int .u8 opb, .int .i64 ivb, .string nmb, .string scb, .string plb.name, .slice pb0 nb0 qb0, .slice pb1 nb1 qb1, .int .i64 atb]] w _
  go_enter Tryz.func114, Tryz.ntmps114
  go_wp2_with fail
  · refine (samePl_calls B pla plb _ _ _ (by simp; omega) (hpa.below (box2B w hB _ _)) (hpb.below (box2B w hB _ _))).mono ?_
    rintro e w1 ⟨rfl, b1⟩
    have bel1 := b1
    have bB1 := (box2B w hB _ _).trans (bel1.mono (by simp; omega))
    have hz1 : w.heap.size + 1 < w1.heap.size := by have := b1.size; simp at this; omega
    have hc1 := old_cells bel1
    go_wp2_with fail
    · refine (equalE_calls B esa esb (Lib.hid H) ba oa bb ob _ _ _ (by omega) sa (PE.Row.below' bB1 sa ra) sb (PE.Row.below' bB1 sb rb)).mono ?_
      rintro e w2 ⟨rfl, b2⟩
      have bel2 := up_tr bel1 b2
      go_wp2
      go_ret
      exact ⟨ret_bool (by simp [sameE_mk, sameW_toList, *]), up_tr (box2 _ _ _) bel2⟩
    all_goals (go_ret; exact ⟨ret_bool (by simp [sameE_mk, sameW_toList, *]), up_tr (box2 _ _ _) bel1⟩)
  all_goals (go_ret; exact ⟨ret_bool (by simp [sameE_mk, sameW_toList, *]), box2 _ _ _⟩)

theorem sameE_calls (B : Nat) (a : PE) : SameEAt B a :=
  PE.rec (motive_1 := SameEAt B) (motive_2 := fun l => ∀ x, x ∈ l → SameEAt B x) (fun op i n s p xs pos H => sameE_step B op i n s p xs pos H)
    (fun x h => by cases h) (fun a l ha hl x h => by cases h with | head => exact ha | tail _ h => exact hl x h) a
end Go.Proofs.YthilicmhdkmipaaGreatDoor
/- The laws' own reckoning of how much room a tree takes: names, types, places, expressions. -/
namespace Go.Proofs.YthilicmhdkmipaaGreatDoor
open Go.RowKit
set_option linter.unusedVariables false

set_option maxHeartbeats 400000 in
theorem room_name1 (R : Nat) (m : Int) (s : ByteArray) (h1 : -100 ≤ m) (h : m < 5) (w : World) (hc : w.cell? ⟨R, 0, none⟩ = some (.int .i64 m)) (hf : w.frozen? ⟨R, 0, none⟩ = false) :
    Calls Tryz.prog 35 #[.pointer (some ⟨R, 0, none⟩), .string s] w fun e w' => e = .returned (.tuple #[]) ∧ w' = w.setCell ⟨R, 0, none⟩ (.int .i64 (-1)) := by
  go_enter Tryz.func35, Tryz.ntmps35
  go_wp2
  exact bodyPost_ret (v := .tuple #[]) (by simp [results, Tryz.results35, go_sem]) rfl ⟨rfl, rfl⟩
set_option maxHeartbeats 400000 in
theorem room_name2 (R : Nat) (m : Int) (s : ByteArray) (h1 : 5 ≤ m) (h2 : m ≤ 20000) (h : m - 5 < (s.size : Int)) (w : World) (hc : w.cell? ⟨R, 0, none⟩ = some (.int .i64 m)) (hf : w.frozen? ⟨R, 0, none⟩ = false) :
    Calls Tryz.prog 35 #[.pointer (some ⟨R, 0, none⟩), .string s] w fun e w' => e = .returned (.tuple #[]) ∧ w' = w.setCell ⟨R, 0, none⟩ (.int .i64 (-1)) := by
  go_enter Tryz.func35, Tryz.ntmps35
  go_wp2
  exact bodyPost_ret (v := .tuple #[]) (by simp [results, Tryz.results35, go_sem]) rfl ⟨rfl, rfl⟩
set_option maxHeartbeats 400000 in
theorem room_name3 (R : Nat) (m : Int) (s : ByteArray) (h1 : 5 ≤ m) (h2 : m ≤ 20000) (h : (s.size : Int) ≤ m - 5) (w : World) (hc : w.cell? ⟨R, 0, none⟩ = some (.int .i64 m)) (hf : w.frozen? ⟨R, 0, none⟩ = false) :
    Calls Tryz.prog 35 #[.pointer (some ⟨R, 0, none⟩), .string s] w fun e w' => e = .returned (.tuple #[]) ∧ w' = w.setCell ⟨R, 0, none⟩ (.int .i64 (m - 5 - s.size)) := by
  have h' : 5 ≤ m ∧ (s.size : Int) ≤ m - 5 := ⟨h1, h⟩
  go_enter Tryz.func35, Tryz.ntmps35
  go_wp2
  go_end0
  exact ⟨rfl, rfl⟩
theorem room_name (B R : Nat) (m : Int) (s : ByteArray) (hm : RB m) (w : World) (hr : RoomAt B R w m) :
    Calls Tryz.prog 35 #[.pointer (some ⟨R, 0, none⟩), .string s] w fun e w' => e = .returned (.tuple #[]) ∧ RoomAt B R w' (nameR m s.size) ∧ But R w w' := by
  obtain ⟨h1, h2⟩ := hm
  by_cases h : m < 5
  · refine (room_name1 R m s (by omega) h w hr.2.2.1 hr.2.2.2).mono ?_
    rintro e w' ⟨rfl, rfl⟩
    exact ⟨rfl, by rw [nameR_no (.inl h)]; exact hr.set _, But.set _ _⟩
  · by_cases h3 : m - 5 < (s.size : Int)
    · refine (room_name2 R m s (by omega) h2 h3 w hr.2.2.1 hr.2.2.2).mono ?_
      rintro e w' ⟨rfl, rfl⟩
      exact ⟨rfl, by rw [nameR_no (.inr h3)]; exact hr.set _, But.set _ _⟩
    · refine (room_name3 R m s (by omega) h2 (by omega) w hr.2.2.1 hr.2.2.2).mono ?_
      rintro e w' ⟨rfl, rfl⟩
      exact ⟨rfl, by rw [nameR_yes (by omega) (by omega)]; exact hr.set _, But.set _ _⟩

set_option maxHeartbeats 1000000 in
theorem room_names (B R : Nat) (l : List ByteArray) (v : Value) (m : Int) (h1 : -1 ≤ m) (h2 : m ≤ 20000) (w : World) (hB : B ≤ w.heap.size) (hr : RoomAt B R w m) (hl : NIn B w l v) :
    Calls Tryz.prog 84 #[.pointer (some ⟨R, 0, none⟩), v] w fun e w' => e = .returned (.tuple #[]) ∧ RoomAt B R w' (namesR l m) ∧ But R w w' := by
  obtain ⟨b, o, ⟨hn, ao, cap, rfl, k1⟩, rw1⟩ := hl
  unfold maxLen at hn
  have hr0 := hr
  obtain ⟨hBR, hRz, hc, hf⟩ := hr
  have hset := hr0.set (m - 5)
  have hbut := But.set (R := R) w (.int .i64 (m - 5))
  obtain ⟨n, hx⟩ : ∃ n, n = l.length := ⟨_, rfl⟩
  have hN : namesR l m = listR (fun s m => nameR m s.size) (l.drop 0) (m - 5) := rfl
  rw [← hx] at hn k1 ⊢
  have Hx := Lib.hid hx
  have Hr := Lib.hid rw1
  have H1 := Lib.hid k1
  have HN := Lib.hid hN
  have Hset := Lib.hid hset
  have Hbut := Lib.hid hbut
  generalize namesR l m = res at *
  clear hN hx rw1 k1 hset hbut hr0
  go_enter Tryz.func84, Tryz.ntmps84
  go_wp2_with fail
  go_loopw [4] (fun i wr => ∃ (k : Nat) (q : Int), k ≤ n ∧ i = .int .i64 k ∧ RB q ∧ Hid (RoomAt B R wr q) ∧ Hid (But R w wr) ∧ Hid (res = listR (fun s m => nameR m s.size) (l.drop k) q))
    (fun i _ => n - (intOf i).toNat)
  case atStart => exact ⟨0, m - 5, by omega, rfl, ⟨by omega, by omega⟩, Hset, Hbut, HN⟩
  case round =>
    clear HN Hset Hbut hc hf
    obtain ⟨k, q, hk, rfl, hq, Hq, Hw, HR⟩ := hrel
    obtain ⟨_, hRw, hc, hf⟩ := Hq.out
    by_cases hlt : k < n
    · by_cases hneg : q < 0
      · have hneg' : ¬ 0 ≤ q := by omega
        have e1 : k < n ∧ q < 0 := ⟨hlt, hneg⟩
        have hres := Lib.hid (HR.out.trans (listR_neg hneg))
        go_wp2
        go_end0
        exact ⟨rfl, by rw [hres.out]; exact Hq.out, Hw.out⟩
      · have hpos : 0 ≤ q := by omega
        obtain ⟨a, ha, hin⟩ := get_at (l := l) (k := k) (by rw [← Hx.out]; exact hlt)
        obtain ⟨rfl, hb⟩ := H1.out.resolve_left (by omega)
        have hg : b < wr.heap.size := by have := Hw.out.size; omega
        obtain ⟨za, ca⟩ := NRow.get (NRow.below hb (Hw.out.below hBR hB) Hr.out) ha
        have c0 : wr.cell? ⟨b, o + k, none⟩ = some (.string a) := by have := ca 0 _ rfl; simpa using this
        have C := Lib.hid (room_name B R q a hq wr Hq.out)
        have HR2 := Lib.hid (HR.out.trans (by rw [drop_at ha, listR_cons hpos]))
        have hq2 := nameR_rb hq a.size
        generalize nameR q a.size = q2 at *
        clear ha ca hin HR
        go_wp2_with fail
        refine C.out.mono ?_
        rintro e w2 ⟨rfl, r2, b2⟩
        have R2 := Lib.hid r2
        have B2 := Lib.hid (Hw.out.trans b2)
        clear r2 b2 c0 hc hf
        go_wp2
        go_roundw
        case rel => exact ⟨k + 1, q2, by omega, by go_num, hq2, R2, B2, HR2⟩
        case measure => simp [intOf]; omega
    · obtain rfl : k = n := by omega
      have hres := Lib.hid (HR.out.trans (by rw [List.drop_of_length_le (by rw [← Hx.out]; exact Nat.le_refl _)]))
      go_wp2
      go_end0
      exact ⟨rfl, by rw [hres.out]; exact Hq.out, Hw.out⟩
end Go.Proofs.YthilicmhdkmipaaGreatDoor
/- The laws' own reckoning of room: RoomP (made by gen_room.py). -/
namespace Go.Proofs.YthilicmhdkmipaaGreatDoor
open Go.RowKit
set_option linter.unusedVariables false

set_option maxHeartbeats 1000000 in
theorem roomP_calls (B R : Nat) (x : PP) (v : Value) (m : Int) (w : World) (hm : RB m) (hB : B ≤ w.heap.size) (hr : RoomAt B R w m) (hx : x.In B w v) :
    Calls Tryz.prog 85 #[.pointer (some ⟨R, 0, none⟩), .agg #[.string x.name, v]] w fun e w' => e = .returned (.tuple #[]) ∧ RoomAt B R w' (placeR x m) ∧ But R w w' := by
  obtain ⟨p, n, q, rfl⟩ := hx.2.shape
  have hBR := hr.1
  have hm1 := nameR_b hm x.name.size
  have C0 := Lib.hid (fun w h => room_name B R m x.name hm w h)
  have C1 := Lib.hid (fun w hB h hl => room_names B R x.path (.slice p n q) (nameR m x.name.size) hm1.1 hm1.2 w hB h hl)
  go_enter Tryz.func85, Tryz.ntmps85
  go_wp2_with fail
  refine (C0.out _ (hr.below ((Below.refl _ w).alloc (Nat.le_refl _) _))).mono ?_
  rintro e w1 ⟨rfl, r1, b1⟩
  have hz1 : w.heap.size < w1.heap.size := by have := b1.size; simp at this; omega
  have hRz := hr.2.1
  have hbox : w1.cell? ⟨w.heap.size, 1, none⟩ = some (.slice p n q) := (b1.cell w.heap.size 1 (by simp) (by omega)).trans (by go_simp)
  have b1' := (But.alloc w _).trans b1
  go_wp2_with fail
  refine (C1.out _ (by omega) r1 (hx.2.below (b1'.below hBR hB))).mono ?_
  rintro e w2 ⟨rfl, r2, b2⟩
  have B2 := Lib.hid (b1'.trans b2)
  have R2 := Lib.hid r2
  clear b2 r2 b1 b1' r1
  go_wp2
  go_end0
  exact ⟨rfl, R2.out, B2.out⟩
end Go.Proofs.YthilicmhdkmipaaGreatDoor
/- The laws' own reckoning of room: RoomT (made by gen_room.py). -/
namespace Go.Proofs.YthilicmhdkmipaaGreatDoor
open Go.RowKit
set_option linter.unusedVariables false

def RoomTAt (B R : Nat) (a : PT) : Prop := ∀ (v : Value) (m : Int) (w : World), RB m → B ≤ w.heap.size → RoomAt B R w m → a.In B w v →
  Calls Tryz.prog 37 #[.pointer (some ⟨R, 0, none⟩), .agg #[.int .u8 a.kind, .string a.name, v]] w fun e w' => e = .returned (.tuple #[]) ∧ RoomAt B R w' (typeR a m) ∧ But R w w'
set_option maxHeartbeats 1000000 in
theorem roomT_step (B R : Nat) (kd : Int) (nm : ByteArray) (l : List PT) (H0 : ∀ a, a ∈ l → RoomTAt B R a) : RoomTAt B R (.mk kd nm l) := by
  intro v m w hm hB hr ha
  obtain ⟨⟨u1, z1⟩, b, o, ⟨hn, ao, cap, rfl, k1⟩, rw1⟩ := ha
  have hBR := hr.1
  have hRz := hr.2.1
  unfold maxLen at hn
  obtain ⟨n, hx⟩ : ∃ n, n = l.length := ⟨_, rfl⟩
  rw [← hx] at hn k1 ⊢
  have Hx := Lib.hid hx
  have Hr := Lib.hid rw1
  have H1 := Lib.hid k1
  have H := Lib.hid H0
  have hN : typeR (.mk kd nm l) m = listR typeR l (nameR m nm.size) := by rw [typeR, typesR_list]
  have hm1 := nameR_rb hm nm.size
  have C0 := Lib.hid (fun w h => room_name B R m nm hm w h)
  show Calls Tryz.prog 37 #[.pointer (some ⟨R, 0, none⟩), .agg #[.int .u8 kd, .string nm, .slice ao n cap]] w _
  have HN := Lib.hid hN
  generalize typeR (.mk kd nm l) m = res at *
  generalize nameR m nm.size = m1 at *
  clear hN hx rw1 k1 H0
  go_enter Tryz.func37, Tryz.ntmps37
  go_wp2_with fail
  refine (C0.out _ (hr.below ((Below.refl _ w).alloc (Nat.le_refl _) _))).mono ?_
  rintro e w1 ⟨rfl, r1, b1⟩
  have hz1 : w.heap.size < w1.heap.size := by have := b1.size; simp at this; omega
  have hbox : w1.cell? ⟨w.heap.size, 2, none⟩ = some (.slice ao n cap) := (b1.cell w.heap.size 2 (by simp) (by omega)).trans (by go_simp)
  have b1' := (But.alloc w _).trans b1
  have B1 := Lib.hid b1'
  have R1 := Lib.hid r1
  clear b1 b1' r1 C0
  go_wp2_with fail
  go_loopw [4] (fun i wr => ∃ (k : Nat) (q : Int), k ≤ n ∧ i = .int .i64 k ∧ RB q ∧ Hid (RoomAt B R wr q) ∧ Hid (But R w1 wr) ∧ Hid (res = listR typeR (l.drop k) q))
    (fun i _ => n - (intOf i).toNat)
  case atStart => exact ⟨0, m1, by omega, rfl, hm1, R1, Lib.hid (But.refl _ _), HN⟩
  case round =>
    obtain ⟨k, q, hk, rfl, hq, Hq, Hw, HR⟩ := hrel
    obtain ⟨_, hRw, hc, hf⟩ := Hq.out
    have hsw := Hw.out.size
    have hbx : wr.cell? ⟨w.heap.size, 2, none⟩ = some (.slice ao n cap) := (Hw.out.cell w.heap.size 2 hz1 (by omega)).trans hbox
    clear hbox
    by_cases hlt : k < n
    · by_cases hneg : q < 0
      · have hneg' : ¬ 0 ≤ q := by omega
        have e1 : k < n ∧ q < 0 := ⟨hlt, hneg⟩
        have hres := Lib.hid (HR.out.trans (listR_neg hneg))
        go_wp2
        go_end0
        exact ⟨rfl, by rw [hres.out]; exact Hq.out, B1.out.trans Hw.out⟩
      · have hpos : 0 ≤ q := by omega
        obtain ⟨a, ha, hin⟩ := get_at (l := l) (k := k) (by rw [← Hx.out]; exact hlt)
        obtain ⟨rfl, hb⟩ := H1.out.resolve_left (by omega)
        have hg : b < wr.heap.size := by omega
        have hbel := (B1.out.trans Hw.out).below hBR hB
        obtain ⟨va, ca, ia⟩ := PT.Row.get (PT.Row.below hbel hb Hr.out) ha
        obtain ⟨p1, q1, t1, rfl⟩ := ia.shape
        have c0 : wr.cell? ⟨b, o + k * 3, none⟩ = some (.int .u8 a.kind) := ca 0 _ rfl
        have c1 : wr.cell? ⟨b, o + k * 3 + 1, none⟩ = some (.string a.name) := ca 1 _ rfl
        have c2 : wr.cell? ⟨b, o + k * 3 + 2, none⟩ = some (.slice p1 q1 t1) := ca 2 _ rfl
        have C := Lib.hid (H.out a hin (.slice p1 q1 t1) q wr hq (by omega) Hq.out ia)
        have HR2 := Lib.hid (HR.out.trans (by rw [drop_at ha, listR_cons hpos]))
        have hq2 := typeR_rb a q hq
        generalize typeR a q = q2 at *
        clear ha ca ia hin HR hbel
        go_wp2_with fail
        refine C.out.mono ?_
        rintro e w2 ⟨rfl, r2, b2⟩
        have R2 := Lib.hid r2
        have B2 := Lib.hid (Hw.out.trans b2)
        clear r2 b2 c0 c1 c2 hc hf hbx
        go_wp2
        go_roundw
        case rel => exact ⟨k + 1, q2, by omega, by go_num, hq2, R2, B2, HR2⟩
        case measure => simp [intOf]; omega
    · obtain rfl : k = n := by omega
      have hres := Lib.hid (HR.out.trans (by rw [List.drop_of_length_le (by rw [← Hx.out]; exact Nat.le_refl _)]))
      go_wp2
      go_end0
      exact ⟨rfl, by rw [hres.out]; exact Hq.out, B1.out.trans Hw.out⟩
theorem roomT_calls (B R : Nat) (a : PT) : RoomTAt B R a :=
  PT.rec (motive_1 := RoomTAt B R) (motive_2 := fun l => ∀ x, x ∈ l → RoomTAt B R x) (fun k n xs H => roomT_step B R k n xs H)
    (fun x h => by cases h) (fun a l ha hl x h => by cases h with | head => exact ha | tail _ h => exact hl x h) a
end Go.Proofs.YthilicmhdkmipaaGreatDoor
