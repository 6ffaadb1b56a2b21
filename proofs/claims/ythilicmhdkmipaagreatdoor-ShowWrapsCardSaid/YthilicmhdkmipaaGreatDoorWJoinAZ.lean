/- Contracts of package tree, first part: whether two types are the same. -/
import Derived.Test.YthilicmhdkmipaaGreatDoorWTreeMath
import Derived.Test.YthilicmhdkmipaaGreatDoorChecked
import Derived.Test.YthilicmhdkmipaaGreatDoorShelf
import Derived.Shelf.Abstract
import Derived.Outline
import Derived.IntWalk
import Derived.WalkKit
import Derived.BigQuiet
import Derived.Deep.QuietTactic
import Derived.ChangeArms
import Derived.ChangeSlices
namespace Go.Proofs.YthilicmhdkmipaaGreatDoor
open Go.RowKit
set_option linter.unusedVariables false

theorem ret_bool {a b : Bool} (h : a = b) : Ending.returned (.bool a) = .returned (.bool b) := by rw [h]
theorem up_tr {w w1 w2 : World} (a : Below w.heap.size w w1) (b : Below w1.heap.size w1 w2) : Below w.heap.size w w2 := a.trans (b.mono a.size)
theorem box2 (w : World) (a b : Obj) : Below w.heap.size w ((w.alloc a).alloc b) := ((Below.refl _ w).alloc (Nat.le_refl _) _).alloc (by simp) _
theorem box2B {B : Nat} (w : World) (hB : B ≤ w.heap.size) (a b : Obj) : Below B w ((w.alloc a).alloc b) := (box2 w a b).mono hB
theorem old_cells {W w1 : World} (hb : Below W.heap.size W w1) : ∀ b o, b < W.heap.size → w1.cell? ⟨b, o, none⟩ = W.cell? ⟨b, o, none⟩ := fun b o h => hb.cell (p := ⟨b, o, none⟩) h
theorem below_drewN (w : World) (q : Nat) : Below w.heap.size w (w.drewN q) := by
  refine ⟨?_, ?_, ?_, ?_, ?_⟩ <;> first | rfl | simp
theorem get_at {α : Type} {l : List α} {k : Nat} (h : k < l.length) : ∃ a, l[k]? = some a ∧ a ∈ l := ⟨l[k], List.getElem?_eq_getElem h, List.getElem_mem h⟩

/-- the contract of sameType at a first type -/
def SameTAt (B : Nat) (a : PT) : Prop := ∀ (b : PT) (va vb : Value) (w : World), B ≤ w.heap.size → a.In B w va → b.In B w vb →
  Calls Tryz.prog 111 #[.agg #[.int .u8 a.kind, .string a.name, va], .agg #[.int .u8 b.kind, .string b.name, vb]] w fun e w' => e = .returned (.bool (sameT a b)) ∧ Below w.heap.size w w'

theorem sameType_enters : ∀ args w, (callFunc 111 args).run Tryz.prog w = .ok (.enter 111 args) w := enters_of Tryz.func111 (by kernel_rfl) rfl

set_option maxHeartbeats 1000000 in
theorem equalT_calls (B : Nat) (xs ys : List PT) (H : Hid (∀ a, a ∈ xs → SameTAt B a)) (b1 o1 b2 o2 : Nat) (v1 v2 : Value) (w : World) (hB : B ≤ w.heap.size)
    (s1 : SlV B v1 xs.length b1 o1) (r1 : PT.Row B w b1 o1 xs) (s2 : SlV B v2 ys.length b2 o2) (r2 : PT.Row B w b2 o2 ys) :
    Calls Tryz.prog 164 #[v1, v2, .func (.func 111) #[] #[]] w fun e w' => e = .returned (.bool (sameTs xs ys)) ∧ Below w.heap.size w w' := by
  rw [sameTs_all]
  obtain ⟨m1, ao1, cap1, rfl, h1⟩ := s1
  obtain ⟨m2, ao2, cap2, rfl, h2⟩ := s2
  unfold maxLen at m1 m2
  by_cases hn : xs.length = ys.length
  · have hyes := fun h => allW_yes (f := sameT) hn h
    obtain ⟨n, hx⟩ : ∃ n, n = xs.length := ⟨_, rfl⟩
    have hy : n = ys.length := hx.trans hn
    rw [← hx] at m1 h1 ⊢
    rw [← hy] at m2 h2 ⊢
    have Hyes := Lib.hid hyes
    have Hx := Lib.hid hx
    have Hy := Lib.hid hy
    have Hr := Lib.hid r1
    have Hs := Lib.hid r2
    have H1 := Lib.hid h1
    have H2 := Lib.hid h2
    clear hyes hn hx hy r1 r2 h1 h2
    have hE := sameType_enters
    go_enter Tryz.func164, Tryz.ntmps164
    go_wp2_with fail
    go_loopw [17] (fun i wr => ∃ k : Nat, k ≤ n ∧ i = .int .i64 k ∧ Below w.heap.size w wr ∧ Hid (∀ (j : Nat) x y, j < k → xs[j]? = some x → ys[j]? = some y → sameT x y = true))
      (fun i _ => n - (intOf i).toNat)
    case atStart => exact ⟨0, by omega, rfl, Below.refl _ _, Lib.hid fun j x y hj => by omega⟩
    case round =>
      obtain ⟨k, hk, rfl, hbel, HK⟩ := hrel
      have hsz := hbel.size
      have hbB := hbel.mono hB
      by_cases hlt : k < n
      · obtain ⟨a, ha, hin⟩ := get_at (l := xs) (k := k) (by rw [← Hx.out]; exact hlt)
        obtain ⟨b, hb, _⟩ := get_at (l := ys) (k := k) (by rw [← Hy.out]; exact hlt)
        obtain ⟨rfl, hb1⟩ := H1.out.resolve_left (by omega)
        obtain ⟨rfl, hb2⟩ := H2.out.resolve_left (by omega)
        obtain ⟨va, ca, ia⟩ := PT.Row.get (PT.Row.below hbB hb1 Hr.out) ha
        obtain ⟨vb, cb, ib⟩ := PT.Row.get (PT.Row.below hbB hb2 Hs.out) hb
        have g1 : b1 < wr.heap.size := by omega
        have g2 : b2 < wr.heap.size := by omega
        have c1 : wr.cell? ⟨b1, o1 + k * 3, none⟩ = some (.int .u8 a.kind) := ca 0 _ rfl
        have c2 := ca 1 _ rfl
        have c3 := ca 2 _ rfl
        have d1 : wr.cell? ⟨b2, o2 + k * 3, none⟩ = some (.int .u8 b.kind) := cb 0 _ rfl
        have d2 := cb 1 _ rfl
        have d3 := cb 2 _ rfl
        obtain ⟨p1, q1, t1, rfl⟩ := ia.shape
        obtain ⟨p2, q2, t2, rfl⟩ := ib.shape
        have C := Lib.hid (H.out a hin b (.slice p1 q1 t1) (.slice p2 q2 t2))
        have Ia := Lib.hid ia
        have Ib := Lib.hid ib
        have Ha := Lib.hid ha
        have Hb := Lib.hid hb
        clear ha hb ia ib ca cb hin
        go_wp2_with fail
        refine (C.out _ ?_ ?_ ?_).mono ?_
        · simp; omega
        · exact PT.In.below (((Below.refl B _).alloc (by omega) _).alloc (by simp; omega) _) Ia.out
        · exact PT.In.below (((Below.refl B _).alloc (by omega) _).alloc (by simp; omega) _) Ib.out
        rintro e w2 ⟨rfl, b2⟩
        have b3 := ((hbel.alloc (by omega) _).alloc (by simp; omega) _).trans (b2.mono (by simp; omega))
        clear b2 c1 c2 c3 d1 d2 d3
        cases hs : sameT a b
        · have hres := Lib.hid (allW_no Ha.out Hb.out hs)
          clear hs
          go_wp2
          go_ret
          exact ⟨ret_bool hres.out.symm, b3⟩
        · have HK2 := Lib.hid (allW_step HK.out Ha.out Hb.out hs)
          clear hs
          go_wp2
          go_roundw
          case rel => exact ⟨k + 1, by omega, by go_num, b3, HK2⟩
          case measure => simp [intOf]; omega
      · obtain rfl : k = n := by omega
        have hres := Lib.hid (Hyes.out fun j x y hx hy => HK.out j x y (by rw [Hx.out]; exact (List.getElem?_eq_some_iff.1 hx).1) hx hy)
        go_wp2
        go_ret
        exact ⟨ret_bool hres.out.symm, hbel⟩
  · have e1 : ((xs.length : Int) != (ys.length : Int)) = true := by rw [bne_iff_ne]; omega
    rw [allW_len hn]
    clear hn
    go_enter Tryz.func164, Tryz.ntmps164
    go_wp2
    go_ret
    exact ⟨rfl, Below.refl _ _⟩

theorem sameT_step (B : Nat) (k : Int) (n : ByteArray) (xs : List PT) (H : ∀ a, a ∈ xs → SameTAt B a) : SameTAt B (.mk k n xs) := by
  intro b va vb w hB ha hb
  obtain ⟨k2, n2, ys⟩ := b
  obtain ⟨⟨u1, z1⟩, b1, o1, s1, r1⟩ := ha
  obtain ⟨⟨u2, z2⟩, b2, o2, s2, r2⟩ := hb
  obtain ⟨p1, q1, rfl⟩ := s1.shape
  obtain ⟨p2, q2, rfl⟩ := s2.shape
  show Calls Tryz.prog 111 #[.agg #[.int .u8 k, .string n, .slice p1 xs.length q1], .agg #[.int .u8 k2, .string n2, .slice p2 ys.length q2]] w _
  go_enter Tryz.func111, Tryz.ntmps111
  go_wp2_with fail
  · have e1 : k = k2 := by assumption
    have e2 : n.toList = n2.toList := by assumption
    refine (equalT_calls B xs ys (Lib.hid H) b1 o1 b2 o2 _ _ _ (by simp; omega) s1 (PT.Row.below' (((Below.refl B w).alloc hB _).alloc (by simp; omega) _) s1 r1) s2 (PT.Row.below' (((Below.refl B w).alloc hB _).alloc (by simp; omega) _) s2 r2)).mono ?_
    rintro e w' ⟨rfl, b3⟩
    go_wp2
    go_ret
    exact ⟨ret_bool (by rw [sameT_mk, e1, toList_same e2]; simp), (((Below.refl _ w).alloc (Nat.le_refl _) _).alloc (by simp) _).trans (b3.mono (by simp; omega))⟩
  · have e2 : ¬ n.toList = n2.toList := by assumption
    go_ret
    exact ⟨ret_bool (by rw [sameT_mk, toList_diff e2]; simp), ((Below.refl _ w).alloc (Nat.le_refl _) _).alloc (by simp) _⟩
  · have e1 : ¬ k = k2 := by assumption
    go_ret
    exact ⟨ret_bool (by rw [sameT_mk]; simp [e1]), ((Below.refl _ w).alloc (Nat.le_refl _) _).alloc (by simp) _⟩
theorem sameT_calls (B : Nat) (a : PT) : SameTAt B a :=
  PT.rec (motive_1 := SameTAt B) (motive_2 := fun l => ∀ x, x ∈ l → SameTAt B x) (fun k n xs H => sameT_step B k n xs H)
    (fun x h => by cases h) (fun a l ha hl x h => by cases h with | head => exact ha | tail _ h => exact hl x h) a

/-! ### names and places -/
theorem equalN_calls (B : Nat) (xs ys : List ByteArray) (v1 v2 : Value) (w : World) (h1 : NIn B w xs v1) (h2 : NIn B w ys v2) :
    Calls Tryz.prog 165 #[v1, v2] w fun e w' => e = .returned (.bool (allW sameW xs ys)) ∧ Below w.heap.size w w' := by
  obtain ⟨b1, o1, ⟨m1, p1, q1, rfl, k1⟩, r1⟩ := h1
  obtain ⟨b2, o2, ⟨m2, p2, q2, rfl, k2⟩, r2⟩ := h2
  unfold maxLen at m1 m2
  rw [allW_eq]
  by_cases hn : xs.length = ys.length
  · rcases k1 with k1 | ⟨rfl, k1⟩
    · rw [k1] at hn ⊢
      refine (Tryz.slices_Equal_string_empty p1 p2 q1 ys.length q2 w m2).mono ?_
      rintro e w' ⟨rfl, rfl⟩
      have e1 := List.eq_nil_of_length_eq_zero k1
      have e2 := List.eq_nil_of_length_eq_zero hn.symm
      exact ⟨by rw [e1, e2]; rfl, Below.refl _ _⟩
    · rcases k2 with k2 | ⟨rfl, k2⟩
      · have e1 := List.eq_nil_of_length_eq_zero (hn.trans k2)
        have e2 := List.eq_nil_of_length_eq_zero k2
        subst e1 e2
        refine (Tryz.slices_Equal_string_empty _ p2 q1 0 q2 w (by omega)).mono ?_
        rintro e w' ⟨rfl, rfl⟩
        exact ⟨rfl, Below.refl _ _⟩
      · refine (Tryz.slices_Equal_string b1 o1 xs.length q1 b2 o2 ys.length q2 xs ys w (Nat.le_refl _) (Nat.le_refl _) m1 m2 (fun j hj => ?_) (fun j hj => ?_)).mono ?_
        · have := (NRow.get (k := j) (s := xs[j]) r1 (List.getElem?_eq_getElem hj)).2 0 _ rfl
          simpa [List.getD, hj] using this
        · have := (NRow.get (k := j) (s := ys[j]) r2 (List.getElem?_eq_getElem hj)).2 0 _ rfl
          simpa [List.getD, hj] using this
        rintro e w' ⟨rfl, q, rfl⟩
        exact ⟨by rw [List.take_length, List.take_length], below_drewN w q⟩
  · refine (Tryz.slices_Equal_string_lens p1 p2 xs.length q1 ys.length q2 w hn).mono ?_
    rintro e w' ⟨rfl, rfl⟩
    have hne : ¬ xs = ys := fun h => hn (by rw [h])
    exact ⟨by simp [hne], Below.refl _ _⟩
set_option maxHeartbeats 1000000 in
theorem samePl_calls (B : Nat) (a b : PP) (va vb : Value) (w : World) (hB : B ≤ w.heap.size) (ha : a.In B w va) (hb : b.In B w vb) :
    Calls Tryz.prog 166 #[.agg #[.string a.name, va], .agg #[.string b.name, vb]] w fun e w' => e = .returned (.bool (samePl a b)) ∧ Below w.heap.size w w' := by
  obtain ⟨p1, n1, q1, rfl⟩ := ha.2.shape
  obtain ⟨p2, n2, q2, rfl⟩ := hb.2.shape
  go_enter Tryz.func166, Tryz.ntmps166
  go_wp2_with fail
  · have e2 : a.name.toList = b.name.toList := by assumption
    refine (equalN_calls B a.path b.path _ _ _ (ha.2.below (box2B _ hB _ _)) (hb.2.below (box2B _ hB _ _))).mono ?_
    rintro e w' ⟨rfl, b3⟩
    go_wp2
    go_ret
    exact ⟨ret_bool (by rw [samePl, toList_same e2]; simp), up_tr (box2 _ _ _) b3⟩
  · have e2 : ¬ a.name.toList = b.name.toList := by assumption
    go_ret
    exact ⟨ret_bool (by rw [samePl, toList_diff e2]; simp), box2 _ _ _⟩
end Go.Proofs.YthilicmhdkmipaaGreatDoor
/- What came in as data lies in memory as a tree: types, places, expressions (made by gen_open.py). -/
namespace Go.Proofs.YthilicmhdkmipaaGreatDoor
open Go.RowKit
set_option linter.unusedVariables false

section
variable {H : Type} {enc : TypeId × Value → H} {w : World} {spare : Nat → Bool} {held : Bool}
theorem cells_at {a : Addr} {n : Nat} {cs : List Value} (h : w.cells? 0 a n = some cs) (hn : 0 < n) : ∃ b o, a = ⟨b, o, none⟩ ∧ cs.length = n ∧ CellsAt w b o cs ∧ b < w.heap.size := by
  obtain ⟨_, hl, hc⟩ := World.cells?_some h
  have h0 := hc 0 hn
  have e0 : a.add 0 = a := by simp [Addr.add]
  rw [e0, List.getElem?_eq_getElem (by omega)] at h0
  obtain ⟨b, o, s⟩ := a
  have hs : s = none := by
    cases s with
    | none => rfl
    | some k =>
      unfold World.cell? at h0
      simp at h0
      split at h0 <;> simp at h0
  subst hs
  refine ⟨b, o, rfl, hl, fun i v hi => ?_, World.block_lt_of_cell? _ _ h0⟩
  have hil : i < n := by rw [← hl]; exact (List.getElem?_eq_some_iff.1 hi).1
  have := hc i hil
  rw [hi] at this
  rw [← this]
  congr 1
  unfold Addr.add
  split
  · rename_i h; subst h; rfl
  · rfl
/-- a slice that came in: each element's cells, and what they read as -/
theorem slice_open {t e : TypeId} {k fuel : Nat} {cs : List Value} {x : DataW H × List MemPlace} (ht : Tryz.prog.underlying t = some (.slice e)) (hk : Tryz.prog.cellsOf e = k) (hk0 : 0 < k)
    (h : DataW.trod enc Tryz.prog w 0 spare held fuel t cs = some x) :
    ∃ ao len cap n b o, cs = [.slice ao len cap] ∧ n < fuel ∧ SlV w.heap.size (.slice ao len cap) len b o ∧ ∀ i, i < len → ∃ ci y, CellsAt w b (o + i * k) ci ∧ DataW.trod enc Tryz.prog w 0 spare held n e ci = some y := by
  rcases DataW.trod_slice ht h with ⟨rfl, _⟩ | ⟨a, len, cap, elems, rest, n, rfl, rfl, _, _, hl, hm, hlen, hel, _, _⟩
  · refine ⟨none, 0, 0, 0, 0, 0, rfl, ?_, ⟨by unfold maxLen; omega, none, 0, rfl, .inl rfl⟩, fun i hi => by omega⟩
    cases fuel with
    | zero => simp [DataW.trod] at h
    | succ f => omega
  · rw [hk] at hel
    by_cases h0 : len = 0
    · subst h0
      exact ⟨some a, 0, cap, n, 0, 0, rfl, by omega, ⟨by unfold maxLen; omega, some a, cap, rfl, .inl rfl⟩, fun i hi => by omega⟩
    · have each : ∀ i, i < len → ∃ ci y, w.cells? 0 (a.add (i * k)) k = some ci ∧ DataW.trod enc Tryz.prog w 0 spare held n e ci = some y := by
        intro i hi
        have hi2 := hel i hi
        rw [List.getElem?_eq_getElem (by omega)] at hi2
        obtain ⟨ci, h1, h2⟩ := Option.bind_eq_some_iff.1 hi2
        exact ⟨ci, _, h1, h2⟩
      obtain ⟨c0, y0, hc0, _⟩ := each 0 (by omega)
      rw [show a.add (0 * k) = a from by simp [Addr.add]] at hc0
      obtain ⟨b, o, rfl, _, _, hb⟩ := cells_at hc0 hk0
      refine ⟨some ⟨b, o, none⟩, len, cap, n, b, o, rfl, by omega, ⟨by omega, _, _, rfl, .inr ⟨rfl, hb⟩⟩, fun i hi => ?_⟩
      obtain ⟨ci, y, h1, h2⟩ := each i hi
      have e1 : (⟨b, o, none⟩ : Addr).add (i * k) = ⟨b, o + i * k, none⟩ := by
        unfold Addr.add
        split
        · rename_i h; rw [h]; rfl
        · rfl
      rw [e1] at h1
      obtain ⟨b', o', e2, _, h3, _⟩ := cells_at h1 hk0
      cases e2
      exact ⟨ci, y, h3, h2⟩
theorem NRow.mk {b : Nat} : ∀ {n o : Nat}, (∀ i, i < n → ∃ s : ByteArray, s.size ≤ maxLen ∧ CellsAt w b (o + i * 1) [.string s]) → ∃ l : List ByteArray, l.length = n ∧ NRow w b o l
  | 0, _, _ => ⟨[], rfl, trivial⟩
  | n + 1, o, h => by
    obtain ⟨s, h1, h2⟩ := h 0 (by omega)
    obtain ⟨l, hl, hr⟩ := NRow.mk (n := n) (o := o + 1) (fun i hi => by
      obtain ⟨s, h1, h2⟩ := h (i + 1) (by omega)
      exact ⟨s, h1, by rwa [show o + 1 + i * 1 = o + (i + 1) * 1 from by omega]⟩)
    exact ⟨s :: l, by simp [hl], ⟨h1, by simpa using h2⟩, hr⟩
theorem PT.Row.mk {B b : Nat} : ∀ {n o : Nat}, (∀ i, i < n → ∃ (t : PT) (v : _), CellsAt w b (o + i * 3) (t.cells v) ∧ t.In B w v) → ∃ l : List PT, l.length = n ∧ PT.Row B w b o l
  | 0, _, _ => ⟨[], rfl, by unfold PT.Row; trivial⟩
  | n + 1, o, h => by
    obtain ⟨s, v, h1, h2⟩ := h 0 (by omega)
    obtain ⟨l, hl, hr⟩ := PT.Row.mk (n := n) (o := o + 3) (fun i hi => by
      obtain ⟨s, v, h1, h2⟩ := h (i + 1) (by omega)
      exact ⟨s, v, by rwa [show o + 3 + i * 3 = o + (i + 1) * 3 from by omega], h2⟩)
    exact ⟨s :: l, by simp [hl], by unfold PT.Row; exact ⟨⟨v, by simpa using h1, h2⟩, hr⟩⟩
theorem PE.Row.mk {B b : Nat} : ∀ {n o : Nat}, (∀ i, i < n → ∃ (t : PE) (v : _), CellsAt w b (o + i * 8) (t.cells v) ∧ t.In B w v) → ∃ l : List PE, l.length = n ∧ PE.Row B w b o l
  | 0, _, _ => ⟨[], rfl, by unfold PE.Row; trivial⟩
  | n + 1, o, h => by
    obtain ⟨s, v, h1, h2⟩ := h 0 (by omega)
    obtain ⟨l, hl, hr⟩ := PE.Row.mk (n := n) (o := o + 8) (fun i hi => by
      obtain ⟨s, v, h1, h2⟩ := h (i + 1) (by omega)
      exact ⟨s, v, by rwa [show o + 8 + i * 8 = o + (i + 1) * 8 from by omega], h2⟩)
    exact ⟨s :: l, by simp [hl], by unfold PE.Row; exact ⟨⟨v, by simpa using h1, h2⟩, hr⟩⟩
theorem PS.Row.mk {B b : Nat} : ∀ {n o : Nat}, (∀ i, i < n → ∃ (t : PS) (v : _), CellsAt w b (o + i * 15) (t.cells v) ∧ t.In B w v) → ∃ l : List PS, l.length = n ∧ PS.Row B w b o l
  | 0, _, _ => ⟨[], rfl, by unfold PS.Row; trivial⟩
  | n + 1, o, h => by
    obtain ⟨s, v, h1, h2⟩ := h 0 (by omega)
    obtain ⟨l, hl, hr⟩ := PS.Row.mk (n := n) (o := o + 15) (fun i hi => by
      obtain ⟨s, v, h1, h2⟩ := h (i + 1) (by omega)
      exact ⟨s, v, by rwa [show o + 15 + i * 15 = o + (i + 1) * 15 from by omega], h2⟩)
    exact ⟨s :: l, by simp [hl], by unfold PS.Row; exact ⟨⟨v, by simpa using h1, h2⟩, hr⟩⟩
theorem PA.Row.mk {B b : Nat} : ∀ {n o : Nat}, (∀ i, i < n → ∃ (t : PA) (v : _), CellsAt w b (o + i * 3) (t.cells v) ∧ t.In B w v) → ∃ l : List PA, l.length = n ∧ PA.Row B w b o l
  | 0, _, _ => ⟨[], rfl, by unfold PA.Row; trivial⟩
  | n + 1, o, h => by
    obtain ⟨s, v, h1, h2⟩ := h 0 (by omega)
    obtain ⟨l, hl, hr⟩ := PA.Row.mk (n := n) (o := o + 3) (fun i hi => by
      obtain ⟨s, v, h1, h2⟩ := h (i + 1) (by omega)
      exact ⟨s, v, by rwa [show o + 3 + i * 3 = o + (i + 1) * 3 from by omega], h2⟩)
    exact ⟨s :: l, by simp [hl], by unfold PA.Row; exact ⟨⟨v, by simpa using h1, h2⟩, hr⟩⟩
theorem PF.Row.mk {B b : Nat} : ∀ {n o : Nat}, (∀ i, i < n → ∃ (t : PF) (v : _), CellsAt w b (o + i * 4) (t.cells v) ∧ t.In B w v) → ∃ l : List PF, l.length = n ∧ PF.Row B w b o l
  | 0, _, _ => ⟨[], rfl, by unfold PF.Row; trivial⟩
  | n + 1, o, h => by
    obtain ⟨s, v, h1, h2⟩ := h 0 (by omega)
    obtain ⟨l, hl, hr⟩ := PF.Row.mk (n := n) (o := o + 4) (fun i hi => by
      obtain ⟨s, v, h1, h2⟩ := h (i + 1) (by omega)
      exact ⟨s, v, by rwa [show o + 4 + i * 4 = o + (i + 1) * 4 from by omega], h2⟩)
    exact ⟨s :: l, by simp [hl], by unfold PF.Row; exact ⟨⟨v, by simpa using h1, h2⟩, hr⟩⟩
theorem PI.Row.mk {B b : Nat} : ∀ {n o : Nat}, (∀ i, i < n → ∃ (t : PI) (v : _), CellsAt w b (o + i * 16) (t.cells v) ∧ t.In B w v) → ∃ l : List PI, l.length = n ∧ PI.Row B w b o l
  | 0, _, _ => ⟨[], rfl, by unfold PI.Row; trivial⟩
  | n + 1, o, h => by
    obtain ⟨s, v, h1, h2⟩ := h 0 (by omega)
    obtain ⟨l, hl, hr⟩ := PI.Row.mk (n := n) (o := o + 16) (fun i hi => by
      obtain ⟨s, v, h1, h2⟩ := h (i + 1) (by omega)
      exact ⟨s, v, by rwa [show o + 16 + i * 16 = o + (i + 1) * 16 from by omega], h2⟩)
    exact ⟨s :: l, by simp [hl], by unfold PI.Row; exact ⟨⟨v, by simpa using h1, h2⟩, hr⟩⟩
theorem typeOf : ∀ (fuel : Nat) (cs : List Value) (x : DataW H × List MemPlace), DataW.trod enc Tryz.prog w 0 spare held fuel 31 cs = some x → ∃ (t : PT) (v : Value), cs = t.cells v ∧ t.In w.heap.size w v := by
  intro fuel
  induction fuel using Nat.strongRecOn with
  | _ fuel ih =>
  intro cs x h
  obtain ⟨xs, n, rfl, rfl, hlen, hxl, hf⟩ := DataW.trod_struct Tryz.underlying31 h
  rw [show Tryz.prog.cellsOf 31 = 3 from by kernel_rfl] at hlen
  obtain _ | ⟨k0, cs⟩ := cs
  · simp at hlen
  obtain _ | ⟨k1, cs⟩ := cs
  · simp at hlen
  obtain _ | ⟨k2, cs⟩ := cs
  · simp at hlen
  obtain rfl : cs = [] := by
    cases cs with
    | nil => rfl
    | cons c cs => simp at hlen
  clear hlen
  have fa := hf 0 _ rfl
  change DataW.trod enc Tryz.prog w 0 spare held n 5 ((List.drop 0 [k0, k1, k2]).take (Tryz.prog.cellsOf 5)) = xs[0]? at fa
  rw [show Tryz.prog.cellsOf 5 = 1 from by kernel_rfl, List.getElem?_eq_getElem (show 0 < xs.length by rw [hxl]; decide)] at fa
  replace fa : DataW.trod enc Tryz.prog w 0 spare held n 5 [k0] = some _ := fa
  have fb := hf 1 _ rfl
  change DataW.trod enc Tryz.prog w 0 spare held n 9 ((List.drop 1 [k0, k1, k2]).take (Tryz.prog.cellsOf 9)) = xs[1]? at fb
  rw [show Tryz.prog.cellsOf 9 = 1 from by kernel_rfl, List.getElem?_eq_getElem (show 1 < xs.length by rw [hxl]; decide)] at fb
  replace fb : DataW.trod enc Tryz.prog w 0 spare held n 9 [k1] = some _ := fb
  have fc := hf 2 _ rfl
  change DataW.trod enc Tryz.prog w 0 spare held n 29 ((List.drop 2 [k0, k1, k2]).take (Tryz.prog.cellsOf 29)) = xs[2]? at fc
  rw [show Tryz.prog.cellsOf 29 = 1 from by kernel_rfl, List.getElem?_eq_getElem (show 2 < xs.length by rw [hxl]; decide)] at fc
  replace fc : DataW.trod enc Tryz.prog w 0 spare held n 29 [k2] = some _ := fc
  obtain ⟨kd, e, _, wa⟩ := DataW.trod_int Tryz.underlying5 fa
  obtain rfl : k0 = .int .u8 kd := by simpa using e
  clear e
  obtain ⟨nm, e, _, wb⟩ := DataW.trod_string Tryz.underlying9 fb
  obtain rfl : k1 = .string nm := by simpa using e
  clear e
  obtain ⟨ax, lx, cx, nx, bx, ox, e, hnx, sx, elx⟩ := slice_open Tryz.underlying29 (show Tryz.prog.cellsOf 31 = 3 from by kernel_rfl) (by omega) fc
  obtain rfl : k2 = .slice ax lx cx := by simpa using e
  clear e
  obtain ⟨Lx, hLx, rLx⟩ := PT.Row.mk (B := w.heap.size) (w := w) (b := bx) (n := lx) (o := ox) (fun i hi => by
    obtain ⟨ci, y, h1, h2⟩ := elx i hi
    obtain ⟨t, v, rfl, hin⟩ := ih nx (by omega) ci y h2
    exact ⟨t, v, h1, hin⟩)
  subst hLx
  exact ⟨.mk kd nm Lx, _, rfl, ⟨wa, wb⟩, bx, ox, sx, rLx⟩
theorem placeOf (fuel : Nat) (cs : List Value) (x : DataW H × List MemPlace) (h : DataW.trod enc Tryz.prog w 0 spare held fuel 34 cs = some x) : ∃ (t : PP) (v : Value), cs = [.string t.name, v] ∧ t.In w.heap.size w v := by
  obtain ⟨xs, n, rfl, rfl, hlen, hxl, hf⟩ := DataW.trod_struct Tryz.underlying34 h
  rw [show Tryz.prog.cellsOf 34 = 2 from by kernel_rfl] at hlen
  obtain _ | ⟨k0, cs⟩ := cs
  · simp at hlen
  obtain _ | ⟨k1, cs⟩ := cs
  · simp at hlen
  obtain rfl : cs = [] := by
    cases cs with
    | nil => rfl
    | cons c cs => simp at hlen
  clear hlen
  have fa := hf 0 _ rfl
  change DataW.trod enc Tryz.prog w 0 spare held n 9 ((List.drop 0 [k0, k1]).take (Tryz.prog.cellsOf 9)) = xs[0]? at fa
  rw [show Tryz.prog.cellsOf 9 = 1 from by kernel_rfl, List.getElem?_eq_getElem (show 0 < xs.length by rw [hxl]; decide)] at fa
  replace fa : DataW.trod enc Tryz.prog w 0 spare held n 9 [k0] = some _ := fa
  have fb := hf 1 _ rfl
  change DataW.trod enc Tryz.prog w 0 spare held n 32 ((List.drop 1 [k0, k1]).take (Tryz.prog.cellsOf 32)) = xs[1]? at fb
  rw [show Tryz.prog.cellsOf 32 = 1 from by kernel_rfl, List.getElem?_eq_getElem (show 1 < xs.length by rw [hxl]; decide)] at fb
  replace fb : DataW.trod enc Tryz.prog w 0 spare held n 32 [k1] = some _ := fb
  obtain ⟨nm, e, _, wa⟩ := DataW.trod_string Tryz.underlying9 fa
  obtain rfl : k0 = .string nm := by simpa using e
  clear e
  obtain ⟨ax, lx, cx, nx, bx, ox, e, hnx, sx, elx⟩ := slice_open Tryz.underlying32 (show Tryz.prog.cellsOf 9 = 1 from by kernel_rfl) (by omega) fb
  obtain rfl : k1 = .slice ax lx cx := by simpa using e
  clear e
  obtain ⟨Lx, hLx, rLx⟩ := NRow.mk (w := w) (b := bx) (n := lx) (o := ox) (fun i hi => by
    obtain ⟨ci, y, h1, h2⟩ := elx i hi
    obtain ⟨st, rfl, _, hst⟩ := DataW.trod_string Tryz.underlying9 h2
    exact ⟨st, hst, h1⟩)
  subst hLx
  exact ⟨⟨nm, Lx⟩, _, rfl, wa, bx, ox, sx, rLx⟩
theorem exprOf : ∀ (fuel : Nat) (cs : List Value) (x : DataW H × List MemPlace), DataW.trod enc Tryz.prog w 0 spare held fuel 37 cs = some x → ∃ (t : PE) (v : VE), cs = t.cells v ∧ t.In w.heap.size w v := by
  intro fuel
  induction fuel using Nat.strongRecOn with
  | _ fuel ih =>
  intro cs x h
  obtain ⟨xs, n, rfl, rfl, hlen, hxl, hf⟩ := DataW.trod_struct Tryz.underlying37 h
  rw [show Tryz.prog.cellsOf 37 = 8 from by kernel_rfl] at hlen
  obtain _ | ⟨k0, cs⟩ := cs
  · simp at hlen
  obtain _ | ⟨k1, cs⟩ := cs
  · simp at hlen
  obtain _ | ⟨k2, cs⟩ := cs
  · simp at hlen
  obtain _ | ⟨k3, cs⟩ := cs
  · simp at hlen
  obtain _ | ⟨k4, cs⟩ := cs
  · simp at hlen
  obtain _ | ⟨k5, cs⟩ := cs
  · simp at hlen
  obtain _ | ⟨k6, cs⟩ := cs
  · simp at hlen
  obtain _ | ⟨k7, cs⟩ := cs
  · simp at hlen
  obtain rfl : cs = [] := by
    cases cs with
    | nil => rfl
    | cons c cs => simp at hlen
  clear hlen
  have fa := hf 0 _ rfl
  change DataW.trod enc Tryz.prog w 0 spare held n 5 ((List.drop 0 [k0, k1, k2, k3, k4, k5, k6, k7]).take (Tryz.prog.cellsOf 5)) = xs[0]? at fa
  rw [show Tryz.prog.cellsOf 5 = 1 from by kernel_rfl, List.getElem?_eq_getElem (show 0 < xs.length by rw [hxl]; decide)] at fa
  replace fa : DataW.trod enc Tryz.prog w 0 spare held n 5 [k0] = some _ := fa
  have fb := hf 1 _ rfl
  change DataW.trod enc Tryz.prog w 0 spare held n 2 ((List.drop 1 [k0, k1, k2, k3, k4, k5, k6, k7]).take (Tryz.prog.cellsOf 2)) = xs[1]? at fb
  rw [show Tryz.prog.cellsOf 2 = 1 from by kernel_rfl, List.getElem?_eq_getElem (show 1 < xs.length by rw [hxl]; decide)] at fb
  replace fb : DataW.trod enc Tryz.prog w 0 spare held n 2 [k1] = some _ := fb
  have fc := hf 2 _ rfl
  change DataW.trod enc Tryz.prog w 0 spare held n 9 ((List.drop 2 [k0, k1, k2, k3, k4, k5, k6, k7]).take (Tryz.prog.cellsOf 9)) = xs[2]? at fc
  rw [show Tryz.prog.cellsOf 9 = 1 from by kernel_rfl, List.getElem?_eq_getElem (show 2 < xs.length by rw [hxl]; decide)] at fc
  replace fc : DataW.trod enc Tryz.prog w 0 spare held n 9 [k2] = some _ := fc
  have fd := hf 3 _ rfl
  change DataW.trod enc Tryz.prog w 0 spare held n 9 ((List.drop 3 [k0, k1, k2, k3, k4, k5, k6, k7]).take (Tryz.prog.cellsOf 9)) = xs[3]? at fd
  rw [show Tryz.prog.cellsOf 9 = 1 from by kernel_rfl, List.getElem?_eq_getElem (show 3 < xs.length by rw [hxl]; decide)] at fd
  replace fd : DataW.trod enc Tryz.prog w 0 spare held n 9 [k3] = some _ := fd
  have fe := hf 4 _ rfl
  change DataW.trod enc Tryz.prog w 0 spare held n 34 ((List.drop 4 [k0, k1, k2, k3, k4, k5, k6, k7]).take (Tryz.prog.cellsOf 34)) = xs[4]? at fe
  rw [show Tryz.prog.cellsOf 34 = 2 from by kernel_rfl, List.getElem?_eq_getElem (show 4 < xs.length by rw [hxl]; decide)] at fe
  replace fe : DataW.trod enc Tryz.prog w 0 spare held n 34 [k4, k5] = some _ := fe
  have ff := hf 5 _ rfl
  change DataW.trod enc Tryz.prog w 0 spare held n 35 ((List.drop 6 [k0, k1, k2, k3, k4, k5, k6, k7]).take (Tryz.prog.cellsOf 35)) = xs[5]? at ff
  rw [show Tryz.prog.cellsOf 35 = 1 from by kernel_rfl, List.getElem?_eq_getElem (show 5 < xs.length by rw [hxl]; decide)] at ff
  replace ff : DataW.trod enc Tryz.prog w 0 spare held n 35 [k6] = some _ := ff
  have fg := hf 6 _ rfl
  change DataW.trod enc Tryz.prog w 0 spare held n 3 ((List.drop 7 [k0, k1, k2, k3, k4, k5, k6, k7]).take (Tryz.prog.cellsOf 3)) = xs[6]? at fg
  rw [show Tryz.prog.cellsOf 3 = 1 from by kernel_rfl, List.getElem?_eq_getElem (show 6 < xs.length by rw [hxl]; decide)] at fg
  replace fg : DataW.trod enc Tryz.prog w 0 spare held n 3 [k7] = some _ := fg
  obtain ⟨op, e, _, wa⟩ := DataW.trod_int Tryz.underlying5 fa
  obtain rfl : k0 = .int .u8 op := by simpa using e
  clear e
  obtain ⟨iv, e, _, wb⟩ := DataW.trod_int Tryz.underlying2 fb
  obtain rfl : k1 = .int .i64 iv := by simpa using e
  clear e
  obtain ⟨nm, e, _, wc⟩ := DataW.trod_string Tryz.underlying9 fc
  obtain rfl : k2 = .string nm := by simpa using e
  clear e
  obtain ⟨sc, e, _, wd⟩ := DataW.trod_string Tryz.underlying9 fd
  obtain rfl : k3 = .string sc := by simpa using e
  clear e
  obtain ⟨pl, vp, e, hpl⟩ := placeOf _ _ _ fe
  obtain ⟨rfl, rfl⟩ : k4 = .string pl.name ∧ k5 = vp := by simpa using e
  clear e
  obtain ⟨ax, lx, cx, nx, bx, ox, e, hnx, sx, elx⟩ := slice_open Tryz.underlying35 (show Tryz.prog.cellsOf 37 = 8 from by kernel_rfl) (by omega) ff
  obtain rfl : k6 = .slice ax lx cx := by simpa using e
  clear e
  obtain ⟨pos, e, _, wg⟩ := DataW.trod_int Tryz.underlying3 fg
  obtain rfl : k7 = .int .i64 pos := by simpa using e
  clear e
  obtain ⟨Lx, hLx, rLx⟩ := PE.Row.mk (B := w.heap.size) (w := w) (b := bx) (n := lx) (o := ox) (fun i hi => by
    obtain ⟨ci, y, h1, h2⟩ := elx i hi
    obtain ⟨t, v, rfl, hin⟩ := ih nx (by omega) ci y h2
    exact ⟨t, v, h1, hin⟩)
  subst hLx
  exact ⟨.mk op iv nm sc pl Lx pos, ⟨_, _⟩, rfl, ⟨wa, wb, wg, wc, wd⟩, hpl, bx, ox, sx, rLx⟩
end
end Go.Proofs.YthilicmhdkmipaaGreatDoor
