/- Contracts of package tree, first part: whether two types are the same. -/
import Derived.Test.YtikcjjbnbjjmcaaTreeMath
import Derived.Test.YtikcjjbnbjjmcaaChecked
import Derived.Test.YtikcjjbnbjjmcaaShelf
import Derived.Shelf.Abstract
import Derived.Outline
import Derived.IntWalk
import Derived.WalkKit
import Derived.BigQuiet
import Derived.Deep.QuietTactic
namespace Go.Proofs.Ytikcjjbnbjjmcaa
open Go.RowKit
set_option linter.unusedVariables false

theorem ret_bool {a b : Bool} (h : a = b) : Ending.returned (.bool a) = .returned (.bool b) := by rw [h]
theorem up_tr {w w1 w2 : World} (a : Below w.heap.size w w1) (b : Below w1.heap.size w1 w2) : Below w.heap.size w w2 := a.trans (b.mono a.size)
theorem box2 (w : World) (a b : Obj) : Below w.heap.size w ((w.alloc a).alloc b) := ((Below.refl _ w).alloc (Nat.le_refl _) _).alloc (by simp) _
theorem box2B {B : Nat} (w : World) (hB : B ≤ w.heap.size) (a b : Obj) : Below B w ((w.alloc a).alloc b) := (box2 w a b).mono hB
theorem old_cells {W w1 : World} (hb : Below W.heap.size W w1) : ∀ b o, b < W.heap.size → w1.cell? ⟨b, o, none⟩ = W.cell? ⟨b, o, none⟩ := fun b o h => hb.cell (p := ⟨b, o, none⟩) h
theorem below_drewN (w : World) (q : Nat) : Below w.heap.size w (w.drewN q) := by
  refine ⟨?_, ?_, ?_, ?_, ?_⟩ <;> first | rfl | simp
theorem get_at {α : Type} {l : List α} {k : Nat} (h : k < l.length) : ∃ a, l[k]? = some a ∧ a ∈ l := ⟨l[k], List.getElem?_eq_getElem h, List.getElem_mem h⟩

/-- the contract of sameType at a first type -/
def SameTAt (B : Nat) (a : PT) : Prop := ∀ (b : PT) (va vb : Value) (w : World), B ≤ w.heap.size → a.In B w va → b.In B w vb →
  Calls Try.prog 16 #[.agg #[.int .u8 a.kind, .string a.name, va], .agg #[.int .u8 b.kind, .string b.name, vb]] w fun e w' => e = .returned (.bool (sameT a b)) ∧ Below w.heap.size w w'

theorem sameType_enters : ∀ args w, (callFunc 16 args).run Try.prog w = .ok (.enter 16 args) w := enters_of Try.func16 (by kernel_rfl) rfl

set_option maxHeartbeats 1000000 in
theorem equalT_calls (B : Nat) (xs ys : List PT) (H : Hid (∀ a, a ∈ xs → SameTAt B a)) (b1 o1 b2 o2 : Nat) (v1 v2 : Value) (w : World) (hB : B ≤ w.heap.size)
    (s1 : SlV B v1 xs.length b1 o1) (r1 : PT.Row B w b1 o1 xs) (s2 : SlV B v2 ys.length b2 o2) (r2 : PT.Row B w b2 o2 ys) :
    Calls Try.prog 18 #[v1, v2, .func (.func 16) #[] #[]] w fun e w' => e = .returned (.bool (sameTs xs ys)) ∧ Below w.heap.size w w' := by
  rw [sameTs_all]
  obtain ⟨m1, ao1, cap1, rfl, h1⟩ := s1
  obtain ⟨m2, ao2, cap2, rfl, h2⟩ := s2
  unfold maxLen at m1 m2
  by_cases hn : xs.length = ys.length
  · have hyes := fun h => allW_yes (f := sameT) hn h
    obtain ⟨n, hx⟩ : ∃ n, n = xs.length := ⟨_, rfl⟩
    have hy : n = ys.length := hx.trans hn
    rw [← hx] at m1 h1 ⊢
    rw [← hy] at m2 h2 ⊢
    have Hyes := Lib.hid hyes
    have Hx := Lib.hid hx
    have Hy := Lib.hid hy
    have Hr := Lib.hid r1
    have Hs := Lib.hid r2
    have H1 := Lib.hid h1
    have H2 := Lib.hid h2
    clear hyes hn hx hy r1 r2 h1 h2
    have hE := sameType_enters
    go_enter Try.func18, Try.ntmps18
    go_wp2_with fail
    go_loopw [17] (fun i wr => ∃ k : Nat, k ≤ n ∧ i = .int .i64 k ∧ Below w.heap.size w wr ∧ Hid (∀ (j : Nat) x y, j < k → xs[j]? = some x → ys[j]? = some y → sameT x y = true))
      (fun i _ => n - (intOf i).toNat)
    case atStart => exact ⟨0, by omega, rfl, Below.refl _ _, Lib.hid fun j x y hj => by omega⟩
    case round =>
      obtain ⟨k, hk, rfl, hbel, HK⟩ := hrel
      have hsz := hbel.size
      have hbB := hbel.mono hB
      by_cases hlt : k < n
      · obtain ⟨a, ha, hin⟩ := get_at (l := xs) (k := k) (by rw [← Hx.out]; exact hlt)
        obtain ⟨b, hb, _⟩ := get_at (l := ys) (k := k) (by rw [← Hy.out]; exact hlt)
        obtain ⟨rfl, hb1⟩ := H1.out.resolve_left (by omega)
        obtain ⟨rfl, hb2⟩ := H2.out.resolve_left (by omega)
        obtain ⟨va, ca, ia⟩ := PT.Row.get (PT.Row.below hbB hb1 Hr.out) ha
        obtain ⟨vb, cb, ib⟩ := PT.Row.get (PT.Row.below hbB hb2 Hs.out) hb
        have g1 : b1 < wr.heap.size := by omega
        have g2 : b2 < wr.heap.size := by omega
        have c1 : wr.cell? ⟨b1, o1 + k * 3, none⟩ = some (.int .u8 a.kind) := ca 0 _ rfl
        have c2 := ca 1 _ rfl
        have c3 := ca 2 _ rfl
        have d1 : wr.cell? ⟨b2, o2 + k * 3, none⟩ = some (.int .u8 b.kind) := cb 0 _ rfl
        have d2 := cb 1 _ rfl
        have d3 := cb 2 _ rfl
        obtain ⟨p1, q1, t1, rfl⟩ := ia.shape
        obtain ⟨p2, q2, t2, rfl⟩ := ib.shape
        have C := Lib.hid (H.out a hin b (.slice p1 q1 t1) (.slice p2 q2 t2))
        have Ia := Lib.hid ia
        have Ib := Lib.hid ib
        have Ha := Lib.hid ha
        have Hb := Lib.hid hb
        clear ha hb ia ib ca cb hin
        go_wp2_with fail
        refine (C.out _ ?_ ?_ ?_).mono ?_
        · simp; omega
        · exact PT.In.below (((Below.refl B _).alloc (by omega) _).alloc (by simp; omega) _) Ia.out
        · exact PT.In.below (((Below.refl B _).alloc (by omega) _).alloc (by simp; omega) _) Ib.out
        rintro e w2 ⟨rfl, b2⟩
        have b3 := ((hbel.alloc (by omega) _).alloc (by simp; omega) _).trans (b2.mono (by simp; omega))
        clear b2 c1 c2 c3 d1 d2 d3
        cases hs : sameT a b
        · have hres := Lib.hid (allW_no Ha.out Hb.out hs)
          clear hs
          go_wp2
          go_ret
          exact ⟨ret_bool hres.out.symm, b3⟩
        · have HK2 := Lib.hid (allW_step HK.out Ha.out Hb.out hs)
          clear hs
          go_wp2
          go_roundw
          case rel => exact ⟨k + 1, by omega, by go_num, b3, HK2⟩
          case measure => simp [intOf]; omega
      · obtain rfl : k = n := by omega
        have hres := Lib.hid (Hyes.out fun j x y hx hy => HK.out j x y (by rw [Hx.out]; exact (List.getElem?_eq_some_iff.1 hx).1) hx hy)
        go_wp2
        go_ret
        exact ⟨ret_bool hres.out.symm, hbel⟩
  · have e1 : ((xs.length : Int) != (ys.length : Int)) = true := by rw [bne_iff_ne]; omega
    rw [allW_len hn]
    clear hn
    go_enter Try.func18, Try.ntmps18
    go_wp2
    go_ret
    exact ⟨rfl, Below.refl _ _⟩

theorem sameT_step (B : Nat) (k : Int) (n : ByteArray) (xs : List PT) (H : ∀ a, a ∈ xs → SameTAt B a) : SameTAt B (.mk k n xs) := by
  intro b va vb w hB ha hb
  obtain ⟨k2, n2, ys⟩ := b
  obtain ⟨⟨u1, z1⟩, b1, o1, s1, r1⟩ := ha
  obtain ⟨⟨u2, z2⟩, b2, o2, s2, r2⟩ := hb
  obtain ⟨p1, q1, rfl⟩ := s1.shape
  obtain ⟨p2, q2, rfl⟩ := s2.shape
  show Calls Try.prog 16 #[.agg #[.int .u8 k, .string n, .slice p1 xs.length q1], .agg #[.int .u8 k2, .string n2, .slice p2 ys.length q2]] w _
  go_enter Try.func16, Try.ntmps16
  go_wp2_with fail
  · have e1 : k = k2 := by assumption
    have e2 : n.toList = n2.toList := by assumption
    refine (equalT_calls B xs ys (Lib.hid H) b1 o1 b2 o2 _ _ _ (by simp; omega) s1 (PT.Row.below' (((Below.refl B w).alloc hB _).alloc (by simp; omega) _) s1 r1) s2 (PT.Row.below' (((Below.refl B w).alloc hB _).alloc (by simp; omega) _) s2 r2)).mono ?_
    rintro e w' ⟨rfl, b3⟩
    go_wp2
    go_ret
    exact ⟨ret_bool (by rw [sameT_mk, e1, toList_same e2]; simp), (((Below.refl _ w).alloc (Nat.le_refl _) _).alloc (by simp) _).trans (b3.mono (by simp; omega))⟩
  · have e2 : ¬ n.toList = n2.toList := by assumption
    go_ret
    exact ⟨ret_bool (by rw [sameT_mk, toList_diff e2]; simp), ((Below.refl _ w).alloc (Nat.le_refl _) _).alloc (by simp) _⟩
  · have e1 : ¬ k = k2 := by assumption
    go_ret
    exact ⟨ret_bool (by rw [sameT_mk]; simp [e1]), ((Below.refl _ w).alloc (Nat.le_refl _) _).alloc (by simp) _⟩
theorem sameT_calls (B : Nat) (a : PT) : SameTAt B a :=
  PT.rec (motive_1 := SameTAt B) (motive_2 := fun l => ∀ x, x ∈ l → SameTAt B x) (fun k n xs H => sameT_step B k n xs H)
    (fun x h => by cases h) (fun a l ha hl x h => by cases h with | head => exact ha | tail _ h => exact hl x h) a

/-! ### names and places -/
end Go.Proofs.Ytikcjjbnbjjmcaa
