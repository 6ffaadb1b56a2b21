/- The code's copier: its table of closures, strings.Clone, what keeps an At. -/
import Derived.Test.YtojeijeimpffgaaGreatQTreeEachN
import Derived.Test.YtojeijeimpffgaaGreatShelf
import Derived.Deep.RegionHeld3
namespace Go.Proofs.YtojeijeimpffgaaGreat
open Go.RowKit
set_option linter.unusedVariables false

def pAt (b : Nat) : Value := .pointer (some ⟨b, 0, none⟩)
/-- block C is the copier, its closures: kf is what makes an At -/
structure BenchAt (kf : FuncId) (C K : Nat) (W : World) : Prop where
  c : CellsAt W C 0 [.func (.func 65) #[] #[], .func (.func 68) #[] #[.pointer (some ⟨C, 0, none⟩)], .func (.func 70) #[] #[.pointer (some ⟨C, 0, none⟩), .pointer (some ⟨K, 0, none⟩)], .func (.func 72) #[] #[.pointer (some ⟨C, 0, none⟩)], .func (.func 74) #[] #[.pointer (some ⟨C, 0, none⟩), .pointer (some ⟨K, 0, none⟩)], .func (.func 76) #[] #[.pointer (some ⟨C, 0, none⟩)], .func (.func 77) #[] #[.pointer (some ⟨C, 0, none⟩), .pointer (some ⟨K, 0, none⟩)], .func (.func 79) #[] #[.pointer (some ⟨C, 0, none⟩)]]
  k : CellsAt W K 0 [.func (.func kf) #[] #[]]
  hc : C < W.heap.size
  hk : K < W.heap.size
theorem BenchAt.below {kf : FuncId} {C K : Nat} {W W' : World} (h : BenchAt kf C K W) (b : Below W.heap.size W W') : BenchAt kf C K W' :=
  ⟨h.c.below h.hc b, h.k.below h.hk b, Nat.lt_of_lt_of_le h.hc b.size, Nat.lt_of_lt_of_le h.hk b.size⟩
/-- kf makes of an At what a copy has for it -/
structure KeepOf (kf : FuncId) (at' : Bool) : Prop where
  enters : ∀ args w, (callFunc kf args).run Tryz.prog w = .ok (.enter kf args) w
  calls : ∀ (p : Int) W, Calls Tryz.prog kf #[.int .i64 p] W fun e W' => e = .returned (.int .i64 (if at' then p else 0)) ∧ W = W'
attribute [local go_sem ↓] Go.wp_at_zero Go.wp_at_succ
theorem clone_calls (s : ByteArray) (w : World) (h : s.size ≤ 281474976710656) : Calls Tryz.prog 66 #[.string s] w fun e w' => e = .returned (.string s) ∧ Below w.heap.size w w' := by
  have HC := Lib.hid (Tryz.stringslite_Clone s w h)
  go_enter Tryz.func66, Tryz.ntmps66
  go_wp2_with (go_at_call 97; refine HC.out.mono ?_; rintro e w1 ⟨rfl, b1⟩; have B1 := Lib.hid b1; clear b1)
  go_ret
  exact ⟨rfl, B1.out⟩
theorem clone_enters : ∀ args w, (callFunc 66 args).run Tryz.prog w = .ok (.enter 66 args) w := enters_of Tryz.func66 (by kernel_rfl) rfl
theorem keep_copy : KeepOf 46 true where
  enters := enters_of Tryz.func46 (by kernel_rfl) rfl
  calls := fun p W => by
    go_enter Tryz.func46, Tryz.ntmps46
    go_wp2_with fail
    go_ret
    exact ⟨rfl, rfl⟩
theorem keep_erase : KeepOf 47 false where
  enters := enters_of Tryz.func47 (by kernel_rfl) rfl
  calls := fun p W => by
    go_enter Tryz.func47, Tryz.ntmps47
    go_wp2_with fail
    go_ret
    exact ⟨rfl, rfl⟩
theorem keep_i64 {at' : Bool} {p : Int} (h : I64 p) : I64 (if at' then p else 0) := by cases at' <;> first | exact h | rfl
/-! ### small names, short lists -/
inductive SmT : PT → Prop
  | mk (k : Int) (n : ByteArray) (l : List PT) (hn : n.size ≤ 1000000) (h : l.length ≤ 1000000) (h2 : ∀ t, t ∈ l → SmT t) : SmT (.mk k n l)
def SmP (x : PP) : Prop := x.name.size ≤ 1000000 ∧ x.path.length ≤ 1000000 ∧ ∀ s, s ∈ x.path → s.size ≤ 1000000
inductive SmE : PE → Prop
  | mk (op i : Int) (n s : ByteArray) (p : PP) (l : List PE) (pos : Int) (hn : n.size ≤ 1000000) (hs : s.size ≤ 1000000) (hp : SmP p) (h : l.length ≤ 1000000) (h2 : ∀ t, t ∈ l → SmE t) : SmE (.mk op i n s p l pos)
mutual
def SmS : PS → Prop
  | .mk op n s ns t i p es bo el ar pos => (n.size ≤ 1000000 ∧ s.size ≤ 1000000) ∧ (ns.length ≤ 1000000 ∧ ∀ x, x ∈ ns → x.size ≤ 1000000) ∧ SmT t ∧ SmP p ∧ (es.length ≤ 1000000 ∧ ∀ e, e ∈ es → SmE e) ∧ (bo.length ≤ 1000000 ∧ SmSs bo) ∧ (el.length ≤ 1000000 ∧ SmSs el) ∧ (ar.length ≤ 1000000 ∧ SmAs ar)
def SmA : PA → Prop
  | .mk x n bo => (x.size ≤ 1000000 ∧ n.size ≤ 1000000) ∧ bo.length ≤ 1000000 ∧ SmSs bo
def SmSs : List PS → Prop
  | [] => True
  | t :: l => SmS t ∧ SmSs l
def SmAs : List PA → Prop
  | [] => True
  | t :: l => SmA t ∧ SmAs l
end
theorem SmSs.get : ∀ {l : List PS} {t : PS}, SmSs l → t ∈ l → SmS t
  | a :: l, t, h, ht => by
    rw [SmSs] at h
    rcases List.mem_cons.1 ht with rfl | h1
    · exact h.1
    · exact SmSs.get h.2 h1
theorem SmAs.get : ∀ {l : List PA} {t : PA}, SmAs l → t ∈ l → SmA t
  | a :: l, t, h, ht => by
    rw [SmAs] at h
    rcases List.mem_cons.1 ht with rfl | h1
    · exact h.1
    · exact SmAs.get h.2 h1
def SmF (x : PF) : Prop := x.name.size ≤ 1000000 ∧ SmT x.type
def SmI (x : PI) : Prop := x.name.size ≤ 1000000 ∧ (x.fields.length ≤ 1000000 ∧ ∀ f, f ∈ x.fields → SmF f) ∧ SmT x.result ∧ (x.body.length ≤ 1000000 ∧ SmSs x.body) ∧ SmE x.ret
/-! ### rows in new memory that may be written -/
def TsF (m : Nat) (W : World) (l : List PT) (v : Value) : Prop := ∃ b o, SlV W.heap.size v l.length b o ∧ PT.Row W.heap.size (Fr m W) b o l
def EsF (m : Nat) (W : World) (l : List PE) (v : Value) : Prop := ∃ b o, SlV W.heap.size v l.length b o ∧ PE.Row W.heap.size (Fr m W) b o l
def SsF (m : Nat) (W : World) (l : List PS) (v : Value) : Prop := ∃ b o, SlV W.heap.size v l.length b o ∧ PS.Row W.heap.size (Fr m W) b o l
def AsF (m : Nat) (W : World) (l : List PA) (v : Value) : Prop := ∃ b o, SlV W.heap.size v l.length b o ∧ PA.Row W.heap.size (Fr m W) b o l
def FsF (m : Nat) (W : World) (l : List PF) (v : Value) : Prop := ∃ b o, SlV W.heap.size v l.length b o ∧ PF.Row W.heap.size (Fr m W) b o l
def IsF (m : Nat) (W : World) (l : List PI) (v : Value) : Prop := ∃ b o, SlV W.heap.size v l.length b o ∧ PI.Row W.heap.size (Fr m W) b o l
theorem TsF.up {m m' : Nat} {W W' : World} {l : List PT} {v : Value} (hs : W.heap.size ≤ W'.heap.size) (k : Reads (Fr m W) (Fr m' W')) (h : TsF m W l v) : TsF m' W' l v := by
  obtain ⟨b, o, h1, h2⟩ := h; exact ⟨b, o, h1.up hs, PT.Row.reads hs k h2⟩
theorem EsF.up {m m' : Nat} {W W' : World} {l : List PE} {v : Value} (hs : W.heap.size ≤ W'.heap.size) (k : Reads (Fr m W) (Fr m' W')) (h : EsF m W l v) : EsF m' W' l v := by
  obtain ⟨b, o, h1, h2⟩ := h; exact ⟨b, o, h1.up hs, PE.Row.reads hs k h2⟩
theorem SsF.up {m m' : Nat} {W W' : World} {l : List PS} {v : Value} (hs : W.heap.size ≤ W'.heap.size) (k : Reads (Fr m W) (Fr m' W')) (h : SsF m W l v) : SsF m' W' l v := by
  obtain ⟨b, o, h1, h2⟩ := h; exact ⟨b, o, h1.up hs, PS.Row.reads hs k h2⟩
theorem AsF.up {m m' : Nat} {W W' : World} {l : List PA} {v : Value} (hs : W.heap.size ≤ W'.heap.size) (k : Reads (Fr m W) (Fr m' W')) (h : AsF m W l v) : AsF m' W' l v := by
  obtain ⟨b, o, h1, h2⟩ := h; exact ⟨b, o, h1.up hs, PA.Row.reads hs k h2⟩
theorem FsF.up {m m' : Nat} {W W' : World} {l : List PF} {v : Value} (hs : W.heap.size ≤ W'.heap.size) (k : Reads (Fr m W) (Fr m' W')) (h : FsF m W l v) : FsF m' W' l v := by
  obtain ⟨b, o, h1, h2⟩ := h; exact ⟨b, o, h1.up hs, PF.Row.reads hs k h2⟩
theorem IsF.up {m m' : Nat} {W W' : World} {l : List PI} {v : Value} (hs : W.heap.size ≤ W'.heap.size) (k : Reads (Fr m W) (Fr m' W')) (h : IsF m W l v) : IsF m' W' l v := by
  obtain ⟨b, o, h1, h2⟩ := h; exact ⟨b, o, h1.up hs, PI.Row.reads hs k h2⟩
theorem erEs_map (at' : Bool) : ∀ (l : List PE), erEs at' l = l.map (erE at')
  | [] => rfl
  | t :: l => by rw [erEs, erEs_map at' l]; rfl
/-- a store beyond B -/
theorem low_set {B R i : Nat} {W0 w : World} {z : Value} (h : ∀ b o, b < B → w.cell? ⟨b, o, none⟩ = W0.cell? ⟨b, o, none⟩) (hR : B ≤ R) : ∀ b o, b < B → (w.setCell ⟨R, i, none⟩ z).cell? ⟨b, o, none⟩ = W0.cell? ⟨b, o, none⟩ := fun b o hb =>
  (World.cell?_of_block (Below.heap_setCell w _ _ b (by simp; omega))).trans (h b o hb)
theorem low_of {B : Nat} {W0 w : World} (h : Below W0.heap.size W0 w) (hB : B ≤ W0.heap.size) : ∀ b o, b < B → w.cell? ⟨b, o, none⟩ = W0.cell? ⟨b, o, none⟩ := fun b o hb => h.cell (p := ⟨b, o, none⟩) (by simp; omega)
end Go.Proofs.YtojeijeimpffgaaGreat
