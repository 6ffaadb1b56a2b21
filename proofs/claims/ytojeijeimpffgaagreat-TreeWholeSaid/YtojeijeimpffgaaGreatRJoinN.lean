/- Rows that are made as long as they become, and filled one by one: what is in new memory that may be written. -/
import Derived.Test.YtojeijeimpffgaaGreatRJoinA
import Derived.Laws.MakeOwn
import Derived.Test.YtojeijeimpffgaaGreatRTreeCopyI
import Derived.Lib.SliceRun
import Derived.Test.YtojeijeimpffgaaGreatShelf
import Derived.Deep.RegionHeld3
namespace Go.Proofs.YtojeijeimpffgaaGreat
open Go.RowKit
set_option linter.unusedVariables false

/-- block i is one of cells, none of them frozen -/
def free (w : World) (i : Nat) : Bool := match w.heap[i]? with | some (.cells _ _ fr) => fr == (0, 0) | _ => false
theorem free_same {w w' : World} {i : Nat} (h : w'.heap[i]? = w.heap[i]?) : free w' i = free w i := by unfold free; rw [h]
theorem free_of {w : World} {g : Nat} {cs : Array Value} {t : TypeId} (h : w.heap[g]? = some (.cells cs t (0, 0))) : free w g = true := by unfold free; rw [h]; rfl
/-- w with the blocks from m on that may be written -/
def Fr (m : Nat) (w : World) : World := only (fun i => decide (m ≤ i) && free w i) w
theorem Fr.cell {m : Nat} {w : World} {a : Addr} {v : Value} (h : (Fr m w).cell? a = some v) : w.cell? a = some v ∧ m ≤ a.block ∧ free w a.block = true := by
  obtain ⟨h1, h2⟩ := only_cell h
  have h3 : m ≤ a.block ∧ free w a.block = true := by simpa using h1
  exact ⟨h2, h3⟩
theorem Fr.reads {m m' : Nat} {W W' : World} (hm : m' ≤ m) (h : ∀ i, m ≤ i → i < W.heap.size → W'.heap[i]? = W.heap[i]?) : Reads (Fr m W) (Fr m' W') := by
  apply Reads.to_only
  intro a v hc
  obtain ⟨h1, h2, h3⟩ := Fr.cell hc
  have h4 := h a.block h2 (World.block_lt_of_cell? W a h1)
  refine ⟨?_, by rw [World.cell?_of_block (w := W) h4]; exact h1⟩
  have h5 := free_same h4
  simp only [Bool.and_eq_true, decide_eq_true_eq]
  exact ⟨by omega, by rw [h5]; exact h3⟩
theorem Fr.below {m m' : Nat} {W W' : World} (hm : m' ≤ m) (h : Below W.heap.size W W') : Reads (Fr m W) (Fr m' W') := Fr.reads hm fun i _ h2 => h.block i h2
/-- what is read there is read by 'only', too -/
theorem Fr.only {m : Nat} {W : World} : Reads (Fr m W) (only (fun i => decide (m ≤ i)) W) := by
  apply Reads.to_only
  intro a v hc
  obtain ⟨h1, h2, h3⟩ := Fr.cell hc
  exact ⟨by simpa using h2, h1⟩

/-- cells put into a row, from a place on -/
def putAt (cur : Array Value) (o : Nat) : List Value → Array Value
  | [] => cur
  | v :: r => putAt (cur.setIfInBounds o v) (o + 1) r
variable {τ ν : Type}
/-- block g is a row of n, of which the first k are there; all that they have lies from base on, beside the row itself -/
def Srt.Made (S : Srt τ ν) (base g : Nat) (e : TypeId) (l : List τ) (k n : Nat) (W : World) : Prop :=
  ∃ (cur : Array Value) (vs : List ν), W.heap[g]? = some (.cells cur e (0, 0)) ∧ cur.size = n * S.sz ∧ vs.length = k ∧
    ∀ (j : Nat) t x, l[j]? = some t → vs[j]? = some x → (∀ i u, (S.cells t x)[i]? = some u → cur[j * S.sz + i]? = some u) ∧ S.In W.heap.size (only (fun i => decide (base ≤ i) && (decide (i ≠ g) && free W i)) W) t x
theorem Srt.Made.start (S : Srt τ ν) {base g : Nat} {e : TypeId} {l : List τ} {n : Nat} {W : World} {cur : Array Value} (h : W.heap[g]? = some (.cells cur e (0, 0))) (hs : cur.size = n * S.sz) : S.Made base g e l 0 n W :=
  ⟨cur, [], h, hs, rfl, fun j t x _ h => by simp at h⟩
/-- the cells of the next one are there -/
theorem Srt.Made.there {S : Srt τ ν} {base g : Nat} {e : TypeId} {l : List τ} {k n : Nat} {W : World} (h : S.Made base g e l k n W) {j i : Nat} (hj : j < n) (hi : i < S.sz) : ∃ z, W.cell? ⟨g, j * S.sz + i, none⟩ = some z := by
  obtain ⟨cur, vs, h1, h2, _⟩ := h
  have h3 : (j + 1) * S.sz ≤ n * S.sz := Nat.mul_le_mul_right _ hj
  rw [Nat.add_mul, Nat.one_mul] at h3
  refine ⟨cur[j * S.sz + i]'(by omega), ?_⟩
  rw [cell_of_row W g _ cur e (0, 0) h1, Array.getElem?_eq_getElem]
theorem Srt.Made.all {S : Srt τ ν} {base g : Nat} {e : TypeId} {l : List τ} {n : Nat} {W : World} (h : S.Made base g e l n n W) (hn : n = l.length) (hb : base ≤ g) : S.Row W.heap.size (Fr base W) g 0 l := by
  obtain ⟨cur, vs, h1, h2, h3, h4⟩ := h
  intro j t hj
  have hjl := (List.getElem?_eq_some_iff.1 hj).1
  obtain ⟨x, hx⟩ : ∃ x, vs[j]? = some x := ⟨_, List.getElem?_eq_getElem (by omega)⟩
  obtain ⟨a1, a2⟩ := h4 j t x hj hx
  have hg := free_of h1
  refine ⟨x, fun i u hu => ?_, S.reads (Nat.le_refl _) ?_ a2⟩
  · unfold Fr
    rw [only_in (by simp only [Bool.and_eq_true, decide_eq_true_eq]; exact ⟨hb, hg⟩), cell_of_row W g _ cur e (0, 0) h1, Nat.zero_add]
    exact a1 i u hu
  · apply Reads.to_only
    intro a v hc
    obtain ⟨q1, q2⟩ := only_cell hc
    have q3 : base ≤ a.block ∧ ¬ a.block = g ∧ free W a.block = true := by simpa using q1
    exact ⟨by simp only [Bool.and_eq_true, decide_eq_true_eq]; exact ⟨q3.1, q3.2.2⟩, q2⟩
theorem Srt.Made.lt {S : Srt τ ν} {base g : Nat} {e : TypeId} {l : List τ} {k n : Nat} {W : World} (h : S.Made base g e l k n W) : g < W.heap.size := by
  obtain ⟨cur, vs, h1, _⟩ := h
  rcases Nat.lt_or_ge g W.heap.size with h | h
  · exact h
  · rw [Array.getElem?_eq_none h] at h1; cases h1
theorem Srt.Made.fz {S : Srt τ ν} {base g : Nat} {e : TypeId} {l : List τ} {k n : Nat} {W : World} (h : S.Made base g e l k n W) (o : Nat) : W.frozen? ⟨g, o, none⟩ = false := by
  obtain ⟨cur, vs, h1, _⟩ := h
  exact box_frozen h1
theorem Srt.Made.below {S : Srt τ ν} {base g : Nat} {e : TypeId} {l : List τ} {k n : Nat} {W W' : World} (h : S.Made base g e l k n W) (b : Below W.heap.size W W') : S.Made base g e l k n W' := by
  have hg := h.lt
  obtain ⟨cur, vs, h1, h2, h3, h4⟩ := h
  refine ⟨cur, vs, (b.block g hg).trans h1, h2, h3, fun j t x a c => ⟨(h4 j t x a c).1, S.reads b.size ?_ (h4 j t x a c).2⟩⟩
  apply Reads.to_only
  intro a v hc
  obtain ⟨q1, q2⟩ := only_cell hc
  have q3 : base ≤ a.block ∧ ¬ a.block = g ∧ free W a.block = true := by simpa using q1
  have q4 := b.block a.block (World.block_lt_of_cell? W a q2)
  exact ⟨by simp only [Bool.and_eq_true, decide_eq_true_eq]; exact ⟨q3.1, q3.2.1, by rw [free_same q4]; exact q3.2.2⟩, by rw [World.cell?_of_block (w := W) q4]; exact q2⟩
end Go.Proofs.YtojeijeimpffgaaGreat
/- The code's copyEach: string (made by gen_each.py). -/
namespace Go.Proofs.YtojeijeimpffgaaGreat
open Go.RowKit
set_option linter.unusedVariables false

attribute [local go_sem ↓] Go.wp_at_zero Go.wp_at_succ
end Go.Proofs.YtojeijeimpffgaaGreat
/- The code's copier: its table of closures, strings.Clone, what keeps an At. -/
namespace Go.Proofs.YtojeijeimpffgaaGreat
open Go.RowKit
set_option linter.unusedVariables false

def pAt (b : Nat) : Value := .pointer (some ⟨b, 0, none⟩)
/-- block C is the copier, its closures: kf is what makes an At -/
structure BenchAt (kf : FuncId) (C K : Nat) (W : World) : Prop where
  c : CellsAt W C 0 [.func (.func 65) #[] #[], .func (.func 68) #[] #[.pointer (some ⟨C, 0, none⟩)], .func (.func 70) #[] #[.pointer (some ⟨C, 0, none⟩), .pointer (some ⟨K, 0, none⟩)], .func (.func 72) #[] #[.pointer (some ⟨C, 0, none⟩)], .func (.func 74) #[] #[.pointer (some ⟨C, 0, none⟩), .pointer (some ⟨K, 0, none⟩)], .func (.func 76) #[] #[.pointer (some ⟨C, 0, none⟩)], .func (.func 77) #[] #[.pointer (some ⟨C, 0, none⟩), .pointer (some ⟨K, 0, none⟩)], .func (.func 79) #[] #[.pointer (some ⟨C, 0, none⟩)]]
  k : CellsAt W K 0 [.func (.func kf) #[] #[]]
  hc : C < W.heap.size
  hk : K < W.heap.size
theorem BenchAt.below {kf : FuncId} {C K : Nat} {W W' : World} (h : BenchAt kf C K W) (b : Below W.heap.size W W') : BenchAt kf C K W' :=
  ⟨h.c.below h.hc b, h.k.below h.hk b, Nat.lt_of_lt_of_le h.hc b.size, Nat.lt_of_lt_of_le h.hk b.size⟩
/-- kf makes of an At what a copy has for it -/
structure KeepOf (kf : FuncId) (at' : Bool) : Prop where
  enters : ∀ args w, (callFunc kf args).run Tryz.prog w = .ok (.enter kf args) w
  calls : ∀ (p : Int) W, Calls Tryz.prog kf #[.int .i64 p] W fun e W' => e = .returned (.int .i64 (if at' then p else 0)) ∧ W = W'
attribute [local go_sem ↓] Go.wp_at_zero Go.wp_at_succ
/-! ### small names, short lists -/
inductive SmT : PT → Prop
  | mk (k : Int) (n : ByteArray) (l : List PT) (hn : n.size ≤ 1000000) (h : l.length ≤ 1000000) (h2 : ∀ t, t ∈ l → SmT t) : SmT (.mk k n l)
def SmP (x : PP) : Prop := x.name.size ≤ 1000000 ∧ x.path.length ≤ 1000000 ∧ ∀ s, s ∈ x.path → s.size ≤ 1000000
inductive SmE : PE → Prop
  | mk (op i : Int) (n s : ByteArray) (p : PP) (l : List PE) (pos : Int) (hn : n.size ≤ 1000000) (hs : s.size ≤ 1000000) (hp : SmP p) (h : l.length ≤ 1000000) (h2 : ∀ t, t ∈ l → SmE t) : SmE (.mk op i n s p l pos)
mutual
def SmS : PS → Prop
  | .mk op n s ns t i p es bo el ar pos => (n.size ≤ 1000000 ∧ s.size ≤ 1000000) ∧ (ns.length ≤ 1000000 ∧ ∀ x, x ∈ ns → x.size ≤ 1000000) ∧ SmT t ∧ SmP p ∧ (es.length ≤ 1000000 ∧ ∀ e, e ∈ es → SmE e) ∧ (bo.length ≤ 1000000 ∧ SmSs bo) ∧ (el.length ≤ 1000000 ∧ SmSs el) ∧ (ar.length ≤ 1000000 ∧ SmAs ar)
def SmA : PA → Prop
  | .mk x n bo => (x.size ≤ 1000000 ∧ n.size ≤ 1000000) ∧ bo.length ≤ 1000000 ∧ SmSs bo
def SmSs : List PS → Prop
  | [] => True
  | t :: l => SmS t ∧ SmSs l
def SmAs : List PA → Prop
  | [] => True
  | t :: l => SmA t ∧ SmAs l
end
theorem SmSs.get : ∀ {l : List PS} {t : PS}, SmSs l → t ∈ l → SmS t
  | a :: l, t, h, ht => by
    rw [SmSs] at h
    rcases List.mem_cons.1 ht with rfl | h1
    · exact h.1
    · exact SmSs.get h.2 h1
theorem SmAs.get : ∀ {l : List PA} {t : PA}, SmAs l → t ∈ l → SmA t
  | a :: l, t, h, ht => by
    rw [SmAs] at h
    rcases List.mem_cons.1 ht with rfl | h1
    · exact h.1
    · exact SmAs.get h.2 h1
def SmF (x : PF) : Prop := x.name.size ≤ 1000000 ∧ SmT x.type
def SmI (x : PI) : Prop := x.name.size ≤ 1000000 ∧ (x.fields.length ≤ 1000000 ∧ ∀ f, f ∈ x.fields → SmF f) ∧ SmT x.result ∧ (x.body.length ≤ 1000000 ∧ SmSs x.body) ∧ SmE x.ret
/-! ### rows in new memory that may be written -/
def TsF (m : Nat) (W : World) (l : List PT) (v : Value) : Prop := ∃ b o, SlV W.heap.size v l.length b o ∧ PT.Row W.heap.size (Fr m W) b o l
def EsF (m : Nat) (W : World) (l : List PE) (v : Value) : Prop := ∃ b o, SlV W.heap.size v l.length b o ∧ PE.Row W.heap.size (Fr m W) b o l
def SsF (m : Nat) (W : World) (l : List PS) (v : Value) : Prop := ∃ b o, SlV W.heap.size v l.length b o ∧ PS.Row W.heap.size (Fr m W) b o l
def AsF (m : Nat) (W : World) (l : List PA) (v : Value) : Prop := ∃ b o, SlV W.heap.size v l.length b o ∧ PA.Row W.heap.size (Fr m W) b o l
def FsF (m : Nat) (W : World) (l : List PF) (v : Value) : Prop := ∃ b o, SlV W.heap.size v l.length b o ∧ PF.Row W.heap.size (Fr m W) b o l
def IsF (m : Nat) (W : World) (l : List PI) (v : Value) : Prop := ∃ b o, SlV W.heap.size v l.length b o ∧ PI.Row W.heap.size (Fr m W) b o l
theorem TsF.up {m m' : Nat} {W W' : World} {l : List PT} {v : Value} (hs : W.heap.size ≤ W'.heap.size) (k : Reads (Fr m W) (Fr m' W')) (h : TsF m W l v) : TsF m' W' l v := by
  obtain ⟨b, o, h1, h2⟩ := h; exact ⟨b, o, h1.up hs, PT.Row.reads hs k h2⟩
theorem EsF.up {m m' : Nat} {W W' : World} {l : List PE} {v : Value} (hs : W.heap.size ≤ W'.heap.size) (k : Reads (Fr m W) (Fr m' W')) (h : EsF m W l v) : EsF m' W' l v := by
  obtain ⟨b, o, h1, h2⟩ := h; exact ⟨b, o, h1.up hs, PE.Row.reads hs k h2⟩
theorem SsF.up {m m' : Nat} {W W' : World} {l : List PS} {v : Value} (hs : W.heap.size ≤ W'.heap.size) (k : Reads (Fr m W) (Fr m' W')) (h : SsF m W l v) : SsF m' W' l v := by
  obtain ⟨b, o, h1, h2⟩ := h; exact ⟨b, o, h1.up hs, PS.Row.reads hs k h2⟩
theorem AsF.up {m m' : Nat} {W W' : World} {l : List PA} {v : Value} (hs : W.heap.size ≤ W'.heap.size) (k : Reads (Fr m W) (Fr m' W')) (h : AsF m W l v) : AsF m' W' l v := by
  obtain ⟨b, o, h1, h2⟩ := h; exact ⟨b, o, h1.up hs, PA.Row.reads hs k h2⟩
theorem FsF.up {m m' : Nat} {W W' : World} {l : List PF} {v : Value} (hs : W.heap.size ≤ W'.heap.size) (k : Reads (Fr m W) (Fr m' W')) (h : FsF m W l v) : FsF m' W' l v := by
  obtain ⟨b, o, h1, h2⟩ := h; exact ⟨b, o, h1.up hs, PF.Row.reads hs k h2⟩
theorem IsF.up {m m' : Nat} {W W' : World} {l : List PI} {v : Value} (hs : W.heap.size ≤ W'.heap.size) (k : Reads (Fr m W) (Fr m' W')) (h : IsF m W l v) : IsF m' W' l v := by
  obtain ⟨b, o, h1, h2⟩ := h; exact ⟨b, o, h1.up hs, PI.Row.reads hs k h2⟩
end Go.Proofs.YtojeijeimpffgaaGreat
