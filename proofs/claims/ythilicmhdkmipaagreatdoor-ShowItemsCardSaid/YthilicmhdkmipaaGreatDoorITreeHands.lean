/- A range over a method value ('for y := range x.has'): what a function that hands out parts does, and the law of the walk of a loop over it. -/
import Derived.RangeFuncWrites
import Derived.RangeFuncCalls
import Derived.RangeFuncLeaves
import Derived.RangeFuncBound
import Derived.Below
import Derived.Lib.Hide
namespace Go.Proofs.YthilicmhdkmipaaGreatDoor
open Go.RowKit
set_option linter.unusedVariables false

/-- what a round keeps: all that lies below lo, or at or beyond hi -/
structure Keeps (lo hi : Nat) (W W' : World) : Prop where
  os : W'.os = W.os
  tape : W'.tape = W.tape
  output : W'.output = W.output
  size : W.heap.size ≤ W'.heap.size
  block : ∀ b, b < W.heap.size → (b < lo ∨ hi ≤ b) → W'.heap[b]? = W.heap[b]?
theorem Keeps.refl (lo hi : Nat) (W : World) : Keeps lo hi W W := ⟨rfl, rfl, rfl, Nat.le_refl _, fun _ _ _ => rfl⟩
theorem Keeps.trans {lo hi : Nat} {A B C : World} (h : Keeps lo hi A B) (k : Keeps lo hi B C) : Keeps lo hi A C :=
  ⟨k.os.trans h.os, k.tape.trans h.tape, k.output.trans h.output, Nat.le_trans h.size k.size, fun b hb hc => (k.block b (by have := h.size; omega) hc).trans (h.block b hb hc)⟩
theorem Keeps.of_below {lo hi : Nat} {A B : World} (h : Below A.heap.size A B) : Keeps lo hi A B := ⟨h.os, h.tape, h.output, h.size, fun b hb _ => h.block b hb⟩
theorem Keeps.wider {lo hi lo' hi' : Nat} {A B : World} (h : Keeps lo hi A B) (h1 : lo' ≤ lo) (h2 : hi ≤ hi') : Keeps lo' hi' A B := ⟨h.os, h.tape, h.output, h.size, fun b hb hc => h.block b hb (by omega)⟩
theorem Keeps.below {lo hi : Nat} {A B : World} (h : Keeps lo hi A B) (hl : lo ≤ A.heap.size) : Below lo A B := ⟨h.os, h.tape, h.output, h.size, fun b hb => h.block b (by omega) (.inl hb)⟩
theorem Keeps.setCell {lo hi : Nat} {A B : World} (h : Keeps lo hi A B) {p : Addr} (h1 : lo ≤ p.block) (h2 : p.block < hi) (u : Value) : Keeps lo hi A (B.setCell p u) :=
  h.trans ⟨rfl, rfl, rfl, by simp [World.setCell], fun b _ hc => Below.heap_setCell _ _ _ _ (by omega)⟩
theorem Keeps.putObj {lo hi : Nat} {A B : World} (h : Keeps lo hi A B) {l : Nat} (h1 : lo ≤ l) (h2 : l < hi) (o : Obj) : Keeps lo hi A (B.putObj l o) :=
  h.trans ⟨rfl, rfl, rfl, by simp, fun b _ hc => World.putObj_heap_other (by omega)⟩
theorem Keeps.cell {lo hi : Nat} {A B : World} (h : Keeps lo hi A B) {p : Addr} (hp : p.block < A.heap.size) (hc : p.block < lo ∨ hi ≤ p.block) : B.cell? p = A.cell? p := World.cell?_of_block (w := A) (h.block _ hp hc)
theorem below_putObj {n l : Nat} {A B : World} (h : Below n A B) (hl : n ≤ l) (o : Obj) : Below n A (B.putObj l o) :=
  h.trans ⟨rfl, rfl, rfl, by simp, fun b hb => World.putObj_heap_other (by omega)⟩

/-- what the iterator's own steps (new blocks, draws) leave true -/
def Ext (J : Nat → World → Prop) : Prop := ∀ k A B, J k A → Below A.heap.size A B → J k B
theorem ext_shift {J : Nat → World → Prop} (h : Ext J) (k0 : Nat) : Ext (fun k => J (k0 + k)) := fun k A B hj hb => h _ A B hj hb

/-- the rounds, as the one who calls yield is handed them: each value of the row in its turn -/
def Rounds (P : Program) (m l lo hi : Nat) (kids : List Value) (J Jx : Nat → World → Prop) : Prop :=
  ∀ (k : Nat) (v : Value) (W : World), kids[k]? = some v → hi ≤ W.heap.size → J k W →
    YieldAt Fence.wide m P l #[v] W fun e W' => (e = .returned (.bool true) ∧ J (k + 1) W' ∧ Keeps lo hi W W') ∨ (e = .returned (.bool false) ∧ Jx k W' ∧ Keeps lo hi W W')
/-- an iterator: whatever the rounds: all values have come, or a round has said no more -/
def Hands (P : Program) (lo gf : Nat) (r : Value) (kids : List Value) (w : World) : Prop :=
  ∀ (m l : Nat) (J Jx : Nat → World → Prop), Ext J → Ext Jx → Rounds P m l lo w.heap.size kids J Jx → J 0 w →
    CallsIn Fence.wide m P gf #[r, .func (.yield l) #[] #[]] w fun e W' => (∃ v, e = .returned v) ∧ (J kids.length W' ∨ ∃ k, k < kids.length ∧ Jx k W')
theorem room_wide' (k : Nat) : Fence.wide.room k := fun d h => by cases h
theorem RoundIn.anyDepth {m m' : Nat} {P : Program} {l : Nat} {f : FuncId} {tmps : Array Value} {assign body : Code} {w : World} {R : Ending → World → Prop}
    (h : RoundIn Fence.wide m P l f tmps assign body w R) : RoundIn Fence.wide m' P l f tmps assign body w R := ⟨h.1, fun c cs _ => h.2 c cs (room_wide' _)⟩
theorem YieldAt.anyDepth {m : Nat} (m' : Nat) {P : Program} {l : Nat} {args : Array Value} {W : World} {R : Ending → World → Prop} (h : YieldAt Fence.wide m P l args W R) : YieldAt Fence.wide m' P l args W R := by
  obtain ⟨fn, tmps, assign, body, hy, hR⟩ := h
  exact ⟨fn, tmps, assign, body, hy, RoundIn.anyDepth hR⟩
theorem Rounds.any {P : Program} {m l lo hi : Nat} {kids : List Value} {J Jx : Nat → World → Prop} (h : Rounds P m l lo hi kids J Jx) (m' : Nat) : Rounds P m' l lo hi kids J Jx :=
  fun k v W hv hW hj => YieldAt.anyDepth m' (h k v W hv hW hj)
theorem Rounds.up {P : Program} {m l lo hi hi' : Nat} {kids : List Value} {J Jx : Nat → World → Prop} (h : Rounds P m l lo hi kids J Jx) (hh : hi ≤ hi') : Rounds P m l lo hi' kids J Jx :=
  fun k v W hv hW hj => YieldAt.mono (h k v W hv (by omega) hj) fun e W' hr => hr.elim (fun ⟨a, b, c⟩ => .inl ⟨a, b, c.wider (Nat.le_refl _) hh⟩) (fun ⟨a, b, c⟩ => .inr ⟨a, b, c.wider (Nat.le_refl _) hh⟩)

/-- how a round's body may be left: off its end, or by a return -/
def methPost (lo hi : Nat) (I Ix : Nat → World → Prop) (k : Nat) (W : World) : Exit → Act → World → Prop
  | .normal, _, W' => Keeps lo hi W W' ∧ I (k + 1) W'
  | .ret, _, W' => Keeps lo hi W W' ∧ Ix k W'
  | _, _, _ => False

set_option maxHeartbeats 1000000 in
/-- the law of a range over a method value -/
theorem wpIn_rangeMeth {P : Program} {n : Nat} {g : Operand} {ps : Array Tmp} {assign body : Code} {Q : Exit → Act → World → Prop} {a : Act} {w : World} (nm : String) (x r : Value) (gf : Nat)
    (hg : a.eval g = .func (.method nm) #[x] #[]) (hm : ∀ args w, (callMethod x nm args).run P w = .ok (.enter gf (#[r] ++ args)) w)
    (kids : List Value) (lo : Nat) (hlo : lo ≤ w.heap.size) (hps : ps.size = 1) (hseq : ∀ W, Below w.heap.size w W → Hands P lo gf r kids W)
    (I Ix : Nat → World → Prop) (hI : ∀ k A B, I k A → Below w.heap.size A B → I k B) (hIx : ∀ k A B, Ix k A → Below w.heap.size A B → Ix k B) (h0 : I 0 w) (a₁ : Value → Act)
    (hassign : ∀ (l : Nat) (x : Value) (W : World) (K : Act → World → Prop), K (a₁ x) W →
      assign.wpIn (Fence.wide.inRound l) (n - 1 - 1) P (Exit.then K (fun _ _ _ => False)) { tmps := (ps.zip #[x]).foldl (fun t (p, v) => t.setIfInBounds p v) a.tmps, defers := [] } W)
    (hbody : ∀ (l k : Nat) (v : Value) (W : World), kids[k]? = some v → I k W → w.heap.size ≤ W.heap.size → body.wpIn (Fence.wide.inRound l) (n - 1 - 1) P (methPost lo w.heap.size I Ix k W) (a₁ v) W)
    (hdone : ∀ (D : Nat) (W : World), w.heap.size ≤ D → I kids.length W → W.heap[D]? = some (.deferred (some [])) → Q .normal { a with defers := { target := .collected D, args := #[] } :: a.defers } W)
    (hstop : ∀ (D k : Nat) (W : World), w.heap.size ≤ D → k < kids.length → Ix k W → W.heap[D]? = some (.deferred (some [])) → Code.ret.wpIn Fence.wide n P Q { a with defers := { target := .collected D, args := #[] } :: a.defers } W) :
    (Code.rangeFunc g ps assign body).wpIn Fence.wide n P Q a w := by
  refine wpIn_rangeFunc ?_
  intro fn hfn
  rw [show Fence.wide.round = none from rfl]
  obtain ⟨rec, hrec⟩ : ∃ rec : LoopState → Option Code → Loop, rec = fun st pe => { state := st, pending := pe, fn, tmps := a.tmps, params := ps, assign, body, defers := w.heap.size } := ⟨_, rfl⟩
  obtain ⟨W1, hW1⟩ : ∃ W1, (w.alloc (.deferred (some []))).alloc (.loop (rec .ready none)) = W1 := ⟨_, rfl⟩
  have hL1 : W1.heap[w.heap.size + 1]? = some (.loop (rec .ready none)) := by
    rw [← hW1]; have := World.alloc_heap_new (w.alloc (.deferred (some []))) (.loop (rec .ready none)); rwa [World.size_alloc] at this
  have hK1 : W1.heap[w.heap.size]? = some (.deferred (some [])) := by
    rw [← hW1]; exact (Below.heap_alloc _ _ _ (by simp)).trans (World.alloc_heap_new w _)
  have hb1 : Below w.heap.size w W1 := by
    rw [← hW1]; exact ((Below.refl _ w).alloc (Nat.le_refl _) _).alloc (by simp) _
  have hs1 : W1.heap.size = w.heap.size + 2 := by rw [← hW1]; simp
  have hI1 : I 0 W1 := hI _ _ _ h0 hb1
  refine ⟨w.heap.size + 1, [{ target := .collected w.heap.size, args := #[] }], W1, { target := .fn (.method nm) #[], args := #[x, .func (.yield (w.heap.size + 1)) #[] #[]] }, W1, gf,
    #[r, .func (.yield (w.heap.size + 1)) #[] #[]], W1, ?_, ?_, ?_, ?_, fun h => by simp [Fence.wide] at h, ?_⟩
  · rw [← hW1, hrec]; exact run_enterLoop_outer _ _ _ _ _
  · simp only [resolve, hg]
    simp [go_sem]
  · intro f' hf'; trivial
  · simp [invoke, go_sem, hm]
  · have rd : Rounds P (n - 1) (w.heap.size + 1) lo W1.heap.size kids
        (fun k W => I k W ∧ W.heap[w.heap.size + 1]? = some (.loop (rec .ready none)) ∧ W.heap[w.heap.size]? = some (.deferred (some [])))
        (fun k W => Ix k W ∧ W.heap[w.heap.size + 1]? = some (.loop (rec .done (some .ret))) ∧ W.heap[w.heap.size]? = some (.deferred (some []))) := by
      rintro k v W hv hW ⟨hi, hl, hk⟩
      have hlt : w.heap.size + 1 < W.heap.size := (Array.getElem?_eq_some_iff.1 hl).1
      have hy := run_yield (P := P) (args := #[v]) hl (by rw [hrec]; exact hps.symm)
      rw [hrec] at hy
      refine YieldAt.anyDepth (n - 1) (m := n - 1 - 1) ⟨fn, _, assign, body, hy, roundIn_of_wpIn hfn (hassign _ v W _ ⟨_, run_beginRound hl (by rw [hrec]), ?_⟩)⟩
      have hl2 : (W.putObj (w.heap.size + 1) (.loop { rec .ready none with state := .busy })).heap[w.heap.size + 1]? = some (.loop { rec .ready none with state := .busy }) := World.putObj_heap_same hlt
      have hk2 : (W.putObj (w.heap.size + 1) (.loop { rec .ready none with state := .busy })).heap[w.heap.size]? = some (.deferred (some [])) := (World.putObj_heap_other (by omega)).trans hk
      refine wpIn_mono (hbody _ k v _ hv (hI _ _ _ hi (below_putObj (Below.refl _ _) (by omega) _)) (by simp; omega)) ?_
      have fin : ∀ (jump : Option Code) (W3 : World), Keeps lo w.heap.size (W.putObj (w.heap.size + 1) (.loop { rec .ready none with state := .busy })) W3 →
          (Instr.endRound (w.heap.size + 1) jump).run P W3 = .ok (.bool jump.isNone) (W3.putObj (w.heap.size + 1) (.loop (rec (if jump.isNone then .ready else .done) jump))) ∧
          (W3.putObj (w.heap.size + 1) (.loop (rec (if jump.isNone then .ready else .done) jump))).heap[w.heap.size + 1]? = some (.loop (rec (if jump.isNone then .ready else .done) jump)) ∧
          (W3.putObj (w.heap.size + 1) (.loop (rec (if jump.isNone then .ready else .done) jump))).heap[w.heap.size]? = some (.deferred (some [])) := fun jump W3 hk3 => by
        have hl3 := (hk3.block (w.heap.size + 1) (by simp; omega) (.inr (by omega))).trans hl2
        have := run_endRound (P := P) jump hl3
        rw [hrec] at this ⊢
        exact ⟨this, World.putObj_heap_same (Array.getElem?_eq_some_iff.1 hl3).1, (World.putObj_heap_other (by omega)).trans ((hk3.block w.heap.size (by simp; omega) (.inr (Nat.le_refl _))).trans hk2)⟩
      rintro e a3 W3 hp
      cases e with
      | normal =>
        obtain ⟨hk3, hi3⟩ := hp
        obtain ⟨hr, hl4, hk4⟩ := fin none W3 hk3
        exact ⟨_, _, hr, .inl ⟨rfl, ⟨hI _ _ _ hi3 (below_putObj (Below.refl _ _) (by omega) _), hl4, hk4⟩,
          ((((Keeps.refl lo W1.heap.size W).putObj (by omega) (by omega) _).trans (hk3.wider (Nat.le_refl _) (by omega))).putObj (by omega) (by omega) _)⟩⟩
      | ret =>
        obtain ⟨hk3, hi3⟩ := hp
        obtain ⟨hr, hl4, hk4⟩ := fin (some .ret) W3 hk3
        exact ⟨_, _, hr, .inr ⟨rfl, ⟨hIx _ _ _ hi3 (below_putObj (Below.refl _ _) (by omega) _), hl4, hk4⟩,
          ((((Keeps.refl lo W1.heap.size W).putObj (by omega) (by omega) _).trans (hk3.wider (Nat.le_refl _) (by omega))).putObj (by omega) (by omega) _)⟩⟩
      | exit id => exact hp.elim
      | goto t => exact hp.elim
      | panic ch => exact hp.elim
      | outgrown => exact hp.elim
    have ex : ∀ {A B : World} {l : Nat} {o : Obj}, A.heap[l]? = some o → Below A.heap.size A B → B.heap[l]? = some o := fun h hb => (hb.block _ (Array.getElem?_eq_some_iff.1 h).1).trans h
    refine (hseq W1 hb1 (n - 1) (w.heap.size + 1) _ _
      (fun k A B hj hb => ⟨hI _ _ _ hj.1 (hb.mono (by have := (Array.getElem?_eq_some_iff.1 hj.2.1).1; omega)), ex hj.2.1 hb, ex hj.2.2 hb⟩)
      (fun k A B hj hb => ⟨hIx _ _ _ hj.1 (hb.mono (by have := (Array.getElem?_eq_some_iff.1 hj.2.1).1; omega)), ex hj.2.1 hb, ex hj.2.2 hb⟩) rd ⟨hI1, hL1, hK1⟩).mono ?_
    rintro e W2 ⟨⟨v, rfl⟩, (⟨hi, hl, hk⟩ | ⟨k, hkk, hi, hl, hk⟩)⟩
    · exact ⟨none, _, by have := run_endLoop (P := P) hl (by rw [hrec]; simp); rw [hrec] at this; exact this, hdone _ _ (Nat.le_refl _) (hI _ _ _ hi (below_putObj (Below.refl _ _) (by omega) _)) ((World.putObj_heap_other (by omega)).trans hk)⟩
    · exact ⟨some .ret, _, by have := run_endLoop (P := P) hl (by rw [hrec]; simp); rw [hrec] at this; exact this, hstop _ k _ (Nat.le_refl _) hkk (hIx _ _ _ hi (below_putObj (Below.refl _ _) (by omega) _)) ((World.putObj_heap_other (by omega)).trans hk)⟩
end Go.Proofs.YthilicmhdkmipaaGreatDoor

