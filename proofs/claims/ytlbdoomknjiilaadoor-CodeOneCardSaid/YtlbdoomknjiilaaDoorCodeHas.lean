/- slices.ContainsFunc, slices.IndexFunc of rows of texts, ints, instructions, functions, structs, fields (made by gen_codehas.py). -/
import Derived.Test.YtlbdoomknjiilaaDoorCodeIndex
import Derived.Test.YtlbdoomknjiilaaDoorCodeFits
namespace Go.Proofs.YtlbdoomknjiilaaDoor
open Go.RowKit
set_option linter.unusedVariables false

def pOf {α : Type} (l : List α) (q : α → Bool) (k : Nat) : Bool := ((l[k]?).map q).getD false
theorem pOf_at {α : Type} {l : List α} {q : α → Bool} {k : Nat} {x : α} (h : l[k]? = some x) : pOf l q k = q x := by simp [pOf, h]
theorem pOf_any {α : Type} (l : List α) (q : α → Bool) : (List.range l.length).any (pOf l q) = l.any q := range_any l _ q fun k x h => pOf_at h
def TT.val (t : TT) (v : VT) : Value := .agg #[.int .u8 t.kind, .string t.name, v.f, .int .u8 v.k3, .string v.s4, .slice v.a5 v.n5 v.c5, .slice v.a6 v.n6 v.c6, .int .u8 v.k7, .int .i64 v.i8, .string v.s9, .string v.s10, .string v.s11, .slice v.a12 v.n12 v.c12, .slice v.a13 v.n13 v.c13, .int .i64 v.i14, .int .i64 v.i15]
def FF.val (f : FF) (v : Value) : Value := .agg #[.string f.name, .int .i64 f.params, .int .i64 f.slots, v]
def fieldVal (s : ByteArray) (v : VFd) : Value := .agg #[.string s, v.r1, v.r2, v.r3]

theorem containsLS_calls (B : Nat) (g : FuncId) (lb : Array Value) (hE : ∀ args w, (callFunc g args).run Tryd.prog w = .ok (.enter g args) w) (q : ByteArray → Bool) (l : List (ByteArray)) (v : Value) (w : World) (hB : B ≤ w.heap.size) (h : SIn B w l v)
    (hq : ∀ x, x ∈ l → ∀ W, Below w.heap.size w W → Calls Tryd.prog g (#[.string x] ++ lb) W fun e W' => e = .returned (.bool (q x)) ∧ Below W.heap.size W W') :
    Calls Tryd.prog 64 #[v, .func (.func g) #[] lb] w fun e w' => e = .returned (.bool (l.any q)) ∧ Below w.heap.size w w' := by
  obtain ⟨b, o, hs, hr⟩ := h
  obtain ⟨ao, cap, rfl⟩ := hs.shape
  rw [← pOf_any]
  refine containsS_calls g lb hE (pOf l q) ao l.length cap b o hs.1 w fun hn => ?_
  obtain ⟨_, ao', cap', he, _, h4⟩ := hs
  obtain ⟨rfl, _, rfl⟩ := Value.slice.inj he
  obtain ⟨rfl, hb⟩ := h4.resolve_left hn
  refine ⟨rfl, Nat.lt_of_lt_of_le hb hB, fun k hk => ?_⟩
  obtain ⟨x, hx, hm⟩ := get_at hk
  refine ⟨_, (hr k x hx).2, fun W hW => ?_⟩
  rw [pOf_at hx]
  exact hq x hm W hW

theorem indexLS_calls (B : Nat) (g : FuncId) (lb : Array Value) (hE : ∀ args w, (callFunc g args).run Tryd.prog w = .ok (.enter g args) w) (q : ByteArray → Bool) (l : List (ByteArray)) (v : Value) (w : World) (hB : B ≤ w.heap.size) (h : SIn B w l v)
    (hq : ∀ x, x ∈ l → ∀ W, Below w.heap.size w W → Calls Tryd.prog g (#[.string x] ++ lb) W fun e W' => e = .returned (.bool (q x)) ∧ Below W.heap.size W W') :
    Calls Tryd.prog 74 #[v, .func (.func g) #[] lb] w fun e w' => e = .returned (.int .i64 (firstI (pOf l q) l.length 0)) ∧ Below w.heap.size w w' := by
  obtain ⟨b, o, hs, hr⟩ := h
  obtain ⟨ao, cap, rfl⟩ := hs.shape
  refine indexS_calls g lb hE (pOf l q) ao l.length cap b o hs.1 w fun hn => ?_
  obtain ⟨_, ao', cap', he, _, h4⟩ := hs
  obtain ⟨rfl, _, rfl⟩ := Value.slice.inj he
  obtain ⟨rfl, hb⟩ := h4.resolve_left hn
  refine ⟨rfl, Nat.lt_of_lt_of_le hb hB, fun k hk => ?_⟩
  obtain ⟨x, hx, hm⟩ := get_at hk
  refine ⟨_, (hr k x hx).2, fun W hW => ?_⟩
  rw [pOf_at hx]
  exact hq x hm W hW

theorem containsLZ_calls (B : Nat) (g : FuncId) (lb : Array Value) (hE : ∀ args w, (callFunc g args).run Tryd.prog w = .ok (.enter g args) w) (q : Int → Bool) (l : List (Int)) (v : Value) (w : World) (hB : B ≤ w.heap.size) (h : ZIn B w l v)
    (hq : ∀ x, x ∈ l → ∀ W, Below w.heap.size w W → Calls Tryd.prog g (#[.int .i64 x] ++ lb) W fun e W' => e = .returned (.bool (q x)) ∧ Below W.heap.size W W') :
    Calls Tryd.prog 66 #[v, .func (.func g) #[] lb] w fun e w' => e = .returned (.bool (l.any q)) ∧ Below w.heap.size w w' := by
  obtain ⟨b, o, hs, hr⟩ := h
  obtain ⟨ao, cap, rfl⟩ := hs.shape
  rw [← pOf_any]
  refine containsZ_calls g lb hE (pOf l q) ao l.length cap b o hs.1 w fun hn => ?_
  obtain ⟨_, ao', cap', he, _, h4⟩ := hs
  obtain ⟨rfl, _, rfl⟩ := Value.slice.inj he
  obtain ⟨rfl, hb⟩ := h4.resolve_left hn
  refine ⟨rfl, Nat.lt_of_lt_of_le hb hB, fun k hk => ?_⟩
  obtain ⟨x, hx, hm⟩ := get_at hk
  have h0 := hr k x hx
  rw [Nat.mul_one] at h0
  refine ⟨_, h0, fun W hW => ?_⟩
  rw [pOf_at hx]
  exact hq x hm W hW

theorem indexLZ_calls (B : Nat) (g : FuncId) (lb : Array Value) (hE : ∀ args w, (callFunc g args).run Tryd.prog w = .ok (.enter g args) w) (q : Int → Bool) (l : List (Int)) (v : Value) (w : World) (hB : B ≤ w.heap.size) (h : ZIn B w l v)
    (hq : ∀ x, x ∈ l → ∀ W, Below w.heap.size w W → Calls Tryd.prog g (#[.int .i64 x] ++ lb) W fun e W' => e = .returned (.bool (q x)) ∧ Below W.heap.size W W') :
    Calls Tryd.prog 75 #[v, .func (.func g) #[] lb] w fun e w' => e = .returned (.int .i64 (firstI (pOf l q) l.length 0)) ∧ Below w.heap.size w w' := by
  obtain ⟨b, o, hs, hr⟩ := h
  obtain ⟨ao, cap, rfl⟩ := hs.shape
  refine indexZ_calls g lb hE (pOf l q) ao l.length cap b o hs.1 w fun hn => ?_
  obtain ⟨_, ao', cap', he, _, h4⟩ := hs
  obtain ⟨rfl, _, rfl⟩ := Value.slice.inj he
  obtain ⟨rfl, hb⟩ := h4.resolve_left hn
  refine ⟨rfl, Nat.lt_of_lt_of_le hb hB, fun k hk => ?_⟩
  obtain ⟨x, hx, hm⟩ := get_at hk
  have h0 := hr k x hx
  rw [Nat.mul_one] at h0
  refine ⟨_, h0, fun W hW => ?_⟩
  rw [pOf_at hx]
  exact hq x hm W hW

theorem containsLF_calls (B : Nat) (g : FuncId) (lb : Array Value) (hE : ∀ args w, (callFunc g args).run Tryd.prog w = .ok (.enter g args) w) (q : FF → Bool) (l : List (FF)) (v : Value) (w : World) (hB : B ≤ w.heap.size) (h : FsIn B w l v)
    (hq : ∀ x (u : Value), x ∈ l → x.In B w u → ∀ W, Below w.heap.size w W → Calls Tryd.prog g (#[x.val u] ++ lb) W fun e W' => e = .returned (.bool (q x)) ∧ Below W.heap.size W W') :
    Calls Tryd.prog 38 #[v, .func (.func g) #[] lb] w fun e w' => e = .returned (.bool (l.any q)) ∧ Below w.heap.size w w' := by
  obtain ⟨b, o, hs, hr⟩ := h
  obtain ⟨ao, cap, rfl⟩ := hs.shape
  rw [← pOf_any]
  refine containsF_calls g lb hE (pOf l q) ao l.length cap b o hs.1 w fun hn => ?_
  obtain ⟨_, ao', cap', he, _, h4⟩ := hs
  obtain ⟨rfl, _, rfl⟩ := Value.slice.inj he
  obtain ⟨rfl, hb⟩ := h4.resolve_left hn
  refine ⟨rfl, Nat.lt_of_lt_of_le hb hB, fun k hk => ?_⟩
  obtain ⟨x, hx, hm⟩ := get_at hk
  obtain ⟨u, hc, hi⟩ := hr k x hx
  refine ⟨_, _, _, _, ⟨hc 0 (.string x.name) rfl, hc 1 (.int .i64 x.params) rfl, hc 2 (.int .i64 x.slots) rfl, hc 3 (u) rfl⟩, fun W hW => ?_⟩
  rw [pOf_at hx]
  exact hq x u hm hi W hW

theorem indexLF_calls (B : Nat) (g : FuncId) (lb : Array Value) (hE : ∀ args w, (callFunc g args).run Tryd.prog w = .ok (.enter g args) w) (q : FF → Bool) (l : List (FF)) (v : Value) (w : World) (hB : B ≤ w.heap.size) (h : FsIn B w l v)
    (hq : ∀ x (u : Value), x ∈ l → x.In B w u → ∀ W, Below w.heap.size w W → Calls Tryd.prog g (#[x.val u] ++ lb) W fun e W' => e = .returned (.bool (q x)) ∧ Below W.heap.size W W') :
    Calls Tryd.prog 56 #[v, .func (.func g) #[] lb] w fun e w' => e = .returned (.int .i64 (firstI (pOf l q) l.length 0)) ∧ Below w.heap.size w w' := by
  obtain ⟨b, o, hs, hr⟩ := h
  obtain ⟨ao, cap, rfl⟩ := hs.shape
  refine indexF_calls g lb hE (pOf l q) ao l.length cap b o hs.1 w fun hn => ?_
  obtain ⟨_, ao', cap', he, _, h4⟩ := hs
  obtain ⟨rfl, _, rfl⟩ := Value.slice.inj he
  obtain ⟨rfl, hb⟩ := h4.resolve_left hn
  refine ⟨rfl, Nat.lt_of_lt_of_le hb hB, fun k hk => ?_⟩
  obtain ⟨x, hx, hm⟩ := get_at hk
  obtain ⟨u, hc, hi⟩ := hr k x hx
  refine ⟨_, _, _, _, ⟨hc 0 (.string x.name) rfl, hc 1 (.int .i64 x.params) rfl, hc 2 (.int .i64 x.slots) rfl, hc 3 (u) rfl⟩, fun W hW => ?_⟩
  rw [pOf_at hx]
  exact hq x u hm hi W hW

theorem indexLFd_calls (B : Nat) (g : FuncId) (lb : Array Value) (hE : ∀ args w, (callFunc g args).run Tryd.prog w = .ok (.enter g args) w) (q : ByteArray → Bool) (l : List (ByteArray)) (v : Value) (w : World) (hB : B ≤ w.heap.size) (h : FdIn B w l v)
    (hq : ∀ x (u : VFd), x ∈ l → ∀ W, Below w.heap.size w W → Calls Tryd.prog g (#[fieldVal x u] ++ lb) W fun e W' => e = .returned (.bool (q x)) ∧ Below W.heap.size W W') :
    Calls Tryd.prog 33 #[v, .func (.func g) #[] lb] w fun e w' => e = .returned (.int .i64 (firstI (pOf l q) l.length 0)) ∧ Below w.heap.size w w' := by
  obtain ⟨b, o, hs, hr⟩ := h
  obtain ⟨ao, cap, rfl⟩ := hs.shape
  refine indexFd_calls g lb hE (pOf l q) ao l.length cap b o hs.1 w fun hn => ?_
  obtain ⟨_, ao', cap', he, _, h4⟩ := hs
  obtain ⟨rfl, _, rfl⟩ := Value.slice.inj he
  obtain ⟨rfl, hb⟩ := h4.resolve_left hn
  refine ⟨rfl, Nat.lt_of_lt_of_le hb hB, fun k hk => ?_⟩
  obtain ⟨x, hx, hm⟩ := get_at hk
  obtain ⟨hz, u, hc⟩ := hr k x hx
  refine ⟨_, _, _, _, ⟨hc 0 (.string x) rfl, hc 1 (u.r1) rfl, hc 2 (u.r2) rfl, hc 3 (u.r3) rfl⟩, fun W hW => ?_⟩
  rw [pOf_at hx]
  exact hq x u hm W hW

theorem containsLJ_calls (B : Nat) (g : FuncId) (lb : Array Value) (hE : ∀ args w, (callFunc g args).run Tryd.prog w = .ok (.enter g args) w) (q : JJ → Bool) (l : List (JJ)) (v : Value) (w : World) (hB : B ≤ w.heap.size) (h : JsIn B w l v)
    (hq : ∀ x (u : VJ), x ∈ l → x.In B w u → ∀ W, Below w.heap.size w W → Calls Tryd.prog g (#[x.val u] ++ lb) W fun e W' => e = .returned (.bool (q x)) ∧ Below W.heap.size W W') :
    Calls Tryd.prog 55 #[v, .func (.func g) #[] lb] w fun e w' => e = .returned (.bool (l.any q)) ∧ Below w.heap.size w w' := by
  obtain ⟨b, o, hs, hr⟩ := h
  obtain ⟨ao, cap, rfl⟩ := hs.shape
  rw [← pOf_any]
  refine containsJ_calls g lb hE (pOf l q) ao l.length cap b o hs.1 w fun hn => ?_
  obtain ⟨_, ao', cap', he, _, h4⟩ := hs
  obtain ⟨rfl, _, rfl⟩ := Value.slice.inj he
  obtain ⟨rfl, hb⟩ := h4.resolve_left hn
  refine ⟨rfl, Nat.lt_of_lt_of_le hb hB, fun k hk => ?_⟩
  obtain ⟨x, hx, hm⟩ := get_at hk
  obtain ⟨u, hc, hi⟩ := hr k x hx
  refine ⟨_, _, _, _, _, _, _, _, _, ⟨hc 0 (.int .u8 x.op) rfl, hc 1 (.int .i64 x.a) rfl, hc 2 (.int .i64 x.b) rfl, hc 3 (.int .i64 x.c) rfl, hc 4 (u.s) rfl, hc 5 (u.p) rfl, hc 6 (.int .i64 x.int) rfl, hc 7 (.string x.name) rfl, hc 8 (u.n) rfl⟩, fun W hW => ?_⟩
  rw [pOf_at hx]
  exact hq x u hm hi W hW

theorem indexLJ_calls (B : Nat) (g : FuncId) (lb : Array Value) (hE : ∀ args w, (callFunc g args).run Tryd.prog w = .ok (.enter g args) w) (q : JJ → Bool) (l : List (JJ)) (v : Value) (w : World) (hB : B ≤ w.heap.size) (h : JsIn B w l v)
    (hq : ∀ x (u : VJ), x ∈ l → x.In B w u → ∀ W, Below w.heap.size w W → Calls Tryd.prog g (#[x.val u] ++ lb) W fun e W' => e = .returned (.bool (q x)) ∧ Below W.heap.size W W') :
    Calls Tryd.prog 67 #[v, .func (.func g) #[] lb] w fun e w' => e = .returned (.int .i64 (firstI (pOf l q) l.length 0)) ∧ Below w.heap.size w w' := by
  obtain ⟨b, o, hs, hr⟩ := h
  obtain ⟨ao, cap, rfl⟩ := hs.shape
  refine indexJ_calls g lb hE (pOf l q) ao l.length cap b o hs.1 w fun hn => ?_
  obtain ⟨_, ao', cap', he, _, h4⟩ := hs
  obtain ⟨rfl, _, rfl⟩ := Value.slice.inj he
  obtain ⟨rfl, hb⟩ := h4.resolve_left hn
  refine ⟨rfl, Nat.lt_of_lt_of_le hb hB, fun k hk => ?_⟩
  obtain ⟨x, hx, hm⟩ := get_at hk
  obtain ⟨u, hc, hi⟩ := hr k x hx
  refine ⟨_, _, _, _, _, _, _, _, _, ⟨hc 0 (.int .u8 x.op) rfl, hc 1 (.int .i64 x.a) rfl, hc 2 (.int .i64 x.b) rfl, hc 3 (.int .i64 x.c) rfl, hc 4 (u.s) rfl, hc 5 (u.p) rfl, hc 6 (.int .i64 x.int) rfl, hc 7 (.string x.name) rfl, hc 8 (u.n) rfl⟩, fun W hW => ?_⟩
  rw [pOf_at hx]
  exact hq x u hm hi W hW

theorem containsLI_calls (B : Nat) (g : FuncId) (lb : Array Value) (hE : ∀ args w, (callFunc g args).run Tryd.prog w = .ok (.enter g args) w) (q : TT → Bool) (l : List (TT)) (v : Value) (w : World) (hB : B ≤ w.heap.size) (h : TsIn B w l v)
    (hq : ∀ x (u : VT), x ∈ l → x.In B w u → ∀ W, Below w.heap.size w W → Calls Tryd.prog g (#[x.val u] ++ lb) W fun e W' => e = .returned (.bool (q x)) ∧ Below W.heap.size W W') :
    Calls Tryd.prog 35 #[v, .func (.func g) #[] lb] w fun e w' => e = .returned (.bool (l.any q)) ∧ Below w.heap.size w w' := by
  obtain ⟨b, o, hs, hr⟩ := h
  obtain ⟨ao, cap, rfl⟩ := hs.shape
  rw [← pOf_any]
  refine containsI_calls g lb hE (pOf l q) ao l.length cap b o hs.1 w fun hn => ?_
  obtain ⟨_, ao', cap', he, _, h4⟩ := hs
  obtain ⟨rfl, _, rfl⟩ := Value.slice.inj he
  obtain ⟨rfl, hb⟩ := h4.resolve_left hn
  refine ⟨rfl, Nat.lt_of_lt_of_le hb hB, fun k hk => ?_⟩
  obtain ⟨x, hx, hm⟩ := get_at hk
  obtain ⟨u, hc, hi⟩ := hr k x hx
  refine ⟨_, _, _, _, _, _, _, _, _, _, _, _, _, _, _, _, ⟨hc 0 (.int .u8 x.kind) rfl, hc 1 (.string x.name) rfl, hc 2 (u.f) rfl, hc 3 (.int .u8 u.k3) rfl, hc 4 (.string u.s4) rfl, hc 5 (.slice u.a5 u.n5 u.c5) rfl, hc 6 (.slice u.a6 u.n6 u.c6) rfl, hc 7 (.int .u8 u.k7) rfl, hc 8 (.int .i64 u.i8) rfl, hc 9 (.string u.s9) rfl, hc 10 (.string u.s10) rfl, hc 11 (.string u.s11) rfl, hc 12 (.slice u.a12 u.n12 u.c12) rfl, hc 13 (.slice u.a13 u.n13 u.c13) rfl, hc 14 (.int .i64 u.i14) rfl, hc 15 (.int .i64 u.i15) rfl⟩, fun W hW => ?_⟩
  rw [pOf_at hx]
  exact hq x u hm hi W hW

theorem indexLI_calls (B : Nat) (g : FuncId) (lb : Array Value) (hE : ∀ args w, (callFunc g args).run Tryd.prog w = .ok (.enter g args) w) (q : TT → Bool) (l : List (TT)) (v : Value) (w : World) (hB : B ≤ w.heap.size) (h : TsIn B w l v)
    (hq : ∀ x (u : VT), x ∈ l → x.In B w u → ∀ W, Below w.heap.size w W → Calls Tryd.prog g (#[x.val u] ++ lb) W fun e W' => e = .returned (.bool (q x)) ∧ Below W.heap.size W W') :
    Calls Tryd.prog 32 #[v, .func (.func g) #[] lb] w fun e w' => e = .returned (.int .i64 (firstI (pOf l q) l.length 0)) ∧ Below w.heap.size w w' := by
  obtain ⟨b, o, hs, hr⟩ := h
  obtain ⟨ao, cap, rfl⟩ := hs.shape
  refine indexI_calls g lb hE (pOf l q) ao l.length cap b o hs.1 w fun hn => ?_
  obtain ⟨_, ao', cap', he, _, h4⟩ := hs
  obtain ⟨rfl, _, rfl⟩ := Value.slice.inj he
  obtain ⟨rfl, hb⟩ := h4.resolve_left hn
  refine ⟨rfl, Nat.lt_of_lt_of_le hb hB, fun k hk => ?_⟩
  obtain ⟨x, hx, hm⟩ := get_at hk
  obtain ⟨u, hc, hi⟩ := hr k x hx
  refine ⟨_, _, _, _, _, _, _, _, _, _, _, _, _, _, _, _, ⟨hc 0 (.int .u8 x.kind) rfl, hc 1 (.string x.name) rfl, hc 2 (u.f) rfl, hc 3 (.int .u8 u.k3) rfl, hc 4 (.string u.s4) rfl, hc 5 (.slice u.a5 u.n5 u.c5) rfl, hc 6 (.slice u.a6 u.n6 u.c6) rfl, hc 7 (.int .u8 u.k7) rfl, hc 8 (.int .i64 u.i8) rfl, hc 9 (.string u.s9) rfl, hc 10 (.string u.s10) rfl, hc 11 (.string u.s11) rfl, hc 12 (.slice u.a12 u.n12 u.c12) rfl, hc 13 (.slice u.a13 u.n13 u.c13) rfl, hc 14 (.int .i64 u.i14) rfl, hc 15 (.int .i64 u.i15) rfl⟩, fun W hW => ?_⟩
  rw [pOf_at hx]
  exact hq x u hm hi W hW

end Go.Proofs.YtlbdoomknjiilaaDoor
