/- Jumps; append of a row that may be nil. -/
import Derived.Test.YtlbdoomknjiilaaDoorCodeTypes
import Derived.Laws.OwnMore
import Derived.OwnWalk
namespace Go.Proofs.YtlbdoomknjiilaaDoor
open Go.RowKit
set_option linter.unusedVariables false

theorem run_append_none_c {P : Program} {w : World} (base : Nat) (t ty e : TypeId) (i : TypeInfo) (size c : Nat) (ht : P.underlying t = some (.slice e)) (hi : P.info? e = some i)
    (v : Value) (n : Nat) (xs : List Value) (hown : w.ownsRow base e size v n xs) :
    (Builtin.append_ #[t, t] ty #[v, .slice none 0 c]).run P w = .ok v w := by
  rcases hown.2 with ⟨rfl, rfl⟩ | ⟨g, cap, cur, rfl, _, _, hnc, _⟩
  · simp [Builtin.append_, run_underlying ht, sizeOf, typeInfo, hi, Builtin.lenOf, Builtin.firstCells]
  · simp [Builtin.append_, run_underlying ht, sizeOf, typeInfo, hi, Builtin.lenOf, Builtin.firstCells, hnc, storeCells]
theorem wpList_append_anyC {P : Program} {w : World} {ops : Array Oper} {rest : List Oper} {o : Oper} {a : Act} {Q : Exit → Act → World → Prop} (hgd : o.guard = none) (s x : Operand) (t : TypeId)
    (ho : o.op = .call { callee := .builtin .append, args := #[s, x], argTypes := #[t, t] })
    (base : Nat) (e : TypeId) (i : TypeInfo) (z : Value) (size bytes : Nat) (ht : P.underlying t = some (.slice e)) (hi : P.info? e = some i) (hz : i.zero = some z)
    (hsize : i.size = size) (hby : i.bytes = bytes) (hzs : z.cells.size = size) (hsz : 0 < size)
    (v : Value) (n : Nat) (xs : List Value) (hs : a.eval s = v) (hown : w.ownsRow base e size v n xs)
    (ao : Option Addr) (m c : Nat) (news : List Value) (hx : a.eval x = .slice ao m c) (hnil : ao = none → m = 0) (hl : news.length = m * size) (hnews : ∀ ad, ao = some ad → ∀ j u, news[j]? = some u → w.cell? (ad.add j) = some u) (h1 : ∀ u ∈ news, u.oneCell' = true)
    (h63 : n + m ≤ maxLen) (hbytes : (n + m) * bytes ≤ 140737488355328) (hbase : base ≤ w.heap.size)
    (h : ∀ v' w', w'.ownsRow base e size v' (n + m) (xs ++ news) → w.grownBy w' v.ownBlock → wpList P ops Q rest (a.put o.dst v') w') : wpList P ops Q (o :: rest) a w := by
  cases ao with
  | none =>
    obtain rfl := hnil rfl
    obtain rfl : news = [] := by simpa using hl
    refine wpList_plain hgd fun K hK => ?_
    have hrun := run_append_none_c (P := P) (w := w) base t o.type e i size c ht hi v n xs hown
    unfold Oper.wp
    simp [execOp, ho, resolve, invoke, builtin, hs, hx, hrun, Result.andThen]
    exact hK _ _ (h v w (by simpa using hown) ⟨rfl, rfl, rfl, Nat.le_refl _, fun _ _ _ => rfl⟩)
  | some ad => exact wpList_append_own w hgd s x t ho base e i z size bytes ht hi hz hsize hby hzs hsz v n xs hs hown ad m c news hx hl (hnews ad rfl) h1 h63 hbytes hbase fun v' w' h2 h3 _ => h v' w' h2 h3
/-- where an instruction may jump to -/
def jumpsB (x : JJ) : List Int := if x.op = 14 ∨ x.op = 15 then [x.a] else if x.op = 16 then x.slots else []
def ints (l : List Int) : List Value := l.map (.int .i64)
theorem ints_one (l : List Int) : ∀ u ∈ ints l, u.oneCell' = true := by
  intro u hu
  obtain ⟨i, _, rfl⟩ := List.mem_map.1 hu
  rfl
theorem infoIntC : (Tryd.prog.info? 3).map (fun i => (i.zero, i.size, i.bytes)) = some (some (.int .i64 0), 1, 8) := by kernel_rfl
theorem own_oneZ (w : World) (i : Int) : (w.alloc (.cells #[.int .i64 i] 3)).ownsRow w.heap.size 3 1 (.slice (some ⟨w.heap.size, 0, none⟩) 1 1) 1 (ints [i]) :=
  World.ownsRow_lit w #[.int .i64 i] 1 (Nat.le_refl _) (by decide) rfl
theorem jumps14_calls (a4 a5 a6 : Option Addr) (n4 n5 n6 c4 c5 c6 : Nat) (xa xb xc xi : Int) (nm : ByteArray) (w : World) :
    Calls Tryd.prog 19 #[.agg #[.int .u8 14, .int .i64 xa, .int .i64 xb, .int .i64 xc, .slice a4 n4 c4, .slice a5 n5 c5, .int .i64 xi, .string nm, .slice a6 n6 c6]] w fun e w' => ∃ r, e = .returned r ∧ w'.ownsRow w.heap.size 3 1 r 1 (ints [xa]) ∧ Below w.heap.size w w' := by
  have HO := Lib.hid (own_mono (own_oneZ (w.alloc (.cells #[.int .u8 14, .int .i64 xa, .int .i64 xb, .int .i64 xc, .slice a4 n4 c4, .slice a5 n5 c5, .int .i64 xi, .string nm, .slice a6 n6 c6] 34)) xa) (show w.heap.size ≤ _ by simp))
  go_enter Tryd.func19, Tryd.ntmps19
  go_wp2_with fail
  go_ret
  exact ⟨_, rfl, by simpa using HO.out, box2 _ _ _⟩
theorem jumps15_calls (a4 a5 a6 : Option Addr) (n4 n5 n6 c4 c5 c6 : Nat) (xa xb xc xi : Int) (nm : ByteArray) (w : World) :
    Calls Tryd.prog 19 #[.agg #[.int .u8 15, .int .i64 xa, .int .i64 xb, .int .i64 xc, .slice a4 n4 c4, .slice a5 n5 c5, .int .i64 xi, .string nm, .slice a6 n6 c6]] w fun e w' => ∃ r, e = .returned r ∧ w'.ownsRow w.heap.size 3 1 r 1 (ints [xa]) ∧ Below w.heap.size w w' := by
  have HO := Lib.hid (own_mono (own_oneZ (w.alloc (.cells #[.int .u8 15, .int .i64 xa, .int .i64 xb, .int .i64 xc, .slice a4 n4 c4, .slice a5 n5 c5, .int .i64 xi, .string nm, .slice a6 n6 c6] 34)) xa) (show w.heap.size ≤ _ by simp))
  go_enter Tryd.func19, Tryd.ntmps19
  go_wp2_with fail
  go_ret
  exact ⟨_, rfl, by simpa using HO.out, box2 _ _ _⟩
theorem jumpsNo_calls (a4 a5 a6 : Option Addr) (n4 n5 n6 c4 c5 c6 : Nat) (op xa xb xc xi : Int) (nm : ByteArray) (w : World) (e1 : (op == 14) = false) (e2 : (op == 15) = false) (e3 : (op == 16) = false) :
    Calls Tryd.prog 19 #[.agg #[.int .u8 op, .int .i64 xa, .int .i64 xb, .int .i64 xc, .slice a4 n4 c4, .slice a5 n5 c5, .int .i64 xi, .string nm, .slice a6 n6 c6]] w fun e w' => ∃ r, e = .returned r ∧ w'.ownsRow w.heap.size 3 1 r 0 (ints []) ∧ Below w.heap.size w w' := by
  have HO : Hid ((w.alloc (.cells #[.int .u8 op, .int .i64 xa, .int .i64 xb, .int .i64 xc, .slice a4 n4 c4, .slice a5 n5 c5, .int .i64 xi, .string nm, .slice a6 n6 c6] 34)).ownsRow w.heap.size 3 1 (.slice none 0 0) 0 (ints [])) := Lib.hid (World.ownsRow_nil _ _ _ _)
  go_enter Tryd.func19, Tryd.ntmps19
  go_wp2_with fail
  go_ret
  exact ⟨_, rfl, HO.out, box1 _ _⟩
set_option maxRecDepth 100000 in
set_option maxHeartbeats 2000000 in
theorem jumps16_calls (a4 a5 a6 : Option Addr) (n4 n5 n6 c4 c5 c6 : Nat) (xa xb xc xi : Int) (nm : ByteArray) (w : World) (l : List Int) (hl : Hid (n4 = l.length)) (h4 : n4 ≤ 1000) (hn : a4 = none → n4 = 0) (hc : Hid (∀ ad, a4 = some ad → ∀ j u, (ints l)[j]? = some u → w.cell? (ad.add j) = some u)) :
    Calls Tryd.prog 19 #[.agg #[.int .u8 16, .int .i64 xa, .int .i64 xb, .int .i64 xc, .slice a4 n4 c4, .slice a5 n5 c5, .int .i64 xi, .string nm, .slice a6 n6 c6]] w fun e w' => ∃ r, e = .returned r ∧ w'.ownsRow w.heap.size 3 1 r n4 (ints l) ∧ Below w.heap.size w w' := by
  obtain ⟨i0, hi, hz0, hz1, hz2⟩ := info_parts infoIntC
  have HN := Lib.hid hn
  have HC : Hid (∀ ad, a4 = some ad → ∀ j u, (ints l)[j]? = some u → (w.alloc (.cells #[.int .u8 16, .int .i64 xa, .int .i64 xb, .int .i64 xc, .slice a4 n4 c4, .slice a5 n5 c5, .int .i64 xi, .string nm, .slice a6 n6 c6] 34)).cell? (ad.add j) = some u) := Lib.hid fun ad ha j u hu => by
    have h0 := hc.out ad ha j u hu
    exact ((box1 w _).cell (World.block_lt_of_cell? w _ h0)).trans h0
  have HL : Hid ((ints l).length = n4 * 1) := Lib.hid (by unfold ints; rw [List.length_map, ← hl.out, Nat.mul_one])
  have HI := Lib.hid (ints_one l)
  generalize ints l = news at *
  clear hn hl hc
  go_enter Tryd.func19, Tryd.ntmps19
  go_wp2_with (first
    | (at_builtin; refine wpList_append_anyC rfl _ _ 31 rfl w.heap.size 3 i0 (.int .i64 0) 1 8 Tryd.underlying31 hi hz0 hz1 hz2 rfl (by decide) (.slice none 0 0) 0 [] rfl (World.ownsRow_nil _ _ _ _) a4 n4 c4 news rfl HN.out HL.out HC.out HI.out ?c3 ?c4 ?c5 ?_)
    | fail)
  case c3 => unfold maxLen; omega
  case c4 => omega
  case c5 => simp
  intro v' w2 hown hgrow
  have HO : Hid (w2.ownsRow w.heap.size 3 1 v' n4 news) := Lib.hid (by simpa using hown)
  have HB : Hid (Below w.heap.size w w2) := Lib.hid ((box1 w _).grown hgrow (by simp) (fun k hk => by simp [Value.ownBlock] at hk))
  clear hown hgrow
  go_wp2_with fail
  go_ret
  exact ⟨_, rfl, HO.out, HB.out⟩
theorem jumps_calls (B : Nat) (x : JJ) (v : VJ) (w : World) (hB : B ≤ w.heap.size) (hx : x.In B w v) (hl : x.op = 16 → x.slots.length ≤ 1000) :
    Calls Tryd.prog 19 #[x.val v] w fun e w' => ∃ r, e = .returned r ∧ w'.ownsRow w.heap.size 3 1 r (jumpsB x).length (ints (jumpsB x)) ∧ Below w.heap.size w w' := by
  obtain ⟨b, o, ⟨hm, ao, cap, hv, hc, h4⟩, hr⟩ := hx.2.2.1
  obtain ⟨a4, c4, a5, c5, a6, c6, rfl⟩ := hx.shape
  obtain ⟨rfl, _, rfl⟩ := Value.slice.inj hv
  clear hx
  obtain ⟨op, xa, xb, xc, sl, pa, xi, nm, m⟩ := x
  unfold JJ.val jumpsB
  dsimp only at *
  by_cases h14 : op = 14
  · subst h14
    rw [if_pos (.inl rfl)]
    exact jumps14_calls _ a5 a6 _ _ _ _ c5 c6 xa xb xc xi nm w
  · by_cases h15 : op = 15
    · subst h15
      rw [if_pos (.inr rfl)]
      exact jumps15_calls _ a5 a6 _ _ _ _ c5 c6 xa xb xc xi nm w
    · rw [if_neg (by omega)]
      by_cases h16 : op = 16
      · subst h16
        rw [if_pos rfl]
        refine jumps16_calls _ a5 a6 _ _ _ _ c5 c6 xa xb xc xi nm w sl (Lib.hid rfl) (hl rfl) (fun h => ?_) (Lib.hid fun ad ha j u hu => ?_)
        · rcases h4 with h4 | h4
          · exact h4
          · rw [h] at h4; cases h4.1
        · have hne : sl.length ≠ 0 := fun e => by
            unfold ints at hu
            rw [List.eq_nil_of_length_eq_zero e] at hu
            cases hu
          obtain ⟨h5, _⟩ := h4.resolve_left hne
          rw [ha] at h5
          cases h5
          unfold ints at hu
          rw [List.getElem?_map, Option.map_eq_some_iff] at hu
          obtain ⟨i, hi, rfl⟩ := hu
          have := hr j i hi
          rw [Nat.mul_one] at this
          rw [Addr.add_mid]
          exact this
      · rw [if_neg h16]
        exact jumpsNo_calls _ a5 a6 _ _ _ _ c5 c6 op xa xb xc xi nm w (by simpa using h14) (by simpa using h15) (by simpa using h16)
end Go.Proofs.YtlbdoomknjiilaaDoor
