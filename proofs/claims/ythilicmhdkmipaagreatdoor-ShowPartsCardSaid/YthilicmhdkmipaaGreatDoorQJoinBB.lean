/- What the writer writes of a place. -/
import Derived.Test.YthilicmhdkmipaaGreatDoorQShowType
import Derived.Test.YthilicmhdkmipaaGreatDoorQJoinAL
import Derived.Test.YthilicmhdkmipaaGreatDoorQJoinAB
import Derived.Test.YthilicmhdkmipaaGreatDoorRows
import Derived.WalkKit
import Derived.BigQuiet
import Derived.OwnWalk
import Derived.Laws.AppendOwn
import Derived.Laws.OwnMore
import Derived.Deep.AppendLies
import Derived.Lib.LaidTab
import Derived.LaidMore
import Derived.Stop.Joined
import Derived.SevenTiedAt
import Derived.FnData
namespace Go.Proofs.YthilicmhdkmipaaGreatDoor
open Go.RowKit
set_option linter.unusedVariables false

theorem stepsT_take : ∀ (l : List ByteArray) (k : Nat) (s : ByteArray), l[k]? = some s → stepsT (l.take (k + 1)) = stepsT (l.take k) ++ [wDot, kT s]
  | a :: l, 0, s, h => by
    obtain rfl : a = s := by simpa using h
    simp [stepsT]
  | a :: l, k + 1, s, h => by
    rw [List.take_succ_cons, List.take_succ_cons, stepsT, stepsT, stepsT_take l k s (by simpa using h)]; rfl
theorem stepsT_split (l : List ByteArray) (k : Nat) : stepsT l = stepsT (l.take k) ++ stepsT (l.drop k) := by
  induction l generalizing k with
  | nil => simp [stepsT]
  | cons a l ih => cases k with
    | zero => simp [stepsT]
    | succ k => rw [List.take_succ_cons, List.drop_succ_cons, stepsT, stepsT, ih k]; rfl
theorem nePB : (34 : TypeId) ≠ 5 := by decide
set_option maxRecDepth 100000 in
set_option maxHeartbeats 4000000 in
theorem place_calls (B R : Nat) (x : PP) (T0 G0 : TkB) (ts : List TkB) (v : Value) (w : World) (hB : B ≤ w.heap.size) (hA : AtW B R T0 G0 ts w) (hx : x.In B w v) (hL : Lim T0 G0 (ts ++ tokP x)) :
    Calls Tryz.prog 72 #[.pointer (some ⟨R, 0, none⟩), .agg #[.string x.name, v]] w fun e w' => e = .returned (.tuple #[]) ∧ AtW B R T0 G0 (ts ++ tokP x) w' ∧ WBut B R w w' := by
  obtain ⟨nm, path⟩ := x
  obtain ⟨hs, b, o, ⟨hl, ao, cap, rfl, k1⟩, r1⟩ := hx
  dsimp only at hs hl k1 r1 hL ⊢
  obtain ⟨n, hx⟩ : ∃ n, n = path.length := ⟨_, rfl⟩
  rw [← hx] at hl k1 ⊢
  have hn : n ≤ 9223372036854775807 := by unfold maxLen at hl; omega
  have ET : tokP ⟨nm, path⟩ = kT nm :: stepsT path := rfl
  rw [ET] at hL ⊢
  have bx : Below w.heap.size w (w.alloc (.cells #[.string nm, .slice ao n cap] 34)) := new_only _ _
  have hRR : R < w.heap.size := hA.lt
  obtain ⟨w1, hw1⟩ : ∃ w1, w1 = w.alloc (.cells #[.string nm, .slice ao n cap] 34) := ⟨_, rfl⟩
  have hz : w.heap.size < w1.heap.size := by rw [hw1]; simp
  have SG : Safe R w1 w.heap.size := Safe.made (by rw [hw1]; exact heap_alloc_new w _) nePB hRR
  have x0 : w1.cell? ⟨w.heap.size, 0, none⟩ = some (.string nm) := by rw [hw1]; go_simp
  have x1 : w1.cell? ⟨w.heap.size, 1, none⟩ = some (.slice ao n cap) := by rw [hw1]; go_simp
  rw [← hw1] at bx
  have BX := Lib.hid (WBut.of bx hB (R := R))
  have P1 := Lib.hid (put1_calls B R nm T0 G0 ts _ w1 (new_drew w1 (.cells #[.string nm] 9)) (drew_new w1 _) (by omega) (hA.stays bx) hs (by
    have h1 : Lim T0 G0 ((ts ++ [kT nm]) ++ stepsT path) := by rw [List.append_assoc]; exact hL
    exact h1.less))
  have Hx := Lib.hid hx
  have HR := Lib.hid r1
  have HL := Lib.hid hL
  have HK := Lib.hid k1
  clear hA hL bx hx r1 k1
  go_enter Tryz.func72, Tryz.ntmps72
  go_upto_region 1 with (fail)
  rw [← hw1]
  clear hw1
  go_cut [3] from 6 to 13 (fun s3 wx => s3 = .pointer (some ⟨w.heap.size, 0, none⟩) ∧ Hid (AtW B R T0 G0 (ts ++ [kT nm]) wx) ∧ Hid (WBut B R w1 wx))
  case first =>
    go_region_held3 (fun w' => w'.cell? ⟨w.heap.size, 0, none⟩ = some (.string nm)) (first | exact x0 | exact (low_new w1 _ _ _ hz).trans x0 | exact XB)
      (first
        | (go_at_call 98; (with_reducible refine (P1.out).mono ?_)
           rintro e w2 ⟨rfl, h1, b1⟩
           have H1 := Lib.hid h1
           have B1 := Lib.hid b1
           have XB := (SG.cell b1 0).trans x0
           clear h1 b1))
    go_wp2_with fail
    go_meet
    case rel => exact ⟨rfl, H1, B1⟩
  case rest =>
    obtain ⟨rfl, H1, B1⟩ := hcut
    have BW := Lib.hid (BX.out.trans B1.out)
    have y1 := (SG.cell B1.out 1).trans x1
    have hz2 : w.heap.size < wc.heap.size := Nat.lt_of_lt_of_le hz B1.out.size
    clear P1 x0 x1
    go_wp2_with fail
    go_loopw [16] (fun i wr => ∃ k : Nat, k ≤ n ∧ i = .int .i64 k ∧ Hid (AtW B R T0 G0 (ts ++ kT nm :: stepsT (path.take k)) wr) ∧ Hid (WBut B R w wr))
      (fun i _ => n - (intOf i).toNat)
    case atStart => exact ⟨0, by omega, rfl, Lib.hid (by simpa [stepsT] using H1.out), BW⟩
    case round =>
      obtain ⟨k, hk, rfl, Hw, Hb⟩ := hrel
      by_cases hlt : k < n
      · obtain ⟨a, ha⟩ := (⟨path[k]'(by rw [← Hx.out]; exact hlt), List.getElem?_eq_getElem _⟩ : ∃ a, path[k]? = some a)
        obtain ⟨rfl, hbB⟩ := HK.out.resolve_left (by omega)
        obtain ⟨hsa, ca⟩ := NRow.get HR.out ha
        have c0 : wr.cell? ⟨b, o + k, none⟩ = some (.string a) := by
          have := ca.below hbB Hb.out.bel 0 _ rfl
          simpa using this
        have hbr : b < wr.heap.size := by have := Hb.out.size; omega
        have hBr : B ≤ wr.heap.size := Nat.le_trans hB Hb.out.size
        have hnext : ts ++ kT nm :: stepsT (path.take (k + 1)) = (ts ++ kT nm :: stepsT (path.take k)) ++ [wDot, kT a] := by
          rw [stepsT_take path k a ha]; simp
        have P2 := Lib.hid (put2_calls B R ⟨#[46]⟩ a T0 G0 (ts ++ kT nm :: stepsT (path.take k)) _ wr (new_only wr (.cells #[.string ⟨#[46]⟩, .string a] 9)) (heap_alloc_new wr _) hBr Hw.out (by decide) hsa (by
          have h1 : Lim T0 G0 ((ts ++ kT nm :: stepsT (path.take (k + 1))) ++ stepsT (path.drop (k + 1))) := by
            have := HL.out
            rw [stepsT_split path (k + 1)] at this
            simpa using this
          have h2 := h1.less
          rw [hnext] at h2
          exact h2))
        have HN := Lib.hid hnext
        clear ca ha hnext Hw
        go_upto_region 5 with (fail)
        go_wp2_with fail
        refine (P2.out).mono ?_
        rintro e w2 ⟨rfl, h1, b1⟩
        have H2 := Lib.hid h1
        have B2 := Lib.hid (Hb.out.trans b1)
        clear h1 b1 P2 c0
        go_wp2
        go_roundw
        case rel => exact ⟨k + 1, by omega, by go_num, Lib.hid (by rw [HN.out]; exact H2.out), B2⟩
        case measure => simp [intOf]; omega
      · obtain rfl : k = n := by omega
        have hall : path.take k = path := List.take_of_length_le (by rw [Hx.out]; exact Nat.le_refl _)
        go_wp2
        go_end0
        exact ⟨rfl, by rw [hall] at Hw; exact Hw.out, Hb.out⟩
end Go.Proofs.YthilicmhdkmipaaGreatDoor
/- Rows of tokens in memory: rows of one's own, and what is appended to them. -/
namespace Go.Proofs.YthilicmhdkmipaaGreatDoor
open Go.RowKit
set_option linter.unusedVariables false

theorem infoStrT : (Tryz.prog.info? 9).map (fun i => (i.zero, i.size, i.bytes)) = some (some (.string ⟨#[]⟩), 1, 16) := by kernel_rfl
def bT (l : TkB) : ByteArray := ⟨l.toArray⟩
theorem bT_kT (s : ByteArray) : bT (kT s) = s := by cases s; unfold bT kT; simp
theorem bT_size (l : TkB) : (bT l).size = l.length := by show l.toArray.size = _; simp
def okTk (ts : List TkB) : Prop := ∀ t ∈ ts, t.length ≤ maxLen
/-- a row of tokens; one of one's own -/
def TokIn (B : Nat) (w : World) (ts : List TkB) (v : Value) : Prop := NIn B w (ts.map bT) v
def TokOwn (base : Nat) (w : World) (ts : List TkB) (v : Value) : Prop := w.ownsRow base 9 1 v ts.length (ts.map fun t => Value.string (bT t))
theorem NRow.of {w : World} {b : Nat} : ∀ {l : List ByteArray} {o : Nat}, (∀ (j : Nat) s, l[j]? = some s → s.size ≤ maxLen ∧ w.cell? ⟨b, o + j, none⟩ = some (.string s)) → NRow w b o l
  | [], _, _ => trivial
  | s :: l, o, h => by
    refine ⟨⟨(h 0 s rfl).1, fun i v hi => ?_⟩, NRow.of fun j t hj => ?_⟩
    · cases i with
      | zero => simp at hi; subst hi; exact (h 0 s rfl).2
      | succ i => simp at hi
    · have := h (j + 1) t (by simpa using hj)
      rwa [show o + (j + 1) = o + 1 + j from by omega] at this
theorem tok_get {ts : List TkB} {j : Nat} {s : ByteArray} (h : (ts.map bT)[j]? = some s) : ∃ t, ts[j]? = some t ∧ s = bT t := by
  rw [List.getElem?_map, Option.map_eq_some_iff] at h
  obtain ⟨t, ht, rfl⟩ := h
  exact ⟨t, ht, rfl⟩
/-- a row of tokens that lies from block base on -/
def TokNew (base : Nat) (w : World) (ts : List TkB) (v : Value) : Prop := ∃ b o, SlV w.heap.size v (ts.map bT).length b o ∧ NRow w b o (ts.map bT) ∧ (ts.length = 0 ∨ base ≤ b)
theorem TokNew.row {base : Nat} {w : World} {ts : List TkB} {v : Value} (h : TokNew base w ts v) : TokIn w.heap.size w ts v := by
  obtain ⟨b, o, h1, h2, _⟩ := h
  exact ⟨b, o, h1, h2⟩
theorem TokNew.mono {base base' : Nat} {w : World} {ts : List TkB} {v : Value} (h : TokNew base w ts v) (hb : base' ≤ base) : TokNew base' w ts v := by
  obtain ⟨b, o, h1, h2, h3⟩ := h
  exact ⟨b, o, h1, h2, h3.imp id fun h => Nat.le_trans hb h⟩
theorem TokOwn.rowN {base : Nat} {w : World} {ts : List TkB} {v : Value} (h : TokOwn base w ts v) (hz : okTk ts) (hm : ts.length ≤ 1000000) : TokNew base w ts v := by
  have hsz : ∀ (j : Nat) s, (ts.map bT)[j]? = some s → s.size ≤ maxLen := fun j s hj => by
    obtain ⟨t, ht, rfl⟩ := tok_get hj
    rw [bT_size]
    exact hz t (List.mem_of_getElem? ht)
  unfold TokOwn at h
  rcases h.2 with ⟨hv, h0⟩ | ⟨g, cap, cur, hv, r⟩
  · have : ts = [] := List.length_eq_zero_iff.1 h0
    subst this
    exact ⟨0, 0, ⟨by simp, none, 0, hv, .inl rfl⟩, trivial, .inl rfl⟩
  · have hc := World.ownsRow.cells h (g := g) (by rw [hv]; rfl)
    have hlt := (World.ownsRow.lt h g (by rw [hv]; rfl))
    refine ⟨g, 0, ⟨by rw [List.length_map]; unfold maxLen; omega, some ⟨g, 0, none⟩, cap, by rw [List.length_map]; exact hv, .inr ⟨rfl, hlt.2⟩⟩, NRow.of fun j s hj => ⟨hsz j s hj, ?_⟩, .inr hlt.1⟩
    obtain ⟨t, ht, rfl⟩ := tok_get hj
    have := hc j (.string (bT t)) (by rw [List.getElem?_map, ht]; rfl)
    rwa [show (⟨g, 0, none⟩ : Addr).add j = ⟨g, 0 + j, none⟩ from by unfold Addr.add; split <;> simp_all] at this
theorem TokOwn.row {base : Nat} {w : World} {ts : List TkB} {v : Value} (h : TokOwn base w ts v) (hz : okTk ts) (hm : ts.length ≤ 1000000) : TokIn w.heap.size w ts v := (h.rowN hz hm).row
theorem TokOwn.nil (w : World) (base : Nat) : TokOwn base w [] (.slice none 0 0) := World.ownsRow_nil _ _ _ _
theorem TokOwn.lit {w : World} (base : Nat) (t : TkB) (s : ByteArray) (hs : s = bT t) (hb : base ≤ w.heap.size) : TokOwn base (w.alloc (.cells #[.string s] 9)) [t] (.slice (some ⟨w.heap.size, 0, none⟩) 1 1) := by
  subst hs
  exact World.ownsRow_lit (e := 9) (size := 1) w #[.string (bT t)] 1 hb (by unfold maxLen; omega) rfl
theorem TokOwn.stays {base : Nat} {w w' : World} {ts : List TkB} {v : Value} (h : TokOwn base w ts v) (k : Below w.heap.size w w') : TokOwn base w' ts v := by
  refine World.ownsRow.kept (row := none) h ⟨k.os, k.tape, k.output, k.size, fun j hj _ => k.block j hj⟩ ?_
  cases v.ownBlock with
  | none => exact .inl rfl
  | some x => exact .inr (by simp)
theorem TokOwn.lt {base : Nat} {w : World} {ts : List TkB} {v : Value} (h : TokOwn base w ts v) : ∀ k, v.ownBlock = some k → base ≤ k := fun k hk => (World.ownsRow.lt h k hk).1
theorem TokOwn.shape {base : Nat} {w : World} {ts : List TkB} {v : Value} (h : TokOwn base w ts v) : ∃ ao cap, v = .slice ao ts.length cap := by
  rcases h.2 with ⟨hv, h0⟩ | ⟨g, cap, cur, hv, r⟩
  · exact ⟨none, 0, by rw [h0]; exact hv⟩
  · exact ⟨_, _, hv⟩
theorem TokIn.lit1 {w : World} (t : TkB) (s : ByteArray) (hs : s = bT t) (hl : t.length ≤ maxLen) : TokIn (w.alloc (.cells #[.string s] 9)).heap.size (w.alloc (.cells #[.string s] 9)) [t] (.slice (some ⟨w.heap.size, 0, none⟩) 1 1) := by
  have := (TokOwn.lit (w := w) w.heap.size t s hs (Nat.le_refl _)).row (fun u hu => by simp at hu; subst hu; exact hl) (by simp)
  exact this
theorem TokIn.below {B : Nat} {w w' : World} {ts : List TkB} {v : Value} (h : TokIn B w ts v) (k : Below B w w') : TokIn B w' ts v := NIn.below h k
set_option maxRecDepth 100000 in
theorem app_runsT (ty : TypeId) (base : Nat) (v : Value) (ts : List TkB) (w : World) (hown : TokOwn base w ts v) (ys : List TkB) (v2 : Value)
    (B : Nat) (hB : B ≤ w.heap.size) (h2 : TokIn B w ys v2) (hl : ts.length + ys.length ≤ 1000000) (hbase : base ≤ w.heap.size) :
    ∃ v' w', (Builtin.append_ #[32, 32] ty #[v, v2]).run Tryz.prog w = .ok v' w' ∧ TokOwn base w' (ts ++ ys) v' ∧ w.grownBy w' v.ownBlock := by
  obtain ⟨i0, hi, hz0, hz1, hz2⟩ := info_parts infoStrT
  obtain ⟨b2, o2, ⟨m2, ao2, cap2, rfl, a2⟩, r2⟩ := h2
  rw [List.length_map] at m2 a2 ⊢
  obtain ⟨n, hn⟩ : ∃ n, n = ts.length := ⟨_, rfl⟩
  cases ao2 with
  | none =>
    have hm0 : ys.length = 0 := by
      rcases a2 with h | h
      · exact h
      · exact absurd h.1 (by simp)
    obtain rfl := List.eq_nil_of_length_eq_zero hm0
    refine ⟨v, w, ?_, by simpa using hown, ⟨rfl, rfl, rfl, Nat.le_refl _, fun _ _ _ => rfl⟩⟩
    have ho2 := hown.2
    rw [← hn] at ho2
    clear hown a2 r2 m2 hl hn hm0 hbase hB
    rcases ho2 with ⟨rfl, hz⟩ | ⟨g, cap, cur, rfl, _, _, hnc, _⟩
    · simp [Builtin.append_, run_underlying Tryz.underlying32, sizeOf, typeInfo, hi, Builtin.lenOf, Builtin.firstCells]
    · simp [Builtin.append_, run_underlying Tryz.underlying32, sizeOf, typeInfo, hi, Builtin.lenOf, Builtin.firstCells, hnc, storeCells]
  | some ad =>
    have hnews : ∀ (j : Nat) u, (ys.map fun t => Value.string (bT t))[j]? = some u → w.cell? (ad.add j) = some u := fun j u hu => by
      rw [List.getElem?_map, Option.map_eq_some_iff] at hu
      obtain ⟨t, ht, rfl⟩ := hu
      obtain ⟨e2, h3⟩ := a2.resolve_left (by have := (List.getElem?_eq_some_iff.1 ht).1; omega)
      injection e2 with e2; subst e2
      have hadd : (⟨b2, o2, none⟩ : Addr).add j = ⟨b2, o2 + j, none⟩ := by unfold Addr.add; split <;> simp_all
      rw [hadd]
      have := (NRow.get r2 (show (ys.map bT)[j]? = some (bT t) by rw [List.getElem?_map, ht]; rfl)).2 0 _ rfl
      simpa using this
    obtain ⟨v', w', h1, h2, h3, _⟩ := run_append_own (P := Tryz.prog) w base 32 ty 9 i0 _ 1 16 Tryz.underlying32 hi hz0 hz1 hz2 rfl (by decide) v ts.length _ hown ad ys.length cap2 (ys.map fun t => Value.string (bT t)) (by simp) hnews
      (fun u hu => by obtain ⟨s, _, rfl⟩ := List.mem_map.1 hu; rfl) (by unfold maxLen; omega) (by omega) hbase
    exact ⟨v', w', h1, by unfold TokOwn; rw [List.map_append, List.length_append]; exact h2, h3⟩
/-- the same at a plain region's operation -/
theorem wpList_appT {ops : Array Oper} {rest : List Oper} {o : Oper} {a : Act} {Q : Exit → Act → World → Prop} {w : World} (hgd : o.guard = none) (s x : Operand)
    (ho : o.op = .call { callee := .builtin .append, args := #[s, x], argTypes := #[32, 32] })
    (base : Nat) (v : Value) (ts : List TkB) (hs : a.eval s = v) (hown : TokOwn base w ts v) (ys : List TkB) (v2 : Value) (hx : a.eval x = v2)
    (B : Nat) (hB : B ≤ w.heap.size) (h2 : TokIn B w ys v2) (hl : ts.length + ys.length ≤ 1000000) (hbase : base ≤ w.heap.size)
    (h : ∀ v' w', TokOwn base w' (ts ++ ys) v' → w.grownBy w' v.ownBlock → wpList Tryz.prog ops Q rest (a.put o.dst v') w') : wpList Tryz.prog ops Q (o :: rest) a w :=
  wpList_plain hgd fun _ hK => by
    obtain ⟨v', w', hr, g1, g2⟩ := app_runsT o.type base v ts w hown ys v2 B hB h2 hl hbase
    unfold Oper.wp execOp
    simp only [ho, resolve, invoke, builtin, Sem.run_bind, Sem.run_pure, Result.andThen_ok, List.map_toArray, List.map_cons, List.map_nil, hs, hx, hr]
    exact hK _ _ (h v' w' g1 g2)
end Go.Proofs.YthilicmhdkmipaaGreatDoor
/- What the listed variables hold: the tables of words, the table of tens. -/
namespace Go.Proofs.YthilicmhdkmipaaGreatDoor
open Go.ChangeShapes Go.WideShapes Go.RowKit
set_option linter.unusedVariables false

/-- a list that mapM made, element by element -/
theorem mapM_atW {α β : Type} {f : α → Option β} : ∀ {l : List α} {ys : List β}, l.mapM f = some ys → ∀ (i : Nat) x, l[i]? = some x → ∃ b, ys[i]? = some b ∧ f x = some b
  | [], ys, h, i, x, hx => by simp at hx
  | a :: l, ys, h, i, x, hx => by
    rw [List.mapM_cons] at h
    obtain ⟨b, hb, h⟩ := Option.bind_eq_some_iff.1 h
    obtain ⟨bs, hbs, h⟩ := Option.bind_eq_some_iff.1 h
    obtain rfl : b :: bs = ys := by simpa using h
    cases i with
    | zero => obtain rfl : a = x := by simpa using hx
              exact ⟨b, rfl, hb⟩
    | succ i =>
      obtain ⟨c, h1, h2⟩ := mapM_atW hbs i x (by simpa using hx)
      exact ⟨c, by simpa using h1, h2⟩
/-- an array of texts that reads as a table -/
theorem cells_of_words {H : Type} {enc : TypeId × Value → H} {P : Program} {w : World} {base : Nat} {sp : Nat → Bool} {held : Bool} {fuel : Nat} {t e : TypeId} {n : Nat} {cs : List Value} {zs : List TkB} {p : List MemPlace}
    (ht : P.underlying t = some (.array n e)) (he : P.underlying e = some .string) (hce : P.cellsOf e = 1) (hct : P.cellsOf t = n)
    (h : DataW.trod enc P w base sp held fuel t cs = some (.agg (zs.map fun z => .lit (.string z)), p)) : ∀ (i : Nat) (z : TkB), i < n → zs[i]? = some z → cs[i]? = some (.string ⟨z.toArray⟩) := by
  intro i z hi hz
  cases fuel with
  | zero => simp [DataW.trod] at h
  | succ fuel =>
    simp only [DataW.trod, ht, hce, hct, Nat.mul_one] at h
    split at h
    · rename_i hl
      obtain ⟨xs, hm, hx⟩ := Option.map_eq_some_iff.1 h
      have hxs : xs.map (·.1) = zs.map fun z => (DataW.lit (.string z) : DataW H) := by
        have := congrArg Prod.fst hx
        simpa using this
      obtain ⟨b, hb, hf⟩ := mapM_atW hm i i (by simp [hi])
      obtain ⟨s, hc, rfl, _⟩ := DataW.trod_string he hf
      have h1 : cs[i]? = some (.string s) := by
        have := congrArg (·[0]?) hc
        simpa [List.getElem?_take, List.getElem?_drop] using this
      have h2 : (xs.map (·.1))[i]? = some (DataW.lit (.string s.data.toList) : DataW H) := by simp [hb]
      rw [hxs] at h2
      simp only [List.getElem?_map, hz, Option.map_some, Option.some.injEq, DataW.lit.injEq, Lit.string.injEq] at h2
      rw [h1, h2]
    · cases h
def typeTab : List TkB := (List.range 13).map fun (k : Nat) => typeWord (k : Int)
def exprTab : List TkB := (List.range 37).map fun (k : Nat) => exprWord (k : Int)
set_option maxRecDepth 100000 in
theorem words_of_laid {W : World} (h : laidMetH Tryz.prog Rows.showPartsRow.laid W) : Words W.heap.size W := by
  rw [MakeChecks.laidMetH_plain _ _ _ (by kernel_rfl)] at h
  obtain ⟨ps, ⟨g0, t0, cs0, f0, p0, q0, hg0, ht0, hv0, hd0, ⟨g1, t1, cs1, f1, p1, q1, hg1, ht1, hv1, hd1, ⟨g2, t2, cs2, f2, p2, q2, hg2, ht2, hv2, hd2, ⟨g3, t3, cs3, f3, p3, q3, hg3, ht3, hv3, hd3, ⟨g4, t4, cs4, f4, p4, q4, hg4, ht4, hv4, hd4, _, _⟩, _⟩, _⟩, _⟩, _⟩, _, _⟩ := h
  obtain rfl := Option.some.inj ((show Tryz.prog.globalNamed "internal/strconv.uint64pow10" = some 4 by kernel_rfl).symm.trans hg2)
  obtain rfl := Option.some.inj ((show (Tryz.prog.globals[4]?).map (·.type) = some 241 by kernel_rfl).symm.trans ht2)
  have ng3 : Tryz.prog.globalNamed "weftway/show.exprWords" = some 1 := by kernel_rfl
  have ng4 : Tryz.prog.globalNamed "weftway/show.typeWords" = some 0 := by kernel_rfl
  obtain rfl := Option.some.inj (ng3.symm.trans hg3)
  obtain rfl := Option.some.inj ((show (Tryz.prog.globals[1]?).map (·.type) = some 165 by kernel_rfl).symm.trans ht3)
  obtain rfl := Option.some.inj (ng4.symm.trans hg4)
  obtain rfl := Option.some.inj ((show (Tryz.prog.globals[0]?).map (·.type) = some 157 by kernel_rfl).symm.trans ht4)
  have htens : Lib.TabIs Tryz.prog W "internal/strconv.uint64pow10" .u64 Lib.pow10Tab := by
    unfold Lib.TabIs
    rw [hv2, ← Lib.cells_of_tab (zs := Lib.pow10Tab) Tryz.underlying241 Tryz.underlying214 (by kernel_rfl) (by kernel_rfl) hd2]
  have he := cells_of_words (zs := exprTab) Tryz.underlying165 Tryz.underlying9 (by kernel_rfl) (by kernel_rfl) (by rw [← show Rows.laid_weftway_show_exprWords = (DataW.agg (exprTab.map fun z => DataW.lit (Lit.string z)) : DataW Unit) by kernel_rfl]; exact hd3)
  have ht := cells_of_words (zs := typeTab) Tryz.underlying157 Tryz.underlying9 (by kernel_rfl) (by kernel_rfl) (by rw [← show Rows.laid_weftway_show_typeWords = (DataW.agg (typeTab.map fun z => DataW.lit (Lit.string z)) : DataW Unit) by kernel_rfl]; exact hd4)
  have ce : ∀ k : Nat, k ≤ 36 → W.cell? ⟨1, k, none⟩ = some (.string ⟨(exprWord k).toArray⟩) := fun k hk => by
    rw [World.var?_cell ng3 hv3 k]
    have := he k (exprWord k) (by omega) (by unfold exprTab; rw [List.getElem?_map, List.getElem?_range (by omega)]; rfl)
    simpa using this
  have ct : ∀ k : Nat, k ≤ 12 → W.cell? ⟨0, k, none⟩ = some (.string ⟨(typeWord k).toArray⟩) := fun k hk => by
    rw [World.var?_cell ng4 hv4 k]
    have := ht k (typeWord k) (by omega) (by unfold typeTab; rw [List.getElem?_map, List.getElem?_range (by omega)]; rfl)
    simpa using this
  exact ⟨⟨World.block_lt_of_cell? _ ⟨_, 0, none⟩ (ct 0 (by omega)), World.block_lt_of_cell? _ ⟨_, 0, none⟩ (ce 0 (by omega))⟩, ct, ce, Lib.tabBelow_of_tabIs htens⟩
end Go.Proofs.YthilicmhdkmipaaGreatDoor
