/- TreeJoined: rows of items as cells; two rows one behind the other. -/
import Derived.Test.YtabncmmadbjegaaGreatJoinH
import Derived.Test.YtabncmmadbjegaaGreatJoinL
import Derived.Laws.AppendOwn
import Derived.Laws.AppendOwnNone
namespace Go.Proofs.YtabncmmadbjegaaGreat
open Go.RowKit Go.Shelf
set_option linter.unusedVariables false

theorem cells_app {w : World} {b o : Nat} {xs ys : List Value} : CellsAt w b o (xs ++ ys) ↔ CellsAt w b o xs ∧ CellsAt w b (o + xs.length) ys := by
  constructor
  · intro h
    refine ⟨fun i v hi => h i v ?_, fun i v hi => ?_⟩
    · rw [List.getElem?_append_left (by have := (List.getElem?_eq_some_iff.1 hi).1; omega)]; exact hi
    · have := h (xs.length + i) v (by rw [List.getElem?_append_right (by omega)]; simpa using hi)
      rwa [← Nat.add_assoc] at this
  · rintro ⟨h1, h2⟩ i v hi
    by_cases hc : i < xs.length
    · exact h1 i v (by rwa [List.getElem?_append_left hc] at hi)
    · have := h2 (i - xs.length) v (by rwa [List.getElem?_append_right (by omega)] at hi)
      rwa [show o + xs.length + (i - xs.length) = o + i from by omega] at this
theorem cells_len (x : PI) (v : VI) : (x.cells v).length = 16 := by
  obtain ⟨k, nm, fs, t, bo, e, ps⟩ := x
  obtain ⟨op, iv, n1, sc, pl, es, at1⟩ := e
  simp [PI.cells, PT.cells, PE.cells]
theorem cells_one {B : Nat} {w : World} {x : PI} {v : VI} (h : x.In B w v) : ∀ u ∈ x.cells v, u.oneCell' = true := by
  obtain ⟨a1, n1, c1, a2, n2, c2, a3, n3, c3, a4, n4, c4, a5, n5, c5, rfl⟩ := PI.In.shape h
  obtain ⟨k, nm, fs, t, bo, e, ps⟩ := x
  obtain ⟨op, iv, n1, sc, pl, es, at1⟩ := e
  intro u hu
  simp [PI.cells, PT.cells, PE.cells] at hu
  rcases hu with rfl|rfl|rfl|rfl|rfl|rfl|rfl|rfl|rfl|rfl|rfl|rfl|rfl|rfl|rfl|rfl <;> rfl
/-- a row of items as its cells: what holds the same cells is the same row -/
theorem itemRow_cells {B : Nat} {w : World} {b : Nat} : ∀ {l : List PI} {o : Nat}, PI.Row B w b o l →
    ∃ cs : List Value, cs.length = l.length * 16 ∧ CellsAt w b o cs ∧ (∀ u ∈ cs, u.oneCell' = true) ∧ ∀ (C : Nat) (W : World) (b' o' : Nat), B ≤ C → Below B w W → CellsAt W b' o' cs → PI.Row C W b' o' l
  | [], o, _ => ⟨[], rfl, fun i v hi => by simp at hi, fun u hu => by simp at hu, fun _ _ _ _ _ _ _ => trivial⟩
  | x :: l, o, ⟨⟨v, h1, h2⟩, hr⟩ => by
    obtain ⟨cs, e1, e2, e3, e4⟩ := itemRow_cells hr
    have hl := cells_len x v
    refine ⟨x.cells v ++ cs, by simp [hl, e1]; omega, cells_app.2 ⟨h1, by rwa [hl]⟩, fun u hu => ?_, fun C W b' o' hC hb hc => ?_⟩
    · rcases List.mem_append.1 hu with hu | hu
      · exact cells_one h2 u hu
      · exact e3 u hu
    · obtain ⟨c1, c2⟩ := cells_app.1 hc
      rw [hl] at c2
      exact ⟨⟨v, c1, PI.In.reads hC (fun _ _ h => h) (PI.In.below hb h2)⟩, e4 C W b' _ hC hb c2⟩
theorem itemRow_app {B : Nat} {w : World} {b : Nat} : ∀ {l m : List PI} {o : Nat}, PI.Row B w b o l → PI.Row B w b (o + l.length * 16) m → PI.Row B w b o (l ++ m)
  | [], m, o, _, h => by simpa using h
  | x :: l, m, o, ⟨hx, hr⟩, h => ⟨hx, itemRow_app hr (by rw [show o + (x :: l).length * 16 = o + 16 + l.length * 16 from by simp; omega] at h; exact h)⟩
theorem nodes_len : ∀ l : List RT, l.length ≤ nodesRs l
  | [] => Nat.zero_le _
  | t :: l => by
    have := nodes_len l
    cases t with
    | mk f w k => rw [nodesRs, nodesR, List.length_cons]; omega
theorem prog_len {p : List PI} (h : ¬ progR p 20000 < 0) : p.length ≤ 20000 := by
  have h1 : progR p 20000 + nodesRs (p.map rtI) ≤ 20000 := listR_n itemR_le (fun x _ m hm h => itemR_n x m hm h) (by omega) (by unfold progR at h; omega)
  have h2 := nodes_len (p.map rtI)
  rw [List.length_map] at h2
  have h3 : 0 ≤ progR p 20000 := by unfold progR at h ⊢; omega
  omega
theorem wpList_append_any {P : Program} {w : World} {ops : Array Oper} {rest : List Oper} {o : Oper} {a : Act} {Q : Exit → Act → World → Prop} (hgd : o.guard = none) (s x : Operand) (t : TypeId)
    (ho : o.op = .call { callee := .builtin .append, args := #[s, x], argTypes := #[t, t] })
    (base : Nat) (e : TypeId) (i : TypeInfo) (z : Value) (size bytes : Nat) (ht : P.underlying t = some (.slice e)) (hi : P.info? e = some i) (hz : i.zero = some z)
    (hsize : i.size = size) (hby : i.bytes = bytes) (hzs : z.cells.size = size) (hsz : 0 < size)
    (v : Value) (n : Nat) (xs : List Value) (hs : a.eval s = v) (hown : w.ownsRow base e size v n xs)
    (ao : Option Addr) (m c : Nat) (news : List Value) (hx : a.eval x = .slice ao m c) (hnil : ao = none → m = 0 ∧ c = 0) (hl : news.length = m * size) (hnews : ∀ ad, ao = some ad → ∀ j u, news[j]? = some u → w.cell? (ad.add j) = some u) (h1 : ∀ u ∈ news, u.oneCell' = true)
    (h63 : n + m ≤ maxLen) (hbytes : (n + m) * bytes ≤ 140737488355328) (hbase : base ≤ w.heap.size)
    (h : ∀ v' w', w'.ownsRow base e size v' (n + m) (xs ++ news) → w.grownBy w' v.ownBlock → wpList P ops Q rest (a.put o.dst v') w') : wpList P ops Q (o :: rest) a w := by
  cases ao with
  | none =>
    obtain ⟨rfl, rfl⟩ := hnil rfl
    obtain rfl : news = [] := by simpa using hl
    exact wpList_append_own_none hgd s x t ho base e i size ht hi v n xs hs hown hx (h v w (by simpa using hown) ⟨rfl, rfl, rfl, Nat.le_refl _, fun _ _ _ => rfl⟩)
  | some ad => exact wpList_append_own w hgd s x t ho base e i z size bytes ht hi hz hsize hby hzs hsz v n xs hs hown ad m c news hx hl (hnews ad rfl) h1 h63 hbytes hbase fun v' w' h2 h3 _ => h v' w' h2 h3
/-- a row's cells, wherever the slice lies -/
theorem prog_cells {B : Nat} {w : World} {l : List PI} {ao : Option Addr} {n c : Nat} (h : ProgIn B w l (.slice ao n c)) : n = l.length ∧ ∃ cs : List Value, cs.length = n * 16 ∧ (∀ u ∈ cs, u.oneCell' = true) ∧
    (∀ (W : World), Below B w W → ∀ ad, ao = some ad → ∀ j u, cs[j]? = some u → W.cell? (ad.add j) = some u) ∧ ∀ (C : Nat) (W : World) (b' o' : Nat), B ≤ C → Below B w W → CellsAt W b' o' cs → PI.Row C W b' o' l := by
  obtain ⟨b, o, h1, h2⟩ := h
  obtain ⟨hn, _, hz⟩ := slv_len h1
  obtain ⟨cs, e1, e2, e3, e4⟩ := itemRow_cells h2
  refine ⟨hn, cs, by rw [e1, hn], e3, fun W hb ad ha j u hu => ?_, e4⟩
  rcases hz with hz | ⟨ha', hlt⟩
  · have := (List.getElem?_eq_some_iff.1 hu).1
    rw [e1, ← hn, hz] at this; omega
  · obtain rfl : ad = ⟨b, o, none⟩ := by rw [ha] at ha'; simpa using ha'
    rw [show (⟨b, o, none⟩ : Addr).add j = ⟨b, o + j, none⟩ from by unfold Addr.add; split <;> first | rfl | (rename_i h; rw [h]; rfl)]
    exact (hb.cell (p := ⟨b, o + j, none⟩) hlt).trans (e2 j u hu)
theorem owns_slice {w : World} {base : Nat} {e : TypeId} {size : Nat} {v : Value} {n : Nat} {xs : List Value} (h : w.ownsRow base e size v n xs) : ∃ ao c, v = .slice ao n c := by
  obtain ⟨_, ⟨rfl, rfl⟩ | ⟨g, cap, cur, rfl, _⟩⟩ := h
  · exact ⟨none, 0, rfl⟩
  · exact ⟨_, _, rfl⟩
theorem owns_prog {B base : Nat} {w W : World} {e : TypeId} {v : Value} {p q : List PI} {cs ds : List Value} (h : W.ownsRow base e 16 v (p.length + q.length) (cs ++ ds)) (hm : p.length + q.length ≤ maxLen) (hB : B ≤ W.heap.size) (hb : Below B w W) (hcl : cs.length = p.length * 16)
    (hc : ∀ (C : Nat) (W : World) (b' o' : Nat), B ≤ C → Below B w W → CellsAt W b' o' cs → PI.Row C W b' o' p) (hd : ∀ (C : Nat) (W : World) (b' o' : Nat), B ≤ C → Below B w W → CellsAt W b' o' ds → PI.Row C W b' o' q) :
    ProgIn W.heap.size W (p ++ q) v := by
  obtain ⟨hl, h⟩ := h
  rcases h with ⟨rfl, hz⟩ | ⟨g, cap, cur, rfl, h1, h2, h3, h4, h5, h6⟩
  · obtain ⟨rfl, rfl⟩ : p = [] ∧ q = [] := by constructor <;> (apply List.eq_nil_of_length_eq_zero; omega)
    exact ⟨0, 0, nil_sl _, trivial⟩
  · have hat : CellsAt W g 0 (cs ++ ds) := by
      intro i u hi
      rw [cell_of_row _ _ _ cur e (0, 0) h2]
      rw [← h6, List.getElem?_take] at hi
      split at hi
      · simpa using hi
      · cases hi
    obtain ⟨c1, c2⟩ := cells_app.1 hat
    have hg : g < W.heap.size := by
      have := (Array.getElem?_eq_some_iff.1 h2).1; exact this
    refine ⟨g, 0, ⟨by simpa using hm, _, cap, by rw [List.length_append], .inr ⟨rfl, hg⟩⟩, itemRow_app (hc _ W g 0 hB hb c1) ?_⟩
    rw [hcl] at c2
    exact hd _ W g _ hB hb c2
theorem owns_set {w : World} {base : Nat} {e : TypeId} {size : Nat} {v : Value} {n : Nat} {xs : List Value} (h : w.ownsRow base e size v n xs) {s : Nat} (hs : s < base) (u : Value) : (w.setCell ⟨s, 0, none⟩ u).ownsRow base e size v n xs := by
  obtain ⟨hl, h⟩ := h
  refine ⟨hl, ?_⟩
  rcases h with h | ⟨g, cap, cur, h1, h2, h3, h4⟩
  · exact .inl h
  · exact .inr ⟨g, cap, cur, h1, h2, (Below.heap_setCell _ _ _ _ (by simp; omega)).trans h3, h4⟩
end Go.Proofs.YtabncmmadbjegaaGreat
