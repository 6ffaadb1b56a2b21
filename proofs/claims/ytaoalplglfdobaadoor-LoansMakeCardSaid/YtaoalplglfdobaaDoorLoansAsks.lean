/- The closures of package loans, as what is asked of loans. -/
import Derived.Test.YtaoalplglfdobaaDoorLoansKept
namespace Go.Proofs.YtaoalplglfdobaaDoor
open Go.RowKit
set_option linter.unusedVariables false

theorem every_enters : ∀ args w, (callFunc 34 args).run Tryd.prog w = .ok (.enter 34 args) w := enters_of Tryd.func34 (by kernel_rfl) rfl
theorem end1_enters : ∀ args w, (callFunc 33 args).run Tryd.prog w = .ok (.enter 33 args) w := enters_of Tryd.func33 (by kernel_rfl) rfl
theorem of1_enters : ∀ args w, (callFunc 36 args).run Tryd.prog w = .ok (.enter 36 args) w := enters_of Tryd.func36 (by kernel_rfl) rfl
theorem may1_enters : ∀ args w, (callFunc 29 args).run Tryd.prog w = .ok (.enter 29 args) w := enters_of Tryd.func29 (by kernel_rfl) rfl

theorem every_calls (x : LN) (v : Value) (w : World) :
    Calls Tryd.prog 34 #[.agg #[.string x.place.name, v, .bool x.alone, .int .i64 x.till]] w fun e w' => e = .returned (.bool true) ∧ Below w.heap.size w w' := by
  generalize x.place.name = sx
  generalize x.alone = xa
  generalize x.till = xt
  go_enter Tryd.func34, Tryd.ntmps34
  go_wp2_with fail
  go_ret
  exact ⟨rfl, box1 _ _⟩
theorem every_asks (B : Nat) : Asks B 34 #[] (fun _ => False) (fun _ => False) (fun _ _ => True) (fun _ _ => true) (fun _ => True) where
  enters := every_enters
  sub := fun _ h => h
  above := fun _ h => h.elim
  has := fun _ _ _ _ h => h.elim
  stay := fun _ _ _ _ _ _ => trivial
  calls := fun acc x v W _ _ _ _ _ => (every_calls x v W).mono fun e w' ⟨h1, h2⟩ => ⟨h1, trivial, Turn.of_below h2⟩

set_option maxRecDepth 100000 in
set_option maxHeartbeats 1000000 in
theorem end1_calls (x : LN) (v : Value) (d : Int) (g : Nat) (w : World) (h : w.cell? ⟨g, 0, none⟩ = some (.int .i64 d)) :
    Calls Tryd.prog 33 #[.agg #[.string x.place.name, v, .bool x.alone, .int .i64 x.till], .pointer (some ⟨g, 0, none⟩)] w fun e w' => e = .returned (.bool (decide (x.till < d))) ∧ Below w.heap.size w w' := by
  generalize x.place.name = sx
  generalize x.alone = xa
  generalize x.till = xt
  have hlt := World.block_lt_of_cell? w _ h
  by_cases ht : xt < d
  · rw [decide_eq_true ht]
    go_enter Tryd.func33, Tryd.ntmps33
    go_wp2_with fail
    go_ret
    exact ⟨rfl, box1 _ _⟩
  · rw [decide_eq_false ht]
    go_enter Tryd.func33, Tryd.ntmps33
    go_wp2_with fail
    go_ret
    exact ⟨rfl, box1 _ _⟩
theorem cell_stays {w w' : World} {g o : Nat} {u : Value} (h : w.cell? ⟨g, o, none⟩ = some u) (k : ∀ q, q = g → w'.heap[q]? = w.heap[q]?) : w'.cell? ⟨g, o, none⟩ = some u := (World.cell?_of_block (w := w) (k g rfl)).trans h
theorem cell_up {w w' : World} {g o : Nat} {u : Value} (h : w.cell? ⟨g, o, none⟩ = some u) (k : Below w.heap.size w w') : w'.cell? ⟨g, o, none⟩ = some u := (k.cell (p := ⟨g, o, none⟩) (World.block_lt_of_cell? w _ h)).trans h
theorem end_asks (B g : Nat) (d : Int) : Asks B 33 #[.pointer (some ⟨g, 0, none⟩)] (fun q => q = g) (fun _ => False) (fun _ W => W.cell? ⟨g, 0, none⟩ = some (.int .i64 d)) (fun _ x => decide (x.till < d)) (fun _ => True) where
  enters := end1_enters
  sub := fun _ h => h.elim
  above := fun _ h => h.elim
  has := fun _ W h k hk => hk ▸ World.block_lt_of_cell? W _ h
  stay := fun _ _ _ h k _ => cell_stays h k
  calls := fun acc x v W _ _ h _ _ => (end1_calls x v d g W h).mono fun e w' ⟨h1, h2⟩ => ⟨h1, cell_up h h2, Turn.of_below h2⟩

set_option maxRecDepth 100000 in
set_option maxHeartbeats 1000000 in
theorem of1_calls (x : LN) (v : Value) (s : ByteArray) (g : Nat) (w : World) (h : w.cell? ⟨g, 0, none⟩ = some (.string s)) :
    Calls Tryd.prog 36 #[.agg #[.string x.place.name, v, .bool x.alone, .int .i64 x.till], .pointer (some ⟨g, 0, none⟩)] w fun e w' => e = .returned (.bool (decide (keyS x.place.name = keyS s))) ∧ Below w.heap.size w w' := by
  generalize x.place.name = sx
  generalize x.alone = xa
  generalize x.till = xt
  have hlt := World.block_lt_of_cell? w _ h
  by_cases ht : keyS sx = keyS s
  · have e2 := str_eq ht
    rw [decide_eq_true ht]
    clear ht
    go_enter Tryd.func36, Tryd.ntmps36
    go_wp2_with fail
    go_ret
    exact ⟨rfl, box1 _ _⟩
  · have e2 := str_ne ht
    rw [decide_eq_false ht]
    clear ht
    go_enter Tryd.func36, Tryd.ntmps36
    go_wp2_with fail
    go_ret
    exact ⟨rfl, box1 _ _⟩
theorem of_asks (B g : Nat) (s : ByteArray) : Asks B 36 #[.pointer (some ⟨g, 0, none⟩)] (fun q => q = g) (fun _ => False) (fun _ W => W.cell? ⟨g, 0, none⟩ = some (.string s)) (fun _ x => decide (keyS x.place.name = keyS s)) (fun _ => True) where
  enters := of1_enters
  sub := fun _ h => h.elim
  above := fun _ h => h.elim
  has := fun _ W h k hk => hk ▸ World.block_lt_of_cell? W _ h
  stay := fun _ _ _ h k _ => cell_stays h k
  calls := fun acc x v W _ _ h _ _ => (of1_calls x v s g W h).mono fun e w' ⟨h1, h2⟩ => ⟨h1, cell_up h h2, Turn.of_below h2⟩

theorem beside_asks (B C M : Nat) (l : List LN) (hl : l.length ≤ 1000) (hC : B ≤ C) (hM : B ≤ M) : Asks B 45 #[.pointer (some ⟨C, 0, none⟩)] (fun q => q = C ∨ q = M) (fun q => q = M) (fun acc W => Bes C M (l.length + acc.length) (l ++ acc) W ∧ Tb B W) (fun acc x => !hasB (l ++ acc) x) LN.Fair where
  enters := beside1_enters
  sub := fun _ h => .inr h
  above := fun _ h => h ▸ hM
  has := fun _ W h k hk => by
    rcases hk with rfl | rfl
    · exact h.1.lt.1
    · exact h.1.lt.2
  stay := fun _ _ _ h k hb => ⟨h.1.same (k _ (.inr rfl)) (k _ (.inl rfl)), h.2.below hb⟩
  calls := fun acc x v W ha hB h hx hf => (beside1_calls B C M (l.length + acc.length) (l ++ acc) x v W (by omega) hB hx h.2 hf h.1).mono fun e w' ⟨h1, h2, h3⟩ =>
    ⟨h1, ⟨by rw [List.length_append, List.length_singleton, ← Nat.add_assoc, ← List.append_assoc]; exact h2, h.2.below ((Below.refl B W).grown h3 hB (fun k hk => by cases hk; exact hM))⟩, Turn.of_grown h3 (fun k hk => by cases hk; rfl)⟩
end Go.Proofs.YtaoalplglfdobaaDoor
