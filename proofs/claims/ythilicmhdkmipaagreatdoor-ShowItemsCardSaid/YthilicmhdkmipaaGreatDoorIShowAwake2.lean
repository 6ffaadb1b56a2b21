/- awake: the walk. -/
import Derived.Test.YthilicmhdkmipaaGreatDoorIJoinAT
import Derived.Deep.RegionHeld3
namespace Go.Proofs.YthilicmhdkmipaaGreatDoor
open Go.RowKit
set_option linter.unusedVariables false

/-- boxes made one behind the other -/
def allocL : World → List (Array Value × TypeId) → World
  | w, [] => w
  | w, c :: l => allocL (w.alloc (.cells c.1 c.2)) l
theorem allocL_below : ∀ (l : List (Array Value × TypeId)) (w : World), Below w.heap.size w (allocL w l)
  | [], w => Below.refl _ w
  | c :: l, w => (new_only w (.cells c.1 c.2)).trans ((allocL_below l _).mono (by simp))
theorem allocL_get : ∀ (l : List (Array Value × TypeId)) (w : World) (j : Nat) c, l[j]? = some c → (allocL w l).heap[w.heap.size + j]? = some (.cells c.1 c.2 (0, 0))
  | d :: l, w, 0, c, h => by
    obtain rfl : d = c := by simpa using h
    exact ((allocL_below l (w.alloc (.cells d.1 d.2))).block w.heap.size (by simp)).trans (heap_alloc_new w _)
  | d :: l, w, j + 1, c, h => by
    have := allocL_get l (w.alloc (.cells d.1 d.2)) j c (by simpa using h)
    rw [show (w.alloc (.cells d.1 d.2)).heap.size = w.heap.size + 1 from by simp] at this
    rw [show w.heap.size + (j + 1) = w.heap.size + 1 + j by omega]
    exact this
theorem allocL_size : ∀ (l : List (Array Value × TypeId)) (w : World), (allocL w l).heap.size = w.heap.size + l.length
  | [], w => rfl
  | d :: l, w => by rw [allocL, allocL_size l, show (w.alloc (.cells d.1 d.2)).heap.size = w.heap.size + 1 from by simp, List.length_cons]; omega
theorem low_at {W0 w : World} (h : Below W0.heap.size W0 w) : ∀ b o, b < W0.heap.size → w.cell? ⟨b, o, none⟩ = W0.cell? ⟨b, o, none⟩ := fun b o hb => h.cell (p := ⟨b, o, none⟩) hb
theorem PE.later {W W' : World} {x : PE} {v : VE} (h : PE.In W.heap.size W x v) (k : Below W.heap.size W W') : PE.In W'.heap.size W' x v := PE.In.wider k.size (PE.In.below k h)
theorem later_k {W W' : World} {x : PE} {v : VE} {G : Prop} (h : Hid (PE.In W.heap.size W x v)) (k : Below W.heap.size W W') (c : Hid (PE.In W'.heap.size W' x v) → G) : G := c (Lib.hid (PE.later h.out k))
theorem later2_k {W W' : World} {o : Obj} {x : PE} {v : VE} {G : Prop} (h : Hid (PE.In W.heap.size W x v)) (k : Below (W.alloc o).heap.size (W.alloc o) W') (c : Hid (PE.In W'.heap.size W' x v) → G) : G := c (Lib.hid (PE.later (PE.later h.out (new_only W o)) k))
set_option maxRecDepth 100000 in
set_option maxHeartbeats 8000000 in
theorem awake_walk (w : World) (hK : Hid (∀ (w2 wd : World) (s0 s2 : Nat), s0 = w.heap.size → s2 = w2.heap.size → Below w.heap.size w wd → Below w2.heap.size w2 wd →
    (∀ j c, [(#[.int .u8 1, .int .i64 1, .string ⟨#[]⟩, .string ⟨#[]⟩, .string ⟨#[]⟩, .slice none 0 0, .slice none 0 0, .int .i64 0], 37), (#[.int .u8 3, .string ⟨#[109, 97, 105, 110]⟩, .slice none 0 0, .int .u8 1, .string ⟨#[]⟩, .slice none 0 0, .slice none 0 0, .int .u8 1, .int .i64 0, .string ⟨#[]⟩, .string ⟨#[]⟩, .string ⟨#[]⟩, .slice none 0 0, .slice none 0 0, .int .i64 0, .int .i64 0], 68), (#[.slice (some ⟨s0 + 1, 0, none⟩) 1 1], 24), (#[.int .u8 1, .int .i64 1, .string ⟨#[]⟩, .string ⟨#[]⟩, .string ⟨#[]⟩, .slice none 0 0, .slice none 0 0, .int .i64 0], 37), (#[.int .u8 7, .int .i64 0, .string ⟨#[]⟩, .string ⟨#[]⟩, .string ⟨#[]⟩, .slice none 0 0, .slice (some ⟨s0 + 3, 0, none⟩) 1 1, .int .i64 0], 37), (#[.int .u8 7, .int .i64 0, .string ⟨#[]⟩, .string ⟨#[]⟩, .string ⟨#[]⟩, .slice none 0 0, .slice (some ⟨s0 + 4, 0, none⟩) 1 1, .int .i64 0], 37)][j]? = some c → wd.heap[s0 + j]? = some (.cells c.1 c.2 (0, 0))) → (∀ j c, [(#[.int .u8 4, .int .i64 0, .string ⟨#[]⟩, .string ⟨#[]⟩, .string ⟨#[97]⟩, .slice none 0 0, .slice none 0 0, .int .i64 0], 37), (#[.int .u8 8, .int .i64 0, .string ⟨#[]⟩, .string ⟨#[]⟩, .string ⟨#[]⟩, .slice none 0 0, .slice (some ⟨s2, 0, none⟩) 1 1, .int .i64 0], 37), (#[.int .u8 1, .string ⟨#[]⟩, .slice none 0 0], 31), (#[.int .u8 14, .string ⟨#[]⟩, .slice (some ⟨s2 + 2, 0, none⟩) 1 1], 31), (#[.int .u8 5, .string ⟨#[]⟩, .slice (some ⟨s2 + 3, 0, none⟩) 1 1], 31)][j]? = some c → wd.heap[s2 + j]? = some (.cells c.1 c.2 (0, 0))) →
    Hid (∀ W, Below wd.heap.size wd W → Calls Tryz.prog 12 #[.agg #[.slice (some ⟨s0 + 1, 0, none⟩) 1 1]] W fun e w' => e = .returned (.string ⟨#[102, 110, 32, 109, 97, 105, 110, 32, 40, 32, 41, 32, 45, 62, 32, 105, 110, 116, 32, 123, 32, 48, 32, 125, 10]⟩) ∧ Below (W).heap.size (W) w') ∧
    Hid (∀ (s : ByteArray) (W : World), Calls Tryz.prog 73 #[.string s] W fun e w' => e = .returned (.agg #[.int .u8 4, .int .i64 0, .string ⟨#[]⟩, .string ⟨#[]⟩, .string s, .slice none 0 0, .slice none 0 0, .int .i64 0]) ∧ Below W.heap.size W w') ∧
    Hid (∀ W, Calls Tryz.prog 33 #[.int .u8 10, .agg #[.int .u8 4, .int .i64 0, .string ⟨#[]⟩, .string ⟨#[]⟩, .string ⟨#[98]⟩, .slice none 0 0, .slice none 0 0, .int .i64 0], .agg #[.int .u8 1, .int .i64 1, .string ⟨#[]⟩, .string ⟨#[]⟩, .string ⟨#[]⟩, .slice none 0 0, .slice none 0 0, .int .i64 0]] W fun e w' => (∃ g, e = .returned (.agg #[.int .u8 10, .int .i64 0, .string ⟨#[]⟩, .string ⟨#[]⟩, .string ⟨#[]⟩, .slice none 0 0, .slice (some ⟨g, 0, none⟩) 2 2, .int .i64 0]) ∧ PE.In w'.heap.size w' (exOf 10 [useOf bBb, oneE]) ⟨.slice none 0 0, .slice (some ⟨g, 0, none⟩) 2 2⟩) ∧ Below W.heap.size W w') ∧
    Hid (∀ (h : Nat) W, PE.In W.heap.size W (exOf 10 [useOf bBb, oneE]) ⟨.slice none 0 0, .slice (some ⟨h, 0, none⟩) 2 2⟩ → Calls Tryz.prog 33 #[.int .u8 10, .agg #[.int .u8 4, .int .i64 0, .string ⟨#[]⟩, .string ⟨#[]⟩, .string ⟨#[97]⟩, .slice none 0 0, .slice none 0 0, .int .i64 0], .agg #[.int .u8 10, .int .i64 0, .string ⟨#[]⟩, .string ⟨#[]⟩, .string ⟨#[]⟩, .slice none 0 0, .slice (some ⟨h, 0, none⟩) 2 2, .int .i64 0]] W fun e w' => (∃ g, e = .returned (.agg #[.int .u8 10, .int .i64 0, .string ⟨#[]⟩, .string ⟨#[]⟩, .string ⟨#[]⟩, .slice none 0 0, .slice (some ⟨g, 0, none⟩) 2 2, .int .i64 0]) ∧ PE.In w'.heap.size w' exA ⟨.slice none 0 0, .slice (some ⟨g, 0, none⟩) 2 2⟩) ∧ Below W.heap.size W w') ∧
    Hid (∀ W, Calls Tryz.prog 33 #[.int .u8 10, .agg #[.int .u8 4, .int .i64 0, .string ⟨#[]⟩, .string ⟨#[]⟩, .string ⟨#[97]⟩, .slice none 0 0, .slice none 0 0, .int .i64 0], .agg #[.int .u8 4, .int .i64 0, .string ⟨#[]⟩, .string ⟨#[]⟩, .string ⟨#[98]⟩, .slice none 0 0, .slice none 0 0, .int .i64 0]] W fun e w' => (∃ g, e = .returned (.agg #[.int .u8 10, .int .i64 0, .string ⟨#[]⟩, .string ⟨#[]⟩, .string ⟨#[]⟩, .slice none 0 0, .slice (some ⟨g, 0, none⟩) 2 2, .int .i64 0]) ∧ PE.In w'.heap.size w' (exOf 10 [useOf bA, useOf bBb]) ⟨.slice none 0 0, .slice (some ⟨g, 0, none⟩) 2 2⟩) ∧ Below W.heap.size W w') ∧
    Hid (∀ (h : Nat) W, PE.In W.heap.size W (exOf 10 [useOf bA, useOf bBb]) ⟨.slice none 0 0, .slice (some ⟨h, 0, none⟩) 2 2⟩ → Calls Tryz.prog 33 #[.int .u8 10, .agg #[.int .u8 10, .int .i64 0, .string ⟨#[]⟩, .string ⟨#[]⟩, .string ⟨#[]⟩, .slice none 0 0, .slice (some ⟨h, 0, none⟩) 2 2, .int .i64 0], .agg #[.int .u8 1, .int .i64 1, .string ⟨#[]⟩, .string ⟨#[]⟩, .string ⟨#[]⟩, .slice none 0 0, .slice none 0 0, .int .i64 0]] W fun e w' => (∃ g, e = .returned (.agg #[.int .u8 10, .int .i64 0, .string ⟨#[]⟩, .string ⟨#[]⟩, .string ⟨#[]⟩, .slice none 0 0, .slice (some ⟨g, 0, none⟩) 2 2, .int .i64 0]) ∧ PE.In w'.heap.size w' exB ⟨.slice none 0 0, .slice (some ⟨g, 0, none⟩) 2 2⟩) ∧ Below W.heap.size W w') ∧
    Hid (∀ W, Below wd.heap.size wd W → Calls Tryz.prog 33 #[.int .u8 15, .agg #[.int .u8 8, .int .i64 0, .string ⟨#[]⟩, .string ⟨#[]⟩, .string ⟨#[]⟩, .slice none 0 0, .slice (some ⟨s2, 0, none⟩) 1 1, .int .i64 0], .agg #[.int .u8 4, .int .i64 0, .string ⟨#[]⟩, .string ⟨#[]⟩, .string ⟨#[98]⟩, .slice none 0 0, .slice none 0 0, .int .i64 0]] W fun e w' => (∃ g, e = .returned (.agg #[.int .u8 15, .int .i64 0, .string ⟨#[]⟩, .string ⟨#[]⟩, .string ⟨#[]⟩, .slice none 0 0, .slice (some ⟨g, 0, none⟩) 2 2, .int .i64 0]) ∧ PE.In w'.heap.size w' exD ⟨.slice none 0 0, .slice (some ⟨g, 0, none⟩) 2 2⟩) ∧ Below W.heap.size W w') ∧
    Hid (∀ (h : Nat) W, Below wd.heap.size wd W → PE.In W.heap.size W exA ⟨.slice none 0 0, .slice (some ⟨h, 0, none⟩) 2 2⟩ → Calls Tryz.prog 26 #[.agg #[.int .u8 10, .int .i64 0, .string ⟨#[]⟩, .string ⟨#[]⟩, .string ⟨#[]⟩, .slice none 0 0, .slice (some ⟨h, 0, none⟩) 2 2, .int .i64 0]] W fun e w' => e = .returned (.string ⟨#[97, 32, 45, 32, 40, 32, 98, 32, 45, 32, 49, 32, 41]⟩) ∧ Below (W).heap.size (W) w') ∧
    Hid (∀ (h : Nat) W, Below wd.heap.size wd W → PE.In W.heap.size W exB ⟨.slice none 0 0, .slice (some ⟨h, 0, none⟩) 2 2⟩ → Calls Tryz.prog 26 #[.agg #[.int .u8 10, .int .i64 0, .string ⟨#[]⟩, .string ⟨#[]⟩, .string ⟨#[]⟩, .slice none 0 0, .slice (some ⟨h, 0, none⟩) 2 2, .int .i64 0]] W fun e w' => e = .returned (.string ⟨#[97, 32, 45, 32, 98, 32, 45, 32, 49]⟩) ∧ Below (W).heap.size (W) w') ∧
    Hid (∀ W, Below wd.heap.size wd W → Calls Tryz.prog 26 #[.agg #[.int .u8 7, .int .i64 0, .string ⟨#[]⟩, .string ⟨#[]⟩, .string ⟨#[]⟩, .slice none 0 0, .slice (some ⟨s0 + 4, 0, none⟩) 1 1, .int .i64 0]] W fun e w' => e = .returned (.string ⟨#[45, 32, 45, 32, 49]⟩) ∧ Below (W).heap.size (W) w') ∧
    Hid (∀ (h : Nat) W, Below wd.heap.size wd W → PE.In W.heap.size W exD ⟨.slice none 0 0, .slice (some ⟨h, 0, none⟩) 2 2⟩ → Calls Tryz.prog 26 #[.agg #[.int .u8 15, .int .i64 0, .string ⟨#[]⟩, .string ⟨#[]⟩, .string ⟨#[]⟩, .slice none 0 0, .slice (some ⟨h, 0, none⟩) 2 2, .int .i64 0]] W fun e w' => e = .returned (.string ⟨#[40, 32, 110, 111, 116, 32, 97, 32, 41, 32, 61, 61, 32, 98]⟩) ∧ Below (W).heap.size (W) w') ∧
    Hid (∀ W, Below wd.heap.size wd W → Calls Tryz.prog 26 #[.agg #[.int .u8 0, .int .i64 0, .string ⟨#[]⟩, .string ⟨#[]⟩, .string ⟨#[]⟩, .slice none 0 0, .slice none 0 0, .int .i64 0]] W fun e w' => e = .returned (.string ⟨#[]⟩) ∧ Below (W).heap.size (W) w') ∧
    Hid (∀ W, Below wd.heap.size wd W → Calls Tryz.prog 25 #[.agg #[.int .u8 5, .string ⟨#[]⟩, .slice (some ⟨s2 + 3, 0, none⟩) 1 1]] W fun e w' => e = .returned (.string ⟨#[66, 111, 120, 32, 60, 32, 38, 32, 109, 117, 116, 32, 105, 110, 116, 32, 62]⟩) ∧ Below (W).heap.size (W) w') ∧
    Hid (∀ W, Below wd.heap.size wd W → Calls Tryz.prog 27 #[.agg #[.string ⟨#[120]⟩, .slice (some ⟨W.heap.size, 0, none⟩) 2 2]] (W.alloc (.cells #[.string ⟨#[97]⟩, .string ⟨#[42]⟩] 9)) fun e w' => e = .returned (.string ⟨#[120, 32, 46, 32, 97, 32, 46, 32, 42]⟩) ∧ Below (W.alloc (.cells #[.string ⟨#[97]⟩, .string ⟨#[42]⟩] 9)).heap.size (W.alloc (.cells #[.string ⟨#[97]⟩, .string ⟨#[42]⟩] 9)) w'))) :
    Calls Tryz.prog 28 #[] w fun e w' => e = .returned (.bool true) ∧ Below w.heap.size w w' := by
  have U0 : Hid (∀ (s : ByteArray) (W : World), Calls Tryz.prog 73 #[.string s] W fun e w' => e = .returned (.agg #[.int .u8 4, .int .i64 0, .string ⟨#[]⟩, .string ⟨#[]⟩, .string s, .slice none 0 0, .slice none 0 0, .int .i64 0]) ∧ Below W.heap.size W w') := Lib.hid use_calls
  go_enter Tryz.func28, Tryz.ntmps28
  obtain ⟨s0, hs0⟩ : ∃ s0, s0 = w.heap.size := ⟨_, rfl⟩
  go_upto_region 4 with (fail)
  (try simp only [Nat.add_assoc, Nat.reduceAdd])
  rw [← hs0]
  have HS0 := Lib.hid hs0
  obtain ⟨w1, hw1⟩ : ∃ w1, w1 = (((((w.alloc (.cells #[.int .u8 1, .int .i64 1, .string ⟨#[]⟩, .string ⟨#[]⟩, .string ⟨#[]⟩, .slice none 0 0, .slice none 0 0, .int .i64 0] 37)).alloc (.cells #[.int .u8 3, .string ⟨#[109, 97, 105, 110]⟩, .slice none 0 0, .int .u8 1, .string ⟨#[]⟩, .slice none 0 0, .slice none 0 0, .int .u8 1, .int .i64 0, .string ⟨#[]⟩, .string ⟨#[]⟩, .string ⟨#[]⟩, .slice none 0 0, .slice none 0 0, .int .i64 0, .int .i64 0] 68)).alloc (.cells #[.slice (some ⟨s0 + 1, 0, none⟩) 1 1] 24)).alloc (.cells #[.int .u8 1, .int .i64 1, .string ⟨#[]⟩, .string ⟨#[]⟩, .string ⟨#[]⟩, .slice none 0 0, .slice none 0 0, .int .i64 0] 37)).alloc (.cells #[.int .u8 7, .int .i64 0, .string ⟨#[]⟩, .string ⟨#[]⟩, .string ⟨#[]⟩, .slice none 0 0, .slice (some ⟨s0 + 3, 0, none⟩) 1 1, .int .i64 0] 37)).alloc (.cells #[.int .u8 7, .int .i64 0, .string ⟨#[]⟩, .string ⟨#[]⟩, .string ⟨#[]⟩, .slice none 0 0, .slice (some ⟨s0 + 4, 0, none⟩) 1 1, .int .i64 0] 37) := ⟨_, rfl⟩
  rw [← hw1]
  have hw1' : w1 = allocL w [(#[.int .u8 1, .int .i64 1, .string ⟨#[]⟩, .string ⟨#[]⟩, .string ⟨#[]⟩, .slice none 0 0, .slice none 0 0, .int .i64 0], 37), (#[.int .u8 3, .string ⟨#[109, 97, 105, 110]⟩, .slice none 0 0, .int .u8 1, .string ⟨#[]⟩, .slice none 0 0, .slice none 0 0, .int .u8 1, .int .i64 0, .string ⟨#[]⟩, .string ⟨#[]⟩, .string ⟨#[]⟩, .slice none 0 0, .slice none 0 0, .int .i64 0, .int .i64 0], 68), (#[.slice (some ⟨s0 + 1, 0, none⟩) 1 1], 24), (#[.int .u8 1, .int .i64 1, .string ⟨#[]⟩, .string ⟨#[]⟩, .string ⟨#[]⟩, .slice none 0 0, .slice none 0 0, .int .i64 0], 37), (#[.int .u8 7, .int .i64 0, .string ⟨#[]⟩, .string ⟨#[]⟩, .string ⟨#[]⟩, .slice none 0 0, .slice (some ⟨s0 + 3, 0, none⟩) 1 1, .int .i64 0], 37), (#[.int .u8 7, .int .i64 0, .string ⟨#[]⟩, .string ⟨#[]⟩, .string ⟨#[]⟩, .slice none 0 0, .slice (some ⟨s0 + 4, 0, none⟩) 1 1, .int .i64 0], 37)] := hw1
  have b1 : Below w.heap.size w w1 := by rw [hw1']; exact allocL_below _ _
  have g1 : ∀ j c, [(#[.int .u8 1, .int .i64 1, .string ⟨#[]⟩, .string ⟨#[]⟩, .string ⟨#[]⟩, .slice none 0 0, .slice none 0 0, .int .i64 0], 37), (#[.int .u8 3, .string ⟨#[109, 97, 105, 110]⟩, .slice none 0 0, .int .u8 1, .string ⟨#[]⟩, .slice none 0 0, .slice none 0 0, .int .u8 1, .int .i64 0, .string ⟨#[]⟩, .string ⟨#[]⟩, .string ⟨#[]⟩, .slice none 0 0, .slice none 0 0, .int .i64 0, .int .i64 0], 68), (#[.slice (some ⟨s0 + 1, 0, none⟩) 1 1], 24), (#[.int .u8 1, .int .i64 1, .string ⟨#[]⟩, .string ⟨#[]⟩, .string ⟨#[]⟩, .slice none 0 0, .slice none 0 0, .int .i64 0], 37), (#[.int .u8 7, .int .i64 0, .string ⟨#[]⟩, .string ⟨#[]⟩, .string ⟨#[]⟩, .slice none 0 0, .slice (some ⟨s0 + 3, 0, none⟩) 1 1, .int .i64 0], 37), (#[.int .u8 7, .int .i64 0, .string ⟨#[]⟩, .string ⟨#[]⟩, .string ⟨#[]⟩, .slice none 0 0, .slice (some ⟨s0 + 4, 0, none⟩) 1 1, .int .i64 0], 37)][j]? = some c → w1.heap[s0 + j]? = some (.cells c.1 c.2 (0, 0)) := fun j c h => by rw [hw1', hs0]; rw [hs0] at h; exact allocL_get _ w j c h
  have z1 : w1.heap.size = s0 + 6 := by rw [hw1', allocL_size, hs0]; rfl
  have G1 := Lib.hid g1
  clear hw1 hw1' g1 hs0
  go_wp2_with fail
  (with_reducible refine (U0.out _ _).mono ?_)
  rintro e w2 ⟨rfl, b2⟩
  obtain ⟨s2, hs2⟩ : ∃ s2, s2 = w2.heap.size := ⟨_, rfl⟩
  go_upto_region 6 with (fail)
  (try simp only [Nat.add_assoc, Nat.reduceAdd])
  rw [← hs2]
  have HS2 := Lib.hid hs2
  obtain ⟨wd, hwd⟩ : ∃ wd, wd = ((((w2.alloc (.cells #[.int .u8 4, .int .i64 0, .string ⟨#[]⟩, .string ⟨#[]⟩, .string ⟨#[97]⟩, .slice none 0 0, .slice none 0 0, .int .i64 0] 37)).alloc (.cells #[.int .u8 8, .int .i64 0, .string ⟨#[]⟩, .string ⟨#[]⟩, .string ⟨#[]⟩, .slice none 0 0, .slice (some ⟨s2, 0, none⟩) 1 1, .int .i64 0] 37)).alloc (.cells #[.int .u8 1, .string ⟨#[]⟩, .slice none 0 0] 31)).alloc (.cells #[.int .u8 14, .string ⟨#[]⟩, .slice (some ⟨s2 + 2, 0, none⟩) 1 1] 31)).alloc (.cells #[.int .u8 5, .string ⟨#[]⟩, .slice (some ⟨s2 + 3, 0, none⟩) 1 1] 31) := ⟨_, rfl⟩
  rw [← hwd]
  have hwd' : wd = allocL w2 [(#[.int .u8 4, .int .i64 0, .string ⟨#[]⟩, .string ⟨#[]⟩, .string ⟨#[97]⟩, .slice none 0 0, .slice none 0 0, .int .i64 0], 37), (#[.int .u8 8, .int .i64 0, .string ⟨#[]⟩, .string ⟨#[]⟩, .string ⟨#[]⟩, .slice none 0 0, .slice (some ⟨s2, 0, none⟩) 1 1, .int .i64 0], 37), (#[.int .u8 1, .string ⟨#[]⟩, .slice none 0 0], 31), (#[.int .u8 14, .string ⟨#[]⟩, .slice (some ⟨s2 + 2, 0, none⟩) 1 1], 31), (#[.int .u8 5, .string ⟨#[]⟩, .slice (some ⟨s2 + 3, 0, none⟩) 1 1], 31)] := hwd
  have b3 : Below w2.heap.size w2 wd := by rw [hwd']; exact allocL_below _ _
  have z3 : wd.heap.size = s2 + 5 := by rw [hwd', allocL_size, hs2]; rfl
  have zz := b2.size
  have g2 : ∀ j c, [(#[.int .u8 1, .int .i64 1, .string ⟨#[]⟩, .string ⟨#[]⟩, .string ⟨#[]⟩, .slice none 0 0, .slice none 0 0, .int .i64 0], 37), (#[.int .u8 3, .string ⟨#[109, 97, 105, 110]⟩, .slice none 0 0, .int .u8 1, .string ⟨#[]⟩, .slice none 0 0, .slice none 0 0, .int .u8 1, .int .i64 0, .string ⟨#[]⟩, .string ⟨#[]⟩, .string ⟨#[]⟩, .slice none 0 0, .slice none 0 0, .int .i64 0, .int .i64 0], 68), (#[.slice (some ⟨s0 + 1, 0, none⟩) 1 1], 24), (#[.int .u8 1, .int .i64 1, .string ⟨#[]⟩, .string ⟨#[]⟩, .string ⟨#[]⟩, .slice none 0 0, .slice none 0 0, .int .i64 0], 37), (#[.int .u8 7, .int .i64 0, .string ⟨#[]⟩, .string ⟨#[]⟩, .string ⟨#[]⟩, .slice none 0 0, .slice (some ⟨s0 + 3, 0, none⟩) 1 1, .int .i64 0], 37), (#[.int .u8 7, .int .i64 0, .string ⟨#[]⟩, .string ⟨#[]⟩, .string ⟨#[]⟩, .slice none 0 0, .slice (some ⟨s0 + 4, 0, none⟩) 1 1, .int .i64 0], 37)][j]? = some c → wd.heap[s0 + j]? = some (.cells c.1 c.2 (0, 0)) := fun j c h => by
    have hj : j < 6 := (List.getElem?_eq_some_iff.1 h).1
    exact (b3.block (s0 + j) (by omega)).trans ((b2.block (s0 + j) (by omega)).trans (G1.out j c h))
  have g3 : ∀ j c, [(#[.int .u8 4, .int .i64 0, .string ⟨#[]⟩, .string ⟨#[]⟩, .string ⟨#[97]⟩, .slice none 0 0, .slice none 0 0, .int .i64 0], 37), (#[.int .u8 8, .int .i64 0, .string ⟨#[]⟩, .string ⟨#[]⟩, .string ⟨#[]⟩, .slice none 0 0, .slice (some ⟨s2, 0, none⟩) 1 1, .int .i64 0], 37), (#[.int .u8 1, .string ⟨#[]⟩, .slice none 0 0], 31), (#[.int .u8 14, .string ⟨#[]⟩, .slice (some ⟨s2 + 2, 0, none⟩) 1 1], 31), (#[.int .u8 5, .string ⟨#[]⟩, .slice (some ⟨s2 + 3, 0, none⟩) 1 1], 31)][j]? = some c → wd.heap[s2 + j]? = some (.cells c.1 c.2 (0, 0)) := fun j c h => by rw [hwd', hs2]; rw [hs2] at h; exact allocL_get _ w2 j c h
  have bd : Below w.heap.size w wd := by have e0 := HS0.out; exact b1.trans ((b2.mono (by omega)).trans (b3.mono (by omega)))
  obtain ⟨KP, U, T1, T2, T3, T4, T5, EA, EB, EC, ED, EN, KT, KL⟩ := hK.out w2 wd s0 s2 HS0.out HS2.out bd b3 g2 g3
  have hone : wd.heap[s0]? = some (.cells #[.int .u8 1, .int .i64 1, .string ⟨#[]⟩, .string ⟨#[]⟩, .string ⟨#[]⟩, .slice none 0 0, .slice none 0 0, .int .i64 0] 37 (0, 0)) := g2 0 _ rfl
  have hprg : wd.heap[s0 + 2]? = some (.cells #[.slice (some ⟨s0 + 1, 0, none⟩) 1 1] 24 (0, 0)) := g2 2 _ rfl
  have hneg : wd.heap[s0 + 5]? = some (.cells #[.int .u8 7, .int .i64 0, .string ⟨#[]⟩, .string ⟨#[]⟩, .string ⟨#[]⟩, .slice none 0 0, .slice (some ⟨s0 + 4, 0, none⟩) 1 1, .int .i64 0] 37 (0, 0)) := g2 5 _ rfl
  have hnot : wd.heap[s2 + 1]? = some (.cells #[.int .u8 8, .int .i64 0, .string ⟨#[]⟩, .string ⟨#[]⟩, .string ⟨#[]⟩, .slice none 0 0, .slice (some ⟨s2, 0, none⟩) 1 1, .int .i64 0] 37 (0, 0)) := g3 1 _ rfl
  have hlent : wd.heap[s2 + 4]? = some (.cells #[.int .u8 5, .string ⟨#[]⟩, .slice (some ⟨s2 + 3, 0, none⟩) 1 1] 31 (0, 0)) := g3 4 _ rfl
  have one0 : wd.cell? ⟨s0, 0, none⟩ = some (.int .u8 1) := by rw [cell_of_row _ _ 0 _ _ _ hone]; rfl
  have one1 : wd.cell? ⟨s0, 1, none⟩ = some (.int .i64 1) := by rw [cell_of_row _ _ 1 _ _ _ hone]; rfl
  have one2 : wd.cell? ⟨s0, 2, none⟩ = some (.string ⟨#[]⟩) := by rw [cell_of_row _ _ 2 _ _ _ hone]; rfl
  have one3 : wd.cell? ⟨s0, 3, none⟩ = some (.string ⟨#[]⟩) := by rw [cell_of_row _ _ 3 _ _ _ hone]; rfl
  have one4 : wd.cell? ⟨s0, 4, none⟩ = some (.string ⟨#[]⟩) := by rw [cell_of_row _ _ 4 _ _ _ hone]; rfl
  have one5 : wd.cell? ⟨s0, 5, none⟩ = some (.slice none 0 0) := by rw [cell_of_row _ _ 5 _ _ _ hone]; rfl
  have one6 : wd.cell? ⟨s0, 6, none⟩ = some (.slice none 0 0) := by rw [cell_of_row _ _ 6 _ _ _ hone]; rfl
  have one7 : wd.cell? ⟨s0, 7, none⟩ = some (.int .i64 0) := by rw [cell_of_row _ _ 7 _ _ _ hone]; rfl
  have prg0 : wd.cell? ⟨s0 + 2, 0, none⟩ = some (.slice (some ⟨s0 + 1, 0, none⟩) 1 1) := by rw [cell_of_row _ _ 0 _ _ _ hprg]; rfl
  have neg0 : wd.cell? ⟨s0 + 5, 0, none⟩ = some (.int .u8 7) := by rw [cell_of_row _ _ 0 _ _ _ hneg]; rfl
  have neg1 : wd.cell? ⟨s0 + 5, 1, none⟩ = some (.int .i64 0) := by rw [cell_of_row _ _ 1 _ _ _ hneg]; rfl
  have neg2 : wd.cell? ⟨s0 + 5, 2, none⟩ = some (.string ⟨#[]⟩) := by rw [cell_of_row _ _ 2 _ _ _ hneg]; rfl
  have neg3 : wd.cell? ⟨s0 + 5, 3, none⟩ = some (.string ⟨#[]⟩) := by rw [cell_of_row _ _ 3 _ _ _ hneg]; rfl
  have neg4 : wd.cell? ⟨s0 + 5, 4, none⟩ = some (.string ⟨#[]⟩) := by rw [cell_of_row _ _ 4 _ _ _ hneg]; rfl
  have neg5 : wd.cell? ⟨s0 + 5, 5, none⟩ = some (.slice none 0 0) := by rw [cell_of_row _ _ 5 _ _ _ hneg]; rfl
  have neg6 : wd.cell? ⟨s0 + 5, 6, none⟩ = some (.slice (some ⟨s0 + 4, 0, none⟩) 1 1) := by rw [cell_of_row _ _ 6 _ _ _ hneg]; rfl
  have neg7 : wd.cell? ⟨s0 + 5, 7, none⟩ = some (.int .i64 0) := by rw [cell_of_row _ _ 7 _ _ _ hneg]; rfl
  have not0 : wd.cell? ⟨s2 + 1, 0, none⟩ = some (.int .u8 8) := by rw [cell_of_row _ _ 0 _ _ _ hnot]; rfl
  have not1 : wd.cell? ⟨s2 + 1, 1, none⟩ = some (.int .i64 0) := by rw [cell_of_row _ _ 1 _ _ _ hnot]; rfl
  have not2 : wd.cell? ⟨s2 + 1, 2, none⟩ = some (.string ⟨#[]⟩) := by rw [cell_of_row _ _ 2 _ _ _ hnot]; rfl
  have not3 : wd.cell? ⟨s2 + 1, 3, none⟩ = some (.string ⟨#[]⟩) := by rw [cell_of_row _ _ 3 _ _ _ hnot]; rfl
  have not4 : wd.cell? ⟨s2 + 1, 4, none⟩ = some (.string ⟨#[]⟩) := by rw [cell_of_row _ _ 4 _ _ _ hnot]; rfl
  have not5 : wd.cell? ⟨s2 + 1, 5, none⟩ = some (.slice none 0 0) := by rw [cell_of_row _ _ 5 _ _ _ hnot]; rfl
  have not6 : wd.cell? ⟨s2 + 1, 6, none⟩ = some (.slice (some ⟨s2, 0, none⟩) 1 1) := by rw [cell_of_row _ _ 6 _ _ _ hnot]; rfl
  have not7 : wd.cell? ⟨s2 + 1, 7, none⟩ = some (.int .i64 0) := by rw [cell_of_row _ _ 7 _ _ _ hnot]; rfl
  have lent0 : wd.cell? ⟨s2 + 4, 0, none⟩ = some (.int .u8 5) := by rw [cell_of_row _ _ 0 _ _ _ hlent]; rfl
  have lent1 : wd.cell? ⟨s2 + 4, 1, none⟩ = some (.string ⟨#[]⟩) := by rw [cell_of_row _ _ 1 _ _ _ hlent]; rfl
  have lent2 : wd.cell? ⟨s2 + 4, 2, none⟩ = some (.slice (some ⟨s2 + 3, 0, none⟩) 1 1) := by rw [cell_of_row _ _ 2 _ _ _ hlent]; rfl
  have HB : Hid (Below wd.heap.size wd wd.drew) := Lib.hid (Below.refl _ wd).drew
  have XB : ∀ b o, b < wd.heap.size → wd.drew.cell? ⟨b, o, none⟩ = wd.cell? ⟨b, o, none⟩ := fun _ _ _ => rfl
  have BD := Lib.hid bd
  have y1 : s0 < wd.heap.size := by omega
  have y2 : s0 + 2 < wd.heap.size := by omega
  have y3 : s0 + 5 < wd.heap.size := by omega
  have y4 : s2 + 1 < wd.heap.size := by omega
  have y5 : s2 + 4 < wd.heap.size := by omega
  clear hwd hwd' b1 b2 b3 g2 g3 bd hone hprg hneg hnot hlent G1 U0 hK HS0 HS2 hs2 z1 z3 zz
  go_region_held3 (fun w' => ∀ b o, b < wd.heap.size → w'.cell? ⟨b, o, none⟩ = wd.cell? ⟨b, o, none⟩) (first | (with_reducible exact XB) | exact fun b o hb => ((new_only _ _).cell (p := ⟨b, o, none⟩) (show b < _ by have := HB.out.size; omega)).trans (XB b o hb))
      (first
        | (go_at_call 12; (with_reducible refine (KP.out _ HB.out).mono ?_)
           rintro e x1 ⟨rfl, bj⟩
           (try ((with_reducible refine later_k I1 bj ?_); clear I1; intro I1))
           (try ((with_reducible refine later_k I2 bj ?_); clear I2; intro I2))
           (try ((with_reducible refine later_k I3 bj ?_); clear I3; intro I3))
           (try ((with_reducible refine later_k I4 bj ?_); clear I4; intro I4))
           (try ((with_reducible refine later_k I5 bj ?_); clear I5; intro I5))
           have zh := HB.out.size
           have HB2 : Hid (Below wd.heap.size wd x1) := Lib.hid (HB.out.trans (bj.mono zh))
           clear HB
           have HB := HB2
           have XB : ∀ b o, b < wd.heap.size → x1.cell? ⟨b, o, none⟩ = wd.cell? ⟨b, o, none⟩ := low_at HB.out
           clear bj zh HB2)
        | (go_at_call 73; (with_reducible refine (U.out _ _).mono ?_)
           rintro e x2 ⟨rfl, bj⟩
           (try ((with_reducible refine later_k I1 bj ?_); clear I1; intro I1))
           (try ((with_reducible refine later_k I2 bj ?_); clear I2; intro I2))
           (try ((with_reducible refine later_k I3 bj ?_); clear I3; intro I3))
           (try ((with_reducible refine later_k I4 bj ?_); clear I4; intro I4))
           (try ((with_reducible refine later_k I5 bj ?_); clear I5; intro I5))
           have zh := HB.out.size
           have HB2 : Hid (Below wd.heap.size wd x2) := Lib.hid (HB.out.trans (bj.mono zh))
           clear HB
           have HB := HB2
           have XB : ∀ b o, b < wd.heap.size → x2.cell? ⟨b, o, none⟩ = wd.cell? ⟨b, o, none⟩ := low_at HB.out
           clear bj zh HB2)
        | (go_at_call 33; (with_reducible refine (T1.out _).mono ?_)
           rintro e x3 ⟨⟨g, rfl, hi⟩, bj⟩
           (try ((with_reducible refine later_k I1 bj ?_); clear I1; intro I1))
           (try ((with_reducible refine later_k I2 bj ?_); clear I2; intro I2))
           (try ((with_reducible refine later_k I3 bj ?_); clear I3; intro I3))
           (try ((with_reducible refine later_k I4 bj ?_); clear I4; intro I4))
           (try ((with_reducible refine later_k I5 bj ?_); clear I5; intro I5))
           have I1 := Lib.hid hi
           clear hi
           have zh := HB.out.size
           have HB2 : Hid (Below wd.heap.size wd x3) := Lib.hid (HB.out.trans (bj.mono zh))
           clear HB
           have HB := HB2
           have XB : ∀ b o, b < wd.heap.size → x3.cell? ⟨b, o, none⟩ = wd.cell? ⟨b, o, none⟩ := low_at HB.out
           clear bj zh HB2)
        | (go_at_call 33; (with_reducible refine (T2.out _ _ I1.out).mono ?_)
           rintro e x4 ⟨⟨g, rfl, hi⟩, bj⟩
           (try ((with_reducible refine later_k I1 bj ?_); clear I1; intro I1))
           (try ((with_reducible refine later_k I2 bj ?_); clear I2; intro I2))
           (try ((with_reducible refine later_k I3 bj ?_); clear I3; intro I3))
           (try ((with_reducible refine later_k I4 bj ?_); clear I4; intro I4))
           (try ((with_reducible refine later_k I5 bj ?_); clear I5; intro I5))
           have I2 := Lib.hid hi
           clear hi
           have zh := HB.out.size
           have HB2 : Hid (Below wd.heap.size wd x4) := Lib.hid (HB.out.trans (bj.mono zh))
           clear HB
           have HB := HB2
           have XB : ∀ b o, b < wd.heap.size → x4.cell? ⟨b, o, none⟩ = wd.cell? ⟨b, o, none⟩ := low_at HB.out
           clear bj zh HB2)
        | (go_at_call 33; (with_reducible refine (T3.out _).mono ?_)
           rintro e x5 ⟨⟨g, rfl, hi⟩, bj⟩
           (try ((with_reducible refine later_k I1 bj ?_); clear I1; intro I1))
           (try ((with_reducible refine later_k I2 bj ?_); clear I2; intro I2))
           (try ((with_reducible refine later_k I3 bj ?_); clear I3; intro I3))
           (try ((with_reducible refine later_k I4 bj ?_); clear I4; intro I4))
           (try ((with_reducible refine later_k I5 bj ?_); clear I5; intro I5))
           have I3 := Lib.hid hi
           clear hi
           have zh := HB.out.size
           have HB2 : Hid (Below wd.heap.size wd x5) := Lib.hid (HB.out.trans (bj.mono zh))
           clear HB
           have HB := HB2
           have XB : ∀ b o, b < wd.heap.size → x5.cell? ⟨b, o, none⟩ = wd.cell? ⟨b, o, none⟩ := low_at HB.out
           clear bj zh HB2)
        | (go_at_call 33; (with_reducible refine (T4.out _ _ I3.out).mono ?_)
           rintro e x6 ⟨⟨g, rfl, hi⟩, bj⟩
           (try ((with_reducible refine later_k I1 bj ?_); clear I1; intro I1))
           (try ((with_reducible refine later_k I2 bj ?_); clear I2; intro I2))
           (try ((with_reducible refine later_k I3 bj ?_); clear I3; intro I3))
           (try ((with_reducible refine later_k I4 bj ?_); clear I4; intro I4))
           (try ((with_reducible refine later_k I5 bj ?_); clear I5; intro I5))
           have I4 := Lib.hid hi
           clear hi
           have zh := HB.out.size
           have HB2 : Hid (Below wd.heap.size wd x6) := Lib.hid (HB.out.trans (bj.mono zh))
           clear HB
           have HB := HB2
           have XB : ∀ b o, b < wd.heap.size → x6.cell? ⟨b, o, none⟩ = wd.cell? ⟨b, o, none⟩ := low_at HB.out
           clear bj zh HB2)
        | (go_at_call 33; (with_reducible refine (T5.out _ HB.out).mono ?_)
           rintro e x7 ⟨⟨g, rfl, hi⟩, bj⟩
           (try ((with_reducible refine later_k I1 bj ?_); clear I1; intro I1))
           (try ((with_reducible refine later_k I2 bj ?_); clear I2; intro I2))
           (try ((with_reducible refine later_k I3 bj ?_); clear I3; intro I3))
           (try ((with_reducible refine later_k I4 bj ?_); clear I4; intro I4))
           (try ((with_reducible refine later_k I5 bj ?_); clear I5; intro I5))
           have I5 := Lib.hid hi
           clear hi
           have zh := HB.out.size
           have HB2 : Hid (Below wd.heap.size wd x7) := Lib.hid (HB.out.trans (bj.mono zh))
           clear HB
           have HB := HB2
           have XB : ∀ b o, b < wd.heap.size → x7.cell? ⟨b, o, none⟩ = wd.cell? ⟨b, o, none⟩ := low_at HB.out
           clear bj zh HB2)
        | (go_at_call 26; (with_reducible refine (EA.out _ _ HB.out I2.out).mono ?_)
           rintro e x8 ⟨rfl, bj⟩
           (try ((with_reducible refine later_k I1 bj ?_); clear I1; intro I1))
           (try ((with_reducible refine later_k I2 bj ?_); clear I2; intro I2))
           (try ((with_reducible refine later_k I3 bj ?_); clear I3; intro I3))
           (try ((with_reducible refine later_k I4 bj ?_); clear I4; intro I4))
           (try ((with_reducible refine later_k I5 bj ?_); clear I5; intro I5))
           have zh := HB.out.size
           have HB2 : Hid (Below wd.heap.size wd x8) := Lib.hid (HB.out.trans (bj.mono zh))
           clear HB
           have HB := HB2
           have XB : ∀ b o, b < wd.heap.size → x8.cell? ⟨b, o, none⟩ = wd.cell? ⟨b, o, none⟩ := low_at HB.out
           clear bj zh HB2)
        | (go_at_call 26; (with_reducible refine (EB.out _ _ HB.out I4.out).mono ?_)
           rintro e x9 ⟨rfl, bj⟩
           (try ((with_reducible refine later_k I1 bj ?_); clear I1; intro I1))
           (try ((with_reducible refine later_k I2 bj ?_); clear I2; intro I2))
           (try ((with_reducible refine later_k I3 bj ?_); clear I3; intro I3))
           (try ((with_reducible refine later_k I4 bj ?_); clear I4; intro I4))
           (try ((with_reducible refine later_k I5 bj ?_); clear I5; intro I5))
           have zh := HB.out.size
           have HB2 : Hid (Below wd.heap.size wd x9) := Lib.hid (HB.out.trans (bj.mono zh))
           clear HB
           have HB := HB2
           have XB : ∀ b o, b < wd.heap.size → x9.cell? ⟨b, o, none⟩ = wd.cell? ⟨b, o, none⟩ := low_at HB.out
           clear bj zh HB2)
        | (go_at_call 26; (with_reducible refine (EC.out _ HB.out).mono ?_)
           rintro e x10 ⟨rfl, bj⟩
           (try ((with_reducible refine later_k I1 bj ?_); clear I1; intro I1))
           (try ((with_reducible refine later_k I2 bj ?_); clear I2; intro I2))
           (try ((with_reducible refine later_k I3 bj ?_); clear I3; intro I3))
           (try ((with_reducible refine later_k I4 bj ?_); clear I4; intro I4))
           (try ((with_reducible refine later_k I5 bj ?_); clear I5; intro I5))
           have zh := HB.out.size
           have HB2 : Hid (Below wd.heap.size wd x10) := Lib.hid (HB.out.trans (bj.mono zh))
           clear HB
           have HB := HB2
           have XB : ∀ b o, b < wd.heap.size → x10.cell? ⟨b, o, none⟩ = wd.cell? ⟨b, o, none⟩ := low_at HB.out
           clear bj zh HB2)
        | (go_at_call 26; (with_reducible refine (ED.out _ _ HB.out I5.out).mono ?_)
           rintro e x11 ⟨rfl, bj⟩
           (try ((with_reducible refine later_k I1 bj ?_); clear I1; intro I1))
           (try ((with_reducible refine later_k I2 bj ?_); clear I2; intro I2))
           (try ((with_reducible refine later_k I3 bj ?_); clear I3; intro I3))
           (try ((with_reducible refine later_k I4 bj ?_); clear I4; intro I4))
           (try ((with_reducible refine later_k I5 bj ?_); clear I5; intro I5))
           have zh := HB.out.size
           have HB2 : Hid (Below wd.heap.size wd x11) := Lib.hid (HB.out.trans (bj.mono zh))
           clear HB
           have HB := HB2
           have XB : ∀ b o, b < wd.heap.size → x11.cell? ⟨b, o, none⟩ = wd.cell? ⟨b, o, none⟩ := low_at HB.out
           clear bj zh HB2)
        | (go_at_call 26; (with_reducible refine (EN.out _ HB.out).mono ?_)
           rintro e x12 ⟨rfl, bj⟩
           (try ((with_reducible refine later_k I1 bj ?_); clear I1; intro I1))
           (try ((with_reducible refine later_k I2 bj ?_); clear I2; intro I2))
           (try ((with_reducible refine later_k I3 bj ?_); clear I3; intro I3))
           (try ((with_reducible refine later_k I4 bj ?_); clear I4; intro I4))
           (try ((with_reducible refine later_k I5 bj ?_); clear I5; intro I5))
           have zh := HB.out.size
           have HB2 : Hid (Below wd.heap.size wd x12) := Lib.hid (HB.out.trans (bj.mono zh))
           clear HB
           have HB := HB2
           have XB : ∀ b o, b < wd.heap.size → x12.cell? ⟨b, o, none⟩ = wd.cell? ⟨b, o, none⟩ := low_at HB.out
           clear bj zh HB2)
        | (go_at_call 25; (with_reducible refine (KT.out _ HB.out).mono ?_)
           rintro e x13 ⟨rfl, bj⟩
           (try ((with_reducible refine later_k I1 bj ?_); clear I1; intro I1))
           (try ((with_reducible refine later_k I2 bj ?_); clear I2; intro I2))
           (try ((with_reducible refine later_k I3 bj ?_); clear I3; intro I3))
           (try ((with_reducible refine later_k I4 bj ?_); clear I4; intro I4))
           (try ((with_reducible refine later_k I5 bj ?_); clear I5; intro I5))
           have zh := HB.out.size
           have HB2 : Hid (Below wd.heap.size wd x13) := Lib.hid (HB.out.trans (bj.mono zh))
           clear HB
           have HB := HB2
           have XB : ∀ b o, b < wd.heap.size → x13.cell? ⟨b, o, none⟩ = wd.cell? ⟨b, o, none⟩ := low_at HB.out
           clear bj zh HB2)
        | (go_at_call 27; (with_reducible refine (KL.out _ HB.out).mono ?_)
           rintro e x14 ⟨rfl, bj⟩
           (try ((with_reducible refine later2_k I1 bj ?_); clear I1; intro I1))
           (try ((with_reducible refine later2_k I2 bj ?_); clear I2; intro I2))
           (try ((with_reducible refine later2_k I3 bj ?_); clear I3; intro I3))
           (try ((with_reducible refine later2_k I4 bj ?_); clear I4; intro I4))
           (try ((with_reducible refine later2_k I5 bj ?_); clear I5; intro I5))
           have zh := HB.out.size
           have HB2 : Hid (Below wd.heap.size wd x14) := Lib.hid ((HB.out.trans ((new_only _ _).mono zh)).trans (bj.mono (by have := zh; simp; omega)))
           clear HB
           have HB := HB2
           have XB : ∀ b o, b < wd.heap.size → x14.cell? ⟨b, o, none⟩ = wd.cell? ⟨b, o, none⟩ := low_at HB.out
           clear bj zh HB2))
  all_goals
    go_wp2
    go_ret
    exact ⟨rfl, BD.out.trans (HB.out.mono BD.out.size)⟩
end Go.Proofs.YthilicmhdkmipaaGreatDoor

