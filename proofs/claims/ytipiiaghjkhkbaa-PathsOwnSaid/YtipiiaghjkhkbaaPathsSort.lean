/- What is sorted: the numbers below n by their places' order; rows that a sort went over. -/
import Derived.Test.YtipiiaghjkhkbaaPathsOrder
import Derived.Test.YtipiiaghjkhkbaaShelf
import Derived.Shelf.GgSortFunc.SW
namespace Go.Proofs.Ytipiiaghjkhkbaa
open Go.RowKit
open Go.Sort (SWO PermIn SortedIn Holds putRow grow heap_grow_old size_grow)
set_option linter.unusedVariables false

theorem below_sort {α : Type} [Inhabited α] (enc : α → Value) (w : World) (blk off m : Nat) (dk : Array α) (os : Array Obj) (B : Nat) (h : B ≤ blk) (hB : B ≤ w.heap.size) : Below B w (sortWorld enc w blk off m dk os) := by
  have hs : (putRow enc (Sort.ahead w m) blk off dk).heap.size = w.heap.size := by rw [Sort.size_putRow]; rfl
  refine ⟨rfl, rfl, rfl, ?_, fun k hk => ?_⟩
  · show w.heap.size ≤ (grow (putRow enc (Sort.ahead w m) blk off dk) os).heap.size
    rw [size_grow, hs]
    omega
  · show (grow (putRow enc (Sort.ahead w m) blk off dk) os).heap[k]? = _
    rw [heap_grow_old _ _ (by rw [hs]; omega)]
    show ((Sort.ahead w m).heap.modify blk _)[k]? = _
    rw [Array.getElem?_modify, if_neg (by omega)]
    rfl
theorem swo_of {α : Type} {c : α → α → Int} (h : Good c) : SWO (ltOf c) where
  irrefl x := by simp [ltOf, h.refl x]
  trans x y z h1 h2 := by
    simp only [ltOf, decide_eq_true_eq] at *
    exact h.trans x y z h1 h2
  ntrans x y z h1 h2 := by
    simp only [ltOf, decide_eq_false_iff_not] at *
    have n1 := h.neg x y
    have n2 := h.neg y z
    have n3 := h.neg x z
    have := h.le_trans (a := z) (b := y) (d := x) (by omega) (by omega)
    omega
/-- the numbers below n -/
def allN (n : Nat) : Array (Fin n) := (List.finRange n).toArray
theorem allN_size (n : Nat) : (allN n).size = n := by simp [allN]
theorem allN_vals (n : Nat) : (allN n).toList.map Fin.val = List.range n := by
  apply List.ext_getElem
  · simp [allN]
  · intro i h1 h2
    simp [allN]
theorem allN_at {n : Nat} [Inhabited (Fin n)] {j : Nat} (hj : j < n) : ((allN n)[j]!).val = j := by
  rw [getElem!_pos (allN n) j (by rw [allN_size]; exact hj)]
  simp [allN]
/-- the comparison, of numbers below n -/
def cmpF (n : Nat) (k : Nat → K) (i j : Fin n) : Int := cmpI k i.val j.val
theorem cmpF_good (n : Nat) (k : Nat → K) : Good (cmpF n k) where
  neg a b := (cmpI_good k).neg a.val b.val
  zero a b := ((cmpI_good k).zero a.val b.val).trans Fin.ext_iff.symm
  trans a b d h1 h2 := (cmpI_good k).trans _ _ _ h1 h2
theorem ord_of (n : Nat) (k : Nat → K) [Inhabited (Fin n)] (d' : Array (Fin n)) (hp : PermIn 0 n (allN n) d') (hs : SortedIn (ltOf (cmpF n k)) 0 n d') : d'.size = n ∧ Ord n k (d'.toList.map Fin.val) := by
  obtain ⟨h1, _, h3⟩ := hp
  rw [allN_size] at h1
  have full : ∀ (a : Array (Fin n)), a.size = n → a.extract 0 n = a := fun a ha => by
    apply Array.ext_getElem?
    intro i
    rw [Array.getElem?_extract]
    split
    · rw [Nat.zero_add]
    · rw [Array.getElem?_eq_none (by omega)]
  have e1 := full d' h1
  have e2 := full (allN n) (allN_size n)
  rw [e1, e2] at h3
  have h4 := h3.map Fin.val
  rw [allN_vals] at h4
  refine ⟨h1, ⟨fun i => by rw [h4.mem_iff, List.mem_range], ?_⟩⟩
  have hnd : (d'.toList.map Fin.val).Nodup := h4.nodup_iff.2 List.nodup_range
  rw [List.pairwise_iff_getElem]
  intro i j hi hj hij
  have hj' : j < d'.size := by simpa using hj
  have hi' : i < d'.size := by simpa using hi
  have h5 := hs i j (Nat.zero_le _) hij (by omega)
  rw [getElem!_pos d' i hi', getElem!_pos d' j hj'] at h5
  have h5 : ¬ cmpI k d'[j].val d'[i].val < 0 := of_decide_eq_false h5
  have n1 := (cmpI_good k).neg d'[i].val d'[j].val
  have hne : d'[i].val ≠ d'[j].val := by
    intro e
    have := (List.pairwise_iff_getElem.1 hnd) i j hi hj hij
    apply this
    simpa using e
  have hz := (cmpI_good k).zero d'[i].val d'[j].val
  have : cmpI k d'[i].val d'[j].val < 0 := by
    rcases Int.lt_trichotomy (cmpI k d'[i].val d'[j].val) 0 with h | h | h
    · exact h
    · exact absurd (hz.1 h) hne
    · omega
  simpa using this
/-- a row of whole numbers, sorted -/
theorem sort_filter {n : Nat} {d : List Nat} {k : Nat → K} (O : Ord n k d) (p : Nat → Bool) :
    ((d.filter p).map fun (i : Nat) => (i : Int)).mergeSort (fun x y => decide (x ≤ y)) = ((List.range n).filter p).map fun (i : Nat) => (i : Int) := by
  have hnd : d.Nodup := by
    rw [List.nodup_iff_pairwise_ne]
    refine O.sorted.imp fun {a b} h e => ?_
    subst e
    have := (cmpI_good k).refl a
    omega
  have hperm : d.Perm (List.range n) := by
    rw [List.perm_ext_iff_of_nodup hnd List.nodup_range]
    intro a
    rw [O.mem, List.mem_range]
  refine List.Perm.eq_of_pairwise (le := fun x y => x ≤ y) (fun a b _ _ h1 h2 => Int.le_antisymm h1 h2) ?_ ?_ ((List.mergeSort_perm _ _).trans ((hperm.filter p).map _))
  · refine (List.pairwise_mergeSort (le := fun (x y : Int) => decide (x ≤ y)) ?_ ?_ _).imp fun {a b} h => by simpa using h
    · intro a b c h1 h2; simp only [decide_eq_true_eq] at *; omega
    · intro a b; simp only [Bool.or_eq_true, decide_eq_true_eq]; omega
  · rw [List.pairwise_map]
    refine (List.Pairwise.filter p (List.pairwise_lt_range (n := n))).imp fun {a b} h => by omega
end Go.Proofs.Ytipiiaghjkhkbaa
