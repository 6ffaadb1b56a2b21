/- What the laws of loans share: books that came in, and what stays known of them. -/
import Derived.Test.YtaoalplglfdobaaDoorLoansAwake
import Derived.Test.YtaoalplglfdobaaDoorLoansRef3
import Derived.Test.YtaoalplglfdobaaDoorLoansMay
import Derived.Test.YtaoalplglfdobaaDoorLoansLaw1
import Derived.Test.YtaoalplglfdobaaDoorLoansLaw2
import Derived.Test.YtaoalplglfdobaaDoorLoansSpoil
namespace Go.Proofs.YtaoalplglfdobaaDoor
open Go.RowKit
set_option linter.unusedVariables false

theorem hid_up {w W W' : World} (h : Hid (Below w.heap.size w W)) (b : Below W.heap.size W W') : Hid (Below w.heap.size w W') := Lib.hid (h.out.trans (b.mono h.out.size))
theorem PP.In.toAt {B : Nat} {w : World} {x : PP} {v : Value} (h : x.In B w v) : x.At (fun b => b < B) w v := by
  obtain ⟨h1, b, o, ⟨h2, ao, cap, hv, hc, ha⟩, hr⟩ := h
  exact ⟨h1, h2, ao, cap, b, o, hv, hc, fun h => ha.resolve_left h, hr⟩
theorem NIn.toAt {B : Nat} {w : World} {l : List LN} {v : Value} (h : NIn B w l v) : NAt (fun b => b < B) w l v := by
  obtain ⟨b, o, ⟨h2, ao, cap, hv, hc, ha⟩, hr⟩ := h
  refine ⟨h2, ao, cap, b, o, hv, hc, fun h => ha.resolve_left h, fun j x hj => ?_⟩
  obtain ⟨u, h3, h4⟩ := hr j x hj
  exact ⟨u, h3, h4.toAt⟩
theorem twinN_calls (B : Nat) (l : List LN) (v : Value) (hl : l.length ≤ 1000) (w : World) (hB : B ≤ w.heap.size) (h : NIn B w l v) :
    Calls Tryd.prog 14 #[v] w fun e w' => ∃ ao cap, e = .returned (.slice ao l.length cap) ∧ Hid (NIn w'.heap.size w' l (.slice ao l.length cap)) ∧ Below w.heap.size w w' :=
  (twin_calls (fun b => b < B) l v hl w (fun b h => Nat.lt_of_lt_of_le h hB) h.toAt).mono fun e w' ⟨ao, cap, he, hn, hb⟩ => ⟨ao, cap, he, Lib.hid (hn.in fun b h => by
    have := hb.size
    rcases h with h | h
    · omega
    · exact h.2), hb⟩
/-- books that may be gone through, all of whose numbers are ints -/
theorem fit_of {l : List LN} (hm : manyB l = false) (hw : ∀ x ∈ l, (Lit.int .i64 x.till).wf = true) : Fit l :=
  ⟨by have := (fewB_of hm).1; omega, fun x hx => ((fewB_of hm).2 x hx).fair (hw x hx), fun x hx => by have := ((fewB_of hm).2 x hx).path; omega⟩
theorem awake_up {w W : World} (hT : Hid (Tb w.heap.size w)) (h : Hid (Below w.heap.size w W)) : Calls Tryd.prog 15 #[] W fun e w' => e = .returned (.bool true) ∧ Below W.heap.size W w' :=
  awake_calls W ((hT.out.below h.out).mono h.out.size)
end Go.Proofs.YtaoalplglfdobaaDoor
