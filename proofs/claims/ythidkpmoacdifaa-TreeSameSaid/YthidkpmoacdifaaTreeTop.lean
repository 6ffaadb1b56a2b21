/- Contracts of package tree: Same, SameType, SameExpr. -/
import Derived.Test.YthidkpmoacdifaaTreeSameI
namespace Go.Proofs.Ythidkpmoacdifaa
open Go.RowKit
set_option linter.unusedVariables false

theorem ProgIn.below {B : Nat} {w w' : World} {p : List PI} {v : Value} (h : ProgIn B w p v) (k : Below B w w') : ProgIn B w' p v := by
  obtain ⟨b, o, s, r⟩ := h
  exact ⟨b, o, s, PI.Row.below' k s r⟩
theorem SlV.noLen {B : Nat} {v : Value} {n b o : Nat} (h : SlV B v n b o) : ∃ ao cap, v = .slice ao n cap := h.shape
set_option maxHeartbeats 1000000 in
theorem topSame_calls (B : Nat) (p q : List PI) (v1 v2 : Value) (w : World) (hB : B ≤ w.heap.size) (hp : ProgIn B w p v1) (hq : ProgIn B w q v2) :
    Calls Try.prog 21 #[.agg #[v1], .agg #[v2]] w fun e w' => e = .returned (.bool (sameProg false p q)) ∧ Below w.heap.size w w' := by
  obtain ⟨b1, o1, s1, r1⟩ := hp
  obtain ⟨b2, o2, s2, r2⟩ := hq
  obtain ⟨a1, c1, rfl⟩ := s1.shape
  obtain ⟨a2, c2, rfl⟩ := s2.shape
  have C := Lib.hid (fun w' hB' h => equalI_calls B p q (Lib.hid fun a _ => by cases a; exact sameI_step B _ _ _ _ _ _ _) b1 o1 b2 o2 _ _ w' hB' s1 (PI.Row.below' h s1 r1) s2 (PI.Row.below' h s2 r2))
  go_enter Try.func21, Try.ntmps21
  go_wp2_with fail
  refine (C.out _ (by simp; omega) (box2B w hB _ _)).mono ?_
  rintro e w' ⟨rfl, b3⟩
  go_wp2
  go_ret
  exact ⟨rfl, up_tr (box2 _ _ _) b3⟩
set_option maxHeartbeats 1000000 in
theorem topType_calls (B : Nat) (a b : PT) (v1 v2 : Value) (w : World) (hB : B ≤ w.heap.size) (ha : a.In B w v1) (hb : b.In B w v2) :
    Calls Try.prog 22 #[.agg #[.int .u8 a.kind, .string a.name, v1], .agg #[.int .u8 b.kind, .string b.name, v2]] w fun e w' => e = .returned (.bool (sameT a b)) ∧ Below w.heap.size w w' := by
  obtain ⟨p1, n1, q1, rfl⟩ := ha.shape
  obtain ⟨p2, n2, q2, rfl⟩ := hb.shape
  have C := Lib.hid (fun w' hB' h => sameT_calls B a b (.slice p1 n1 q1) (.slice p2 n2 q2) w' hB' (PT.In.below h ha) (PT.In.below h hb))
  go_enter Try.func22, Try.ntmps22
  go_wp2_with fail
  refine (C.out _ (by simp; omega) (box2B w hB _ _)).mono ?_
  rintro e w' ⟨rfl, b3⟩
  go_wp2
  go_ret
  exact ⟨rfl, up_tr (box2 _ _ _) b3⟩
set_option maxHeartbeats 1000000 in
theorem topExpr_calls (B : Nat) (opa iva : Int) (nma sca : ByteArray) (pla : PP) (esa : List PE) (ata : Int) (pa0 : Option Addr) (na0 qa0 : Nat) (pa1 : Option Addr) (na1 qa1 : Nat)
    (opb ivb : Int) (nmb scb : ByteArray) (plb : PP) (esb : List PE) (atb : Int) (pb0 : Option Addr) (nb0 qb0 : Nat) (pb1 : Option Addr) (nb1 qb1 : Nat) (w : World) (hB : B ≤ w.heap.size)
    (ha : PE.In B w (.mk opa iva nma sca pla esa ata) ⟨.slice pa0 na0 qa0, .slice pa1 na1 qa1⟩) (hb : PE.In B w (.mk opb ivb nmb scb plb esb atb) ⟨.slice pb0 nb0 qb0, .slice pb1 nb1 qb1⟩) :
    Calls Try.prog 24 #[.agg #[.int .u8 opa, .int .i64 iva, .string nma, .string sca, .string pla.name, .slice pa0 na0 qa0, .slice pa1 na1 qa1, .int .i64 ata], .agg #[.int .u8 opb, .int .i64 ivb, .string nmb, .string scb, .string plb.name, .slice pb0 nb0 qb0, .slice pb1 nb1 qb1, .int .i64 atb]] w
      fun e w' => e = .returned (.bool (sameE false (.mk opa iva nma sca pla esa ata) (.mk opb ivb nmb scb plb esb atb))) ∧ Below w.heap.size w w' := by
  have C : Hid (∀ w', B ≤ w'.heap.size → Below B w w' → Calls Try.prog 51 #[.agg #[.int .u8 opa, .int .i64 iva, .string nma, .string sca, .string pla.name, .slice pa0 na0 qa0, .slice pa1 na1 qa1, .int .i64 ata], .agg #[.int .u8 opb, .int .i64 ivb, .string nmb, .string scb, .string plb.name, .slice pb0 nb0 qb0, .slice pb1 nb1 qb1, .int .i64 atb]] w'
      fun e w'' => e = .returned (.bool (sameE false (.mk opa iva nma sca pla esa ata) (.mk opb ivb nmb scb plb esb atb))) ∧ Below w'.heap.size w' w'') :=
    Lib.hid (fun w' hB' h => sameE_calls B (.mk opa iva nma sca pla esa ata) (.mk opb ivb nmb scb plb esb atb) ⟨.slice pa0 na0 qa0, .slice pa1 na1 qa1⟩ ⟨.slice pb0 nb0 qb0, .slice pb1 nb1 qb1⟩ w' hB' (PE.In.below h ha) (PE.In.below h hb))
  generalize sameE false (.mk opa iva nma sca pla esa ata) (.mk opb ivb nmb scb plb esb atb) = res at *
  go_enter Try.func24, Try.ntmps24
  go_wp2_with fail
  refine (C.out _ (by simp; omega) (box2B w hB _ _)).mono ?_
  rintro e w' ⟨rfl, b3⟩
  go_wp2
  go_ret
  exact ⟨rfl, up_tr (box2 _ _ _) b3⟩
end Go.Proofs.Ythidkpmoacdifaa
