/- The code's copier: places (made by gen_clo.py). -/
import Derived.Test.YtojeijeimpffgaaGreatQTreeBench
namespace Go.Proofs.YtojeijeimpffgaaGreat
open Go.RowKit
set_option linter.unusedVariables false

attribute [local go_sem ↓] Go.wp_at_zero Go.wp_at_succ
set_option maxRecDepth 100000 in
set_option maxHeartbeats 6400000 in
theorem cloP_calls (x : PP) (hS : SmP x) (B : Nat) (v : Value) (W : World) (hB : B ≤ W.heap.size) (hx : x.In B W v) :
    Calls Tryz.prog 65 #[.agg #[.string x.name, v]] W fun e w' => ∃ x' : Value, e = .returned (.agg #[.string x.name, x']) ∧ Hid (PP.In w'.heap.size (Fr W.heap.size w') x x') ∧ Below W.heap.size W w' := by
  obtain ⟨hs, hn⟩ := hx
  obtain ⟨pa, pn, pc, rfl⟩ := hn.shape
  have HN := Lib.hid hn
  have HS := Lib.hid hS
  clear hn hS
  go_enter Tryz.func65, Tryz.ntmps65
  go_wp2_with fail
  obtain ⟨W0, hW0⟩ : ∃ W0, W0 = (W.alloc (Obj.cells #[.string x.name, .slice pa pn pc] 42)).alloc (Obj.cells #[.string ⟨#[]⟩, .slice none 0 0] 42) := ⟨_, rfl⟩
  rw [← hW0]
  have sz : W0.heap.size = W.heap.size + 2 := by rw [hW0]; simp
  have BB : Hid (Below W.heap.size W W0) := Lib.hid (hW0 ▸ ((Below.refl _ W).alloc (Nat.le_refl _) _).alloc (by simp) _)
  have x0 : W0.cell? ⟨W.heap.size, 0, none⟩ = some (.string x.name) := by rw [hW0]; go_simp
  have x1 : W0.cell? ⟨W.heap.size, 1, none⟩ = some (.slice pa pn pc) := by rw [hW0]; go_simp
  have r0 : W0.cell? ⟨W.heap.size + 1, 0, none⟩ = some (.string ⟨#[]⟩) := by rw [hW0]; go_simp
  have r1 : W0.cell? ⟨W.heap.size + 1, 1, none⟩ = some (.slice none 0 0) := by rw [hW0]; go_simp
  have g0 : W0.frozen? ⟨W.heap.size + 1, 0, none⟩ = false := by rw [hW0]; go_simp
  have g1 : W0.frozen? ⟨W.heap.size + 1, 1, none⟩ = false := by rw [hW0]; go_simp
  have hX : W.heap.size < W.heap.size + 1 := by omega
  clear hW0
  have K0 : Hid (∀ W1 : World, Calls Tryz.prog 66 #[.string x.name] W1 fun e w' => e = .returned (.string x.name) ∧ Below W1.heap.size W1 w') :=
    Lib.hid fun W1 => clone_calls x.name W1 (Nat.le_trans HS.out.1 (by decide))
  have K1 : Hid (∀ W1, Below W0.heap.size W0 W1 → Calls Tryz.prog 67 #[.slice pa pn pc, .func (.func 66) #[] #[]] W1 fun e w' => ∃ ua uc, e = .returned (.slice ua x.path.length uc) ∧ Hid (NIn w'.heap.size (Fr W1.heap.size w') x.path (.slice ua x.path.length uc)) ∧ Below W1.heap.size W1 w') :=
    Lib.hid fun W1 h => by
      have bw : Below W.heap.size W W1 := BB.out.trans (h.mono (by omega))
      have z := bw.size
      obtain ⟨b, o, hs, hr⟩ := (HN.out.below (bw.mono hB) : NIn B W1 x.path (.slice pa pn pc))
      refine (eachN_calls (B := B) (lb := #[]) x.path (.slice pa pn pc) b o W1 clone_enters (fun s hs W2 => clone_calls s W2 (Nat.le_trans (HS.out.2.2 s hs) (by decide))) (by omega) hs hr HS.out.2.1).mono ?_
      rintro e w' ⟨ua, uc, he, h1, h2⟩
      exact ⟨ua, uc, he, h1, h2⟩
  have HB : Hid (Below W0.heap.size W0 W0.drew) := Lib.hid (Below.refl _ W0).drew
  have XB : ∀ b o, b < W.heap.size + 1 → W0.drew.cell? ⟨b, o, none⟩ = W0.cell? ⟨b, o, none⟩ := fun b o _ => rfl
  go_region_held3 (fun w' => ∀ b o, b < W.heap.size + 1 → w'.cell? ⟨b, o, none⟩ = W0.cell? ⟨b, o, none⟩) (first | with_reducible exact XB | ((repeat (with_reducible refine low_set ?_ (Nat.le_refl _))); with_reducible exact XB))
    (first
        | (go_at_call 66; (with_reducible refine (K0.out _).mono ?_)
           rintro e wj0 ⟨rfl, bj⟩
           have zj := bj.size
           have zh := HB.out.size
           have HB : Hid (Below W0.heap.size W0 wj0) := Lib.hid (HB.out.trans (bj.mono zh))
           have XB : ∀ b o, b < W.heap.size + 1 → wj0.cell? ⟨b, o, none⟩ = W0.cell? ⟨b, o, none⟩ := low_of HB.out (by omega)
           clear bj zj zh)
        | (go_at_call 67; (with_reducible refine (K1.out _ HB.out).mono ?_)
           rintro e wj1 ⟨pn, qn, rfl, hfn, bj⟩
           have zj := bj.size
           have zh := HB.out.size
           have HF1 : Hid (NIn wj1.heap.size (Fr W0.heap.size wj1) x.path (.slice pn x.path.length qn)) := Lib.hid (NIn.reads (Nat.le_refl _) (Fr.reads zh (fun _ _ _ => rfl)) hfn.out)
           have HB : Hid (Below W0.heap.size W0 wj1) := Lib.hid (HB.out.trans (bj.mono zh))
           have XB : ∀ b o, b < W.heap.size + 1 → wj1.cell? ⟨b, o, none⟩ = W0.cell? ⟨b, o, none⟩ := low_of HB.out (by omega)
           have s0 : wj1.cell? ⟨W.heap.size + 1, 0, none⟩ = some (.string ⟨#[]⟩) := (HB.out.cell (p := ⟨W.heap.size + 1, 0, none⟩) (by simp; omega)).trans r0
           have s1 : wj1.cell? ⟨W.heap.size + 1, 1, none⟩ = some (.slice none 0 0) := (HB.out.cell (p := ⟨W.heap.size + 1, 1, none⟩) (by simp; omega)).trans r1
           have t0 : wj1.frozen? ⟨W.heap.size + 1, 0, none⟩ = false := (HB.out.frozen (p := ⟨W.heap.size + 1, 0, none⟩) (by simp; omega)).trans g0
           have t1 : wj1.frozen? ⟨W.heap.size + 1, 1, none⟩ = false := (HB.out.frozen (p := ⟨W.heap.size + 1, 1, none⟩) (by simp; omega)).trans g1
           clear bj zj zh hfn))
  go_wp2_with fail
  (try simp only [Exit.inBlock, Exit.then])
  have KP : Kp (W.heap.size + 1) wj1 ((wj1.setCell ⟨W.heap.size + 1, 0, none⟩ (.string x.name)).setCell ⟨W.heap.size + 1, 1, none⟩ (.slice pn x.path.length qn)) := (((Kp.refl (W.heap.size + 1) wj1).set _).set _)
  have RD : Reads (Fr W0.heap.size wj1) (Fr W.heap.size ((wj1.setCell ⟨W.heap.size + 1, 0, none⟩ (.string x.name)).setCell ⟨W.heap.size + 1, 1, none⟩ (.slice pn x.path.length qn))) := Fr.kp KP (by omega) (by omega)
  refine bodyPost_ret (v := .agg #[.string x.name, .slice pn x.path.length qn]) (by rw [results_cell1 rfl]; go_simp) rfl ⟨.slice pn x.path.length qn, rfl, Lib.hid ?_, (((BB.out.trans (HB.out.mono (by omega))).setCell (by simp) _).setCell (by simp) _)⟩
  exact ⟨hs, NIn.reads KP.1 RD HF1.out⟩
end Go.Proofs.YtojeijeimpffgaaGreat
