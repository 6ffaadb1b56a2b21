/- What came in as data lies in memory as a tree: statements, items, programs (made by gen_open.py). -/
import Derived.Test.YthilicmhdkmipaaGreatDoorIJoinAW
namespace Go.Proofs.YthilicmhdkmipaaGreatDoor
open Go.RowKit
set_option linter.unusedVariables false

section
variable {H : Type} {enc : TypeId × Value → H} {w : World} {spare : Nat → Bool} {held : Bool}
theorem stmtOf (fuel : Nat) : (∀ (cs : List Value) (x : DataW H × List MemPlace), DataW.trod enc Tryz.prog w 0 spare held fuel 130 cs = some x → ∃ (t : PS) (v : VS), cs = t.cells v ∧ t.In w.heap.size w v) ∧ (∀ (cs : List Value) (x : DataW H × List MemPlace), DataW.trod enc Tryz.prog w 0 spare held fuel 133 cs = some x → ∃ (t : PA) (v : Value), cs = t.cells v ∧ t.In w.heap.size w v) := by
  induction fuel using Nat.strongRecOn with
  | _ fuel ih =>
  refine ⟨fun cs x h => ?_, fun cs x h => ?_⟩
  · skip
    obtain ⟨xs, n, rfl, rfl, hlen, hxl, hf⟩ := DataW.trod_struct Tryz.underlying130 h
    rw [show Tryz.prog.cellsOf 130 = 15 from by kernel_rfl] at hlen
    obtain _ | ⟨k0, cs⟩ := cs
    · simp at hlen
    obtain _ | ⟨k1, cs⟩ := cs
    · simp at hlen
    obtain _ | ⟨k2, cs⟩ := cs
    · simp at hlen
    obtain _ | ⟨k3, cs⟩ := cs
    · simp at hlen
    obtain _ | ⟨k4, cs⟩ := cs
    · simp at hlen
    obtain _ | ⟨k5, cs⟩ := cs
    · simp at hlen
    obtain _ | ⟨k6, cs⟩ := cs
    · simp at hlen
    obtain _ | ⟨k7, cs⟩ := cs
    · simp at hlen
    obtain _ | ⟨k8, cs⟩ := cs
    · simp at hlen
    obtain _ | ⟨k9, cs⟩ := cs
    · simp at hlen
    obtain _ | ⟨k10, cs⟩ := cs
    · simp at hlen
    obtain _ | ⟨k11, cs⟩ := cs
    · simp at hlen
    obtain _ | ⟨k12, cs⟩ := cs
    · simp at hlen
    obtain _ | ⟨k13, cs⟩ := cs
    · simp at hlen
    obtain _ | ⟨k14, cs⟩ := cs
    · simp at hlen
    obtain rfl : cs = [] := by
      cases cs with
      | nil => rfl
      | cons c cs => simp at hlen
    clear hlen
    have fa := hf 0 _ rfl
    change DataW.trod enc Tryz.prog w 0 spare held n 5 ((List.drop 0 [k0, k1, k2, k3, k4, k5, k6, k7, k8, k9, k10, k11, k12, k13, k14]).take (Tryz.prog.cellsOf 5)) = xs[0]? at fa
    rw [show Tryz.prog.cellsOf 5 = 1 from by kernel_rfl, List.getElem?_eq_getElem (show 0 < xs.length by rw [hxl]; decide)] at fa
    replace fa : DataW.trod enc Tryz.prog w 0 spare held n 5 [k0] = some _ := fa
    have fb := hf 1 _ rfl
    change DataW.trod enc Tryz.prog w 0 spare held n 9 ((List.drop 1 [k0, k1, k2, k3, k4, k5, k6, k7, k8, k9, k10, k11, k12, k13, k14]).take (Tryz.prog.cellsOf 9)) = xs[1]? at fb
    rw [show Tryz.prog.cellsOf 9 = 1 from by kernel_rfl, List.getElem?_eq_getElem (show 1 < xs.length by rw [hxl]; decide)] at fb
    replace fb : DataW.trod enc Tryz.prog w 0 spare held n 9 [k1] = some _ := fb
    have fc := hf 2 _ rfl
    change DataW.trod enc Tryz.prog w 0 spare held n 9 ((List.drop 2 [k0, k1, k2, k3, k4, k5, k6, k7, k8, k9, k10, k11, k12, k13, k14]).take (Tryz.prog.cellsOf 9)) = xs[2]? at fc
    rw [show Tryz.prog.cellsOf 9 = 1 from by kernel_rfl, List.getElem?_eq_getElem (show 2 < xs.length by rw [hxl]; decide)] at fc
    replace fc : DataW.trod enc Tryz.prog w 0 spare held n 9 [k2] = some _ := fc
    have fd := hf 3 _ rfl
    change DataW.trod enc Tryz.prog w 0 spare held n 32 ((List.drop 3 [k0, k1, k2, k3, k4, k5, k6, k7, k8, k9, k10, k11, k12, k13, k14]).take (Tryz.prog.cellsOf 32)) = xs[3]? at fd
    rw [show Tryz.prog.cellsOf 32 = 1 from by kernel_rfl, List.getElem?_eq_getElem (show 3 < xs.length by rw [hxl]; decide)] at fd
    replace fd : DataW.trod enc Tryz.prog w 0 spare held n 32 [k3] = some _ := fd
    have fe := hf 4 _ rfl
    change DataW.trod enc Tryz.prog w 0 spare held n 31 ((List.drop 4 [k0, k1, k2, k3, k4, k5, k6, k7, k8, k9, k10, k11, k12, k13, k14]).take (Tryz.prog.cellsOf 31)) = xs[4]? at fe
    rw [show Tryz.prog.cellsOf 31 = 3 from by kernel_rfl, List.getElem?_eq_getElem (show 4 < xs.length by rw [hxl]; decide)] at fe
    replace fe : DataW.trod enc Tryz.prog w 0 spare held n 31 [k4, k5, k6] = some _ := fe
    have ff := hf 5 _ rfl
    change DataW.trod enc Tryz.prog w 0 spare held n 2 ((List.drop 7 [k0, k1, k2, k3, k4, k5, k6, k7, k8, k9, k10, k11, k12, k13, k14]).take (Tryz.prog.cellsOf 2)) = xs[5]? at ff
    rw [show Tryz.prog.cellsOf 2 = 1 from by kernel_rfl, List.getElem?_eq_getElem (show 5 < xs.length by rw [hxl]; decide)] at ff
    replace ff : DataW.trod enc Tryz.prog w 0 spare held n 2 [k7] = some _ := ff
    have fg := hf 6 _ rfl
    change DataW.trod enc Tryz.prog w 0 spare held n 34 ((List.drop 8 [k0, k1, k2, k3, k4, k5, k6, k7, k8, k9, k10, k11, k12, k13, k14]).take (Tryz.prog.cellsOf 34)) = xs[6]? at fg
    rw [show Tryz.prog.cellsOf 34 = 2 from by kernel_rfl, List.getElem?_eq_getElem (show 6 < xs.length by rw [hxl]; decide)] at fg
    replace fg : DataW.trod enc Tryz.prog w 0 spare held n 34 [k8, k9] = some _ := fg
    have fh := hf 7 _ rfl
    change DataW.trod enc Tryz.prog w 0 spare held n 35 ((List.drop 10 [k0, k1, k2, k3, k4, k5, k6, k7, k8, k9, k10, k11, k12, k13, k14]).take (Tryz.prog.cellsOf 35)) = xs[7]? at fh
    rw [show Tryz.prog.cellsOf 35 = 1 from by kernel_rfl, List.getElem?_eq_getElem (show 7 < xs.length by rw [hxl]; decide)] at fh
    replace fh : DataW.trod enc Tryz.prog w 0 spare held n 35 [k10] = some _ := fh
    have fi := hf 8 _ rfl
    change DataW.trod enc Tryz.prog w 0 spare held n 66 ((List.drop 11 [k0, k1, k2, k3, k4, k5, k6, k7, k8, k9, k10, k11, k12, k13, k14]).take (Tryz.prog.cellsOf 66)) = xs[8]? at fi
    rw [show Tryz.prog.cellsOf 66 = 1 from by kernel_rfl, List.getElem?_eq_getElem (show 8 < xs.length by rw [hxl]; decide)] at fi
    replace fi : DataW.trod enc Tryz.prog w 0 spare held n 66 [k11] = some _ := fi
    have fj := hf 9 _ rfl
    change DataW.trod enc Tryz.prog w 0 spare held n 66 ((List.drop 12 [k0, k1, k2, k3, k4, k5, k6, k7, k8, k9, k10, k11, k12, k13, k14]).take (Tryz.prog.cellsOf 66)) = xs[9]? at fj
    rw [show Tryz.prog.cellsOf 66 = 1 from by kernel_rfl, List.getElem?_eq_getElem (show 9 < xs.length by rw [hxl]; decide)] at fj
    replace fj : DataW.trod enc Tryz.prog w 0 spare held n 66 [k12] = some _ := fj
    have fk := hf 10 _ rfl
    change DataW.trod enc Tryz.prog w 0 spare held n 128 ((List.drop 13 [k0, k1, k2, k3, k4, k5, k6, k7, k8, k9, k10, k11, k12, k13, k14]).take (Tryz.prog.cellsOf 128)) = xs[10]? at fk
    rw [show Tryz.prog.cellsOf 128 = 1 from by kernel_rfl, List.getElem?_eq_getElem (show 10 < xs.length by rw [hxl]; decide)] at fk
    replace fk : DataW.trod enc Tryz.prog w 0 spare held n 128 [k13] = some _ := fk
    have fl := hf 11 _ rfl
    change DataW.trod enc Tryz.prog w 0 spare held n 3 ((List.drop 14 [k0, k1, k2, k3, k4, k5, k6, k7, k8, k9, k10, k11, k12, k13, k14]).take (Tryz.prog.cellsOf 3)) = xs[11]? at fl
    rw [show Tryz.prog.cellsOf 3 = 1 from by kernel_rfl, List.getElem?_eq_getElem (show 11 < xs.length by rw [hxl]; decide)] at fl
    replace fl : DataW.trod enc Tryz.prog w 0 spare held n 3 [k14] = some _ := fl
    obtain ⟨op, e, _, wa⟩ := DataW.trod_int Tryz.underlying5 fa
    obtain rfl : k0 = .int .u8 op := by simpa using e
    clear e
    obtain ⟨nm, e, _, wb⟩ := DataW.trod_string Tryz.underlying9 fb
    obtain rfl : k1 = .string nm := by simpa using e
    clear e
    obtain ⟨sc, e, _, wc⟩ := DataW.trod_string Tryz.underlying9 fc
    obtain rfl : k2 = .string sc := by simpa using e
    clear e
    obtain ⟨au, lu, cu, nu, bu, ou, e, hnu, su, elu⟩ := slice_open Tryz.underlying32 (show Tryz.prog.cellsOf 9 = 1 from by kernel_rfl) (by omega) fd
    obtain rfl : k3 = .slice au lu cu := by simpa using e
    clear e
    obtain ⟨Lu, hLu, rLu⟩ := NRow.mk (w := w) (b := bu) (n := lu) (o := ou) (fun i hi => by
      obtain ⟨ci, y, h1, h2⟩ := elu i hi
      obtain ⟨st, rfl, _, hst⟩ := DataW.trod_string Tryz.underlying9 h2
      exact ⟨st, hst, h1⟩)
    subst hLu
    obtain ⟨ty, vt, e, hty⟩ := typeOf _ _ _ fe
    obtain ⟨rfl, rfl, rfl⟩ : k4 = .int .u8 ty.kind ∧ k5 = .string ty.name ∧ k6 = vt := by simpa [PT.cells] using e
    clear e
    obtain ⟨iv, e, _, wf⟩ := DataW.trod_int Tryz.underlying2 ff
    obtain rfl : k7 = .int .i64 iv := by simpa using e
    clear e
    obtain ⟨pl, vp, e, hpl⟩ := placeOf _ _ _ fg
    obtain ⟨rfl, rfl⟩ : k8 = .string pl.name ∧ k9 = vp := by simpa using e
    clear e
    obtain ⟨av, lv, cv, nv, bv, ov, e, hnv, sv, elv⟩ := slice_open Tryz.underlying35 (show Tryz.prog.cellsOf 37 = 8 from by kernel_rfl) (by omega) fh
    obtain rfl : k10 = .slice av lv cv := by simpa using e
    clear e
    obtain ⟨Lv, hLv, rLv⟩ := PE.Row.mk (B := w.heap.size) (w := w) (b := bv) (n := lv) (o := ov) (fun i hi => by
      obtain ⟨ci, y, h1, h2⟩ := elv i hi
      obtain ⟨t, v, rfl, hin⟩ := exprOf _ ci y h2
      exact ⟨t, v, h1, hin⟩)
    subst hLv
    obtain ⟨ax, lx, cx, nx, bx, ox, e, hnx, sx, elx⟩ := slice_open Tryz.underlying66 (show Tryz.prog.cellsOf 130 = 15 from by kernel_rfl) (by omega) fi
    obtain rfl : k11 = .slice ax lx cx := by simpa using e
    clear e
    obtain ⟨Lx, hLx, rLx⟩ := PS.Row.mk (B := w.heap.size) (w := w) (b := bx) (n := lx) (o := ox) (fun i hi => by
      obtain ⟨ci, y, h1, h2⟩ := elx i hi
      obtain ⟨t, v, rfl, hin⟩ := (ih nx (by omega)).1 ci y h2
      exact ⟨t, v, h1, hin⟩)
    subst hLx
    obtain ⟨ay, ly, cy, ny, bY, oy, e, hny, sy, ely⟩ := slice_open Tryz.underlying66 (show Tryz.prog.cellsOf 130 = 15 from by kernel_rfl) (by omega) fj
    obtain rfl : k12 = .slice ay ly cy := by simpa using e
    clear e
    obtain ⟨Ly, hLy, rLy⟩ := PS.Row.mk (B := w.heap.size) (w := w) (b := bY) (n := ly) (o := oy) (fun i hi => by
      obtain ⟨ci, y, h1, h2⟩ := ely i hi
      obtain ⟨t, v, rfl, hin⟩ := (ih ny (by omega)).1 ci y h2
      exact ⟨t, v, h1, hin⟩)
    subst hLy
    obtain ⟨az, lz, cz, nz, bz, oz, e, hnz, sz, elz⟩ := slice_open Tryz.underlying128 (show Tryz.prog.cellsOf 133 = 3 from by kernel_rfl) (by omega) fk
    obtain rfl : k13 = .slice az lz cz := by simpa using e
    clear e
    obtain ⟨Lz, hLz, rLz⟩ := PA.Row.mk (B := w.heap.size) (w := w) (b := bz) (n := lz) (o := oz) (fun i hi => by
      obtain ⟨ci, y, h1, h2⟩ := elz i hi
      obtain ⟨t, v, rfl, hin⟩ := (ih nz (by omega)).2 ci y h2
      exact ⟨t, v, h1, hin⟩)
    subst hLz
    obtain ⟨pos, e, _, wl⟩ := DataW.trod_int Tryz.underlying3 fl
    obtain rfl : k14 = .int .i64 pos := by simpa using e
    clear e
    exact ⟨.mk op nm sc Lu ty iv pl Lv Lx Ly Lz pos, ⟨_, _, _, _, _, _, _⟩, rfl, ⟨wa, wf, wl, wb, wc⟩, ⟨bu, ou, su, rLu⟩, hty, hpl, ⟨bv, ov, sv, rLv⟩, ⟨bx, ox, sx, rLx⟩, ⟨bY, oy, sy, rLy⟩, bz, oz, sz, rLz⟩
  · skip
    obtain ⟨xs, n, rfl, rfl, hlen, hxl, hf⟩ := DataW.trod_struct Tryz.underlying133 h
    rw [show Tryz.prog.cellsOf 133 = 3 from by kernel_rfl] at hlen
    obtain _ | ⟨k0, cs⟩ := cs
    · simp at hlen
    obtain _ | ⟨k1, cs⟩ := cs
    · simp at hlen
    obtain _ | ⟨k2, cs⟩ := cs
    · simp at hlen
    obtain rfl : cs = [] := by
      cases cs with
      | nil => rfl
      | cons c cs => simp at hlen
    clear hlen
    have fa := hf 0 _ rfl
    change DataW.trod enc Tryz.prog w 0 spare held n 9 ((List.drop 0 [k0, k1, k2]).take (Tryz.prog.cellsOf 9)) = xs[0]? at fa
    rw [show Tryz.prog.cellsOf 9 = 1 from by kernel_rfl, List.getElem?_eq_getElem (show 0 < xs.length by rw [hxl]; decide)] at fa
    replace fa : DataW.trod enc Tryz.prog w 0 spare held n 9 [k0] = some _ := fa
    have fb := hf 1 _ rfl
    change DataW.trod enc Tryz.prog w 0 spare held n 9 ((List.drop 1 [k0, k1, k2]).take (Tryz.prog.cellsOf 9)) = xs[1]? at fb
    rw [show Tryz.prog.cellsOf 9 = 1 from by kernel_rfl, List.getElem?_eq_getElem (show 1 < xs.length by rw [hxl]; decide)] at fb
    replace fb : DataW.trod enc Tryz.prog w 0 spare held n 9 [k1] = some _ := fb
    have fc := hf 2 _ rfl
    change DataW.trod enc Tryz.prog w 0 spare held n 66 ((List.drop 2 [k0, k1, k2]).take (Tryz.prog.cellsOf 66)) = xs[2]? at fc
    rw [show Tryz.prog.cellsOf 66 = 1 from by kernel_rfl, List.getElem?_eq_getElem (show 2 < xs.length by rw [hxl]; decide)] at fc
    replace fc : DataW.trod enc Tryz.prog w 0 spare held n 66 [k2] = some _ := fc
    obtain ⟨va, e, _, wa⟩ := DataW.trod_string Tryz.underlying9 fa
    obtain rfl : k0 = .string va := by simpa using e
    clear e
    obtain ⟨nm, e, _, wb⟩ := DataW.trod_string Tryz.underlying9 fb
    obtain rfl : k1 = .string nm := by simpa using e
    clear e
    obtain ⟨ax, lx, cx, nx, bx, ox, e, hnx, sx, elx⟩ := slice_open Tryz.underlying66 (show Tryz.prog.cellsOf 130 = 15 from by kernel_rfl) (by omega) fc
    obtain rfl : k2 = .slice ax lx cx := by simpa using e
    clear e
    obtain ⟨Lx, hLx, rLx⟩ := PS.Row.mk (B := w.heap.size) (w := w) (b := bx) (n := lx) (o := ox) (fun i hi => by
      obtain ⟨ci, y, h1, h2⟩ := elx i hi
      obtain ⟨t, v, rfl, hin⟩ := (ih nx (by omega)).1 ci y h2
      exact ⟨t, v, h1, hin⟩)
    subst hLx
    exact ⟨.mk va nm Lx, _, rfl, ⟨wa, wb⟩, bx, ox, sx, rLx⟩
theorem fieldOf (fuel : Nat) (cs : List Value) (x : DataW H × List MemPlace) (h : DataW.trod enc Tryz.prog w 0 spare held fuel 127 cs = some x) : ∃ (t : PF) (v : Value), cs = t.cells v ∧ t.In w.heap.size w v := by
  obtain ⟨xs, n, rfl, rfl, hlen, hxl, hf⟩ := DataW.trod_struct Tryz.underlying127 h
  rw [show Tryz.prog.cellsOf 127 = 4 from by kernel_rfl] at hlen
  obtain _ | ⟨k0, cs⟩ := cs
  · simp at hlen
  obtain _ | ⟨k1, cs⟩ := cs
  · simp at hlen
  obtain _ | ⟨k2, cs⟩ := cs
  · simp at hlen
  obtain _ | ⟨k3, cs⟩ := cs
  · simp at hlen
  obtain rfl : cs = [] := by
    cases cs with
    | nil => rfl
    | cons c cs => simp at hlen
  clear hlen
  have fa := hf 0 _ rfl
  change DataW.trod enc Tryz.prog w 0 spare held n 9 ((List.drop 0 [k0, k1, k2, k3]).take (Tryz.prog.cellsOf 9)) = xs[0]? at fa
  rw [show Tryz.prog.cellsOf 9 = 1 from by kernel_rfl, List.getElem?_eq_getElem (show 0 < xs.length by rw [hxl]; decide)] at fa
  replace fa : DataW.trod enc Tryz.prog w 0 spare held n 9 [k0] = some _ := fa
  have fb := hf 1 _ rfl
  change DataW.trod enc Tryz.prog w 0 spare held n 31 ((List.drop 1 [k0, k1, k2, k3]).take (Tryz.prog.cellsOf 31)) = xs[1]? at fb
  rw [show Tryz.prog.cellsOf 31 = 3 from by kernel_rfl, List.getElem?_eq_getElem (show 1 < xs.length by rw [hxl]; decide)] at fb
  replace fb : DataW.trod enc Tryz.prog w 0 spare held n 31 [k1, k2, k3] = some _ := fb
  obtain ⟨nm, e, _, wa⟩ := DataW.trod_string Tryz.underlying9 fa
  obtain rfl : k0 = .string nm := by simpa using e
  clear e
  obtain ⟨ty, vt, e, hty⟩ := typeOf _ _ _ fb
  obtain ⟨rfl, rfl, rfl⟩ : k1 = .int .u8 ty.kind ∧ k2 = .string ty.name ∧ k3 = vt := by simpa [PT.cells] using e
  exact ⟨⟨nm, ty⟩, _, rfl, wa, hty⟩
theorem itemOf (fuel : Nat) (cs : List Value) (x : DataW H × List MemPlace) (h : DataW.trod enc Tryz.prog w 0 spare held fuel 68 cs = some x) : ∃ (t : PI) (v : VI), cs = t.cells v ∧ t.In w.heap.size w v := by
  obtain ⟨xs, n, rfl, rfl, hlen, hxl, hf⟩ := DataW.trod_struct Tryz.underlying68 h
  rw [show Tryz.prog.cellsOf 68 = 16 from by kernel_rfl] at hlen
  obtain _ | ⟨k0, cs⟩ := cs
  · simp at hlen
  obtain _ | ⟨k1, cs⟩ := cs
  · simp at hlen
  obtain _ | ⟨k2, cs⟩ := cs
  · simp at hlen
  obtain _ | ⟨k3, cs⟩ := cs
  · simp at hlen
  obtain _ | ⟨k4, cs⟩ := cs
  · simp at hlen
  obtain _ | ⟨k5, cs⟩ := cs
  · simp at hlen
  obtain _ | ⟨k6, cs⟩ := cs
  · simp at hlen
  obtain _ | ⟨k7, cs⟩ := cs
  · simp at hlen
  obtain _ | ⟨k8, cs⟩ := cs
  · simp at hlen
  obtain _ | ⟨k9, cs⟩ := cs
  · simp at hlen
  obtain _ | ⟨k10, cs⟩ := cs
  · simp at hlen
  obtain _ | ⟨k11, cs⟩ := cs
  · simp at hlen
  obtain _ | ⟨k12, cs⟩ := cs
  · simp at hlen
  obtain _ | ⟨k13, cs⟩ := cs
  · simp at hlen
  obtain _ | ⟨k14, cs⟩ := cs
  · simp at hlen
  obtain _ | ⟨k15, cs⟩ := cs
  · simp at hlen
  obtain rfl : cs = [] := by
    cases cs with
    | nil => rfl
    | cons c cs => simp at hlen
  clear hlen
  have fa := hf 0 _ rfl
  change DataW.trod enc Tryz.prog w 0 spare held n 5 ((List.drop 0 [k0, k1, k2, k3, k4, k5, k6, k7, k8, k9, k10, k11, k12, k13, k14, k15]).take (Tryz.prog.cellsOf 5)) = xs[0]? at fa
  rw [show Tryz.prog.cellsOf 5 = 1 from by kernel_rfl, List.getElem?_eq_getElem (show 0 < xs.length by rw [hxl]; decide)] at fa
  replace fa : DataW.trod enc Tryz.prog w 0 spare held n 5 [k0] = some _ := fa
  have fb := hf 1 _ rfl
  change DataW.trod enc Tryz.prog w 0 spare held n 9 ((List.drop 1 [k0, k1, k2, k3, k4, k5, k6, k7, k8, k9, k10, k11, k12, k13, k14, k15]).take (Tryz.prog.cellsOf 9)) = xs[1]? at fb
  rw [show Tryz.prog.cellsOf 9 = 1 from by kernel_rfl, List.getElem?_eq_getElem (show 1 < xs.length by rw [hxl]; decide)] at fb
  replace fb : DataW.trod enc Tryz.prog w 0 spare held n 9 [k1] = some _ := fb
  have fc := hf 2 _ rfl
  change DataW.trod enc Tryz.prog w 0 spare held n 65 ((List.drop 2 [k0, k1, k2, k3, k4, k5, k6, k7, k8, k9, k10, k11, k12, k13, k14, k15]).take (Tryz.prog.cellsOf 65)) = xs[2]? at fc
  rw [show Tryz.prog.cellsOf 65 = 1 from by kernel_rfl, List.getElem?_eq_getElem (show 2 < xs.length by rw [hxl]; decide)] at fc
  replace fc : DataW.trod enc Tryz.prog w 0 spare held n 65 [k2] = some _ := fc
  have fd := hf 3 _ rfl
  change DataW.trod enc Tryz.prog w 0 spare held n 31 ((List.drop 3 [k0, k1, k2, k3, k4, k5, k6, k7, k8, k9, k10, k11, k12, k13, k14, k15]).take (Tryz.prog.cellsOf 31)) = xs[3]? at fd
  rw [show Tryz.prog.cellsOf 31 = 3 from by kernel_rfl, List.getElem?_eq_getElem (show 3 < xs.length by rw [hxl]; decide)] at fd
  replace fd : DataW.trod enc Tryz.prog w 0 spare held n 31 [k3, k4, k5] = some _ := fd
  have fe := hf 4 _ rfl
  change DataW.trod enc Tryz.prog w 0 spare held n 66 ((List.drop 6 [k0, k1, k2, k3, k4, k5, k6, k7, k8, k9, k10, k11, k12, k13, k14, k15]).take (Tryz.prog.cellsOf 66)) = xs[4]? at fe
  rw [show Tryz.prog.cellsOf 66 = 1 from by kernel_rfl, List.getElem?_eq_getElem (show 4 < xs.length by rw [hxl]; decide)] at fe
  replace fe : DataW.trod enc Tryz.prog w 0 spare held n 66 [k6] = some _ := fe
  have ff := hf 5 _ rfl
  change DataW.trod enc Tryz.prog w 0 spare held n 37 ((List.drop 7 [k0, k1, k2, k3, k4, k5, k6, k7, k8, k9, k10, k11, k12, k13, k14, k15]).take (Tryz.prog.cellsOf 37)) = xs[5]? at ff
  rw [show Tryz.prog.cellsOf 37 = 8 from by kernel_rfl, List.getElem?_eq_getElem (show 5 < xs.length by rw [hxl]; decide)] at ff
  replace ff : DataW.trod enc Tryz.prog w 0 spare held n 37 [k7, k8, k9, k10, k11, k12, k13, k14] = some _ := ff
  have fg := hf 6 _ rfl
  change DataW.trod enc Tryz.prog w 0 spare held n 3 ((List.drop 15 [k0, k1, k2, k3, k4, k5, k6, k7, k8, k9, k10, k11, k12, k13, k14, k15]).take (Tryz.prog.cellsOf 3)) = xs[6]? at fg
  rw [show Tryz.prog.cellsOf 3 = 1 from by kernel_rfl, List.getElem?_eq_getElem (show 6 < xs.length by rw [hxl]; decide)] at fg
  replace fg : DataW.trod enc Tryz.prog w 0 spare held n 3 [k15] = some _ := fg
  obtain ⟨kd, e, _, wa⟩ := DataW.trod_int Tryz.underlying5 fa
  obtain rfl : k0 = .int .u8 kd := by simpa using e
  clear e
  obtain ⟨nm, e, _, wb⟩ := DataW.trod_string Tryz.underlying9 fb
  obtain rfl : k1 = .string nm := by simpa using e
  clear e
  obtain ⟨au, lu, cu, nu, bu, ou, e, hnu, su, elu⟩ := slice_open Tryz.underlying65 (show Tryz.prog.cellsOf 127 = 4 from by kernel_rfl) (by omega) fc
  obtain rfl : k2 = .slice au lu cu := by simpa using e
  clear e
  obtain ⟨Lu, hLu, rLu⟩ := PF.Row.mk (B := w.heap.size) (w := w) (b := bu) (n := lu) (o := ou) (fun i hi => by
    obtain ⟨ci, y, h1, h2⟩ := elu i hi
    obtain ⟨t, v, rfl, hin⟩ := fieldOf _ ci y h2
    exact ⟨t, v, h1, hin⟩)
  subst hLu
  obtain ⟨ty, vt, e, hty⟩ := typeOf _ _ _ fd
  obtain ⟨rfl, rfl, rfl⟩ : k3 = .int .u8 ty.kind ∧ k4 = .string ty.name ∧ k5 = vt := by simpa [PT.cells] using e
  clear e
  obtain ⟨ax, lx, cx, nx, bx, ox, e, hnx, sx, elx⟩ := slice_open Tryz.underlying66 (show Tryz.prog.cellsOf 130 = 15 from by kernel_rfl) (by omega) fe
  obtain rfl : k6 = .slice ax lx cx := by simpa using e
  clear e
  obtain ⟨Lx, hLx, rLx⟩ := PS.Row.mk (B := w.heap.size) (w := w) (b := bx) (n := lx) (o := ox) (fun i hi => by
    obtain ⟨ci, y, h1, h2⟩ := elx i hi
    obtain ⟨t, v, rfl, hin⟩ := (stmtOf _).1 ci y h2
    exact ⟨t, v, h1, hin⟩)
  subst hLx
  obtain ⟨rx, vx, e, hrx⟩ := exprOf _ _ _ ff
  obtain ⟨rfl, rfl, rfl, rfl, rfl, e5, e6, rfl⟩ : k7 = .int .u8 rx.op ∧ k8 = .int .i64 rx.int ∧ k9 = .string rx.name ∧ k10 = .string rx.second ∧ k11 = .string rx.place.name ∧ k12 = vx.path ∧ k13 = vx.args ∧ k14 = .int .i64 rx.pos := by simpa [PE.cells] using e
  subst e5 e6
  clear e
  obtain ⟨pos, e, _, wg⟩ := DataW.trod_int Tryz.underlying3 fg
  obtain rfl : k15 = .int .i64 pos := by simpa using e
  clear e
  exact ⟨⟨kd, nm, Lu, ty, Lx, rx, pos⟩, ⟨_, _, _, vx⟩, rfl, ⟨wa, wg, wb⟩, ⟨bu, ou, su, rLu⟩, hty, ⟨bx, ox, sx, rLx⟩, hrx⟩
theorem progOf (fuel : Nat) (cs : List Value) (x : DataW H × List MemPlace) (h : DataW.trod enc Tryz.prog w 0 spare held fuel 24 cs = some x) : ∃ (p : List PI) (ao : Option Addr) (n c : Nat), cs = [.slice ao n c] ∧ ProgIn w.heap.size w p (.slice ao n c) := by
  obtain ⟨xs, n, rfl, rfl, hlen, hxl, hf⟩ := DataW.trod_struct Tryz.underlying24 h
  rw [show Tryz.prog.cellsOf 24 = 1 from by kernel_rfl] at hlen
  obtain _ | ⟨k0, cs⟩ := cs
  · simp at hlen
  obtain rfl : cs = [] := by
    cases cs with
    | nil => rfl
    | cons c cs => simp at hlen
  clear hlen
  have fa := hf 0 _ rfl
  change DataW.trod enc Tryz.prog w 0 spare held n 22 ((List.drop 0 [k0]).take (Tryz.prog.cellsOf 22)) = xs[0]? at fa
  rw [show Tryz.prog.cellsOf 22 = 1 from by kernel_rfl, List.getElem?_eq_getElem (show 0 < xs.length by rw [hxl]; decide)] at fa
  replace fa : DataW.trod enc Tryz.prog w 0 spare held n 22 [k0] = some _ := fa
  obtain ⟨ax, lx, cx, nx, bx, ox, e, hnx, sx, elx⟩ := slice_open Tryz.underlying22 (show Tryz.prog.cellsOf 68 = 16 from by kernel_rfl) (by omega) fa
  obtain rfl : k0 = .slice ax lx cx := by simpa using e
  clear e
  obtain ⟨Lx, hLx, rLx⟩ := PI.Row.mk (B := w.heap.size) (w := w) (b := bx) (n := lx) (o := ox) (fun i hi => by
    obtain ⟨ci, y, h1, h2⟩ := elx i hi
    obtain ⟨t, v, rfl, hin⟩ := itemOf _ ci y h2
    exact ⟨t, v, h1, hin⟩)
  subst hLx
  exact ⟨Lx, _, _, _, rfl, bx, ox, sx, rLx⟩
end
end Go.Proofs.YthilicmhdkmipaaGreatDoor

