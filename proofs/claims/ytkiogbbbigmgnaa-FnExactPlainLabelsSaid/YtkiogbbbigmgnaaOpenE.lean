/-
  An argument that is an entry, opened to its parts.
-/
import Derived.Test.YtkiogbbbigmgnaaEn
import Derived.Test.YtkiogbbbigmgnaaOpenNs
import Derived.Test.YtkiogbbbigmgnaaOpenD
namespace Go.Proofs.Ytkiogbbbigmgnaa.OpenE
open Go.ChangeShapes Go.WideShapes Go.ChangeAt Go.RowKit Go.Joins Go.Deep
open Strs Help Name Nms Ens OpenN
set_option linter.unusedSimpArgs false
set_option linter.unusedVariables false

theorem k1s : Try.prog.cellsOf 9 = 1 := by kernel_rfl
theorem k1i : Try.prog.cellsOf 3 = 1 := by kernel_rfl
theorem k1b : Try.prog.cellsOf 4 = 1 := by kernel_rfl
theorem k1n : Try.prog.cellsOf 59 = 1 := by kernel_rfl
theorem k4d : Try.prog.cellsOf 61 = 4 := by kernel_rfl
theorem k14 : Try.prog.cellsOf 63 = 14 := by kernel_rfl
theorem one_of {α : Type} {l : List α} {a : Option α} {i : Nat} (h : a = l[i]?) (hi : i < l.length) : ∃ y, a = some y := ⟨_, h.trans (List.getElem?_eq_getElem hi)⟩
set_option maxRecDepth 100000 in
set_option maxHeartbeats 4000000 in
/-- an entry in its fourteen cells -/
theorem cells_entry {H : Type} {enc : TypeId × Value → H} {W : World} {base fuel : Nat} {held : Bool} {c0 c1 c2 c3 c4 c5 c6 c7 c8 c9 c10 c11 c12 c13 : Value} {y : DataW H × List MemPlace} (hf : DataW.trod enc Try.prog W base (fun _ => true) held fuel 63 [c0, c1, c2, c3, c4, c5, c6, c7, c8, c9, c10, c11, c12, c13] = some y) :
    ∃ e : En, #[c0, c1, c2, c3, c4, c5, c6, c7, c8, c9, c10, c11, c12, c13] = e.cs ∧ e.Rd W ∧ e.Lim := by
  obtain ⟨xs, n, _, _, _, hxl, hx⟩ := DataW.trod_struct Try.underlying63 hf
  have hl : xs.length = 11 := hxl
  have g0 : DataW.trod enc Try.prog W base (fun _ => true) held n 9 (([c0, c1, c2, c3, c4, c5, c6, c7, c8, c9, c10, c11, c12, c13].drop 0).take (Try.prog.cellsOf 9)) = xs[0]? := hx 0 _ rfl
  rw [k1s] at g0
  obtain ⟨y0, e0⟩ := one_of g0 (by omega)
  replace e0 : DataW.trod enc Try.prog W base (fun _ => true) held n 9 [c0] = some y0 := e0
  have g1 : DataW.trod enc Try.prog W base (fun _ => true) held n 3 (([c0, c1, c2, c3, c4, c5, c6, c7, c8, c9, c10, c11, c12, c13].drop 1).take (Try.prog.cellsOf 3)) = xs[1]? := hx 1 _ rfl
  rw [k1i] at g1
  obtain ⟨y1, e1⟩ := one_of g1 (by omega)
  replace e1 : DataW.trod enc Try.prog W base (fun _ => true) held n 3 [c1] = some y1 := e1
  have g2 : DataW.trod enc Try.prog W base (fun _ => true) held n 59 (([c0, c1, c2, c3, c4, c5, c6, c7, c8, c9, c10, c11, c12, c13].drop 2).take (Try.prog.cellsOf 59)) = xs[2]? := hx 2 _ rfl
  rw [k1n] at g2
  obtain ⟨y2, e2⟩ := one_of g2 (by omega)
  replace e2 : DataW.trod enc Try.prog W base (fun _ => true) held n 59 [c2] = some y2 := e2
  have g3 : DataW.trod enc Try.prog W base (fun _ => true) held n 59 (([c0, c1, c2, c3, c4, c5, c6, c7, c8, c9, c10, c11, c12, c13].drop 3).take (Try.prog.cellsOf 59)) = xs[3]? := hx 3 _ rfl
  rw [k1n] at g3
  obtain ⟨y3, e3⟩ := one_of g3 (by omega)
  replace e3 : DataW.trod enc Try.prog W base (fun _ => true) held n 59 [c3] = some y3 := e3
  have g4 : DataW.trod enc Try.prog W base (fun _ => true) held n 9 (([c0, c1, c2, c3, c4, c5, c6, c7, c8, c9, c10, c11, c12, c13].drop 4).take (Try.prog.cellsOf 9)) = xs[4]? := hx 4 _ rfl
  rw [k1s] at g4
  obtain ⟨y4, e4⟩ := one_of g4 (by omega)
  replace e4 : DataW.trod enc Try.prog W base (fun _ => true) held n 9 [c4] = some y4 := e4
  have g5 : DataW.trod enc Try.prog W base (fun _ => true) held n 9 (([c0, c1, c2, c3, c4, c5, c6, c7, c8, c9, c10, c11, c12, c13].drop 5).take (Try.prog.cellsOf 9)) = xs[5]? := hx 5 _ rfl
  rw [k1s] at g5
  obtain ⟨y5, e5⟩ := one_of g5 (by omega)
  replace e5 : DataW.trod enc Try.prog W base (fun _ => true) held n 9 [c5] = some y5 := e5
  have g6 : DataW.trod enc Try.prog W base (fun _ => true) held n 9 (([c0, c1, c2, c3, c4, c5, c6, c7, c8, c9, c10, c11, c12, c13].drop 6).take (Try.prog.cellsOf 9)) = xs[6]? := hx 6 _ rfl
  rw [k1s] at g6
  obtain ⟨y6, e6⟩ := one_of g6 (by omega)
  replace e6 : DataW.trod enc Try.prog W base (fun _ => true) held n 9 [c6] = some y6 := e6
  have g7 : DataW.trod enc Try.prog W base (fun _ => true) held n 61 (([c0, c1, c2, c3, c4, c5, c6, c7, c8, c9, c10, c11, c12, c13].drop 7).take (Try.prog.cellsOf 61)) = xs[7]? := hx 7 _ rfl
  rw [k4d] at g7
  obtain ⟨y7, e7⟩ := one_of g7 (by omega)
  replace e7 : DataW.trod enc Try.prog W base (fun _ => true) held n 61 [c7, c8, c9, c10] = some y7 := e7
  have g8 : DataW.trod enc Try.prog W base (fun _ => true) held n 3 (([c0, c1, c2, c3, c4, c5, c6, c7, c8, c9, c10, c11, c12, c13].drop 11).take (Try.prog.cellsOf 3)) = xs[8]? := hx 8 _ rfl
  rw [k1i] at g8
  obtain ⟨y8, e8⟩ := one_of g8 (by omega)
  replace e8 : DataW.trod enc Try.prog W base (fun _ => true) held n 3 [c11] = some y8 := e8
  have g9 : DataW.trod enc Try.prog W base (fun _ => true) held n 9 (([c0, c1, c2, c3, c4, c5, c6, c7, c8, c9, c10, c11, c12, c13].drop 12).take (Try.prog.cellsOf 9)) = xs[9]? := hx 9 _ rfl
  rw [k1s] at g9
  obtain ⟨y9, e9⟩ := one_of g9 (by omega)
  replace e9 : DataW.trod enc Try.prog W base (fun _ => true) held n 9 [c12] = some y9 := e9
  have g10 : DataW.trod enc Try.prog W base (fun _ => true) held n 9 (([c0, c1, c2, c3, c4, c5, c6, c7, c8, c9, c10, c11, c12, c13].drop 13).take (Try.prog.cellsOf 9)) = xs[10]? := hx 10 _ rfl
  rw [k1s] at g10
  obtain ⟨y10, e10⟩ := one_of g10 (by omega)
  replace e10 : DataW.trod enc Try.prog W base (fun _ => true) held n 9 [c13] = some y10 := e10
  clear hx hf
  obtain ⟨key, q0, _, z0⟩ := DataW.trod_string Try.underlying9 e0
  cases q0
  obtain ⟨kind, q1, _, _⟩ := DataW.trod_int Try.underlying3 e1
  cases q1
  obtain ⟨auA, auN, auc, auL, rfl, aur, aun, aum, aux, _⟩ := open_names e2
  obtain ⟨edA, edN, edc, edL, rfl, edr, edn, edm, edx, _⟩ := open_names e3
  obtain ⟨ti, q4, _, z4⟩ := DataW.trod_string Try.underlying9 e4
  cases q4
  obtain ⟨co, q5, _, z5⟩ := DataW.trod_string Try.underlying9 e5
  cases q5
  obtain ⟨pu, q6, _, z6⟩ := DataW.trod_string Try.underlying9 e6
  cases q6
  obtain ⟨w0, w1, w2, w3, m0, t0, t1, t2, t3⟩ := trod_one4 Try.underlying61 (by kernel_rfl) e7
  obtain ⟨y, u0, _, _⟩ := DataW.trod_int Try.underlying3 t0
  obtain ⟨m, u1, _, _⟩ := DataW.trod_int Try.underlying3 t1
  obtain ⟨d, u2, _, _⟩ := DataW.trod_int Try.underlying3 t2
  obtain ⟨ci, u3, _⟩ := DataW.trod_bool Try.underlying4 t3
  cases u0; cases u1; cases u2; cases u3
  obtain ⟨vol, q8, _, _⟩ := DataW.trod_int Try.underlying3 e8
  cases q8
  obtain ⟨pa, q9, _, z9⟩ := DataW.trod_string Try.underlying9 e9
  cases q9
  obtain ⟨cr, q10, _, z10⟩ := DataW.trod_string Try.underlying9 e10
  cases q10
  exact ⟨⟨key, kind, auA, auN, auc, auL, edA, edN, edc, edL, ti, co, pu, y, m, d, ci, vol, pa, cr⟩, rfl, ⟨aur, aun, edr, edn⟩, z0, aum, aux, edm, edx, z4, z5, z6, z9, z10⟩
theorem arr14 {cs : Array Value} (h : cs.size = 14) : ∃ c0 c1 c2 c3 c4 c5 c6 c7 c8 c9 c10 c11 c12 c13, cs = #[c0, c1, c2, c3, c4, c5, c6, c7, c8, c9, c10, c11, c12, c13] := by
  obtain ⟨l⟩ := cs
  match l, h with
  | [c0, c1, c2, c3, c4, c5, c6, c7, c8, c9, c10, c11, c12, c13], _ => exact ⟨_, _, _, _, _, _, _, _, _, _, _, _, _, _, rfl⟩
set_option maxRecDepth 100000 in
theorem open_entry {H : Type} {enc : TypeId × Value → H} {W : World} {base b0 : Nat} {r : Reach} {held : Bool} {v : Value} {d : DataW H} {ps : List MemPlace} (hv : Value.okWide Try.prog W r b0 63 v) (h : DataW.Trod enc Try.prog W base (fun _ => true) held 63 v d ps) :
    ∃ e : En, v = .agg e.cs ∧ e.Rd W ∧ e.Lim := by
  obtain ⟨cs, rfl, hsz⟩ := okWide_struct Try.underlying63 hv
  obtain ⟨c0, c1, c2, c3, c4, c5, c6, c7, c8, c9, c10, c11, c12, c13, rfl⟩ := arr14 (hsz.trans k14)
  obtain ⟨fuel, hf⟩ := h
  have e1 : (Value.agg #[c0, c1, c2, c3, c4, c5, c6, c7, c8, c9, c10, c11, c12, c13]).cells.toList = [c0, c1, c2, c3, c4, c5, c6, c7, c8, c9, c10, c11, c12, c13] := rfl
  rw [e1] at hf
  obtain ⟨e, he, h1, h2⟩ := cells_entry hf
  exact ⟨e, by rw [he], h1, h2⟩
end Go.Proofs.Ytkiogbbbigmgnaa.OpenE
