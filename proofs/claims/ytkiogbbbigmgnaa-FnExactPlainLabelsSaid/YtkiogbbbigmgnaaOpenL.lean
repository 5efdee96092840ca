/-
  An argument of type laws.Library, opened to its parts.
-/
import Derived.Test.YtkiogbbbigmgnaaOpenE
import Derived.Test.YtkiogbbbigmgnaaEs
import Derived.Test.YtkiogbbbigmgnaaOpenNs
namespace Go.Proofs.Ytkiogbbbigmgnaa.OpenE
open Go.ChangeShapes Go.WideShapes Go.ChangeAt Go.RowKit Go.Joins Go.Deep
open Strs Help Name Nms Ens OpenN
set_option linter.unusedSimpArgs false
set_option linter.unusedVariables false

instance : Inhabited En := ⟨⟨⟨#[]⟩, 0, none, 0, 0, [], none, 0, 0, [], ⟨#[]⟩, ⟨#[]⟩, ⟨#[]⟩, 0, 0, 0, false, 0, ⟨#[]⟩, ⟨#[]⟩⟩⟩
theorem k1l : Try.prog.cellsOf 22 = 1 := by kernel_rfl
theorem kLib : Try.prog.cellsOf 24 = 1 := by kernel_rfl
set_option maxRecDepth 100000 in
set_option maxHeartbeats 4000000 in
/-- a slice of entries -/
theorem open_entries {H : Type} {enc : TypeId × Value → H} {W : World} {base fuel : Nat} {held : Bool} {v : Value} {y : DataW H × List MemPlace} (hf : DataW.trod enc Try.prog W base (fun _ => true) held fuel 22 [v] = some y) :
    ∃ A N c L, v = .slice A N c ∧ RdE W A L ∧ L.length = N ∧ N ≤ maxLen ∧ (∀ x ∈ L, x.Lim) ∧ N ≤ c := by
  rcases open_slice Try.underlying22 hf with ⟨hcs, _⟩ | ⟨a, len, cap, m, n, D, Pl, hcs, _, hl, hm, hmm, _, hall⟩
  · cases hcs
    exact ⟨none, 0, 0, [], rfl, fun j x hx => (by simp at hx), rfl, Nat.zero_le _, fun x hx => (by cases hx), Nat.le_refl _⟩
  · cases hcs
    simp only [if_true] at hmm
    subst hmm
    rw [k14] at hall
    obtain ⟨b, o, spot⟩ := a
    obtain ⟨X, hX⟩ := choose_lt (n := len) (p := fun i (x : En) => (x.Rd W ∧ x.At W (some ⟨b, o, spot⟩) i) ∧ x.Lim) (fun i hi => by
      obtain ⟨cs', h1, h2⟩ := hall i (by omega)
      obtain ⟨_, hlen, hcell⟩ := World.cells?_some h1
      match cs', hlen with
      | [c0, c1, c2, c3, c4, c5, c6, c7, c8, c9, c10, c11, c12, c13], _ =>
        obtain ⟨x, hx, hr, hlim⟩ := cells_entry h2
        have e0 := hcell 0 (by omega)
        have e1 := hcell 1 (by omega)
        have e2 := hcell 2 (by omega)
        have e3 := hcell 3 (by omega)
        have e4 := hcell 4 (by omega)
        have e5 := hcell 5 (by omega)
        have e6 := hcell 6 (by omega)
        have e7 := hcell 7 (by omega)
        have e8 := hcell 8 (by omega)
        have e9 := hcell 9 (by omega)
        have e10 := hcell 10 (by omega)
        have e11 := hcell 11 (by omega)
        have e12 := hcell 12 (by omega)
        have e13 := hcell 13 (by omega)
        have hspot : spot = none := by
          obtain ⟨cs0, g1, _⟩ := hall 0 (by omega)
          obtain ⟨_, hlen0, hcell0⟩ := World.cells?_some g1
          have g0 := hcell0 0 (by omega)
          rw [List.getElem?_eq_getElem (by omega)] at g0
          simpa [Addr.add] using World.cell?_spot g0
        subst hspot
        simp only [Go.WideShapes.add_plain] at e0 e1 e2 e3 e4 e5 e6 e7 e8 e9 e10 e11 e12 e13
        have hx' := congrArg Array.toList hx
        simp only [En.cs, List.cons.injEq] at hx'
        obtain ⟨rfl, rfl, rfl, rfl, rfl, rfl, rfl, rfl, rfl, rfl, rfl, rfl, rfl, rfl, _⟩ := hx'
        exact ⟨x, ⟨hr, b, o, rfl, lt_of_cell e0, e0, e1, e2, e3, e4, e5, e6, e7, e8, e9, e10, e11, e12, e13⟩, hlim⟩)
    refine ⟨some ⟨b, o, spot⟩, len, _, (List.range len).map X, rfl, ?_, by simp, by omega, ?_, hl⟩
    · intro j x hx
      rw [List.getElem?_map] at hx
      rcases Nat.lt_or_ge j len with hj | hj
      · rw [List.getElem?_range hj] at hx
        cases hx
        exact (hX j hj).1
      · rw [List.getElem?_eq_none (by simpa using hj)] at hx
        cases hx
    · intro x hx
      obtain ⟨j, hj, rfl⟩ := List.mem_map.1 hx
      exact (hX j (List.mem_range.1 hj)).2
theorem arr1 {cs : Array Value} (h : cs.size = 1) : ∃ c0, cs = #[c0] := by
  obtain ⟨l⟩ := cs
  match l, h with
  | [c0], _ => exact ⟨_, rfl⟩
set_option maxRecDepth 100000 in
theorem open_lib {H : Type} {enc : TypeId × Value → H} {W : World} {base b0 : Nat} {r : Reach} {held : Bool} {v : Value} {d : DataW H} {ps : List MemPlace} (hv : Value.okWide Try.prog W r b0 24 v) (h : DataW.Trod enc Try.prog W base (fun _ => true) held 24 v d ps) :
    ∃ A N c L, v = .agg #[.slice A N c] ∧ RdE W A L ∧ L.length = N ∧ N ≤ maxLen ∧ (∀ x ∈ L, x.Lim) ∧ N ≤ c := by
  obtain ⟨cs, rfl, hsz⟩ := okWide_struct Try.underlying24 hv
  obtain ⟨c0, rfl⟩ := arr1 (hsz.trans kLib)
  obtain ⟨fuel, hf⟩ := h
  have e1 : (Value.agg #[c0]).cells.toList = [c0] := rfl
  rw [e1] at hf
  obtain ⟨xs, n, _, _, _, hxl, hx⟩ := DataW.trod_struct Try.underlying24 hf
  have hl : xs.length = 1 := hxl
  have g0 : DataW.trod enc Try.prog W base (fun _ => true) held n 22 (([c0].drop 0).take (Try.prog.cellsOf 22)) = xs[0]? := hx 0 _ rfl
  rw [k1l] at g0
  obtain ⟨y0, e0⟩ := one_of g0 (by omega)
  replace e0 : DataW.trod enc Try.prog W base (fun _ => true) held n 22 [c0] = some y0 := e0
  obtain ⟨A, N, c, L, rfl, h1, h2, h3, h4, h5⟩ := open_entries e0
  exact ⟨A, N, c, L, rfl, h1, h2, h3, h4, h5⟩
end Go.Proofs.Ytkiogbbbigmgnaa.OpenE
