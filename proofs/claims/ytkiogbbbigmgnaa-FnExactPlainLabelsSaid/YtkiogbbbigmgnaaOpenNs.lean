/-
  An argument that is a slice of names, opened to its parts.
-/
import Derived.Test.YtkiogbbbigmgnaaOpenN
import Derived.Test.YtkiogbbbigmgnaaNm
import Derived.Deep.Slices
import Derived.Deep.Fields
namespace Go.Proofs.Ytkiogbbbigmgnaa.OpenN
open Go.ChangeShapes Go.WideShapes Go.ChangeAt Go.RowKit Go.Joins Go.Deep
open Strs Help Name Nms

section
variable {H : Type} {enc : TypeId × Value → H} {P : Program} {w : World} {base : Nat} {spare : Nat → Bool} {held : Bool}
theorem trod_one4 {t : TypeId} {f0 f1 f2 f3 : Field} {fuel : Nat} {c0 c1 c2 c3 : Value} {x : DataW H × List MemPlace} (hs : P.underlying t = some (.struct #[f0, f1, f2, f3])) (hone : oneCellFields P #[f0, f1, f2, f3] = true)
    (hf : DataW.trod enc P w base spare held fuel t [c0, c1, c2, c3] = some x) :
    ∃ (y0 y1 y2 y3 : DataW H × List MemPlace) (n : Nat), DataW.trod enc P w base spare held n f0.type [c0] = some y0 ∧ DataW.trod enc P w base spare held n f1.type [c1] = some y1 ∧ DataW.trod enc P w base spare held n f2.type [c2] = some y2 ∧ DataW.trod enc P w base spare held n f3.type [c3] = some y3 := by
  obtain ⟨y0, y1, y2, y3, n, hx, _, h0, h1, h2, h3⟩ := trod_struct4 hs hf
  obtain ⟨o0, k0⟩ := hone_of hone 0 f0 rfl
  obtain ⟨o1, k1⟩ := hone_of hone 1 f1 rfl
  obtain ⟨o2, k2⟩ := hone_of hone 2 f2 rfl
  obtain ⟨o3, k3⟩ := hone_of hone 3 f3 rfl
  exact ⟨y0, y1, y2, y3, n, by simpa [o0, k0] using h0, by simpa [o1, k1] using h1, by simpa [o2, k2] using h2, by simpa [o3, k3] using h3⟩
end
theorem lt_of_cell {w : World} {b o : Nat} {v : Value} (h : w.cell? ⟨b, o, none⟩ = some v) : b < w.heap.size := by
  rcases Nat.lt_or_ge b w.heap.size with h' | h'
  · exact h'
  · exfalso
    have : w.heap[b]? = none := Array.getElem?_eq_none h'
    simp [World.cell?, this] at h
instance : Inhabited Nm := ⟨⟨none, 0, 0, [], ⟨#[]⟩, ⟨#[]⟩, ⟨#[]⟩⟩⟩
/-- a name in its four cells -/
theorem cells_name {H : Type} {enc : TypeId × Value → H} {W : World} {base fuel : Nat} {held : Bool} {c0 c1 c2 c3 : Value} {y : DataW H × List MemPlace} (hf : DataW.trod enc Try.prog W base (fun _ => true) held fuel 93 [c0, c1, c2, c3] = some y) :
    ∃ x : Nm, c0 = .slice x.A x.n x.c ∧ c1 = .string x.p ∧ c2 = .string x.f ∧ c3 = .string x.s ∧ Rdn W x.A x.n x.xs ∧ x.Lim := by
  obtain ⟨y0, y1, y2, y3, n, t0, t1, t2, t3⟩ := trod_one4 Try.underlying93 (by kernel_rfl) hf
  obtain ⟨A, n, c, xs, rfl, hr, hm, hx, _⟩ := open_given t0
  obtain ⟨p, e1, _, hps⟩ := DataW.trod_string Try.underlying9 t1
  obtain ⟨f, e2, _, hfs⟩ := DataW.trod_string Try.underlying9 t2
  obtain ⟨s, e3, _, hss⟩ := DataW.trod_string Try.underlying9 t3
  cases e1; cases e2; cases e3
  exact ⟨⟨A, n, c, xs, p, f, s⟩, rfl, rfl, rfl, rfl, hr, hm, hx, hps, hfs, hss⟩
theorem cn4 : Try.prog.cellsOf 93 = 4 := by kernel_rfl
/-- a slice of names -/
theorem open_names {H : Type} {enc : TypeId × Value → H} {W : World} {base fuel : Nat} {held : Bool} {v : Value} {y : DataW H × List MemPlace} (hf : DataW.trod enc Try.prog W base (fun _ => true) held fuel 59 [v] = some y) :
    ∃ A N c L, v = .slice A N c ∧ RdN0 W A L ∧ L.length = N ∧ N ≤ maxLen ∧ (∀ x ∈ L, x.Lim) ∧ N ≤ c := by
  rcases open_slice Try.underlying59 hf with ⟨hcs, _⟩ | ⟨a, len, cap, m, n, D, Pl, hcs, _, hl, hm, hmm, _, hall⟩
  · cases hcs
    exact ⟨none, 0, 0, [], rfl, fun j x hx => (by simp at hx), rfl, Nat.zero_le _, fun x hx => (by cases hx), Nat.le_refl _⟩
  · cases hcs
    simp only [if_true] at hmm
    subst hmm
    rw [cn4] at hall
    obtain ⟨b, o, spot⟩ := a
    obtain ⟨X, hX⟩ := choose_lt (n := len) (p := fun i (x : Nm) => (Rdn W x.A x.n x.xs ∧ x.At W (some ⟨b, o, spot⟩) i) ∧ x.Lim) (fun i hi => by
      obtain ⟨cs', h1, h2⟩ := hall i (by omega)
      obtain ⟨_, hlen, hcell⟩ := World.cells?_some h1
      match cs', hlen with
      | [c0, c1, c2, c3], _ =>
        obtain ⟨x, rfl, rfl, rfl, rfl, hr, hlim⟩ := cells_name h2
        have e0 := hcell 0 (by omega)
        have e1 := hcell 1 (by omega)
        have e2 := hcell 2 (by omega)
        have e3 := hcell 3 (by omega)
        have hspot : spot = none := by
          obtain ⟨cs0, g1, _⟩ := hall 0 (by omega)
          obtain ⟨_, hlen0, hcell0⟩ := World.cells?_some g1
          have g0 := hcell0 0 (by omega)
          rw [List.getElem?_eq_getElem (by omega)] at g0
          simpa [Addr.add] using World.cell?_spot g0
        subst hspot
        simp only [Go.WideShapes.add_plain] at e0 e1 e2 e3
        exact ⟨x, ⟨hr, b, o, rfl, lt_of_cell e0, e0, e1, e2, e3⟩, hlim⟩)
    refine ⟨some ⟨b, o, spot⟩, len, _, (List.range len).map X, rfl, ?_, by simp, by omega, ?_, hl⟩
    · intro j x hx
      rw [List.getElem?_map] at hx
      rcases Nat.lt_or_ge j len with hj | hj
      · rw [List.getElem?_range hj] at hx
        cases hx
        exact (hX j hj).1
      · rw [List.getElem?_eq_none (by simpa using hj)] at hx
        cases hx
    · intro x hx
      obtain ⟨j, hj, rfl⟩ := List.mem_map.1 hx
      exact (hX j (List.mem_range.1 hj)).2
set_option maxRecDepth 100000 in
theorem open_namesW {H : Type} {enc : TypeId × Value → H} {W : World} {base b0 : Nat} {r : Reach} {held : Bool} {v : Value} {d : DataW H} {ps : List MemPlace} (hv : Value.okWide Try.prog W r b0 59 v) (h : DataW.Trod enc Try.prog W base (fun _ => true) held 59 v d ps) :
    ∃ A N c L, v = .slice A N c ∧ RdN0 W A L ∧ L.length = N ∧ N ≤ maxLen ∧ (∀ x ∈ L, x.Lim) ∧ N ≤ c := by
  obtain ⟨a0, n0, c0, rfl⟩ := okWide_slice Try.underlying59 hv
  obtain ⟨fuel, hf⟩ := h
  have e : (Value.slice a0 n0 c0).cells.toList = [.slice a0 n0 c0] := rfl
  rw [e] at hf
  exact open_names (y := (d, ps)) hf
end Go.Proofs.Ytkiogbbbigmgnaa.OpenN
