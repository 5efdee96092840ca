/-
  An argument that is a slice of slices of strings, opened to its parts.
-/
import Derived.Test.YtioajkkkncjndaaSs
import Derived.ProofKit
import Derived.OpenShut
import Derived.ShutString
import Derived.SliceStrings
import Derived.ChangeOld
import Derived.Below
import Derived.Lib.SmallJoins
import Derived.Deep.Slices
import Derived.Deep.Fields
namespace Go.Proofs.Ytioajkkkncjndaa.Sss
open Go.ChangeShapes Go.WideShapes Go.ChangeAt Go.RowKit Go.Joins Go.Deep
open Strs Help

/-- what came in, as the walk wants it -/
theorem rds_of {w : World} {a : Addr} {ss : List ByteArray} (h : ∀ i, i < ss.length → w.cell? (a.add i) = some (.string (ss.getD i ByteArray.empty))) (n : Nat) : RdS w (some a) (ss.take n) := by
  intro j x hx
  have hj : j < ss.length := by
    rcases Nat.lt_or_ge j ss.length with h | h
    · exact h
    · rw [List.getElem?_eq_none (by rw [List.length_take]; omega)] at hx; cases hx
  have hx' : ss[j]? = some x := by
    rw [List.getElem?_take] at hx
    split at hx
    · exact hx
    · cases hx
  obtain ⟨b, off, spot⟩ := a
  have hspot : spot = none := by simpa [Addr.add] using World.cell?_spot (h 0 (by omega))
  subst hspot
  refine ⟨b, off, rfl, ?_⟩
  have := h j hj
  rw [Go.WideShapes.add_plain] at this
  rw [this, List.getD_eq_getElem?_getD, hx']
  rfl
/-- one of the lists -/
theorem open_strs {H : Type} {enc : TypeId × Value → H} {W : World} {base fuel : Nat} {held : Bool} {v : Value} {y : DataW H × List MemPlace} (hf : DataW.trod enc Try.prog W base (fun _ => true) held fuel 24 [v] = some y) :
    ∃ A c xs, v = .slice A xs.length c ∧ RdS W A xs ∧ (0 < xs.length → ∀ a, A = some a → a.block < W.heap.size) ∧ xs.length ≤ maxLen ∧ (∀ x ∈ xs, x.size ≤ maxLen) := by
  rcases open_strings Try.underlying24 Try.underlying9 (by kernel_rfl) hf with ⟨hcs, _⟩ | ⟨x, l, c, ss, hcs, _, hl, hm, hz, _, hcell, hws⟩
  · cases hcs
    exact ⟨none, 0, [], rfl, fun j x hx => (by simp at hx), fun hp => absurd hp (by simp), Nat.zero_le _, fun x hx => (by cases hx)⟩
  · cases hcs
    simp only [if_true] at hz
    have hlen : (ss.take l).length = l := by rw [List.length_take]; omega
    refine ⟨some x, c, ss.take l, by rw [hlen], rds_of hcell _, ?_, by omega, fun y hy => hws y (List.mem_of_mem_take hy)⟩
    rintro hp a ha
    cases ha
    have h0c := hcell 0 (by omega)
    rcases Nat.lt_or_ge x.block W.heap.size with h | h
    · exact h
    · exfalso
      have : W.heap[x.block]? = none := Array.getElem?_eq_none h
      simp [Addr.add, World.cell?, this] at h0c
theorem cnS : Try.prog.cellsOf 24 = 1 := by kernel_rfl
theorem open_lists {H : Type} {enc : TypeId × Value → H} {W : World} {base fuel : Nat} {held : Bool} {v : Value} {y : DataW H × List MemPlace} (hf : DataW.trod enc Try.prog W base (fun _ => true) held fuel 22 [v] = some y) :
    ∃ A N c C, v = .slice A N c ∧ RdA W A C ∧ C.length = N ∧ N ≤ maxLen ∧ (∀ xs ∈ C, xs.length ≤ maxLen ∧ ∀ x ∈ xs, x.size ≤ maxLen) := by
  rcases open_slice Try.underlying22 hf with ⟨hcs, _⟩ | ⟨a, len, cap, m, n, D, Pl, hcs, _, hl, hm, hmm, _, hall⟩
  · cases hcs
    exact ⟨none, 0, 0, [], rfl, fun j x hx => (by simp at hx), rfl, Nat.zero_le _, fun x hx => (by cases hx)⟩
  · cases hcs
    simp only [if_true] at hmm
    subst hmm
    rw [cnS] at hall
    obtain ⟨b, o, spot⟩ := a
    obtain ⟨X, hX⟩ := choose_lt (n := len) (p := fun i (xs : List ByteArray) => (∃ Ai ci, (some ⟨b, o, spot⟩ : Option Addr) = some ⟨b, o, none⟩ ∧ W.cell? ⟨b, o + i, none⟩ = some (.slice Ai xs.length ci) ∧ RdS W Ai xs ∧ (0 < xs.length → ∀ a, Ai = some a → a.block < W.heap.size)) ∧ xs.length ≤ maxLen ∧ ∀ x ∈ xs, x.size ≤ maxLen) (fun i hi => by
      obtain ⟨cs', h1, h2⟩ := hall i (by omega)
      obtain ⟨_, hlen, hcell⟩ := World.cells?_some h1
      match cs', hlen with
      | [c0], _ =>
        obtain ⟨Ai, ci, xs, rfl, hr, ha, hx1, hx2⟩ := open_strs h2
        have e0 := hcell 0 (by omega)
        have hspot : spot = none := by
          obtain ⟨cs0, g1, _⟩ := hall 0 (by omega)
          obtain ⟨_, hlen0, hcell0⟩ := World.cells?_some g1
          have g0 := hcell0 0 (by omega)
          rw [List.getElem?_eq_getElem (by omega)] at g0
          simpa [Addr.add] using World.cell?_spot g0
        subst hspot
        simp only [Go.WideShapes.add_plain, Nat.mul_one, Nat.add_zero] at e0
        exact ⟨xs, ⟨Ai, ci, rfl, e0, hr, ha⟩, hx1, hx2⟩)
    refine ⟨some ⟨b, o, spot⟩, len, _, (List.range len).map X, rfl, ?_, by simp, by omega, ?_⟩
    · intro j x hx
      rw [List.getElem?_map] at hx
      rcases Nat.lt_or_ge j len with hj | hj
      · rw [List.getElem?_range hj] at hx
        cases hx
        obtain ⟨Ai, ci, e, hc, hr, ha⟩ := (hX j hj).1
        exact ⟨b, o, Ai, ci, e, hc, hr, ha⟩
      · rw [List.getElem?_eq_none (by simpa using hj)] at hx
        cases hx
    · intro x hx
      obtain ⟨j, hj, rfl⟩ := List.mem_map.1 hx
      exact (hX j (List.mem_range.1 hj)).2
set_option maxRecDepth 100000 in
theorem open_ss {H : Type} {enc : TypeId × Value → H} {W : World} {base b0 : Nat} {r : Reach} {held : Bool} {v : Value} {d : DataW H} {ps : List MemPlace} (hv : Value.okWide Try.prog W r b0 22 v) (h : DataW.Trod enc Try.prog W base (fun _ => true) held 22 v d ps) :
    ∃ A N c C, v = .slice A N c ∧ RdA W A C ∧ C.length = N ∧ N ≤ maxLen ∧ (∀ xs ∈ C, xs.length ≤ maxLen ∧ ∀ x ∈ xs, x.size ≤ maxLen) := by
  obtain ⟨a0, n0, c0, rfl⟩ := okWide_slice Try.underlying22 hv
  obtain ⟨fuel, hf⟩ := h
  have e : (Value.slice a0 n0 c0).cells.toList = [.slice a0 n0 c0] := rfl
  rw [e] at hf
  exact open_lists hf
end Go.Proofs.Ytioajkkkncjndaa.Sss
