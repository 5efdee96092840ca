/-
  An argument that is a name, opened to its parts.
-/
import Derived.Test.YtkiogbbbigmgnaaRows
import Derived.Test.YtkiogbbbigmgnaaName
import Derived.WalkKit
import Derived.ProofKit
import Derived.OpenShut
import Derived.ShutString
import Derived.SliceStrings
import Derived.ChangeOld
import Derived.Below
import Derived.Lib.SmallJoins
namespace Go.Proofs.Ytkiogbbbigmgnaa.OpenN
open Go.ChangeShapes Go.WideShapes Go.ChangeAt Go.RowKit Go.Joins
open Strs Help Name

theorem own : ownKnob Try.prog.godebug = none := by kernel_rfl
theorem laidOut : laidOutB Try.prog = true := by kernel_rfl

/-- what came in, as the walk wants it -/
theorem rds_of {w : World} {a : Addr} {ss : List ByteArray} (h : ∀ i, i < ss.length → w.cell? (a.add i) = some (.string (ss.getD i ByteArray.empty))) (n : Nat) : RdS w (some a) (ss.take n) := by
  intro j x hx
  have hj : j < ss.length := by
    rcases Nat.lt_or_ge j ss.length with h | h
    · exact h
    · rw [List.getElem?_eq_none (by rw [List.length_take]; omega)] at hx; cases hx
  have hx' : ss[j]? = some x := by
    rw [List.getElem?_take] at hx
    split at hx
    · exact hx
    · cases hx
  obtain ⟨b, off, spot⟩ := a
  have hspot : spot = none := by simpa [Addr.add] using World.cell?_spot (h 0 (by omega))
  subst hspot
  refine ⟨b, off, rfl, ?_⟩
  have := h j hj
  rw [Go.WideShapes.add_plain] at this
  rw [this, List.getD_eq_getElem?_getD, hx']
  rfl
/-- the slice of the Given words -/
theorem open_given {H : Type} {enc : TypeId × Value → H} {W : World} {base fuel : Nat} {held : Bool} {v : Value} {y : DataW H × List MemPlace} (hf : DataW.trod enc Try.prog W base (fun _ => true) held fuel 89 [v] = some y) :
    ∃ A n c xs, v = .slice A n c ∧ Rdn W A n xs ∧ n ≤ maxLen ∧ (∀ x ∈ xs, x.size ≤ maxLen) ∧ n ≤ c := by
  rcases open_strings Try.underlying89 Try.underlying9 (by kernel_rfl) hf with ⟨hcs, _⟩ | ⟨x, l, c, ss, hcs, _, hl, hm, hz, _, hcell, hws⟩
  · cases hcs
    exact ⟨none, 0, 0, [], rfl, ⟨fun j x hx => (by simp at hx), fun hp => (by omega), rfl⟩, Nat.zero_le _, fun x hx => (by cases hx), Nat.le_refl _⟩
  · cases hcs
    simp only [if_true] at hz
    refine ⟨some x, l, c, ss.take l, rfl, ⟨rds_of hcell _, ?_, by rw [List.length_take]; omega⟩, by omega, fun y hy => hws y (List.mem_of_mem_take hy), hl⟩
    rintro hp a ha
    cases ha
    have h0c := hcell 0 (by omega)
    rcases Nat.lt_or_ge x.block W.heap.size with h | h
    · exact h
    · exfalso
      have : W.heap[x.block]? = none := Array.getElem?_eq_none h
      simp [Addr.add, World.cell?, this] at h0c
set_option maxRecDepth 100000 in
theorem open_name {H : Type} {enc : TypeId × Value → H} {W : World} {base b0 : Nat} {r : Reach} {held : Bool} {v : Value} {d : DataW H} {ps : List MemPlace} (hv : Value.okWide Try.prog W r b0 93 v) (h : DataW.Trod enc Try.prog W base (fun _ => true) held 93 v d ps) :
    ∃ A n c xs p f s, v = nmV (.slice A n c) p f s ∧ Rdn W A n xs ∧ n ≤ maxLen ∧ (∀ x ∈ xs, x.size ≤ maxLen) ∧ p.size ≤ maxLen ∧ f.size ≤ maxLen ∧ s.size ≤ maxLen := by
  obtain ⟨v0, v1, v2, v3, y0, y1, y2, y3, n, rfl, _, _, t0, t1, t2, t3⟩ := open_agg4 Try.underlying93 (by kernel_rfl) (by kernel_rfl) hv h
  obtain ⟨A, n, c, xs, rfl, hr, hm, hx, _⟩ := open_given t0
  obtain ⟨p, hp, _, hps⟩ := DataW.trod_string Try.underlying9 t1
  obtain ⟨f, hf, _, hfs⟩ := DataW.trod_string Try.underlying9 t2
  obtain ⟨s, hs, _, hss⟩ := DataW.trod_string Try.underlying9 t3
  cases hp; cases hf; cases hs
  exact ⟨A, n, c, xs, p, f, s, rfl, hr, hm, hx, hps, hfs, hss⟩
end Go.Proofs.Ytkiogbbbigmgnaa.OpenN
