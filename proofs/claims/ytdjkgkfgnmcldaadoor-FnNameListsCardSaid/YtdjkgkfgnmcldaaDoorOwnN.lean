/-
  The cells of a drawn list of names (for l2Own of the model, which is not walked yet).
-/
import Derived.Test.YtdjkgkfgnmcldaaDoorDj
namespace Go.Proofs.YtdjkgkfgnmcldaaDoor.StN
open Go.RowKit Pl Cur Draw0 Strs Help Name Nms
set_option linter.unusedVariables false
set_option linter.unusedSimpArgs false

/-- the four cells of a name in the row, and its given names -/
theorem GvL.cells {W : World} {B : Nat} {Av : Option Addr} {nL cv : Nat} {L : List Nm} (h : GvL W B (.slice Av nL cv) L) {j : Nat} {x : Nm} (hx : L[j]? = some x) :
    ∃ g, Av = some ⟨g, 0, none⟩ ∧ g < W.heap.size ∧ W.cell? ⟨g, j * 4, none⟩ = some (.slice x.A x.n x.c) ∧ W.cell? ⟨g, j * 4 + 1, none⟩ = some (.string x.p) ∧ W.cell? ⟨g, j * 4 + 2, none⟩ = some (.string x.f) ∧ W.cell? ⟨g, j * 4 + 3, none⟩ = some (.string x.s) := by
  have hj := (List.getElem?_eq_some_iff.1 hx).1
  obtain ⟨c0, c1, c2, c3⟩ := ncells_at hx
  have ho := h.1
  rcases h.1.2 with ⟨h0, h1⟩ | ⟨g, cap, cur, h0, h1, h2, _⟩
  · omega
  · cases h0
    refine ⟨g, rfl, (Array.getElem?_eq_some_iff.1 h2).1, ?_, ?_, ?_, ?_⟩
    all_goals
      rw [World.ownsRow.cellAt ho _ (by omega)]
      assumption
end Go.Proofs.YtdjkgkfgnmcldaaDoor.StN
