/-
  The depth of a pair, in the model; rows of numbers read.
-/
import Derived.Test.YtadlcchbjccejaaQtS
import Derived.Test.YtadlcchbjccejaaQtV
namespace Go.Proofs.Ytadlcchbjccejaa.QtE
open Go.RowKit QtPl QtB QtIn QtC QtM QtR QtS
set_option linter.unusedSimpArgs false
set_option linter.unusedVariables false

/-- the slice at A holds the numbers M -/
def RdM (w : World) (A : Option Addr) (M : List Int) : Prop := ∀ j m, M[j]? = some m → ∃ g, A = some ⟨g, 0, none⟩ ∧ g < w.heap.size ∧ w.cell? ⟨g, j, none⟩ = some (.int .i64 m)
theorem RdM.kp {w w' : World} {A : Option Addr} {M : List Int} (h : RdM w A M) (hb : Kp w w') : RdM w' A M := by
  intro j m hm
  obtain ⟨g, e, hg, h0⟩ := h j m hm
  exact ⟨g, e, Nat.lt_of_lt_of_le hg (ksz hb), (hb.cell (p := ⟨g, j, none⟩) hg).trans h0⟩
theorem own_rm {w : World} {base g c n : Nat} {M : List Int} (h : w.ownsRow base 3 1 (.slice (some ⟨g, 0, none⟩) n c) n (mc M)) : RdM w (some ⟨g, 0, none⟩) M := by
  intro j m hm
  have hl := h.1
  rw [mc_len] at hl
  have hj := lt_of_some hm
  exact ⟨g, rfl, (h.lt g rfl).2, (World.ownsRow.cellAt h j (by omega)).trans (mc_at hm)⟩
end Go.Proofs.Ytadlcchbjccejaa.QtE
