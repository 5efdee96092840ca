/-
  Contracts of the functions on letters of chapter 6, of both.
-/
import Derived.Test.YtfmkhgcnlgmofaaDoorLetI
import Derived.Test.YtfmkhgcnlgmofaaDoorTcPl
namespace Go.Proofs.YtfmkhgcnlgmofaaDoor.Lt
open Go.RowKit Pl NmPl TiPl Word
set_option linter.unusedVariables false
set_option linter.unusedSimpArgs false

theorem lt_int (c : UInt8) : isLt c = ((decide (65 ≤ (c.toNat : Int)) && decide ((c.toNat : Int) ≤ 90)) || (decide (97 ≤ (c.toNat : Int)) && decide ((c.toNat : Int) ≤ 122))) := by
  rw [Bool.eq_iff_iff]; simp [isLt, isUp, isLo]; omega
theorem upperB_of {c : UInt8} (h : Lib.isLowerB c = true) : 97 ≤ c.toNat ∧ c.toNat ≤ 122 ∧ (Lib.upperB c).toNat + 32 = c.toNat := by
  have hr : 97 ≤ c.toNat ∧ c.toNat ≤ 122 := by rw [isLo_eq] at h; simpa [isLo] using h
  refine ⟨hr.1, hr.2, ?_⟩
  unfold Lib.upperB
  rw [if_pos h, UInt8.toNat_sub_of_le]
  · show c.toNat - 32 + 32 = _; omega
  · rw [UInt8.le_iff_toNat_le]; show 32 ≤ c.toNat; omega
end Go.Proofs.YtfmkhgcnlgmofaaDoor.Lt
