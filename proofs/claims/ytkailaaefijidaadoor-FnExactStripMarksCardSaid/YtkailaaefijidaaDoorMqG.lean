/-
  Contracts of l11Merge; MergeMarks of both.
-/
import Derived.Test.YtkailaaefijidaaDoorMqM
namespace Go.Proofs.YtkailaaefijidaaDoor.Mq
open Go.RowKit Pl NmPl MqPl
set_option linter.unusedSimpArgs false
set_option linter.unusedVariables false

theorem below_drewN {B : Nat} {a w : World} (h : Below B a w) (n : Nat) : Below B a (w.drewN n) := h.trans ⟨rfl, rfl, rfl, Nat.le_refl _, fun _ _ => rfl⟩
/-- a row of the table as the model writes it -/
def rowB (i : Nat) : ByteArray := ba (rowsM.getD i [])
theorem rowB_size {i : Nat} (hi : i < 6) : (rowB i).size = 6 := by unfold rowB; rw [ba_size]; exact rows_len i hi
theorem at_of (s : ByteArray) (l : List UInt8) (e : s.data.toList = l) (j : Nat) (h : j < s.size) : s[j] = l.getD j 0 := by
  have h1 : s.data.toList[j]? = some s[j] := by rw [List.getElem?_eq_getElem (by rw [len_size]; exact h)]; rfl
  rw [e] at h1
  rw [List.getD_eq_getElem?_getD, h1]; rfl
theorem rowB_at {i j : Nat} (hi : i < 6) (hj : j < 6) (h : j < (rowB i).size) : (rowB i)[j] = if tb i j = 0 then 32 else tb i j := by
  rw [← rows_tb i hi j hj]
  exact at_of (rowB i) _ (toList_ba _) j h
/-- the world behind the model's rows -/
def rowsW (w : World) : World := w.alloc (.cells #[.string ⟨#[46, 32, 32, 32, 33, 63]⟩, .string ⟨#[46, 44, 59, 58, 33, 63]⟩, .string ⟨#[46, 59, 59, 58, 33, 63]⟩, .string ⟨#[58, 58, 59, 58, 33, 63]⟩, .string ⟨#[33, 33, 32, 32, 33, 32]⟩, .string ⟨#[63, 63, 32, 32, 32, 63]⟩] 9)
theorem rowsW_cell (w : World) {i : Nat} (hi : i < 6) : (rowsW w).cell? ⟨w.heap.size, i, none⟩ = some (.string (rowB i)) := by
  rcases i with _ | _ | _ | _ | _ | _ | i
  all_goals first | omega | (simp [rowsW]; rfl)
/-- what MergeMarks answers -/
def mmV (a b : UInt8) : Value := if isM a = true ∧ isM b = true then .tuple #[.string (ba (mg a b)), .bool true] else .tuple #[.string ⟨#[]⟩, .bool false]
theorem mmV_form (a b : UInt8) : ∃ s r, mmV a b = .tuple #[.string s, .bool r] := by unfold mmV; split <;> exact ⟨_, _, rfl⟩
theorem isM_z {c : UInt8} {r : Bool} (h : isM c = r) : ∃ z, mI c.toNat = z ∧ decide (z < 0) = (!r) := by
  refine ⟨_, rfl, ?_⟩
  subst h
  unfold isM
  rw [Bool.eq_iff_iff]; simp
end Go.Proofs.YtkailaaefijidaaDoor.Mq
