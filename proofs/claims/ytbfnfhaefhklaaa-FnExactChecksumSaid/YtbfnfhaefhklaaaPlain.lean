/-
  Plain mathematics of chapter 1 (lists of bytes and numbers): the checksum. Nothing of the program is named here.
-/
import Derived.WalkKit
namespace Go.Proofs.Ytbfnfhaefhklaaa.Pl

/-- one byte of the checksum -/
def ckStep (h : Int) (c : UInt8) : Int := (41 * h + c.toNat + 1) % 999979
def ckSum (l : List UInt8) : Int := l.foldl ckStep 7

theorem ckStep_bd (h : Int) (c : UInt8) : 0 ≤ ckStep h c ∧ ckStep h c < 999979 := by
  unfold ckStep; omega
theorem ckSum_snoc (l : List UInt8) (c : UInt8) : ckSum (l ++ [c]) = (41 * ckSum l + c.toNat + 1) % 999979 := by
  simp [ckSum, List.foldl_append, ckStep]
theorem ckSum_bd (l : List UInt8) : 0 ≤ ckSum l ∧ ckSum l < 999979 := by
  rcases List.eq_nil_or_concat l with rfl | ⟨l', c, rfl⟩
  · simp [ckSum]
  · rw [List.concat_eq_append, ckSum_snoc]; omega

theorem take_snoc (s : ByteArray) (k : Nat) (h : k < s.size) : s.data.toList.take (k + 1) = s.data.toList.take k ++ [s[k]] := by
  rw [List.take_succ_eq_append_getElem (by simpa using h)]; rfl
theorem take_all (s : ByteArray) (k : Nat) (h : s.size ≤ k) : s.data.toList.take k = s.data.toList :=
  List.take_of_length_le (by simpa using h)

theorem ret_int {k : IntKind} {a b : Int} (h : a = b) : Ending.returned (.int k a) = .returned (.int k b) := by rw [h]
end Go.Proofs.Ytbfnfhaefhklaaa.Pl
