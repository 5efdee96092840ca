/-
  Contracts of the laws' helpers szStringS, toStringS.
-/
import Derived.Test.YtdjkgkfgnmcldaaDoorRows
import Derived.Test.YtdjkgkfgnmcldaaDoorPlain
import Derived.Test.YtdjkgkfgnmcldaaDoorSplit
import Derived.Test.YtdjkgkfgnmcldaaDoorStrs
import Derived.Test.YtdjkgkfgnmcldaaDoorStPl
import Derived.WalkKit
import Derived.LoopTactic
import Derived.Lib.Hide
import Derived.Maps.AppendAt
namespace Go.Proofs.YtdjkgkfgnmcldaaDoor.Help
open Go.RowKit Pl Strs Stands

/-- the bytes of all strings together -/
def lens (xs : List ByteArray) : Nat := (xs.map (·.size)).sum
theorem lens_take_succ (xs : List ByteArray) (k : Nat) (x : ByteArray) (h : xs[k]? = some x) : lens (xs.take (k + 1)) = lens (xs.take k) + x.size := by
  unfold lens
  rw [List.take_add_one, h]
  simp
theorem lens_take_le (xs : List ByteArray) (k : Nat) : lens (xs.take k) ≤ lens xs := by
  conv => rhs; rw [← List.take_append_drop k xs]
  unfold lens
  rw [List.map_append, List.sum_append]
  omega
/-- what szStringS answers -/
def szR (left : Nat) (xs : List ByteArray) : Int := if xs.length + lens xs ≤ left then (left : Int) - xs.length - lens xs else -1

/-- k strings copied, the others still empty -/
def copied (k : Nat) (xs : List ByteArray) : List Value := (xs.take k).map Value.string ++ List.replicate (xs.length - k) (.string ByteArray.empty)
theorem copied_set (xs : List ByteArray) (k : Nat) (x : ByteArray) (h : xs[k]? = some x) : (copied k xs).set k (.string x) = copied (k + 1) xs := by
  have hk : k < xs.length := (List.getElem?_eq_some_iff.1 h).1
  have hl : ((xs.take k).map Value.string).length = k := by simp; omega
  unfold copied
  rw [List.set_append_right _ _ (by omega), hl, Nat.sub_self]
  obtain ⟨m, hm⟩ : ∃ m, xs.length - k = m + 1 := ⟨xs.length - k - 1, by omega⟩
  rw [hm, List.replicate_succ, List.set_cons_zero, show xs.length - (k + 1) = m from by omega, List.take_add_one, h]
  simp

end Go.Proofs.YtdjkgkfgnmcldaaDoor.Help
