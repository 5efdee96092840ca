/-
  Plain mathematics of spans: sizes of lists of spans. Nothing of the program is named here.
-/
import Derived.WalkKit
namespace Go.Proofs.Ytljbbmefemfjpaa.SpPl

/-- a span: its text, is it italic, is it bold -/
structure Sp1 where
  l : ByteArray
  f : Bool
  t : Bool
instance : Inhabited Sp1 := ⟨⟨ByteArray.empty, false, false⟩⟩
/-- the sizes of the letters together -/
def szL (L : List Sp1) : Nat := (L.map fun x => x.l.size).sum
theorem szL_take {L : List Sp1} {k : Nat} {x : Sp1} (h : L[k]? = some x) : szL (L.take (k + 1)) = szL (L.take k) + x.l.size := by
  unfold szL
  rw [List.take_add_one, h, List.map_append, List.sum_append]
  simp
theorem szL_le (L : List Sp1) (k : Nat) : szL (L.take k) ≤ szL L := by
  conv => rhs; rw [← List.take_append_drop k L]
  unfold szL
  rw [List.map_append, List.sum_append]
  omega
theorem szL_mem {L : List Sp1} {x : Sp1} (h : x ∈ L) : x.l.size ≤ szL L := by
  obtain ⟨k, hk, rfl⟩ := List.getElem_of_mem h
  have := szL_take (List.getElem?_eq_getElem hk)
  have := szL_le L (k + 1)
  omega
/-- what szSpanS answers -/
def szPs (left : Nat) (L : List Sp1) : Int := if L.length + szL L ≤ left then (left : Int) - L.length - szL L else -1
end Go.Proofs.Ytljbbmefemfjpaa.SpPl
