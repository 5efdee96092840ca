/-
  Plain mathematics: whether a byte stands in a text.
-/
import Derived.Test.YtkiogbbbigmgnaaPlain
import Derived.WalkKit
import Derived.Lib.IndexLaws
import Derived.Lib.Bytealg
namespace Go.Proofs.Ytkiogbbbigmgnaa.Stands
open Pl

/-- does the byte stand in the text -/
def stB (b : UInt8) (l : List UInt8) : Bool := l.contains b
theorem stB_snoc (b : UInt8) (l : List UInt8) (x : UInt8) : stB b (l ++ [x]) = (stB b l || (x == b)) := by
  have e : (b == x) = (x == b) := by rw [Bool.eq_iff_iff, beq_iff_eq, beq_iff_eq]; exact eq_comm
  unfold stB; rw [List.contains_append, List.contains_cons, List.contains_nil, Bool.or_false, e]

theorem stB_index (b : UInt8) (l : List UInt8) : decide (0 ≤ Lib.indexByte l b) = stB b l := by
  unfold stB
  rw [Bool.eq_iff_iff, decide_eq_true_iff, List.contains_iff_mem]
  constructor
  · intro h
    obtain ⟨o, ho⟩ := Int.eq_ofNat_of_zero_le h
    exact List.mem_of_getElem? (Lib.indexByte_some ho).1
  · intro h
    have hge := Lib.indexByte_ge l b
    rcases Int.lt_or_le (Lib.indexByte l b) 0 with hlt | hle
    · obtain ⟨i, hi⟩ := List.getElem?_of_mem h
      exact absurd hi (Lib.indexByte_none (by omega) i)
    · exact hle
end Go.Proofs.Ytkiogbbbigmgnaa.Stands
