/-
  Contracts of spec.l1Split and spec.SplitString.
-/
import Derived.Test.YtioajkkkncjndaaRows
import Derived.Test.YtioajkkkncjndaaPlain
import Derived.WalkKit
import Derived.LoopTactic
import Derived.Lib.Hide
import Derived.Maps.AppendAt
import Derived.RangeFuncBox
namespace Go.Proofs.Ytioajkkkncjndaa.Split
open Go.RowKit Pl

theorem infoStr : (Try.prog.info? 9).map (fun i => (i.zero, i.size, i.bytes)) = some (some (.string ByteArray.empty), 1, 16) := by kernel_rfl

/-- strings as cells -/
def cs (l : List (List UInt8)) : List Value := l.map fun x => .string (ba x)

theorem cs_snoc (l : List (List UInt8)) (x : List UInt8) : cs (l ++ [x]) = cs l ++ [.string (ba x)] := by simp [cs]
theorem cut_of (b : UInt8) (s : ByteArray) (k f : Nat) (hk : k ≤ s.size) (hf : f + (spC b (s.data.toList.take k)).length = k) : s.extract f k = ba (spC b (s.data.toList.take k)) := by
  have := spC_extract b s k hk
  rwa [show k - (spC b (s.data.toList.take k)).length = f from by omega] at this
theorem row_hit {w : World} {base : Nat} {e : TypeId} {v : Value} (b : UInt8) (s : ByteArray) (k f : Nat) (hk : k ≤ s.size) (hf : f + (spC b (s.data.toList.take k)).length = k)
    (h : w.ownsRow base e 1 v ((spD b (s.data.toList.take k)).length + 1) (cs (spD b (s.data.toList.take k)) ++ [.string (s.extract f k)])) {l : List (List UInt8)} (hl : l = spD b (s.data.toList.take k) ++ [spC b (s.data.toList.take k)]) :
    w.ownsRow base e 1 v l.length (cs l) := by
  rw [cut_of b s k f hk hf, ← cs_snoc] at h
  subst hl
  simpa using h

end Go.Proofs.Ytioajkkkncjndaa.Split
