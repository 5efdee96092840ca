/-
  Strings as the cells of a row.
-/
import Derived.Test.YtheiammmanpddaaDoorRows
import Derived.Test.YtheiammmanpddaaDoorPlain
import Derived.WalkKit
import Derived.Maps.AppendAt
namespace Go.Proofs.YtheiammmanpddaaDoor.Cs
open Go.RowKit Pl
theorem infoStr : (Tryd.prog.info? 9).map (fun i => (i.zero, i.size, i.bytes)) = some (some (.string ByteArray.empty), 1, 16) := by kernel_rfl
def cs (l : List (List UInt8)) : List Value := l.map fun x => .string (ba x)
theorem cs_snoc (l : List (List UInt8)) (x : List UInt8) : cs (l ++ [x]) = cs l ++ [.string (ba x)] := by simp [cs]
theorem cs_len (l : List (List UInt8)) : (cs l).length = l.length := by simp [cs]
end Go.Proofs.YtheiammmanpddaaDoor.Cs
