/-
  Contracts of raiseFirstLetter and l6Raise of the model.
-/
import Derived.Test.YtobjfmchnlnohaaGreatDoorLt
import Derived.Test.YtobjfmchnlnohaaGreatDoorShelf
import Derived.Test.YtobjfmchnlnohaaGreatDoorBt
import Derived.Deep.RegionHeld3
import Derived.IntWalk
namespace Go.Proofs.YtobjfmchnlnohaaGreatDoor.Ra
open Go.RowKit Pl NmPl TiPl Word Lt
set_option linter.unusedVariables false
set_option linter.unusedSimpArgs false

theorem ext0 (s : ByteArray) (k : Nat) : s.extract 0 k = ba (s.data.toList.take k) := by rw [extract_list, List.drop_zero]
theorem ext1 (s : ByteArray) (k : Nat) (h : k < s.size) : s.extract k (k + 1) = ba [s[k]] := by
  rw [cut_at]
  congr 1
  rw [List.drop_eq_getElem_cons (by rw [len_size]; exact h)]
  rfl
theorem ext2 (s : ByteArray) (k : Nat) : s.extract k s.size = ba (s.data.toList.drop k) := by rw [extract_list, take_all s _ (Nat.le_refl _)]
theorem at_split (s : ByteArray) (k : Nat) (h : k < s.size) : s.data.toList = s.data.toList.take k ++ s[k] :: s.data.toList.drop (k + 1) := by
  conv => lhs; rw [← List.take_append_drop k s.data.toList, List.drop_eq_getElem_cons (by rw [len_size]; exact h)]
  rfl
theorem ba_app (a b : List UInt8) : ba a ++ ba b = ba (a ++ b) := by apply ByteArray.ext; simp [ba]
theorem any_snoc (p : UInt8 → Bool) (s : ByteArray) (k : Nat) (h : k < s.size) : (s.data.toList.take (k + 1)).any p = ((s.data.toList.take k).any p || p s[k]) := by
  rw [take_snoc s k h]; simp
theorem lt_128 {c : UInt8} (h : isLt c = true) : c.toNat < 128 := by
  simp [isLt, isUp, isLo] at h; omega
theorem raise_at (s : ByteArray) (k : Nat) (h : k < s.size) (hn : (s.data.toList.take k).any isLt = false) (hc : isLt s[k] = true) :
    s.extract 0 k ++ ba [Lib.upperB s[k]] ++ s.extract (k + 1) s.size = ba (raise s.data.toList) := by
  rw [ext0, ext2, ba_app, ba_app]
  congr 1
  conv => rhs; rw [at_split s k h, raise_hit _ hn hc]
  simp

theorem str1 (W : World) (x : Int) :
    (convert 22 9 (.slice (some ⟨W.heap.size, 0, none⟩) 1 1)).run Tryz.prog (W.alloc (.cells #[.int .u8 x] 5)) = .ok (.string ⟨#[UInt8.ofNat x.toNat]⟩) (W.alloc (.cells #[.int .u8 x] 5)) := by
  refine (run_convert_bytes_arg _ 22 5 Tryz.underlying22 Tryz.underlying5 W.heap.size 0 1 1 [x] rfl (fun i hi => ?_) 9 Tryz.underlying9)
  obtain rfl : i = 0 := by omega
  simp
theorem str1c (W : World) (c : UInt8) :
    (convert 22 9 (.slice (some ⟨W.heap.size, 0, none⟩) 1 1)).run Tryz.prog ((W.alloc (.cells #[.int .u8 c.toNat] 5)).drew) = .ok (.string (ba [c])) ((W.alloc (.cells #[.int .u8 c.toNat] 5)).drew) := by
  have := str1 W.drew (c.toNat : Int)
  have e : (⟨#[UInt8.ofNat (c.toNat : Int).toNat]⟩ : ByteArray) = ba [c] := by simp [ba]
  rw [e] at this
  exact this

end Go.Proofs.YtobjfmchnlnohaaGreatDoor.Ra
