/-
  Contracts of lowerUnprotected and l6Calm, l6Lower of the model.
-/
import Derived.Test.YtobjfmchnlnohaaGreatDoorLt
import Derived.Test.YtobjfmchnlnohaaGreatDoorRa
import Derived.Test.YtobjfmchnlnohaaGreatDoorMk
import Derived.Lib.BufferOld
namespace Go.Proofs.YtobjfmchnlnohaaGreatDoor.Ca
open Go.RowKit Pl NmPl TiPl Word Lt Ra
set_option linter.unusedVariables false
set_option linter.unusedSimpArgs false

theorem lower_one (c : UInt8) (h : c.toNat < 128) (w : World) : Calls Tryz.prog 59 #[.string (ba [c])] w fun e w' => e = .returned (.string (ba [Lib.lowerB c])) ∧ Below w.heap.size w w' := by
  have := Tryz.strings_ToLower_ascii (ba [c]) w (by rw [ba_size]; simp) (fun j b hj => by
    rw [toList_ba] at hj
    match j, hj with
    | 0, hj => simp at hj; subst hj; exact h)
  rw [toList_ba] at this
  exact this
theorem mask_get (s : ByteArray) (k : Nat) (h : k < s.size) (hm : k < (ba (mk s.data.toList)).size) : (ba (mk s.data.toList))[k] = if stp (st false (s.data.toList.take k)) s[k] = true then 123 else s[k] := by
  have h1 : s.data.toList[k]? = some s[k] := by rw [List.getElem?_eq_getElem (by rw [len_size]; exact h)]; rfl
  have h2 := mkf_at false s.data.toList k s[k] h1
  rw [take_snoc s k h, st_snoc] at h2
  have h3 : (ba (mk s.data.toList)).data.toList[k]? = some (ba (mk s.data.toList))[k] := by
    rw [List.getElem?_eq_getElem (by rw [len_size]; exact hm)]; rfl
  rw [toList_ba] at h3
  exact Option.some.inj (h3.symm.trans h2)
theorem up123 : isUp 123 = false := by decide

end Go.Proofs.YtobjfmchnlnohaaGreatDoor.Ca
