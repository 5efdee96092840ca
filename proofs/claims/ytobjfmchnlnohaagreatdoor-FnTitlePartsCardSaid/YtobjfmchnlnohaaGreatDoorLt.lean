/-
  Contracts of the functions on letters of chapter 6, of both.
-/
import Derived.Test.YtobjfmchnlnohaaGreatDoorLetI
import Derived.Test.YtobjfmchnlnohaaGreatDoorTcPl
namespace Go.Proofs.YtobjfmchnlnohaaGreatDoor.Lt
open Go.RowKit Pl NmPl TiPl Word
set_option linter.unusedVariables false
set_option linter.unusedSimpArgs false

theorem letter_i (c : UInt8) (r : Bool) (w : World) (hr : isLt c = r) :
    Calls Tryz.prog 57 #[.int .u8 c.toNat] w fun e w' => e = .returned (.bool r) ∧ w = w' := by
  have HL : Hid (r = (isUp c || isLo c)) := Lib.hid hr.symm
  clear hr
  have HU := Lib.hid (fun w r h => up_i c r w h)
  have HO := Lib.hid (fun w r h => lo_i c r w h)
  cases hu : isUp c with
  | true =>
    rw [hu] at HL
    have HU' := Lib.hid (HU.out w true hu)
    clear hu HU
    go_enter Tryz.func57, Tryz.ntmps57
    go_wp2_with fail
    refine HU'.out.mono ?_
    rintro e w' ⟨rfl, rfl⟩
    go_wp2_with fail
    go_ret
    exact ⟨by rw [HL.out]; rfl, rfl⟩
  | false =>
    rw [hu] at HL
    have HU' := Lib.hid (HU.out w false hu)
    clear hu HU
    obtain ⟨q, hq⟩ : ∃ q, isLo c = q := ⟨_, rfl⟩
    rw [hq] at HL
    have HO' := Lib.hid (HO.out w q hq)
    clear hq HO
    cases q with
    | true =>
      go_enter Tryz.func57, Tryz.ntmps57
      go_wp2_with fail
      refine HU'.out.mono ?_
      rintro e w' ⟨rfl, rfl⟩
      go_wp2_with fail
      refine HO'.out.mono ?_
      rintro e w' ⟨rfl, rfl⟩
      go_wp2_with fail
      go_ret
      exact ⟨by rw [HL.out]; rfl, rfl⟩
    | false =>
      go_enter Tryz.func57, Tryz.ntmps57
      go_wp2_with fail
      refine HU'.out.mono ?_
      rintro e w' ⟨rfl, rfl⟩
      go_wp2_with fail
      refine HO'.out.mono ?_
      rintro e w' ⟨rfl, rfl⟩
      go_wp2_with fail
      go_ret
      exact ⟨by rw [HL.out]; rfl, rfl⟩

theorem lt_int (c : UInt8) : isLt c = ((decide (65 ≤ (c.toNat : Int)) && decide ((c.toNat : Int) ≤ 90)) || (decide (97 ≤ (c.toNat : Int)) && decide ((c.toNat : Int) ≤ 122))) := by
  rw [Bool.eq_iff_iff]; simp [isLt, isUp, isLo]; omega
theorem upperB_of {c : UInt8} (h : Lib.isLowerB c = true) : 97 ≤ c.toNat ∧ c.toNat ≤ 122 ∧ (Lib.upperB c).toNat + 32 = c.toNat := by
  have hr : 97 ≤ c.toNat ∧ c.toNat ≤ 122 := by rw [isLo_eq] at h; simpa [isLo] using h
  refine ⟨hr.1, hr.2, ?_⟩
  unfold Lib.upperB
  rw [if_pos h, UInt8.toNat_sub_of_le]
  · show c.toNat - 32 + 32 = _; omega
  · rw [UInt8.le_iff_toNat_le]; show 32 ≤ c.toNat; omega
end Go.Proofs.YtobjfmchnlnohaaGreatDoor.Lt
