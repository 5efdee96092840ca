/-
  Contracts of isLetter of the program and l6Letter of the model (as in Lt, without the titles).
-/
import Derived.Test.YtbicfmoemgaapaaGreatDoorLetI
import Derived.Deep.DeepCutAuto
namespace Go.Proofs.YtbicfmoemgaapaaGreatDoor.LtI
open Go.RowKit NmPl Word
set_option linter.unusedVariables false
set_option linter.unusedSimpArgs false

theorem letter_i (c : UInt8) (r : Bool) (w : World) (hr : isLt c = r) :
    Calls Tryz.prog 95 #[.int .u8 c.toNat] w fun e w' => e = .returned (.bool r) ∧ w = w' := by
  have HL : Hid (r = (isUp c || isLo c)) := Lib.hid hr.symm
  clear hr
  have HU := Lib.hid (fun w r h => up_i c r w h)
  have HO := Lib.hid (fun w r h => lo_i c r w h)
  cases hu : isUp c with
  | true =>
    rw [hu] at HL
    have HU' := Lib.hid (HU.out w true hu)
    clear hu HU
    go_enter Tryz.func95, Tryz.ntmps95
    go_wp2_with fail
    refine HU'.out.mono ?_
    rintro e w' ⟨rfl, rfl⟩
    go_wp2_with fail
    go_ret
    exact ⟨by rw [HL.out]; rfl, rfl⟩
  | false =>
    rw [hu] at HL
    have HU' := Lib.hid (HU.out w false hu)
    clear hu HU
    obtain ⟨q, hq⟩ : ∃ q, isLo c = q := ⟨_, rfl⟩
    rw [hq] at HL
    have HO' := Lib.hid (HO.out w q hq)
    clear hq HO
    cases q with
    | true =>
      go_enter Tryz.func95, Tryz.ntmps95
      go_wp2_with fail
      refine HU'.out.mono ?_
      rintro e w' ⟨rfl, rfl⟩
      go_wp2_with fail
      refine HO'.out.mono ?_
      rintro e w' ⟨rfl, rfl⟩
      go_wp2_with fail
      go_ret
      exact ⟨by rw [HL.out]; rfl, rfl⟩
    | false =>
      go_enter Tryz.func95, Tryz.ntmps95
      go_wp2_with fail
      refine HU'.out.mono ?_
      rintro e w' ⟨rfl, rfl⟩
      go_wp2_with fail
      refine HO'.out.mono ?_
      rintro e w' ⟨rfl, rfl⟩
      go_wp2_with fail
      go_ret
      exact ⟨by rw [HL.out]; rfl, rfl⟩

theorem lt_int (c : UInt8) : isLt c = ((decide (65 ≤ (c.toNat : Int)) && decide ((c.toNat : Int) ≤ 90)) || (decide (97 ≤ (c.toNat : Int)) && decide ((c.toNat : Int) ≤ 122))) := by
  rw [Bool.eq_iff_iff]; simp [isLt, isUp, isLo]; omega
theorem letter_s (c : UInt8) (r : Bool) (w : World) (hr : isLt c = r) :
    Calls Tryz.prog 53 #[.int .u8 c.toNat] w fun e w' => e = .returned (.bool r) ∧ w = w' := by
  have HL := Lib.hid (lt_int c)
  subst hr
  have hcl := c.toNat_lt
  go_enter Tryz.func53, Tryz.ntmps53
  go_wp2
  all_goals
    go_ret
    exact ⟨ret_bool (by rw [HL.out, Bool.eq_iff_iff]; simp; omega), rfl⟩
end Go.Proofs.YtbicfmoemgaapaaGreatDoor.LtI
