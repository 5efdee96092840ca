/-
  Contracts of the functions on letters of chapter 6, of both.
-/
import Derived.Test.YtobaapabkckblaaGreatDoorLetI
import Derived.Test.YtobaapabkckblaaGreatDoorTcPl
namespace Go.Proofs.YtobaapabkckblaaGreatDoor.Lt
open Go.RowKit Pl NmPl TiPl Word
set_option linter.unusedVariables false
set_option linter.unusedSimpArgs false

theorem letter_i (c : UInt8) (r : Bool) (w : World) (hr : isLt c = r) :
    Calls Tryz.prog 80 #[.int .u8 c.toNat] w fun e w' => e = .returned (.bool r) ∧ w = w' := by
  have HL : Hid (r = (isUp c || isLo c)) := Lib.hid hr.symm
  clear hr
  have HU := Lib.hid (fun w r h => up_i c r w h)
  have HO := Lib.hid (fun w r h => lo_i c r w h)
  cases hu : isUp c with
  | true =>
    rw [hu] at HL
    have HU' := Lib.hid (HU.out w true hu)
    clear hu HU
    go_enter Tryz.func80, Tryz.ntmps80
    go_wp2_with fail
    refine HU'.out.mono ?_
    rintro e w' ⟨rfl, rfl⟩
    go_wp2_with fail
    go_ret
    exact ⟨by rw [HL.out]; rfl, rfl⟩
  | false =>
    rw [hu] at HL
    have HU' := Lib.hid (HU.out w false hu)
    clear hu HU
    obtain ⟨q, hq⟩ : ∃ q, isLo c = q := ⟨_, rfl⟩
    rw [hq] at HL
    have HO' := Lib.hid (HO.out w q hq)
    clear hq HO
    cases q with
    | true =>
      go_enter Tryz.func80, Tryz.ntmps80
      go_wp2_with fail
      refine HU'.out.mono ?_
      rintro e w' ⟨rfl, rfl⟩
      go_wp2_with fail
      refine HO'.out.mono ?_
      rintro e w' ⟨rfl, rfl⟩
      go_wp2_with fail
      go_ret
      exact ⟨by rw [HL.out]; rfl, rfl⟩
    | false =>
      go_enter Tryz.func80, Tryz.ntmps80
      go_wp2_with fail
      refine HU'.out.mono ?_
      rintro e w' ⟨rfl, rfl⟩
      go_wp2_with fail
      refine HO'.out.mono ?_
      rintro e w' ⟨rfl, rfl⟩
      go_wp2_with fail
      go_ret
      exact ⟨by rw [HL.out]; rfl, rfl⟩

theorem lt_int (c : UInt8) : isLt c = ((decide (65 ≤ (c.toNat : Int)) && decide ((c.toNat : Int) ≤ 90)) || (decide (97 ≤ (c.toNat : Int)) && decide ((c.toNat : Int) ≤ 122))) := by
  rw [Bool.eq_iff_iff]; simp [isLt, isUp, isLo]; omega
theorem letter_s (c : UInt8) (r : Bool) (w : World) (hr : isLt c = r) :
    Calls Tryz.prog 63 #[.int .u8 c.toNat] w fun e w' => e = .returned (.bool r) ∧ w = w' := by
  have HL := Lib.hid (lt_int c)
  subst hr
  have hcl := c.toNat_lt
  go_enter Tryz.func63, Tryz.ntmps63
  go_wp2
  all_goals
    go_ret
    exact ⟨ret_bool (by rw [HL.out, Bool.eq_iff_iff]; simp; omega), rfl⟩
theorem low_s (c : UInt8) (w : World) :
    Calls Tryz.prog 62 #[.int .u8 c.toNat] w fun e w' => e = .returned (.int .u8 (Lib.lowerB c).toNat) ∧ w = w' := by
  have hcl := c.toNat_lt
  cases h : Lib.isUpperB c with
  | true =>
    have h1 := up_range h
    have HE := Lib.hid (lowerB_of h)
    have hd1 : decide (65 ≤ (c.toNat : Int)) = true := by simp; omega
    have hd2 : decide ((c.toNat : Int) ≤ 90) = true := by simp; omega
    clear h
    go_enter Tryz.func62, Tryz.ntmps62
    go_wp2
    all_goals
      go_ret
      exact ⟨ret_int (by rw [HE.out]; omega), rfl⟩
  | false =>
    have HE : Hid ((Lib.lowerB c) = c) := Lib.hid (Lib.lowerB_of_not c h)
    have hn : ¬ (65 ≤ c.toNat ∧ c.toNat ≤ 90) := by
      rw [isUp_eq] at h
      simpa [isUp] using h
    clear h
    by_cases h1 : 65 ≤ c.toNat
    · have hd1 : decide (65 ≤ (c.toNat : Int)) = true := by simp; omega
      have hd2 : decide ((c.toNat : Int) ≤ 90) = false := by simp; omega
      clear hn h1
      go_enter Tryz.func62, Tryz.ntmps62
      go_wp2
      go_ret
      exact ⟨by rw [HE.out]; rfl, rfl⟩
    · have hd1 : decide (65 ≤ (c.toNat : Int)) = false := by simp; omega
      clear hn h1
      go_enter Tryz.func62, Tryz.ntmps62
      go_wp2
      go_ret
      exact ⟨by rw [HE.out]; rfl, rfl⟩
theorem upperB_of {c : UInt8} (h : Lib.isLowerB c = true) : 97 ≤ c.toNat ∧ c.toNat ≤ 122 ∧ (Lib.upperB c).toNat + 32 = c.toNat := by
  have hr : 97 ≤ c.toNat ∧ c.toNat ≤ 122 := by rw [isLo_eq] at h; simpa [isLo] using h
  refine ⟨hr.1, hr.2, ?_⟩
  unfold Lib.upperB
  rw [if_pos h, UInt8.toNat_sub_of_le]
  · show c.toNat - 32 + 32 = _; omega
  · rw [UInt8.le_iff_toNat_le]; show 32 ≤ c.toNat; omega
theorem up_s (c : UInt8) (w : World) :
    Calls Tryz.prog 64 #[.int .u8 c.toNat] w fun e w' => e = .returned (.int .u8 (Lib.upperB c).toNat) ∧ w = w' := by
  have hcl := c.toNat_lt
  cases h : Lib.isLowerB c with
  | true =>
    obtain ⟨h1, h2, h3⟩ := upperB_of h
    have HE := Lib.hid h3
    have hd1 : decide (97 ≤ (c.toNat : Int)) = true := by simp; omega
    have hd2 : decide ((c.toNat : Int) ≤ 122) = true := by simp; omega
    clear h h3
    go_enter Tryz.func64, Tryz.ntmps64
    go_wp2
    all_goals
      go_ret
      exact ⟨ret_int (by have := HE.out; omega), rfl⟩
  | false =>
    have HE : Hid ((Lib.upperB c) = c) := Lib.hid (Lib.upperB_of_not c h)
    have hn : ¬ (97 ≤ c.toNat ∧ c.toNat ≤ 122) := by
      rw [isLo_eq] at h
      simpa [isLo] using h
    clear h
    by_cases h1 : 97 ≤ c.toNat
    · have hd1 : decide (97 ≤ (c.toNat : Int)) = true := by simp; omega
      have hd2 : decide ((c.toNat : Int) ≤ 122) = false := by simp; omega
      clear hn h1
      go_enter Tryz.func64, Tryz.ntmps64
      go_wp2
      go_ret
      exact ⟨by rw [HE.out]; rfl, rfl⟩
    · have hd1 : decide (97 ≤ (c.toNat : Int)) = false := by simp; omega
      clear hn h1
      go_enter Tryz.func64, Tryz.ntmps64
      go_wp2
      go_ret
      exact ⟨by rw [HE.out]; rfl, rfl⟩
end Go.Proofs.YtobaapabkckblaaGreatDoor.Lt
