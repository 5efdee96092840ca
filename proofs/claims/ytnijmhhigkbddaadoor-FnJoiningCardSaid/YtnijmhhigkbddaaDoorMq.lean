/-
  Contracts of the marks: isMark, replacingMark, seam; l11Mark, l11Merge; MergeMarks of both.
-/
import Derived.Test.YtnijmhhigkbddaaDoorRows
import Derived.Test.YtnijmhhigkbddaaDoorMqPl
import Derived.Test.YtnijmhhigkbddaaDoorShelf
import Derived.WalkKit
import Derived.LoopTactic
import Derived.Lib.Hide
import Derived.Below
import Derived.Deep.QuietTactic
import Derived.BigQuiet
import Derived.Laws.IdiomStrings
namespace Go.Proofs.YtnijmhhigkbddaaDoor.Mq
open Go.RowKit Pl NmPl MqPl
set_option linter.unusedSimpArgs false
set_option linter.unusedVariables false

theorem ret_bool {a b : Bool} (h : a = b) : Ending.returned (.bool a) = .returned (.bool b) := by rw [h]
theorem ib (c : UInt8) (w : World) : Calls Tryd.prog 33 #[.string ⟨#[46, 44, 59, 58, 33, 63]⟩, .int .u8 c.toNat] w fun e w' => e = .returned (.int .i64 (mI c.toNat)) ∧ w = w' := by
  refine (Tryd.strings_IndexByte ⟨#[46, 44, 59, 58, 33, 63]⟩ c.toNat w).mono ?_
  rintro e w' ⟨rfl, rfl⟩
  refine ⟨?_, rfl⟩
  have h : ((c.toNat : Int)).toNat.toUInt8 = c := by simp
  rw [h]
  exact ret_int (index_allM c)
theorem isMark_i (c : UInt8) (r : Bool) (w : World) (hr : isM c = r) : Calls Tryd.prog 25 #[.int .u8 c.toNat] w fun e w' => e = .returned (.bool r) ∧ w = w' := by
  subst hr
  have HI := Lib.hid (fun w => ib c w)
  have HE := Lib.hid (show isM c = decide (0 ≤ mI c.toNat) from rfl)
  generalize mI c.toNat = z at *
  go_enter Tryd.func25, Tryd.ntmps25
  go_wp2_with fail
  refine (HI.out _).mono ?_
  rintro e w' ⟨rfl, rfl⟩
  go_wp2_with fail
  go_ret
  exact ⟨ret_bool HE.out.symm, rfl⟩
/-- the table lies as laid -/
def MarkTab (w : World) : Prop := 0 < w.heap.size ∧ ∀ i j, i < 6 → j < 6 → w.cell? ⟨0, i * 6 + j, none⟩ = some (.int .u8 (tb i j).toNat)
theorem MarkTab.below {w w' : World} (h : MarkTab w) (hb : Below w.heap.size w w') : MarkTab w' :=
  ⟨Nat.lt_of_lt_of_le h.1 hb.size, fun i j hi hj => (hb.cell (p := ⟨0, i * 6 + j, none⟩) h.1).trans (h.2 i j hi hj)⟩
/-- what replacingMark answers -/
def rmV (a b : UInt8) : Value := match rm a b with | some x => .tuple #[.int .u8 x.toNat, .bool true] | none => .tuple #[.int .u8 0, .bool false]
set_option maxHeartbeats 2000000 in
theorem rep_i (a b : UInt8) (w : World) (ht : MarkTab w) : Calls Tryd.prog 40 #[.int .u8 a.toNat, .int .u8 b.toNat] w fun e w' => e = .returned (rmV a b) ∧ w = w' := by
  have HA := Lib.hid (fun w => ib a w)
  have HB := Lib.hid (fun w => ib b w)
  rcases mI_cases a.toNat with ha | ⟨i, hi, ha⟩
  · have HE : Hid (rmV a b = .tuple #[.int .u8 0, .bool false]) := Lib.hid (by unfold rmV; rw [rm_no_a (by rw [isM_eq ha]; rfl)])
    rw [ha] at HA
    clear ha ht
    generalize mI b.toNat = z at *
    go_enter Tryd.func40, Tryd.ntmps40
    go_wp2_with fail
    refine (HA.out _).mono ?_
    rintro e w' ⟨rfl, rfl⟩
    go_wp2_with fail
    refine (HB.out _).mono ?_
    rintro e w' ⟨rfl, rfl⟩
    go_wp2_with fail
    go_ret2
    exact ⟨by rw [HE.out]; rfl, rfl⟩
  · rcases mI_cases b.toNat with hb | ⟨j, hj, hb⟩
    · have HE : Hid (rmV a b = .tuple #[.int .u8 0, .bool false]) := Lib.hid (by unfold rmV; rw [rm_no_b (by rw [isM_eq hb]; rfl)])
      rw [ha] at HA
      rw [hb] at HB
      have hd : decide ((i : Int) < 0) = false := by simp
      clear ha hb ht
      go_enter Tryd.func40, Tryd.ntmps40
      go_wp2_with fail
      refine (HA.out _).mono ?_
      rintro e w' ⟨rfl, rfl⟩
      go_wp2_with fail
      refine (HB.out _).mono ?_
      rintro e w' ⟨rfl, rfl⟩
      go_wp2_with fail
      go_ret2
      exact ⟨by rw [HE.out]; rfl, rfl⟩
    · have HE : Hid (rmV a b = if tb i j = 0 then .tuple #[.int .u8 0, .bool false] else .tuple #[.int .u8 (tb i j).toNat, .bool true]) := Lib.hid (by
        unfold rmV; rw [rm_at ha hb]; split <;> rename_i h <;> split at h <;> simp_all)
      rw [ha] at HA
      rw [hb] at HB
      have hc := ht.2 i j hi hj
      have hdi : decide ((i : Int) < 0) = false := by simp
      have hdj : decide ((j : Int) < 0) = false := by simp
      clear ha hb ht
      by_cases h0 : tb i j = 0
      · rw [h0] at hc
        have HE2 : Hid (rmV a b = .tuple #[.int .u8 0, .bool false]) := Lib.hid (by rw [HE.out, if_pos h0])
        clear HE h0
        go_enter Tryd.func40, Tryd.ntmps40
        go_wp2_with fail
        refine (HA.out _).mono ?_
        rintro e w' ⟨rfl, rfl⟩
        go_wp2_with fail
        refine (HB.out _).mono ?_
        rintro e w' ⟨rfl, rfl⟩
        go_wp2_with fail
        go_ret2
        exact ⟨by rw [HE2.out]; rfl, rfl⟩
      · have HE2 : Hid (rmV a b = .tuple #[.int .u8 (tb i j).toNat, .bool true]) := Lib.hid (by rw [HE.out, if_neg h0])
        have hz : (((tb i j).toNat : Int) == 0) = false := by
          rw [beq_eq_false_iff_ne]; intro e; exact h0 (UInt8.toNat_inj.1 (show (tb i j).toNat = (0 : UInt8).toNat by have : (0 : UInt8).toNat = 0 := rfl; omega))
        have hl := (tb i j).toNat_lt
        clear HE h0
        generalize (tb i j).toNat = t at *
        go_enter Tryd.func40, Tryd.ntmps40
        go_wp2_with fail
        refine (HA.out _).mono ?_
        rintro e w' ⟨rfl, rfl⟩
        go_wp2_with fail
        refine (HB.out _).mono ?_
        rintro e w' ⟨rfl, rfl⟩
        go_wp2_with fail
        go_ret2
        exact ⟨by rw [HE2.out]; rfl, rfl⟩
end Go.Proofs.YtnijmhhigkbddaaDoor.Mq
