/-
  Drawing functions of chapter 11: DrawEndWith, DrawMergeMarks.
-/
import Derived.Test.YtnijmhhigkbddaaDoorDm
import Derived.Test.YtnijmhhigkbddaaDoorNmPl
import Derived.Deep.RegionWith
namespace Go.Proofs.YtnijmhhigkbddaaDoor.Dm
open Go.RowKit Pl Cur Draw0
set_option linter.unusedVariables false
set_option linter.unusedSimpArgs false

theorem grown_drew {w w' : World} {row : Option Nat} (h : w.drew.grownBy w' row) : w.grownBy w' row := ⟨h.os, h.tape, h.output, h.size, h.block⟩
/-- a number of 0 to 11, divided by 11 and put to another one -/
theorem div11 (r b : Nat) (h : (r : Int) ≤ ((12 : Nat) : Int) - 1) (hb : b ≤ 7) : ∃ q m : Nat, Int.tdiv (r : Int) 11 = (q : Int) ∧ IntKind.i64.wrap ((b : Int) + (q : Int)) = (m : Int) ∧ b ≤ m ∧ m ≤ b + 1 ∧ IntKind.i64.wrap (q : Int) = (q : Int) := by
  by_cases h2 : r = 11
  · subst h2
    exact ⟨1, b + 1, rfl, by rw [IntWalk.i64_in _ (by omega)]; omega, by omega, by omega, rfl⟩
  · refine ⟨0, b, ?_, by rw [IntWalk.i64_in _ (by omega)]; omega, by omega, by omega, rfl⟩
    rw [Int.tdiv_eq_ediv_of_nonneg (by omega)]; omega
def StrByte (m : Nat) (w : World) (e : Ending) (w' : World) : Prop := ∃ (x : ByteArray) (b : UInt8), x.size ≤ m ∧ e = .returned (.tuple #[.string x, .int .u8 b.toNat]) ∧ Below w.heap.size w w'
def TwoByte (w : World) (e : Ending) (w' : World) : Prop := ∃ a b : UInt8, e = .returned (.tuple #[.int .u8 a.toNat, .int .u8 b.toNat]) ∧ Below w.heap.size w w'
set_option maxRecDepth 100000 in
set_option maxHeartbeats 4000000 in
theorem drawEnd_any (A : Option Addr) (n c : Nat) (w : World) (hn : n ≤ 65536) (hr : RdB w A n) (ha : Apart A n w.heap.size) :
    Calls Tryd.prog 11 #[.slice A n c] w (StrByte 61 w) := by
  have HR : Hid (RdB (w.alloc (.cells #[.slice A n c, .int .i64 0, .int .u64 0] 41)).drew A n) := Lib.hid (rdb_new hr ha (.cells #[.slice A n c, .int .i64 0, .int .u64 0] 41))
  have HA := Lib.hid ha
  have HC : Hid (IsCur (w.alloc (.cells #[.slice A n c, .int .i64 0, .int .u64 0] 41)).drew w.heap.size A n c 0 0) := Lib.hid (cur_new w A n c)
  clear hr ha
  obtain ⟨mk, HM⟩ : ∃ m : ByteArray, Hid (m = ⟨#[46, 46, 44, 59, 63, 33, 58, 97]⟩) := ⟨_, Lib.hid rfl⟩
  have hms : mk.size = 8 := by rw [HM.out]; rfl
  go_enter Tryd.func11, Tryd.ntmps11
  rw [← HM.out]
  go_wp2_with fail
  go_region_with (first
    | (go_at_call 17; (with_reducible refine (marked_any w.heap.size A n c 0 0 _ (by omega) (by omega) HC.out HR.out HA.out).mono ?_); rintro e w1 ⟨x, hx, rfl, ⟨k1, s1, hk1, hc1⟩, hg1⟩; have HR1 := Lib.hid (HR.out.grown HA.out hg1); have HC1 := Lib.hid hc1; have HG1 := Lib.hid hg1; clear hc1 hg1)
    | (go_at_call 22; (with_reducible refine (pick_any m (by omega) (by omega) w.heap.size A n c k2 s2 _ (by omega) (by omega) HC2.out HR2.out HA.out).mono ?_); rintro e w3 ⟨z, rfl, hz0, hz1, ⟨k3, s3, hk3, hc3⟩, hg3⟩; obtain ⟨i, rfl⟩ := Int.eq_ofNat_of_zero_le hz0; have HG3 := Lib.hid (grown_trans HG2.out hg3); have hi8 : i < mk.size := (by omega); clear hc3 hg3 hz0)
    | (go_at_call 22; refine (pick_any 12 (by omega) (by omega) w.heap.size A n c k1 s1 _ (by omega) (by omega) HC1.out HR1.out HA.out).mono ?_; rintro e w2 ⟨y, rfl, hy0, hy1, ⟨k2, s2, hk2, hc2⟩, hg2⟩; obtain ⟨r, rfl⟩ := Int.eq_ofNat_of_zero_le hy0; have HR2 := Lib.hid (HR1.out.grown HA.out hg2); have HC2 := Lib.hid hc2; have HG2 := Lib.hid (grown_trans HG1.out hg2); obtain ⟨q, m, hq, hw0, hm0, hm1, hwq⟩ := div11 r 7 hy1 (by omega); have hw : IntKind.i64.wrap ((7 : Int) + (q : Int)) = (m : Int) := hw0; clear hw0; clear hc2 hg2 hy0))
  all_goals go_wp2_with fail
  all_goals go_ret2
  all_goals exact ⟨x, mk[i], hx, rfl, below_new (grown_drew HG3.out)⟩
set_option maxRecDepth 100000 in
set_option maxHeartbeats 4000000 in
theorem drawMerge_any (A : Option Addr) (n c : Nat) (w : World) (hn : n ≤ 65536) (hr : RdB w A n) (ha : Apart A n w.heap.size) :
    Calls Tryd.prog 14 #[.slice A n c] w (TwoByte w) := by
  have HR : Hid (RdB (w.alloc (.cells #[.slice A n c, .int .i64 0, .int .u64 0] 41)).drew A n) := Lib.hid (rdb_new hr ha (.cells #[.slice A n c, .int .i64 0, .int .u64 0] 41))
  have HA := Lib.hid ha
  have HC : Hid (IsCur (w.alloc (.cells #[.slice A n c, .int .i64 0, .int .u64 0] 41)).drew w.heap.size A n c 0 0) := Lib.hid (cur_new w A n c)
  clear hr ha
  obtain ⟨mk, HM⟩ : ∃ m : ByteArray, Hid (m = ⟨#[46, 44, 59, 58, 33, 63, 97]⟩) := ⟨_, Lib.hid rfl⟩
  have hms : mk.size = 7 := by rw [HM.out]; rfl
  go_enter Tryd.func14, Tryd.ntmps14
  rw [← HM.out]
  go_wp2_with fail
  go_region_with (first
    | (go_at_call 22; (with_reducible refine (pick_any m2 (by omega) (by omega) w.heap.size A n c k3 s3 _ (by omega) (by omega) HC3.out HR3.out HA.out).mono ?_); rintro e w4 ⟨z2, rfl, hz0, hz1, ⟨k4, s4, hk4, hc4⟩, hg4⟩; obtain ⟨i2, rfl⟩ := Int.eq_ofNat_of_zero_le hz0; have HG4 := Lib.hid (grown_trans HG3.out hg4); have hi2 : i2 < mk.size := (by omega); clear hc4 hg4 hz0)
    | (go_at_call 22; guard_hyp hi1 : i1 < mk.size; refine (pick_any 12 (by omega) (by omega) w.heap.size A n c k2 s2 _ (by omega) (by omega) HC2.out HR2.out HA.out).mono ?_; rintro e w3 ⟨y2, rfl, hy20, hy21, ⟨k3, s3, hk3, hc3⟩, hg3⟩; obtain ⟨r2, rfl⟩ := Int.eq_ofNat_of_zero_le hy20; have HR3 := Lib.hid (HR2.out.grown HA.out hg3); have HC3 := Lib.hid hc3; have HG3 := Lib.hid (grown_trans HG2.out hg3); obtain ⟨q2, m2, hq2, hw02, hm20, hm21, hwq2⟩ := div11 r2 6 hy21 (by omega); have hw2 : IntKind.i64.wrap ((6 : Int) + (q2 : Int)) = (m2 : Int) := hw02; clear hw02; clear hc3 hg3 hy20)
    | (go_at_call 22; (with_reducible refine (pick_any m (by omega) (by omega) w.heap.size A n c k1 s1 _ (by omega) (by omega) HC1.out HR1.out HA.out).mono ?_); rintro e w2 ⟨z, rfl, hz0, hz1, ⟨k2, s2, hk2, hc2⟩, hg2⟩; obtain ⟨i1, rfl⟩ := Int.eq_ofNat_of_zero_le hz0; have HR2 := Lib.hid (HR1.out.grown HA.out hg2); have HC2 := Lib.hid hc2; have HG2 := Lib.hid (grown_trans HG1.out hg2); have hi1 : i1 < mk.size := (by omega); clear hc2 hg2 hz0)
    | (go_at_call 22; refine (pick_any 12 (by omega) (by omega) w.heap.size A n c 0 0 _ (by omega) (by omega) HC.out HR.out HA.out).mono ?_; rintro e w1 ⟨y, rfl, hy0, hy1, ⟨k1, s1, hk1, hc1⟩, hg1⟩; obtain ⟨r, rfl⟩ := Int.eq_ofNat_of_zero_le hy0; have HR1 := Lib.hid (HR.out.grown HA.out hg1); have HC1 := Lib.hid hc1; have HG1 := Lib.hid hg1; obtain ⟨q, m, hq, hw0, hm0, hm1, hwq⟩ := div11 r 6 hy1 (by omega); have hw : IntKind.i64.wrap ((6 : Int) + (q : Int)) = (m : Int) := hw0; clear hw0; clear hc1 hg1 hy0))
  all_goals go_wp2_with fail
  all_goals go_ret2
  all_goals exact ⟨mk[i1], mk[i2], rfl, below_new (grown_drew HG4.out)⟩
end Go.Proofs.YtnijmhhigkbddaaDoor.Dm
