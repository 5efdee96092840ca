/-
  Drawing functions of chapter 8: texts.
-/
import Derived.Test.YthacdkbjefpoaaaDoorDwS
namespace Go.Proofs.YthacdkbjefpoaaaDoor.Df
open Go.RowKit Pl Cur Draw0 Dw
set_option linter.unusedVariables false
set_option linter.unusedSimpArgs false

def OneStr (m : Nat) (w : World) (e : Ending) (w' : World) : Prop := ∃ x : ByteArray, x.size ≤ m ∧ e = .returned (.string x) ∧ Below w.heap.size w w'
theorem vBig_any (A : Option Addr) (n c : Nat) (w : World) (r : Bool) (hr : decide (65536 < (n : Int)) = r) : Calls Tryd.prog 4 #[.slice A n c] w fun e w' => e = .returned (.bool r) ∧ w = w' := by
  subst hr
  go_enter Tryd.func4, Tryd.ntmps4
  go_wp2
  go_ret
  exact ⟨rfl, rfl⟩
def texts : List ByteArray := [⟨#[84, 104, 101, 32, 110, 111, 114, 116, 104]⟩, ⟨#[116, 104, 101, 32, 78, 111, 114, 116, 104]⟩, ⟨#[32, 79, 108, 100, 32, 114, 111, 97, 100, 115, 58, 32, 97, 32, 103, 117, 105, 100, 101]⟩, ⟨#[79, 39, 78, 101, 105, 108, 108, 45, 72, 97, 108, 108]⟩, ⟨#[65]⟩, ⟨#[65, 110, 32]⟩, ⟨#[97, 32, 104, 105, 115, 116, 111, 114, 121, 32, 111, 102, 32, 109, 97, 112, 115]⟩, ⟨#[]⟩, ⟨#[118, 111, 108, 32, 57]⟩, ⟨#[118, 111, 108, 32, 49, 48]⟩, ⟨#[118, 111, 108, 32, 48, 57]⟩, ⟨#[49, 48]⟩, ⟨#[57, 97]⟩, ⟨#[79, 110, 32, 45, 32, 114, 105, 118, 101, 114, 115]⟩]
set_option maxRecDepth 100000 in
theorem texts_any (w : World) : Calls Tryd.prog 30 #[] w fun e w' => e = .returned (.slice (some ⟨w.heap.size, 0, none⟩) 14 14) ∧ ∃ o, w' = w.alloc o ∧ Txt w' w.heap.size texts := by
  go_enter Tryd.func30, Tryd.ntmps30
  go_wp2_with fail
  go_ret
  exact ⟨rfl, _, rfl, Txt.lit (xs := texts) rfl⟩
set_option maxRecDepth 100000 in
set_option maxHeartbeats 1000000 in
theorem sample_any (g : Nat) (A : Option Addr) (n c k : Nat) (s : Int) (w : World) (hk : k ≤ 1047000) (hn : n ≤ 1048576) (hcur : IsCur w g A n c k s) (hr : RdB w A n) (ha : Apart A n g) :
    Calls Tryd.prog 14 #[.pointer (some ⟨g, 0, none⟩)] w (SomeStr (fun x => x.size ≤ 20) w g A n c k 10) := by
  have HR := Lib.hid hr
  have HA := Lib.hid ha
  clear hr ha
  go_enter Tryd.func14, Tryd.ntmps14
  go_wp2_with fail
  refine (texts_any _).mono ?_
  rintro e w0 ⟨rfl, o, rfl, ht⟩
  go_wp2_with fail
  refine (of_any (fun x => x.size ≤ 19) _ _ 14 texts (by decide) rfl (by omega) (by omega) g (Nat.ne_of_gt hcur.lt) A n c k s _ (by omega) hn (hcur.alloc _) (HR.out.alloc HA.out hcur.lt _) HA.out ht).mono ?_
  rintro e w1 ⟨x, hx, rfl, hl⟩
  have hl1 := hl.alloc
  clear hl ht
  obtain ⟨⟨k1, s1, hk1, hc1⟩, hg1⟩ := hl1
  have HR1 := Lib.hid (HR.out.grown HA.out hg1)
  have HG1 := Lib.hid hg1
  clear hg1
  go_wp2_with fail
  refine (one_any 4 (by omega) (by omega) g A n c k1 s1 _ (by omega) hn hc1 HR1.out HA.out).mono ?_
  rintro e w2 ⟨r, rfl, ⟨k2, s2, hk2, hc2⟩, hg2⟩
  have HR2 := Lib.hid (HR1.out.grown HA.out hg2)
  have HG2 := Lib.hid (grown_trans HG1.out hg2)
  clear hg2
  cases r with
  | true =>
    go_wp2_with fail
    refine (spoilt_any x ⟨#[97, 65, 48, 32, 45, 46]⟩ (by omega) (by decide) (by decide) g A n c k2 s2 _ (by omega) hn hc2 HR2.out HA.out).mono ?_
    rintro e w3 ⟨y, hy, rfl, hl3⟩
    have HL3 := Lib.hid (LeftC.trans (k := k) (k1 := k2) (m := 4) (by omega) HG2.out hl3)
    clear hl3
    go_wp2_with fail
    go_ret
    exact ⟨y, by omega, rfl, HL3.out⟩
  | false =>
    go_wp2_with fail
    go_ret
    exact ⟨x, by omega, rfl, ⟨⟨k2, s2, by omega, hc2⟩, HG2.out⟩⟩
set_option maxHeartbeats 1000000 in
theorem drawFold_any (A : Option Addr) (n c : Nat) (w : World) (hn : n ≤ 65536) (hr : RdB w A n) (ha : Apart A n w.heap.size) :
    Calls Tryd.prog 5 #[.slice A n c] w (OneStr 20 w) := by
  have HR := Lib.hid (rdb_new hr ha (.cells #[.slice A n c, .int .i64 0, .int .u64 0] 34))
  have HA := Lib.hid ha
  have HC := Lib.hid (cur_new w A n c)
  clear hr ha
  go_enter Tryd.func5, Tryd.ntmps5
  go_wp2_with fail
  refine (sample_any w.heap.size A n c 0 0 _ (by omega) (by omega) HC.out HR.out HA.out).mono ?_
  rintro e w1 ⟨x, hx, rfl, hl⟩
  have HB := Lib.hid (below_new hl.2)
  clear hl
  go_wp2_with fail
  go_ret
  exact ⟨x, hx, rfl, HB.out⟩
def TwoStr (m : Nat) (w : World) (e : Ending) (w' : World) : Prop := ∃ x y : ByteArray, x.size ≤ m ∧ y.size ≤ m ∧ e = .returned (.tuple #[.string x, .string y]) ∧ Below w.heap.size w w'
set_option maxHeartbeats 1000000 in
theorem drawCollate_any (A : Option Addr) (n c : Nat) (w : World) (hn : n ≤ 65536) (hr : RdB w A n) (ha : Apart A n w.heap.size) :
    Calls Tryd.prog 8 #[.slice A n c] w (TwoStr 20 w) := by
  have HR := Lib.hid (rdb_new hr ha (.cells #[.slice A n c, .int .i64 0, .int .u64 0] 34))
  have HA := Lib.hid ha
  have HC := Lib.hid (cur_new w A n c)
  clear hr ha
  go_enter Tryd.func8, Tryd.ntmps8
  go_wp2_with fail
  refine (sample_any w.heap.size A n c 0 0 _ (by omega) (by omega) HC.out HR.out HA.out).mono ?_
  rintro e w1 ⟨x, hx, rfl, ⟨k1, s1, hk1, hc1⟩, hg1⟩
  have HR1 := Lib.hid (HR.out.grown HA.out hg1)
  go_wp2_with fail
  refine (sample_any w.heap.size A n c k1 s1 _ (by omega) (by omega) hc1 HR1.out HA.out).mono ?_
  rintro e w2 ⟨y, hy, rfl, hl⟩
  have HLf := Lib.hid hl
  clear hl
  go_wp2_with fail
  go_ret2
  exact ⟨x, y, hx, hy, rfl, below_cur (below_new hg1) HLf.out.2⟩
set_option maxRecDepth 100000 in
set_option maxHeartbeats 2000000 in
theorem drawNatural_any (A : Option Addr) (n c : Nat) (w : World) (hn : n ≤ 65536) (hr : RdB w A n) (ha : Apart A n w.heap.size) :
    Calls Tryd.prog 11 #[.slice A n c] w (TwoStr 41 w) := by
  have HR := Lib.hid (rdb_new hr ha (.cells #[.slice A n c, .int .i64 0, .int .u64 0] 34))
  have HA := Lib.hid ha
  have HC := Lib.hid (cur_new w A n c)
  clear hr ha
  go_enter Tryd.func11, Tryd.ntmps11
  go_wp2_with fail
  refine (sample_any w.heap.size A n c 0 0 _ (by omega) (by omega) HC.out HR.out HA.out).mono ?_
  rintro e w1 ⟨x, hx, rfl, ⟨k1, s1, hk1, hc1⟩, hg1⟩
  have HR1 := Lib.hid (HR.out.grown HA.out hg1)
  have HG1 := Lib.hid (below_new hg1)
  clear hg1
  go_wp2_with fail
  refine (sample_any w.heap.size A n c k1 s1 _ (by omega) (by omega) hc1 HR1.out HA.out).mono ?_
  rintro e w2 ⟨y, hy, rfl, ⟨k2, s2, hk2, hc2⟩, hg2⟩
  have HR2 := Lib.hid (HR1.out.grown HA.out hg2)
  have HG2 := Lib.hid (below_cur HG1.out hg2)
  clear hg2
  go_wp2_with fail
  refine (one_any 20 (by omega) (by omega) w.heap.size A n c k2 s2 _ (by omega) (by omega) hc2 HR2.out HA.out).mono ?_
  rintro e w3 ⟨r, rfl, ⟨k3, s3, hk3, hc3⟩, hg3⟩
  have HR3 := Lib.hid (HR2.out.grown HA.out hg3)
  have HG3 := Lib.hid (below_cur HG2.out hg3)
  clear hg3
  cases r with
  | true =>
    go_wp2_with fail
    refine (pick_any 2 (by omega) (by omega) w.heap.size A n c k3 s3 _ (by omega) (by omega) hc3 HR3.out HA.out).mono ?_
    rintro e w4 ⟨i, rfl, hi0, hi1, hl⟩
    have HG4 := Lib.hid (below_cur HG3.out hl.2)
    clear hl
    rcases (show i = 0 ∨ i = 1 by omega) with rfl | rfl
    · go_wp2_with fail
      go_ret2
      exact ⟨_, y, by decide, by omega, rfl, HG4.out⟩
    · go_wp2_with fail
      go_ret2
      exact ⟨_, y, by decide, by omega, rfl, HG4.out⟩
  | false =>
    go_wp2_with fail
    go_ret2
    exact ⟨x, y, by omega, by omega, rfl, HG3.out⟩
end Go.Proofs.YthacdkbjefpoaaaDoor.Df
