/-
  Contracts of chapter 3: refines, Refines of both.
-/
import Derived.Test.YtlhkfhgnlopejaaDoorDt3
namespace Go.Proofs.YtlhkfhgnlopejaaDoor.Dt
open Go.RowKit DtPl
set_option linter.unusedSimpArgs false
set_option linter.unusedVariables false

set_option maxHeartbeats 4000000 in
theorem refines (y m d : Int) (c : Bool) (y' m' d' : Int) (c' : Bool) (r : Bool) (w : World) (hv : okB y' m' d' c' = true) (hr : rfB y m d c y' m' d' c' = r) :
    Calls Tryd.prog 31 #[dtV y m d c, dtV y' m' d' c'] w fun e w' => e = .returned (.bool r) ∧ Below w.heap.size w w' := by
  have HR := Lib.hid hr
  have HZ := Lib.hid (ok_zero hv)
  have HA := Lib.hid (D4.new w y m d c 25)
  have HB := Lib.hid (D4.new (w.alloc (.cells #[.int .i64 y, .int .i64 m, .int .i64 d, .bool c] 25)) y' m' d' c' 25)
  have HK := Lib.hid (box2 w (.cells #[.int .i64 y, .int .i64 m, .int .i64 d, .bool c] 25) (.cells #[.int .i64 y', .int .i64 m', .int .i64 d', .bool c'] 25))
  have HA2 := Lib.hid (HA.out.below (box_below (w.alloc (.cells #[.int .i64 y, .int .i64 m, .int .i64 d, .bool c] 25)) (.cells #[.int .i64 y', .int .i64 m', .int .i64 d', .bool c'] 25)))
  clear hr hv HA
  by_cases hy : y' = 0
  · have HZ2 : Hid (zB y' m' d' c' = true) := Lib.hid (by rw [HZ.out]; exact decide_eq_true hy)
    have HT : Hid (r = true) := Lib.hid (by rw [← HR.out]; exact decide_eq_true (.inl hy))
    clear hy
    go_enter Tryd.func31, Tryd.ntmps31
    go_wp2_with fail
    refine (isUnknown y' m' d' c' true _ HZ2.out).mono ?_
    rintro e w1 ⟨rfl, b1⟩
    go_wp2_with fail
    go_ret
    exact ⟨ret_bool HT.out.symm, HK.out.trans (b1.mono HK.out.size)⟩
  · have HZ2 : Hid (zB y' m' d' c' = false) := Lib.hid (by rw [HZ.out]; exact decide_eq_false hy)
    have HR2 : Hid (r = decide (y = y' ∧ (m' = 0 ∨ m = m') ∧ (d' = 0 ∨ d = d') ∧ (c = true → c' = true))) := Lib.hid (by
      rw [← HR.out]; unfold rfB
      rw [Bool.eq_iff_iff, decide_eq_true_iff, decide_eq_true_iff]
      exact ⟨fun h => h.resolve_left hy, .inr⟩)
    clear hy HR
    go_enter Tryd.func31, Tryd.ntmps31
    go_wp2_with fail
    refine (isUnknown y' m' d' c' false _ HZ2.out).mono ?_
    rintro e w1 ⟨rfl, b1⟩
    have hk := HK.out.trans (b1.mono HK.out.size)
    obtain ⟨ha, ha0, ha1, ha2, ha3⟩ := HA2.out.below b1
    obtain ⟨hb, hb0, hb1, hb2, hb3⟩ := HB.out.below b1
    clear b1 HB HK HA2
    have hsz : (w.alloc (.cells #[.int .i64 y, .int .i64 m, .int .i64 d, .bool c] 25)).heap.size = w.heap.size + 1 := by simp
    rw [hsz] at hb hb0 hb1 hb2 hb3
    clear hsz
    have HKk := Lib.hid hk
    clear hk
    cases c <;> cases c'
    all_goals
      go_wp2_with fail
      all_goals go_ret
      all_goals refine ⟨ret_bool ?_, HKk.out⟩
      all_goals rw [HR2.out]
      all_goals rw [Bool.eq_iff_iff, decide_eq_true_iff]
      all_goals try simp only [beq_iff_eq, beq_eq_false_iff_ne, ne_eq] at *
      all_goals simp
      all_goals omega

set_option maxHeartbeats 2000000 in
theorem iRefines (y m d : Int) (c : Bool) (y' m' d' : Int) (c' : Bool) (ra rb : Bool) (x : Bool) (w : World) (ha : okB y m d c = ra) (hb : okB y' m' d' c' = rb) (hx : (if (ra && rb) = true then rfB y m d c y' m' d' c' else false) = x) :
    Calls Tryd.prog 13 #[dtV y m d c, dtV y' m' d' c'] w fun e w' => e = .returned (.tuple #[.bool x, .bool (ra && rb)]) ∧ Below w.heap.size w w' := by
  have HVa := Lib.hid ha
  have HVb := Lib.hid hb
  have HX := Lib.hid hx
  have HK := Lib.hid (box2 w (.cells #[.int .i64 y, .int .i64 m, .int .i64 d, .bool c] 25) (.cells #[.int .i64 y', .int .i64 m', .int .i64 d', .bool c'] 25))
  have HA := Lib.hid ((D4.new w y m d c 25).below (box_below (w.alloc (.cells #[.int .i64 y, .int .i64 m, .int .i64 d, .bool c] 25)) (.cells #[.int .i64 y', .int .i64 m', .int .i64 d', .bool c'] 25)))
  have HB : Hid (D4 ((w.alloc (.cells #[.int .i64 y, .int .i64 m, .int .i64 d, .bool c] 25)).alloc (.cells #[.int .i64 y', .int .i64 m', .int .i64 d', .bool c'] 25)) (w.heap.size + 1) y' m' d' c') := Lib.hid (by
    have h := D4.new (w.alloc (.cells #[.int .i64 y, .int .i64 m, .int .i64 d, .bool c] 25)) y' m' d' c' 25
    rwa [show (w.alloc (.cells #[.int .i64 y, .int .i64 m, .int .i64 d, .bool c] 25)).heap.size = w.heap.size + 1 by simp] at h)
  clear ha hb hx
  cases ra with
  | false =>
    go_enter Tryd.func13, Tryd.ntmps13
    go_wp2_with fail
    refine (iValid y m d c false _ HVa.out).mono ?_
    rintro e w1 ⟨rfl, b1⟩
    go_wp2_with fail
    go_ret2
    exact ⟨by rw [← HX.out]; rfl, HK.out.trans (b1.mono HK.out.size)⟩
  | true =>
    cases rb with
    | false =>
      go_enter Tryd.func13, Tryd.ntmps13
      go_wp2_with fail
      refine (iValid y m d c true _ HVa.out).mono ?_
      rintro e w1 ⟨rfl, b1⟩
      have k1 := HK.out.trans (b1.mono HK.out.size)
      obtain ⟨hbl, hb0, hb1, hb2, hb3⟩ := HB.out.below b1
      clear b1
      go_wp2_with fail
      refine (iValid y' m' d' c' false _ HVb.out).mono ?_
      rintro e w2 ⟨rfl, b2⟩
      have k2 := k1.trans (b2.mono k1.size)
      clear hbl hb0 hb1 hb2 hb3 b2 k1
      go_wp2_with fail
      go_ret2
      exact ⟨by rw [← HX.out]; rfl, k2⟩
    | true =>
      go_enter Tryd.func13, Tryd.ntmps13
      go_wp2_with fail
      refine (iValid y m d c true _ HVa.out).mono ?_
      rintro e w1 ⟨rfl, b1⟩
      have k1 := HK.out.trans (b1.mono HK.out.size)
      have HA1 := Lib.hid (HA.out.below b1)
      have HB1 := Lib.hid (HB.out.below b1)
      obtain ⟨hbl, hb0, hb1, hb2, hb3⟩ := HB1.out
      clear b1
      go_wp2_with fail
      refine (iValid y' m' d' c' true _ HVb.out).mono ?_
      rintro e w2 ⟨rfl, b2⟩
      have k2 := k1.trans (b2.mono k1.size)
      have HA2 := Lib.hid (HA1.out.below b2)
      have HB2 := Lib.hid (HB1.out.below b2)
      clear hbl hb0 hb1 hb2 hb3 b2 k1 HA1 HB1
      obtain ⟨hbl, hb0, hb1, hb2, hb3⟩ := HB2.out
      obtain ⟨hal, ha0, ha1, ha2, ha3⟩ := HA2.out
      go_wp2_with fail
      refine (refines y m d c y' m' d' c' x _ HVb.out HX.out).mono ?_
      rintro e w3 ⟨rfl, b3⟩
      go_wp2_with fail
      go_ret2
      exact ⟨rfl, k2.trans (b3.mono k2.size)⟩
end Go.Proofs.YtlhkfhgnlopejaaDoor.Dt
