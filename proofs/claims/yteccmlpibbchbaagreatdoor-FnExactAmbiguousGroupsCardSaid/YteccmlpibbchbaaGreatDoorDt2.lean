/-
  Contracts of chapter 3: l3Good, IsValidDate of both.
-/
import Derived.Test.YteccmlpibbchbaaGreatDoorDt1
import Derived.Deep.QuietTactic
import Derived.BigQuiet
namespace Go.Proofs.YteccmlpibbchbaaGreatDoor.Dt
open Go.RowKit DtPl
set_option linter.unusedSimpArgs false
set_option linter.unusedVariables false

theorem D4.cell {W : World} {b : Nat} {y m d : Int} {c : Bool} (h : D4 W b y m d c) : W.cell? ⟨b, 0, none⟩ = some (.int .i64 y) ∧ W.cell? ⟨b, 1, none⟩ = some (.int .i64 m) ∧ W.cell? ⟨b, 2, none⟩ = some (.int .i64 d) ∧ W.cell? ⟨b, 3, none⟩ = some (.bool c) := h.2

/-- a date with year 0 -/
theorem ok_y0 {m d : Int} {c : Bool} : okB 0 m d c = zB 0 m d c := by
  unfold okB zB
  rw [Bool.eq_iff_iff, decide_eq_true_iff, decide_eq_true_iff]
  unfold okP
  constructor
  · rintro (h | h | h)
    · exact h
    · omega
    · omega
  · exact .inl

theorem box_drew (w : World) (o : Obj) (q : Nat) : Below w.heap.size w ((w.alloc o).drewN q) := by
  have h := box_below w o
  exact ⟨h.os, h.tape, h.output, h.size, h.block⟩
theorem days_q (y m k : Int) (w : World) (h0 : 1 ≤ y) (h1 : y ≤ 2999) (hk : dim y m = k) : Calls Tryz.prog 89 #[.int .i64 y, .int .i64 m] w fun e w' => e = .returned (.int .i64 k) ∧ w' = w :=
  (l3Days y m w h0 h1).mono fun _ _ ⟨he, hw⟩ => ⟨by rw [he, hk], hw.symm⟩
theorem in_q (x a b : Int) (r : Bool) (w : World) (hr : decide (a ≤ x ∧ x ≤ b) = r) : Calls Tryz.prog 48 #[.int .i64 x, .int .i64 a, .int .i64 b] w fun e w' => e = .returned (.bool r) ∧ w' = w :=
  (l1In_any x a b r w hr).mono fun _ _ ⟨he, hw⟩ => ⟨he, hw.symm⟩

set_option maxHeartbeats 1000000 in
theorem l3Good (y m d : Int) (c : Bool) (r : Bool) (w : World) (hr : okB y m d c = r) :
    Calls Tryz.prog 66 #[dtV y m d c] w fun e w' => e = .returned (.bool r) ∧ Below w.heap.size w w' := by
  have HR := Lib.hid hr
  clear hr
  by_cases hy0 : y = 0
  · subst hy0
    rw [ok_y0] at HR
    by_cases hm0 : m = 0
    · subst hm0
      by_cases hd0 : d = 0
      · subst hd0
        cases c with
        | false =>
          go_enter Tryz.func66, Tryz.ntmps66
          go_wp2_with fail
          go_ret
          exact ⟨ret_bool (by rw [← HR.out]; rfl), box_below _ _⟩
        | true =>
          go_enter Tryz.func66, Tryz.ntmps66
          go_wp2_with fail
          refine (l1In_any 0 1 2999 false _ rfl).mono ?_
          rintro e w' ⟨rfl, rfl⟩
          go_wp2_with fail
          go_ret
          exact ⟨ret_bool (by rw [← HR.out]; rfl), box_below _ _⟩
      · go_enter Tryz.func66, Tryz.ntmps66
        go_wp2_with fail
        refine (l1In_any 0 1 2999 false _ rfl).mono ?_
        rintro e w' ⟨rfl, rfl⟩
        go_wp2_with fail
        go_ret
        exact ⟨ret_bool (by rw [← HR.out]; simp [zB, hd0]), box_below _ _⟩
    · go_enter Tryz.func66, Tryz.ntmps66
      go_wp2_with fail
      refine (l1In_any 0 1 2999 false _ rfl).mono ?_
      rintro e w' ⟨rfl, rfl⟩
      go_wp2_with fail
      go_ret
      exact ⟨ret_bool (by rw [← HR.out]; simp [zB, hm0]), box_below _ _⟩
  · by_cases hy : 1 ≤ y ∧ y ≤ 2999
    · obtain ⟨h1, h2⟩ := hy
      have HY : Hid (decide (1 ≤ y ∧ y ≤ 2999) = true) := Lib.hid (decide_eq_true ⟨h1, h2⟩)
      by_cases hm : 0 ≤ m ∧ m ≤ 12
      · have HM : Hid (decide (0 ≤ m ∧ m ≤ 12) = true) := Lib.hid (decide_eq_true hm)
        obtain ⟨h3, h4⟩ := hm
        cases c with
        | true =>
          go_enter Tryz.func66, Tryz.ntmps66
          go_wp2_with fail
          refine (l1In_any y 1 2999 true _ HY.out).mono ?_
          rintro e w' ⟨rfl, rfl⟩
          go_wp2_with fail
          refine (l1In_any m 0 12 true _ HM.out).mono ?_
          rintro e w' ⟨rfl, rfl⟩
          go_wp2_with fail
          all_goals go_ret
          all_goals refine ⟨ret_bool ?_, box_below _ _⟩
          all_goals rw [← HR.out]
          all_goals refine okB_eq ?_
          all_goals rw [okT]
          all_goals first | exact iff_of_true rfl (by omega) | exact iff_of_false Bool.false_ne_true (by omega) | (rw [beq_iff_eq]; constructor <;> intro h <;> omega)
        | false =>
          by_cases hm0 : m = 0
          · subst hm0
            go_enter Tryz.func66, Tryz.ntmps66
            go_wp2_with fail
            refine (l1In_any y 1 2999 true _ HY.out).mono ?_
            rintro e w' ⟨rfl, rfl⟩
            go_wp2_with fail
            refine (l1In_any 0 0 12 true _ rfl).mono ?_
            rintro e w' ⟨rfl, rfl⟩
            go_wp2_with fail
            all_goals go_ret
            all_goals refine ⟨ret_bool ?_, box_below _ _⟩
            all_goals rw [← HR.out]
            all_goals refine okB_eq ?_
            all_goals rw [okF]
            all_goals first | exact iff_of_true rfl (by omega) | exact iff_of_false Bool.false_ne_true (by omega) | (rw [beq_iff_eq]; constructor <;> intro h <;> omega)
          · have HD := Lib.hid (dim_bd y m)
            have HDD : Hid (decide (0 ≤ d ∧ d ≤ dim y m) = r) := Lib.hid (by
              rw [← HR.out]
              refine okB_eq ?_
              rw [okF, decide_eq_true_iff]
              omega)
            go_enter Tryz.func66, Tryz.ntmps66
            go_wp2_with fail
            refine (l1In_any y 1 2999 true _ HY.out).mono ?_
            rintro e w' ⟨rfl, rfl⟩
            go_wp2_with fail
            refine (l1In_any m 0 12 true _ HM.out).mono ?_
            rintro e w' ⟨rfl, rfl⟩
            go_wp2_with fail
            generalize hdm : dim y m = k at HDD
            have HK := Lib.hid hdm
            clear hdm
            go_quiet ((first | (go_at_call 89; exact Calls.quiet_of_same (days_q y m k _ h1 h2 HK.out)) | (go_at_call 48; exact Calls.quiet_of_same (in_q d 0 k r _ HDD.out))))
            go_wp2_with fail
            go_ret
            exact ⟨rfl, box_drew _ _ _⟩
      · have HM : Hid (decide (0 ≤ m ∧ m ≤ 12) = false) := Lib.hid (decide_eq_false hm)
        have HF : Hid (r = false) := Lib.hid (by rw [← HR.out]; exact okB_no.2 (by unfold okP; omega))
        clear hm
        go_enter Tryz.func66, Tryz.ntmps66
        go_wp2_with fail
        refine (l1In_any y 1 2999 true _ HY.out).mono ?_
        rintro e w' ⟨rfl, rfl⟩
        go_wp2_with fail
        refine (l1In_any m 0 12 false _ HM.out).mono ?_
        rintro e w' ⟨rfl, rfl⟩
        go_wp2_with fail
        go_ret
        exact ⟨ret_bool HF.out.symm, box_below _ _⟩
    · have HY : Hid (decide (1 ≤ y ∧ y ≤ 2999) = false) := Lib.hid (decide_eq_false hy)
      have HF : Hid (r = false) := Lib.hid (by rw [← HR.out]; exact okB_no.2 (by unfold okP; omega))
      clear hy
      go_enter Tryz.func66, Tryz.ntmps66
      go_wp2_with fail
      refine (l1In_any y 1 2999 false _ HY.out).mono ?_
      rintro e w' ⟨rfl, rfl⟩
      go_wp2_with fail
      go_ret
      exact ⟨ret_bool HF.out.symm, box_below _ _⟩

set_option maxHeartbeats 1000000 in
theorem iValid (y m d : Int) (c : Bool) (r : Bool) (w : World) (hr : okB y m d c = r) :
    Calls Tryz.prog 76 #[dtV y m d c] w fun e w' => e = .returned (.bool r) ∧ Below w.heap.size w w' := by
  have HB := Lib.hid (box_below w (.cells #[.int .i64 y, .int .i64 m, .int .i64 d, .bool c] 56))
  have HD := Lib.hid (D4.new w y m d c 56)
  have HR := Lib.hid hr
  clear hr
  generalize hz : zB y m d c = z
  have HZ := Lib.hid hz
  clear hz
  cases z with
  | true =>
    have HT : Hid (r = true) := Lib.hid (by
      rw [← HR.out]; exact okB_iff.2 (.inl (of_decide_eq_true HZ.out)))
    go_enter Tryz.func76, Tryz.ntmps76
    go_wp2_with fail
    refine (isUnknown y m d c true _ HZ.out).mono ?_
    rintro e w1 ⟨rfl, b1⟩
    go_wp2_with fail
    go_ret
    exact ⟨ret_bool HT.out.symm, HB.out.trans (b1.mono HB.out.size)⟩
  | false =>
    have HNz : Hid (¬ (y = 0 ∧ m = 0 ∧ d = 0 ∧ c = false)) := Lib.hid (of_decide_eq_false HZ.out)
    by_cases hm0 : m = 0
    · subst hm0
      generalize hy : decide (1 ≤ y ∧ y ≤ 2999) = ry
      have HY := Lib.hid hy
      have HV : Hid ((ry && d == 0) = r) := Lib.hid (by
        rw [← HR.out, ← hy]
        refine okB_eq ?_
        have := HNz.out
        cases c
        · rw [okF]; simp only [Bool.and_eq_true, decide_eq_true_iff, beq_iff_eq]
          simp at this
          constructor
          · intro h; exact .inr (.inl ⟨h.1.1, h.1.2, trivial, h.2⟩)
          · rintro (h | h | h)
            · exact absurd h.2.2 (this h.1)
            · exact ⟨⟨h.1, h.2.1⟩, h.2.2.2⟩
            · omega
        · rw [okT]; simp only [Bool.and_eq_true, decide_eq_true_iff, beq_iff_eq]; exact ⟨fun h => ⟨h.1.1, h.1.2, trivial, h.2⟩, fun h => ⟨⟨h.1, h.2.1⟩, h.2.2.2⟩⟩)
      clear hy
      go_enter Tryz.func76, Tryz.ntmps76
      go_wp2_with fail
      refine (isUnknown y 0 d c false _ HZ.out).mono ?_
      rintro e w1 ⟨rfl, b1⟩
      have HC := HD.out.below b1
      obtain ⟨hlt, hc0, hc1, hc2, hc3⟩ := HC
      go_wp2_with fail
      refine (isYear y ry _ HY.out).mono ?_
      rintro e w' ⟨rfl, rfl⟩
      cases ry with
      | true =>
        go_wp2_with fail
        go_ret
        exact ⟨ret_bool (by rw [← HV.out]; rfl), HB.out.trans (b1.mono HB.out.size)⟩
      | false =>
        go_wp2_with fail
        go_ret
        exact ⟨ret_bool (by rw [← HV.out]; rfl), HB.out.trans (b1.mono HB.out.size)⟩
    · have hm0' : (m == 0) = false := by simpa using hm0
      by_cases hym : ymB y m = true
      · have hb : 1 ≤ y ∧ y ≤ 2999 ∧ 1 ≤ m ∧ m ≤ 12 := of_decide_eq_true hym
        have HYM : Hid (1 ≤ y ∧ y ≤ 2999 ∧ 1 ≤ m ∧ m ≤ 12) := Lib.hid hb
        cases c with
        | true =>
          have HF : Hid (r = false) := Lib.hid (by rw [← HR.out]; exact okB_no.2 (by rw [okT]; omega))
          clear hb hym
          go_enter Tryz.func76, Tryz.ntmps76
          go_wp2_with fail
          refine (isUnknown y m d true false _ HZ.out).mono ?_
          rintro e w1 ⟨rfl, b1⟩
          obtain ⟨hlt, hc0, hc1, hc2, hc3⟩ := HD.out.below b1
          go_wp2_with fail
          refine (daysYes y m _ HYM.out.1 HYM.out.2.1 HYM.out.2.2.1 HYM.out.2.2.2).mono ?_
          rintro e w' ⟨rfl, rfl⟩
          go_wp2_with fail
          go_ret
          exact ⟨ret_bool HF.out.symm, HB.out.trans (b1.mono HB.out.size)⟩
        | false =>
          generalize hdm : dim y m = k
          have HK := Lib.hid hdm
          by_cases hd : 0 ≤ d
          · have hd' : decide (0 ≤ d) = true := by simpa using hd
            have HV : Hid (decide (d ≤ k) = r) := Lib.hid (by
              rw [← HR.out]; refine okB_eq ?_; rw [okF, hdm, decide_eq_true_iff]; omega)
            clear hb hym hdm
            go_enter Tryz.func76, Tryz.ntmps76
            go_wp2_with fail
            refine (isUnknown y m d false false _ HZ.out).mono ?_
            rintro e w1 ⟨rfl, b1⟩
            obtain ⟨hlt, hc0, hc1, hc2, hc3⟩ := HD.out.below b1
            go_wp2_with fail
            refine (daysYes y m _ HYM.out.1 HYM.out.2.1 HYM.out.2.2.1 HYM.out.2.2.2).mono ?_
            rintro e w' ⟨rfl, rfl⟩
            rw [HK.out]
            go_wp2_with fail
            go_ret
            exact ⟨ret_bool HV.out, HB.out.trans (b1.mono HB.out.size)⟩
          · have hd' : decide (0 ≤ d) = false := by simpa using hd
            have HF : Hid (r = false) := Lib.hid (by rw [← HR.out]; exact okB_no.2 (by rw [okF]; omega))
            clear hb hym hdm
            go_enter Tryz.func76, Tryz.ntmps76
            go_wp2_with fail
            refine (isUnknown y m d false false _ HZ.out).mono ?_
            rintro e w1 ⟨rfl, b1⟩
            obtain ⟨hlt, hc0, hc1, hc2, hc3⟩ := HD.out.below b1
            go_wp2_with fail
            refine (daysYes y m _ HYM.out.1 HYM.out.2.1 HYM.out.2.2.1 HYM.out.2.2.2).mono ?_
            rintro e w' ⟨rfl, rfl⟩
            rw [HK.out]
            go_wp2_with fail
            go_ret
            exact ⟨ret_bool HF.out.symm, HB.out.trans (b1.mono HB.out.size)⟩
      · have HYM : Hid (ymB y m = false) := Lib.hid (by simpa using hym)
        have HF : Hid (r = false) := Lib.hid (by
          have h1 : ¬ (1 ≤ y ∧ y ≤ 2999 ∧ 1 ≤ m ∧ m ≤ 12) := of_decide_eq_false HYM.out
          rw [← HR.out]; refine okB_no.2 ?_
          cases c
          · have := HNz.out; simp at this; rw [okF]; omega
          · rw [okT]; omega)
        clear hym
        go_enter Tryz.func76, Tryz.ntmps76
        go_wp2_with fail
        refine (isUnknown y m d c false _ HZ.out).mono ?_
        rintro e w1 ⟨rfl, b1⟩
        obtain ⟨hlt, hc0, hc1, hc2, hc3⟩ := HD.out.below b1
        go_wp2_with fail
        refine (daysNo y m _ HYM.out).mono ?_
        rintro e w' ⟨rfl, rfl⟩
        go_wp2_with fail
        go_ret
        exact ⟨ret_bool HF.out.symm, HB.out.trans (b1.mono HB.out.size)⟩
end Go.Proofs.YteccmlpibbchbaaGreatDoor.Dt
