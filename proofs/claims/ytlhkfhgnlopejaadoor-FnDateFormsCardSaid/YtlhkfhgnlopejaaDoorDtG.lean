/-
  Contracts of chapter 3's texts: l3Text, dateText.
-/
import Derived.Test.YtlhkfhgnlopejaaDoorDtF
namespace Go.Proofs.YtlhkfhgnlopejaaDoor.DtF
open Go.RowKit Pl DtPl Dt DtTx Num ReadPl
set_option linter.unusedSimpArgs false
set_option linter.unusedVariables false

theorem ret_str {a b : ByteArray} (h : a = b) : Ending.returned (.string a) = .returned (.string b) := by rw [h]

set_option maxRecDepth 100000 in
set_option maxHeartbeats 4000000 in
theorem sText (y m d : Nat) (c : Bool) (w : World) (hv : okB y m d c = true) :
    Calls Tryd.prog 22 #[dtV y m d c] w fun e w' => e = .returned (.string (ba (text y m d c))) ∧ Below w.heap.size w w' := by
  have HB := Lib.hid (box_below w (.cells #[.int .i64 (y : Int), .int .i64 (m : Int), .int .i64 (d : Int), .bool c] 25))
  have HD := Lib.hid (D4.new w y m d c 25)
  have HV := Lib.hid hv
  obtain ⟨_, hy, _, hm, _, hd⟩ := ok_bd hv
  replace hy : y ≤ 2999 := by omega
  replace hm : m ≤ 12 := by omega
  replace hd : d ≤ 31 := by omega
  clear hv
  by_cases hy0 : y = 0
  · have HE : Hid (text y m d c = unk) := Lib.hid (by unfold text; rw [if_pos (by omega)])
    subst hy0
    go_enter Tryd.func22, Tryd.ntmps22
    go_wp2_with fail
    go_ret
    exact ⟨by rw [HE.out]; rfl, HB.out⟩
  · have HE : Hid (text y m d c = (if c then [99] else []) ++ (pad y 4 ++ ((if m = 0 then [] else 45 :: pad m 2) ++ (if d = 0 then [] else 45 :: pad d 2)))) := Lib.hid (by
      unfold text body
      rw [if_neg (by omega)]
      simp)
    have hp1 : (ba (pad y 4)).size ≤ 4 := by rw [ba_size]; exact pad_len4 (by omega) 4 (by omega)
    have hp2 : (ba (pad m 2)).size ≤ 4 := by rw [ba_size]; exact pad_len4 (by omega) 2 (by omega)
    have hp3 : (ba (pad d 2)).size ≤ 4 := by rw [ba_size]; exact pad_len4 (by omega) 2 (by omega)
    have H1 : Hid (pad y 4 = (ba (pad y 4)).data.toList) := Lib.hid (toList_ba _).symm
    have H2 : Hid (pad m 2 = (ba (pad m 2)).data.toList) := Lib.hid (toList_ba _).symm
    have H3 : Hid (pad d 2 = (ba (pad d 2)).data.toList) := Lib.hid (toList_ba _).symm
    have HC1 : Hid (∀ w, Calls Tryd.prog 43 #[.int .i64 (y : Int), .int .i64 4] w fun e w' => e = .returned (.string (ba (pad y 4))) ∧ Below w.heap.size w w') := Lib.hid (fun w => l3Pad y 4 w (by omega) (by omega))
    have HC2 : Hid (∀ w, Calls Tryd.prog 43 #[.int .i64 (m : Int), .int .i64 2] w fun e w' => e = .returned (.string (ba (pad m 2))) ∧ Below w.heap.size w w') := Lib.hid (fun w => l3Pad m 2 w (by omega) (by omega))
    have HC3 : Hid (∀ w, Calls Tryd.prog 43 #[.int .i64 (d : Int), .int .i64 2] w fun e w' => e = .returned (.string (ba (pad d 2))) ∧ Below w.heap.size w w') := Lib.hid (fun w => l3Pad d 2 w (by omega) (by omega))
    generalize ba (pad y 4) = p1 at *
    generalize ba (pad m 2) = p2 at *
    generalize ba (pad d 2) = p3 at *
    rw [H1.out, H2.out, H3.out] at HE
    clear H1 H2 H3
    have hyp : 0 < y := by omega
    have hyn : ((y : Int) == 0) = false := by simp; omega
    clear hy0
    cases c
    · by_cases hm0 : m = 0
      · subst hm0
        rw [if_pos rfl] at HE
        by_cases hd0 : d = 0
        · subst hd0
          rw [if_pos rfl] at HE
          go_enter Tryd.func22, Tryd.ntmps22
          go_wp2_with fail
          refine (HC1.out _).mono ?_
          rintro e w1 ⟨rfl, b1⟩
          have k1 := HB.out.trans (b1.mono HB.out.size)
          have D1 := Lib.hid (HD.out.below b1)
          clear b1
          obtain ⟨hl, c0, c1, c2, c3⟩ := D1.out
          go_wp2_with fail
          go_ret
          refine ⟨ret_str ?_, k1⟩
          rw [HE.out]
          apply ByteArray.ext
          simp [ba]
        · have hdp : 0 < d := by omega
          have hdn : ((d : Int) == 0) = false := by simp; omega
          have hdb : ((d : Int) != 0) = true := by simp; omega
          have hdd : decide (0 < (d : Int)) = true := by simp; omega
          rw [if_neg (show ¬ d = 0 by omega)] at HE
          clear hd0
          go_enter Tryd.func22, Tryd.ntmps22
          go_wp2_with fail
          refine (HC1.out _).mono ?_
          rintro e w1 ⟨rfl, b1⟩
          have k1 := HB.out.trans (b1.mono HB.out.size)
          have D1 := Lib.hid (HD.out.below b1)
          clear b1
          obtain ⟨hl, c0, c1, c2, c3⟩ := D1.out
          go_wp2_with fail
          refine (HC3.out _).mono ?_
          rintro e w3 ⟨rfl, b3⟩
          have k3 := k1.trans (b3.mono k1.size)
          have D3 := Lib.hid (D1.out.below b3)
          clear b3
          clear hl c0 c1 c2 c3
          obtain ⟨hl, c0, c1, c2, c3⟩ := D3.out
          go_wp2_with fail
          go_ret
          refine ⟨ret_str ?_, k3⟩
          rw [HE.out]
          apply ByteArray.ext
          simp [ba]
      · have hmp : 0 < m := by omega
        have hmn : ((m : Int) == 0) = false := by simp; omega
        have hmb : ((m : Int) != 0) = true := by simp; omega
        have hmd : decide (0 < (m : Int)) = true := by simp; omega
        rw [if_neg (show ¬ m = 0 by omega)] at HE
        clear hm0
        by_cases hd0 : d = 0
        · subst hd0
          rw [if_pos rfl] at HE
          go_enter Tryd.func22, Tryd.ntmps22
          go_wp2_with fail
          refine (HC1.out _).mono ?_
          rintro e w1 ⟨rfl, b1⟩
          have k1 := HB.out.trans (b1.mono HB.out.size)
          have D1 := Lib.hid (HD.out.below b1)
          clear b1
          obtain ⟨hl, c0, c1, c2, c3⟩ := D1.out
          go_wp2_with fail
          refine (HC2.out _).mono ?_
          rintro e w2 ⟨rfl, b2⟩
          have k2 := k1.trans (b2.mono k1.size)
          have D2 := Lib.hid (D1.out.below b2)
          clear b2
          clear hl c0 c1 c2 c3
          obtain ⟨hl, c0, c1, c2, c3⟩ := D2.out
          go_wp2_with fail
          go_ret
          refine ⟨ret_str ?_, k2⟩
          rw [HE.out]
          apply ByteArray.ext
          simp [ba]
        · have hdp : 0 < d := by omega
          have hdn : ((d : Int) == 0) = false := by simp; omega
          have hdb : ((d : Int) != 0) = true := by simp; omega
          have hdd : decide (0 < (d : Int)) = true := by simp; omega
          rw [if_neg (show ¬ d = 0 by omega)] at HE
          clear hd0
          go_enter Tryd.func22, Tryd.ntmps22
          go_wp2_with fail
          refine (HC1.out _).mono ?_
          rintro e w1 ⟨rfl, b1⟩
          have k1 := HB.out.trans (b1.mono HB.out.size)
          have D1 := Lib.hid (HD.out.below b1)
          clear b1
          obtain ⟨hl, c0, c1, c2, c3⟩ := D1.out
          go_wp2_with fail
          refine (HC2.out _).mono ?_
          rintro e w2 ⟨rfl, b2⟩
          have k2 := k1.trans (b2.mono k1.size)
          have D2 := Lib.hid (D1.out.below b2)
          clear b2
          clear hl c0 c1 c2 c3
          obtain ⟨hl, c0, c1, c2, c3⟩ := D2.out
          go_wp2_with fail
          refine (HC3.out _).mono ?_
          rintro e w3 ⟨rfl, b3⟩
          have k3 := k2.trans (b3.mono k2.size)
          have D3 := Lib.hid (D2.out.below b3)
          clear b3
          clear hl c0 c1 c2 c3
          obtain ⟨hl, c0, c1, c2, c3⟩ := D3.out
          go_wp2_with fail
          go_ret
          refine ⟨ret_str ?_, k3⟩
          rw [HE.out]
          apply ByteArray.ext
          simp [ba]
    · by_cases hm0 : m = 0
      · subst hm0
        rw [if_pos rfl] at HE
        by_cases hd0 : d = 0
        · subst hd0
          rw [if_pos rfl] at HE
          go_enter Tryd.func22, Tryd.ntmps22
          go_wp2_with fail
          refine (HC1.out _).mono ?_
          rintro e w1 ⟨rfl, b1⟩
          have k1 := HB.out.trans (b1.mono HB.out.size)
          have D1 := Lib.hid (HD.out.below b1)
          clear b1
          obtain ⟨hl, c0, c1, c2, c3⟩ := D1.out
          go_wp2_with fail
          go_ret
          refine ⟨ret_str ?_, k1⟩
          rw [HE.out]
          apply ByteArray.ext
          simp [ba]
        · have hdp : 0 < d := by omega
          have hdn : ((d : Int) == 0) = false := by simp; omega
          have hdb : ((d : Int) != 0) = true := by simp; omega
          have hdd : decide (0 < (d : Int)) = true := by simp; omega
          rw [if_neg (show ¬ d = 0 by omega)] at HE
          clear hd0
          go_enter Tryd.func22, Tryd.ntmps22
          go_wp2_with fail
          refine (HC1.out _).mono ?_
          rintro e w1 ⟨rfl, b1⟩
          have k1 := HB.out.trans (b1.mono HB.out.size)
          have D1 := Lib.hid (HD.out.below b1)
          clear b1
          obtain ⟨hl, c0, c1, c2, c3⟩ := D1.out
          go_wp2_with fail
          refine (HC3.out _).mono ?_
          rintro e w3 ⟨rfl, b3⟩
          have k3 := k1.trans (b3.mono k1.size)
          have D3 := Lib.hid (D1.out.below b3)
          clear b3
          clear hl c0 c1 c2 c3
          obtain ⟨hl, c0, c1, c2, c3⟩ := D3.out
          go_wp2_with fail
          go_ret
          refine ⟨ret_str ?_, k3⟩
          rw [HE.out]
          apply ByteArray.ext
          simp [ba]
      · have hmp : 0 < m := by omega
        have hmn : ((m : Int) == 0) = false := by simp; omega
        have hmb : ((m : Int) != 0) = true := by simp; omega
        have hmd : decide (0 < (m : Int)) = true := by simp; omega
        rw [if_neg (show ¬ m = 0 by omega)] at HE
        clear hm0
        by_cases hd0 : d = 0
        · subst hd0
          rw [if_pos rfl] at HE
          go_enter Tryd.func22, Tryd.ntmps22
          go_wp2_with fail
          refine (HC1.out _).mono ?_
          rintro e w1 ⟨rfl, b1⟩
          have k1 := HB.out.trans (b1.mono HB.out.size)
          have D1 := Lib.hid (HD.out.below b1)
          clear b1
          obtain ⟨hl, c0, c1, c2, c3⟩ := D1.out
          go_wp2_with fail
          refine (HC2.out _).mono ?_
          rintro e w2 ⟨rfl, b2⟩
          have k2 := k1.trans (b2.mono k1.size)
          have D2 := Lib.hid (D1.out.below b2)
          clear b2
          clear hl c0 c1 c2 c3
          obtain ⟨hl, c0, c1, c2, c3⟩ := D2.out
          go_wp2_with fail
          go_ret
          refine ⟨ret_str ?_, k2⟩
          rw [HE.out]
          apply ByteArray.ext
          simp [ba]
        · have hdp : 0 < d := by omega
          have hdn : ((d : Int) == 0) = false := by simp; omega
          have hdb : ((d : Int) != 0) = true := by simp; omega
          have hdd : decide (0 < (d : Int)) = true := by simp; omega
          rw [if_neg (show ¬ d = 0 by omega)] at HE
          clear hd0
          go_enter Tryd.func22, Tryd.ntmps22
          go_wp2_with fail
          refine (HC1.out _).mono ?_
          rintro e w1 ⟨rfl, b1⟩
          have k1 := HB.out.trans (b1.mono HB.out.size)
          have D1 := Lib.hid (HD.out.below b1)
          clear b1
          obtain ⟨hl, c0, c1, c2, c3⟩ := D1.out
          go_wp2_with fail
          refine (HC2.out _).mono ?_
          rintro e w2 ⟨rfl, b2⟩
          have k2 := k1.trans (b2.mono k1.size)
          have D2 := Lib.hid (D1.out.below b2)
          clear b2
          clear hl c0 c1 c2 c3
          obtain ⟨hl, c0, c1, c2, c3⟩ := D2.out
          go_wp2_with fail
          refine (HC3.out _).mono ?_
          rintro e w3 ⟨rfl, b3⟩
          have k3 := k2.trans (b3.mono k2.size)
          have D3 := Lib.hid (D2.out.below b3)
          clear b3
          clear hl c0 c1 c2 c3
          obtain ⟨hl, c0, c1, c2, c3⟩ := D3.out
          go_wp2_with fail
          go_ret
          refine ⟨ret_str ?_, k3⟩
          rw [HE.out]
          apply ByteArray.ext
          simp [ba]


set_option maxRecDepth 100000 in
set_option maxHeartbeats 4000000 in
theorem iText (y m d : Nat) (c : Bool) (w : World) (hv : okB y m d c = true) (ht : Tab w) :
    Calls Tryd.prog 17 #[dtV y m d c] w fun e w' => e = .returned (.string (ba (text y m d c))) ∧ Below w.heap.size w w' := by
  have HB := Lib.hid (box_below w (.cells #[.int .i64 (y : Int), .int .i64 (m : Int), .int .i64 (d : Int), .bool c] 25))
  have HD := Lib.hid (D4.new w y m d c 25)
  have HV := Lib.hid hv
  have HT0 : Hid (Tab (w.alloc (.cells #[.int .i64 (y : Int), .int .i64 (m : Int), .int .i64 (d : Int), .bool c] 25))) := Lib.hid (ht.below HB.out)
  have HZ := Lib.hid (ok_zero hv)
  obtain ⟨_, hy, _, hm, _, hd⟩ := ok_bd hv
  replace hy : y ≤ 2999 := by omega
  replace hm : m ≤ 12 := by omega
  replace hd : d ≤ 31 := by omega
  clear hv ht
  by_cases hy0 : y = 0
  · have HE : Hid (text y m d c = unk) := Lib.hid (by unfold text; rw [if_pos (by omega)])
    have HZ2 : Hid (zB y m d c = true) := Lib.hid (by rw [HZ.out]; exact decide_eq_true (by omega))
    clear hy0
    go_enter Tryd.func17, Tryd.ntmps17
    go_wp2_with fail
    refine (isUnknown y m d c true _ HZ2.out).mono ?_
    rintro e w1 ⟨rfl, b1⟩
    go_wp2_with fail
    go_ret
    exact ⟨by rw [HE.out]; rfl, HB.out.trans (b1.mono HB.out.size)⟩
  · have HE : Hid (text y m d c = (if c then [99] else []) ++ (pad y 4 ++ ((if m = 0 then [] else 45 :: pad m 2) ++ (if d = 0 then [] else 45 :: pad d 2)))) := Lib.hid (by
      unfold text body
      rw [if_neg (by omega)]
      simp)
    have hp1 : (ba (pad y 4)).size ≤ 4 := by rw [ba_size]; exact pad_len4 (by omega) 4 (by omega)
    have hp2 : (ba (pad m 2)).size ≤ 4 := by rw [ba_size]; exact pad_len4 (by omega) 2 (by omega)
    have hp3 : (ba (pad d 2)).size ≤ 4 := by rw [ba_size]; exact pad_len4 (by omega) 2 (by omega)
    have H1 : Hid (pad y 4 = (ba (pad y 4)).data.toList) := Lib.hid (toList_ba _).symm
    have H2 : Hid (pad m 2 = (ba (pad m 2)).data.toList) := Lib.hid (toList_ba _).symm
    have H3 : Hid (pad d 2 = (ba (pad d 2)).data.toList) := Lib.hid (toList_ba _).symm
    have HC1 : Hid (∀ w (ht : Tab w), Calls Tryd.prog 37 #[.int .i64 (y : Int), .int .i64 4] w fun e w' => e = .returned (.string (ba (pad y 4))) ∧ Below w.heap.size w w') := Lib.hid (fun w ht => padDecimal y 4 w (by omega) (by omega) ht)
    have HC2 : Hid (∀ w (ht : Tab w), Calls Tryd.prog 37 #[.int .i64 (m : Int), .int .i64 2] w fun e w' => e = .returned (.string (ba (pad m 2))) ∧ Below w.heap.size w w') := Lib.hid (fun w ht => padDecimal m 2 w (by omega) (by omega) ht)
    have HC3 : Hid (∀ w (ht : Tab w), Calls Tryd.prog 37 #[.int .i64 (d : Int), .int .i64 2] w fun e w' => e = .returned (.string (ba (pad d 2))) ∧ Below w.heap.size w w') := Lib.hid (fun w ht => padDecimal d 2 w (by omega) (by omega) ht)
    generalize ba (pad y 4) = p1 at *
    generalize ba (pad m 2) = p2 at *
    generalize ba (pad d 2) = p3 at *
    rw [H1.out, H2.out, H3.out] at HE
    clear H1 H2 H3
    have HZ2 : Hid (zB y m d c = false) := Lib.hid (by rw [HZ.out]; exact decide_eq_false (by omega))
    clear HZ
    have hyp : 0 < y := by omega
    have hyn : ((y : Int) == 0) = false := by simp; omega
    clear hy0
    cases c
    · by_cases hm0 : m = 0
      · subst hm0
        rw [if_pos rfl] at HE
        by_cases hd0 : d = 0
        · subst hd0
          rw [if_pos rfl] at HE
          go_enter Tryd.func17, Tryd.ntmps17
          go_wp2_with fail
          refine (isUnknown _ _ _ _ false _ HZ2.out).mono ?_
          rintro e w0 ⟨rfl, b0⟩
          have k0 := HB.out.trans (b0.mono HB.out.size)
          have D0 := Lib.hid (HD.out.below b0)
          have HT1 : Hid (Tab w0) := Lib.hid (HT0.out.below b0)
          clear b0
          obtain ⟨hl, c0, c1, c2, c3⟩ := D0.out
          go_wp2_with fail
          refine (HC1.out _ HT1.out).mono ?_
          rintro e w1 ⟨rfl, b1⟩
          have k1 := k0.trans (b1.mono k0.size)
          have D1 := Lib.hid (D0.out.below b1)
          have HT2 : Hid (Tab w1) := Lib.hid (HT1.out.below b1)
          clear b1
          clear hl c0 c1 c2 c3
          obtain ⟨hl, c0, c1, c2, c3⟩ := D1.out
          go_wp2_with fail
          go_ret
          refine ⟨ret_str ?_, k1⟩
          rw [HE.out]
          apply ByteArray.ext
          simp [ba]
        · have hdp : 0 < d := by omega
          have hdn : ((d : Int) == 0) = false := by simp; omega
          have hdb : ((d : Int) != 0) = true := by simp; omega
          have hdd : decide (0 < (d : Int)) = true := by simp; omega
          rw [if_neg (show ¬ d = 0 by omega)] at HE
          clear hd0
          go_enter Tryd.func17, Tryd.ntmps17
          go_wp2_with fail
          refine (isUnknown _ _ _ _ false _ HZ2.out).mono ?_
          rintro e w0 ⟨rfl, b0⟩
          have k0 := HB.out.trans (b0.mono HB.out.size)
          have D0 := Lib.hid (HD.out.below b0)
          have HT1 : Hid (Tab w0) := Lib.hid (HT0.out.below b0)
          clear b0
          obtain ⟨hl, c0, c1, c2, c3⟩ := D0.out
          go_wp2_with fail
          refine (HC1.out _ HT1.out).mono ?_
          rintro e w1 ⟨rfl, b1⟩
          have k1 := k0.trans (b1.mono k0.size)
          have D1 := Lib.hid (D0.out.below b1)
          have HT2 : Hid (Tab w1) := Lib.hid (HT1.out.below b1)
          clear b1
          clear hl c0 c1 c2 c3
          obtain ⟨hl, c0, c1, c2, c3⟩ := D1.out
          go_wp2_with fail
          refine (HC3.out _ HT2.out).mono ?_
          rintro e w3 ⟨rfl, b3⟩
          have k3 := k1.trans (b3.mono k1.size)
          have D3 := Lib.hid (D1.out.below b3)
          have HT4 : Hid (Tab w3) := Lib.hid (HT2.out.below b3)
          clear b3
          clear hl c0 c1 c2 c3
          obtain ⟨hl, c0, c1, c2, c3⟩ := D3.out
          go_wp2_with fail
          go_ret
          refine ⟨ret_str ?_, k3⟩
          rw [HE.out]
          apply ByteArray.ext
          simp [ba]
      · have hmp : 0 < m := by omega
        have hmn : ((m : Int) == 0) = false := by simp; omega
        have hmb : ((m : Int) != 0) = true := by simp; omega
        have hmd : decide (0 < (m : Int)) = true := by simp; omega
        rw [if_neg (show ¬ m = 0 by omega)] at HE
        clear hm0
        by_cases hd0 : d = 0
        · subst hd0
          rw [if_pos rfl] at HE
          go_enter Tryd.func17, Tryd.ntmps17
          go_wp2_with fail
          refine (isUnknown _ _ _ _ false _ HZ2.out).mono ?_
          rintro e w0 ⟨rfl, b0⟩
          have k0 := HB.out.trans (b0.mono HB.out.size)
          have D0 := Lib.hid (HD.out.below b0)
          have HT1 : Hid (Tab w0) := Lib.hid (HT0.out.below b0)
          clear b0
          obtain ⟨hl, c0, c1, c2, c3⟩ := D0.out
          go_wp2_with fail
          refine (HC1.out _ HT1.out).mono ?_
          rintro e w1 ⟨rfl, b1⟩
          have k1 := k0.trans (b1.mono k0.size)
          have D1 := Lib.hid (D0.out.below b1)
          have HT2 : Hid (Tab w1) := Lib.hid (HT1.out.below b1)
          clear b1
          clear hl c0 c1 c2 c3
          obtain ⟨hl, c0, c1, c2, c3⟩ := D1.out
          go_wp2_with fail
          refine (HC2.out _ HT2.out).mono ?_
          rintro e w2 ⟨rfl, b2⟩
          have k2 := k1.trans (b2.mono k1.size)
          have D2 := Lib.hid (D1.out.below b2)
          have HT3 : Hid (Tab w2) := Lib.hid (HT2.out.below b2)
          clear b2
          clear hl c0 c1 c2 c3
          obtain ⟨hl, c0, c1, c2, c3⟩ := D2.out
          go_wp2_with fail
          go_ret
          refine ⟨ret_str ?_, k2⟩
          rw [HE.out]
          apply ByteArray.ext
          simp [ba]
        · have hdp : 0 < d := by omega
          have hdn : ((d : Int) == 0) = false := by simp; omega
          have hdb : ((d : Int) != 0) = true := by simp; omega
          have hdd : decide (0 < (d : Int)) = true := by simp; omega
          rw [if_neg (show ¬ d = 0 by omega)] at HE
          clear hd0
          go_enter Tryd.func17, Tryd.ntmps17
          go_wp2_with fail
          refine (isUnknown _ _ _ _ false _ HZ2.out).mono ?_
          rintro e w0 ⟨rfl, b0⟩
          have k0 := HB.out.trans (b0.mono HB.out.size)
          have D0 := Lib.hid (HD.out.below b0)
          have HT1 : Hid (Tab w0) := Lib.hid (HT0.out.below b0)
          clear b0
          obtain ⟨hl, c0, c1, c2, c3⟩ := D0.out
          go_wp2_with fail
          refine (HC1.out _ HT1.out).mono ?_
          rintro e w1 ⟨rfl, b1⟩
          have k1 := k0.trans (b1.mono k0.size)
          have D1 := Lib.hid (D0.out.below b1)
          have HT2 : Hid (Tab w1) := Lib.hid (HT1.out.below b1)
          clear b1
          clear hl c0 c1 c2 c3
          obtain ⟨hl, c0, c1, c2, c3⟩ := D1.out
          go_wp2_with fail
          refine (HC2.out _ HT2.out).mono ?_
          rintro e w2 ⟨rfl, b2⟩
          have k2 := k1.trans (b2.mono k1.size)
          have D2 := Lib.hid (D1.out.below b2)
          have HT3 : Hid (Tab w2) := Lib.hid (HT2.out.below b2)
          clear b2
          clear hl c0 c1 c2 c3
          obtain ⟨hl, c0, c1, c2, c3⟩ := D2.out
          go_wp2_with fail
          refine (HC3.out _ HT3.out).mono ?_
          rintro e w3 ⟨rfl, b3⟩
          have k3 := k2.trans (b3.mono k2.size)
          have D3 := Lib.hid (D2.out.below b3)
          have HT4 : Hid (Tab w3) := Lib.hid (HT3.out.below b3)
          clear b3
          clear hl c0 c1 c2 c3
          obtain ⟨hl, c0, c1, c2, c3⟩ := D3.out
          go_wp2_with fail
          go_ret
          refine ⟨ret_str ?_, k3⟩
          rw [HE.out]
          apply ByteArray.ext
          simp [ba]
    · by_cases hm0 : m = 0
      · subst hm0
        rw [if_pos rfl] at HE
        by_cases hd0 : d = 0
        · subst hd0
          rw [if_pos rfl] at HE
          go_enter Tryd.func17, Tryd.ntmps17
          go_wp2_with fail
          refine (isUnknown _ _ _ _ false _ HZ2.out).mono ?_
          rintro e w0 ⟨rfl, b0⟩
          have k0 := HB.out.trans (b0.mono HB.out.size)
          have D0 := Lib.hid (HD.out.below b0)
          have HT1 : Hid (Tab w0) := Lib.hid (HT0.out.below b0)
          clear b0
          obtain ⟨hl, c0, c1, c2, c3⟩ := D0.out
          go_wp2_with fail
          refine (HC1.out _ HT1.out).mono ?_
          rintro e w1 ⟨rfl, b1⟩
          have k1 := k0.trans (b1.mono k0.size)
          have D1 := Lib.hid (D0.out.below b1)
          have HT2 : Hid (Tab w1) := Lib.hid (HT1.out.below b1)
          clear b1
          clear hl c0 c1 c2 c3
          obtain ⟨hl, c0, c1, c2, c3⟩ := D1.out
          go_wp2_with fail
          go_ret
          refine ⟨ret_str ?_, k1⟩
          rw [HE.out]
          apply ByteArray.ext
          simp [ba]
        · have hdp : 0 < d := by omega
          have hdn : ((d : Int) == 0) = false := by simp; omega
          have hdb : ((d : Int) != 0) = true := by simp; omega
          have hdd : decide (0 < (d : Int)) = true := by simp; omega
          rw [if_neg (show ¬ d = 0 by omega)] at HE
          clear hd0
          go_enter Tryd.func17, Tryd.ntmps17
          go_wp2_with fail
          refine (isUnknown _ _ _ _ false _ HZ2.out).mono ?_
          rintro e w0 ⟨rfl, b0⟩
          have k0 := HB.out.trans (b0.mono HB.out.size)
          have D0 := Lib.hid (HD.out.below b0)
          have HT1 : Hid (Tab w0) := Lib.hid (HT0.out.below b0)
          clear b0
          obtain ⟨hl, c0, c1, c2, c3⟩ := D0.out
          go_wp2_with fail
          refine (HC1.out _ HT1.out).mono ?_
          rintro e w1 ⟨rfl, b1⟩
          have k1 := k0.trans (b1.mono k0.size)
          have D1 := Lib.hid (D0.out.below b1)
          have HT2 : Hid (Tab w1) := Lib.hid (HT1.out.below b1)
          clear b1
          clear hl c0 c1 c2 c3
          obtain ⟨hl, c0, c1, c2, c3⟩ := D1.out
          go_wp2_with fail
          refine (HC3.out _ HT2.out).mono ?_
          rintro e w3 ⟨rfl, b3⟩
          have k3 := k1.trans (b3.mono k1.size)
          have D3 := Lib.hid (D1.out.below b3)
          have HT4 : Hid (Tab w3) := Lib.hid (HT2.out.below b3)
          clear b3
          clear hl c0 c1 c2 c3
          obtain ⟨hl, c0, c1, c2, c3⟩ := D3.out
          go_wp2_with fail
          go_ret
          refine ⟨ret_str ?_, k3⟩
          rw [HE.out]
          apply ByteArray.ext
          simp [ba]
      · have hmp : 0 < m := by omega
        have hmn : ((m : Int) == 0) = false := by simp; omega
        have hmb : ((m : Int) != 0) = true := by simp; omega
        have hmd : decide (0 < (m : Int)) = true := by simp; omega
        rw [if_neg (show ¬ m = 0 by omega)] at HE
        clear hm0
        by_cases hd0 : d = 0
        · subst hd0
          rw [if_pos rfl] at HE
          go_enter Tryd.func17, Tryd.ntmps17
          go_wp2_with fail
          refine (isUnknown _ _ _ _ false _ HZ2.out).mono ?_
          rintro e w0 ⟨rfl, b0⟩
          have k0 := HB.out.trans (b0.mono HB.out.size)
          have D0 := Lib.hid (HD.out.below b0)
          have HT1 : Hid (Tab w0) := Lib.hid (HT0.out.below b0)
          clear b0
          obtain ⟨hl, c0, c1, c2, c3⟩ := D0.out
          go_wp2_with fail
          refine (HC1.out _ HT1.out).mono ?_
          rintro e w1 ⟨rfl, b1⟩
          have k1 := k0.trans (b1.mono k0.size)
          have D1 := Lib.hid (D0.out.below b1)
          have HT2 : Hid (Tab w1) := Lib.hid (HT1.out.below b1)
          clear b1
          clear hl c0 c1 c2 c3
          obtain ⟨hl, c0, c1, c2, c3⟩ := D1.out
          go_wp2_with fail
          refine (HC2.out _ HT2.out).mono ?_
          rintro e w2 ⟨rfl, b2⟩
          have k2 := k1.trans (b2.mono k1.size)
          have D2 := Lib.hid (D1.out.below b2)
          have HT3 : Hid (Tab w2) := Lib.hid (HT2.out.below b2)
          clear b2
          clear hl c0 c1 c2 c3
          obtain ⟨hl, c0, c1, c2, c3⟩ := D2.out
          go_wp2_with fail
          go_ret
          refine ⟨ret_str ?_, k2⟩
          rw [HE.out]
          apply ByteArray.ext
          simp [ba]
        · have hdp : 0 < d := by omega
          have hdn : ((d : Int) == 0) = false := by simp; omega
          have hdb : ((d : Int) != 0) = true := by simp; omega
          have hdd : decide (0 < (d : Int)) = true := by simp; omega
          rw [if_neg (show ¬ d = 0 by omega)] at HE
          clear hd0
          go_enter Tryd.func17, Tryd.ntmps17
          go_wp2_with fail
          refine (isUnknown _ _ _ _ false _ HZ2.out).mono ?_
          rintro e w0 ⟨rfl, b0⟩
          have k0 := HB.out.trans (b0.mono HB.out.size)
          have D0 := Lib.hid (HD.out.below b0)
          have HT1 : Hid (Tab w0) := Lib.hid (HT0.out.below b0)
          clear b0
          obtain ⟨hl, c0, c1, c2, c3⟩ := D0.out
          go_wp2_with fail
          refine (HC1.out _ HT1.out).mono ?_
          rintro e w1 ⟨rfl, b1⟩
          have k1 := k0.trans (b1.mono k0.size)
          have D1 := Lib.hid (D0.out.below b1)
          have HT2 : Hid (Tab w1) := Lib.hid (HT1.out.below b1)
          clear b1
          clear hl c0 c1 c2 c3
          obtain ⟨hl, c0, c1, c2, c3⟩ := D1.out
          go_wp2_with fail
          refine (HC2.out _ HT2.out).mono ?_
          rintro e w2 ⟨rfl, b2⟩
          have k2 := k1.trans (b2.mono k1.size)
          have D2 := Lib.hid (D1.out.below b2)
          have HT3 : Hid (Tab w2) := Lib.hid (HT2.out.below b2)
          clear b2
          clear hl c0 c1 c2 c3
          obtain ⟨hl, c0, c1, c2, c3⟩ := D2.out
          go_wp2_with fail
          refine (HC3.out _ HT3.out).mono ?_
          rintro e w3 ⟨rfl, b3⟩
          have k3 := k2.trans (b3.mono k2.size)
          have D3 := Lib.hid (D2.out.below b3)
          have HT4 : Hid (Tab w3) := Lib.hid (HT3.out.below b3)
          clear b3
          clear hl c0 c1 c2 c3
          obtain ⟨hl, c0, c1, c2, c3⟩ := D3.out
          go_wp2_with fail
          go_ret
          refine ⟨ret_str ?_, k3⟩
          rw [HE.out]
          apply ByteArray.ext
          simp [ba]

end Go.Proofs.YtlhkfhgnlopejaaDoor.DtF
