/-
  Contracts of longDate and LongDate of the program.
-/
import Derived.Test.YtjdnkjobccnmlaaDoorLd
import Derived.Test.YtjdnkjobccnmlaaDoorForms2
import Derived.Test.YtjdnkjobccnmlaaDoorLaidS
import Derived.Test.YtjdnkjobccnmlaaDoorShelf
namespace Go.Proofs.YtjdnkjobccnmlaaDoor.Ldi
open Go.RowKit Pl Stands SplitPl NmPl DtPl Dt DtTx LdPl Num ReadPl LaidS Name Strs Help Word Part NGood Forms
open Ld (monB_size)
set_option linter.unusedSimpArgs false
set_option linter.unusedVariables false

theorem itoa_below (u : Nat) (h : u ≤ 9999) (w : World) (ht : Tab w) : Calls Tryd.prog 126 #[.int .i64 (u : Int)] w fun e w' => e = .returned (.string (ba (Lib.decDigits u))) ∧ Below w.heap.size w w' := by
  have HI := Tryd.strconv_Itoa u (by omega) (by omega) w ht
  rw [itoa_nat] at HI
  refine HI.mono ?_
  rintro e w1 ⟨he, k', os, hw⟩
  exact ⟨he, by rw [hw]; exact grow_below w k' os⟩
theorem mon_cell {w : World} {g m : Nat} (h : StrTab g (mons.drop 1) w) (hm : 1 ≤ m ∧ m ≤ 12) : w.cell? ⟨g, m - 1, none⟩ = some (.string (monB m)) := by
  have hl : mons.length = 13 := by decide
  have : (mons.drop 1)[m - 1]? = some (mon m) := by
    rw [List.getElem?_drop, show 1 + (m - 1) = m by omega]
    unfold mon
    rw [List.getD_eq_getElem?_getD, List.getElem?_eq_getElem (by omega)]
    rfl
  exact h.2 _ _ this
theorem len40 {a b z : List UInt8} (hz : z.length ≤ 4) (ha : a.length ≤ 9) (hb : b.length ≤ 9) : ((if a = [] then [] else a ++ [32]) ++ ((if b = [] then [] else b ++ [32]) ++ z)).length ≤ 40 := by
  rw [List.length_append, List.length_append]
  split <;> split <;> simp <;> omega

set_option maxRecDepth 100000 in
set_option maxHeartbeats 4000000 in
theorem iLong (y m d : Nat) (c : Bool) (w : World) (hv : okB y m d c = true) (ht : Tab w) (hmn : StrTab 1 (mons.drop 1) w) :
    Calls Tryd.prog 64 #[dtV y m d c] w fun e w' => e = .returned (.string (ba (ltext y m d c))) ∧ Below w.heap.size w w' := by
  have HB := Lib.hid (box_below w (.cells #[.int .i64 (y : Int), .int .i64 (m : Int), .int .i64 (d : Int), .bool c] 23))
  have HD := Lib.hid (D4.new w y m d c 23)
  have HT0 := Lib.hid (ht.below HB.out)
  have HM0 := Lib.hid (hmn.below HB.out)
  have HZ := Lib.hid (ok_zero hv)
  obtain ⟨_, hy, _, hm, _, hd⟩ := ok_bd hv
  replace hy : y ≤ 2999 := by omega
  replace hm : m ≤ 12 := by omega
  replace hd : d ≤ 31 := by omega
  clear hv ht hmn
  by_cases hy0 : y = 0
  · have HE : Hid (ltext y m d c = nd) := Lib.hid (by unfold ltext; rw [if_pos hy0])
    have HZ2 : Hid (zB y m d c = true) := Lib.hid (by rw [HZ.out]; exact decide_eq_true (by omega))
    clear hy0
    go_enter Tryd.func64, Tryd.ntmps64
    go_wp2_with fail
    refine (isUnknown y m d c true _ HZ2.out).mono ?_
    rintro e w1 ⟨rfl, b1⟩
    go_wp2_with fail
    go_ret
    exact ⟨by rw [HE.out]; rfl, HB.out.trans (b1.mono HB.out.size)⟩
  · have HZ2 : Hid (zB y m d c = false) := Lib.hid (by rw [HZ.out]; exact decide_eq_false (by omega))
    have HE : Hid (ltext y m d c = (if c then ca else []) ++ ((if d = 0 then [] else Lib.decDigits d ++ [32]) ++ ((if m = 0 then [] else mon m ++ [32]) ++ Lib.decDigits y))) := Lib.hid (by
      unfold ltext lbody
      rw [if_neg hy0])
    have hp1 : (ba (Lib.decDigits y)).size ≤ 4 := by rw [ba_size]; exact dec_le 3 y (by omega)
    have hp3 : (ba (Lib.decDigits d)).size ≤ 4 := by rw [ba_size]; exact dec_le 3 d (by omega)
    have hp2 : (monB m).size ≤ 9 := monB_size m hm
    have HJ : Hid (∀ a b : ByteArray, jn (ls [a, b, ba (Lib.decDigits y)]) = (if a.data.toList = [] then [] else a.data.toList ++ [32]) ++ ((if b.data.toList = [] then [] else b.data.toList ++ [32]) ++ Lib.decDigits y)) := Lib.hid (fun a b => by
      show jn [a.data.toList, b.data.toList, (ba (Lib.decDigits y)).data.toList] = _
      rw [toList_ba, jn3 _ _ _ (dec_ne y)])
    have HDn : Hid ((ba (Lib.decDigits d)).data.toList ≠ []) := Lib.hid (by rw [toList_ba]; exact dec_ne d)
    have HMn : Hid (m ≠ 0 → (monB m).data.toList ≠ []) := Lib.hid (fun h => by unfold monB; rw [toList_ba]; exact (mon_ne ⟨by omega, hm⟩).1)
    have H2 : Hid (mon m = (monB m).data.toList) := Lib.hid (toList_ba _).symm
    have H3 : Hid (Lib.decDigits d = (ba (Lib.decDigits d)).data.toList) := Lib.hid (toList_ba _).symm
    have HI1 : Hid (∀ w (ht : Tab w), Calls Tryd.prog 126 #[.int .i64 (y : Int)] w fun e w' => e = .returned (.string (ba (Lib.decDigits y))) ∧ Below w.heap.size w w') := Lib.hid (fun w ht => itoa_below y (by omega) w ht)
    have HI3 : Hid (∀ w (ht : Tab w), Calls Tryd.prog 126 #[.int .i64 (d : Int)] w fun e w' => e = .returned (.string (ba (Lib.decDigits d))) ∧ Below w.heap.size w w') := Lib.hid (fun w ht => itoa_below d (by omega) w ht)
    have HC2 : Hid (∀ w : World, StrTab 1 (mons.drop 1) w → m ≠ 0 → w.cell? ⟨1, m - 1, none⟩ = some (.string (monB m))) := Lib.hid (fun w h h0 => mon_cell h ⟨by omega, hm⟩)
    rw [H2.out, H3.out] at HE
    clear H2 H3 HZ
    generalize hpy : ba (Lib.decDigits y) = p1 at *
    have HPy : Hid (ba (Lib.decDigits y) = p1) := Lib.hid hpy
    clear hpy
    generalize ba (Lib.decDigits d) = p3 at *
    generalize monB m = p2 at *
    have hyp : 0 < y := by omega
    have hyn : ((y : Int) == 0) = false := by simp; omega
    clear hy0
    cases c
    · have hp1' : (Lib.decDigits y).length ≤ 4 := dec_le 3 y (by omega)
      by_cases hm0 : m = 0
      · subst hm0
        rw [if_pos rfl] at HE
        by_cases hd0 : d = 0
        · subst hd0
          rw [if_pos rfl] at HE
          go_enter Tryd.func64, Tryd.ntmps64
          go_wp2_with fail
          refine (isUnknown y (0 : Nat) (0 : Nat) false false _ HZ2.out).mono ?_
          rintro e w1 ⟨rfl, b1⟩
          have k1 := HB.out.trans (b1.mono HB.out.size)
          have D1 := Lib.hid (HD.out.below b1)
          have T1 := Lib.hid (HT0.out.below b1)
          have M1 := Lib.hid (HM0.out.below b1)
          clear b1
          obtain ⟨hl, c0, c1, c2, c3⟩ := D1.out
          go_wp2_with fail
          refine (HI1.out _ T1.out).mono ?_
          rintro e w3 ⟨rfl, b3⟩
          have k3 := k1.trans (b3.mono k1.size)
          have D3 := Lib.hid (D1.out.below b3)
          have D4_ := Lib.hid (D3.out.below (box_below w3 (.cells #[.string ⟨#[]⟩, .string ⟨#[]⟩, .string p1] 9)))
          have k4 := k3.trans ((box_below w3 (.cells #[.string ⟨#[]⟩, .string ⟨#[]⟩, .string p1] 9)).mono k3.size)
          clear b3 hl c0 c1 c2 c3
          go_wp2_with fail
          refine (joinPresent _ _ 3 [⟨#[]⟩, ⟨#[]⟩, p1] _ ⟨rds_lit rfl, (fun _ a ha => by cases ha; simp), rfl⟩ (by have h0 : (ByteArray.mk #[]).size = 0 := rfl; simp [lens]; omega)).mono ?_
          rintro e w5 ⟨rfl, b5⟩
          have k5 := k4.trans (b5.mono k4.size)
          have D5 := Lib.hid (D4_.out.below b5)
          rw [HJ.out]
          clear b5 k4
          obtain ⟨hl, c0, c1, c2, c3⟩ := D5.out
          generalize hz : ba (_ ++ (_ ++ Lib.decDigits y)) = z
          have HZz : Hid (ba (ltext y (0 : Nat) (0 : Nat) false) = z) := Lib.hid (by rw [HE.out, ← hz]; apply ByteArray.ext; simp [ba, HDn.out])
          have hzs : z.size ≤ 40 := by rw [← hz, ba_size]; exact len40 hp1' (by simp) (by simp)
          clear hz
          go_wp2_with fail
          go_ret
          exact ⟨by rw [HZz.out]; rfl, k5⟩
        · have hdp : 0 < d := by omega
          have hdb : ((d : Int) != 0) = true := by simp; omega
          rw [if_neg hd0] at HE
          go_enter Tryd.func64, Tryd.ntmps64
          go_wp2_with fail
          refine (isUnknown y (0 : Nat) d false false _ HZ2.out).mono ?_
          rintro e w1 ⟨rfl, b1⟩
          have k1 := HB.out.trans (b1.mono HB.out.size)
          have D1 := Lib.hid (HD.out.below b1)
          have T1 := Lib.hid (HT0.out.below b1)
          have M1 := Lib.hid (HM0.out.below b1)
          clear b1
          obtain ⟨hl, c0, c1, c2, c3⟩ := D1.out
          go_wp2_with fail
          refine (HI3.out _ T1.out).mono ?_
          rintro e w2 ⟨rfl, b2⟩
          have k2 := k1.trans (b2.mono k1.size)
          have D2 := Lib.hid (D1.out.below b2)
          have T2 := Lib.hid (T1.out.below b2)
          have M2 := Lib.hid (M1.out.below b2)
          clear b2 hl c0 c1 c2 c3
          obtain ⟨hl, c0, c1, c2, c3⟩ := D2.out
          go_wp2_with fail
          refine (HI1.out _ T2.out).mono ?_
          rintro e w3 ⟨rfl, b3⟩
          have k3 := k2.trans (b3.mono k2.size)
          have D3 := Lib.hid (D2.out.below b3)
          have D4_ := Lib.hid (D3.out.below (box_below w3 (.cells #[.string p3, .string ⟨#[]⟩, .string p1] 9)))
          have k4 := k3.trans ((box_below w3 (.cells #[.string p3, .string ⟨#[]⟩, .string p1] 9)).mono k3.size)
          clear b3 hl c0 c1 c2 c3
          go_wp2_with fail
          refine (joinPresent _ _ 3 [p3, ⟨#[]⟩, p1] _ ⟨rds_lit rfl, (fun _ a ha => by cases ha; simp), rfl⟩ (by have h0 : (ByteArray.mk #[]).size = 0 := rfl; simp [lens]; omega)).mono ?_
          rintro e w5 ⟨rfl, b5⟩
          have k5 := k4.trans (b5.mono k4.size)
          have D5 := Lib.hid (D4_.out.below b5)
          rw [HJ.out]
          clear b5 k4
          obtain ⟨hl, c0, c1, c2, c3⟩ := D5.out
          generalize hz : ba (_ ++ (_ ++ Lib.decDigits y)) = z
          have HZz : Hid (ba (ltext y (0 : Nat) d false) = z) := Lib.hid (by rw [HE.out, ← hz]; apply ByteArray.ext; simp [ba, HDn.out, hd0])
          have hzs : z.size ≤ 40 := by rw [← hz, ba_size]; exact len40 hp1' (by rw [len_size]; omega) (by simp)
          clear hz
          go_wp2_with fail
          go_ret
          exact ⟨by rw [HZz.out]; rfl, k5⟩
      · have hmp : 0 < m := by omega
        have hmb : ((m : Int) != 0) = true := by simp; omega
        have hm1 : (m : Int) - 1 = ((m - 1 : Nat) : Int) := by omega
        rw [if_neg hm0] at HE
        by_cases hd0 : d = 0
        · subst hd0
          rw [if_pos rfl] at HE
          go_enter Tryd.func64, Tryd.ntmps64
          go_wp2_with fail
          refine (isUnknown y m (0 : Nat) false false _ HZ2.out).mono ?_
          rintro e w1 ⟨rfl, b1⟩
          have k1 := HB.out.trans (b1.mono HB.out.size)
          have D1 := Lib.hid (HD.out.below b1)
          have T1 := Lib.hid (HT0.out.below b1)
          have M1 := Lib.hid (HM0.out.below b1)
          clear b1
          obtain ⟨hl, c0, c1, c2, c3⟩ := D1.out
          have hmc := HC2.out _ M1.out hm0
          go_wp2_with fail
          refine (HI1.out _ T1.out).mono ?_
          rintro e w3 ⟨rfl, b3⟩
          have k3 := k1.trans (b3.mono k1.size)
          have D3 := Lib.hid (D1.out.below b3)
          have D4_ := Lib.hid (D3.out.below (box_below w3 (.cells #[.string ⟨#[]⟩, .string p2, .string p1] 9)))
          have k4 := k3.trans ((box_below w3 (.cells #[.string ⟨#[]⟩, .string p2, .string p1] 9)).mono k3.size)
          clear b3 hl c0 c1 c2 c3
          go_wp2_with fail
          refine (joinPresent _ _ 3 [⟨#[]⟩, p2, p1] _ ⟨rds_lit rfl, (fun _ a ha => by cases ha; simp), rfl⟩ (by have h0 : (ByteArray.mk #[]).size = 0 := rfl; simp [lens]; omega)).mono ?_
          rintro e w5 ⟨rfl, b5⟩
          have k5 := k4.trans (b5.mono k4.size)
          have D5 := Lib.hid (D4_.out.below b5)
          rw [HJ.out]
          clear b5 k4
          obtain ⟨hl, c0, c1, c2, c3⟩ := D5.out
          generalize hz : ba (_ ++ (_ ++ Lib.decDigits y)) = z
          have HZz : Hid (ba (ltext y m (0 : Nat) false) = z) := Lib.hid (by rw [HE.out, ← hz]; apply ByteArray.ext; simp [ba, HDn.out, HMn.out hm0, hm0])
          have hzs : z.size ≤ 40 := by rw [← hz, ba_size]; exact len40 hp1' (by simp) (by rw [len_size]; omega)
          clear hz
          go_wp2_with fail
          go_ret
          exact ⟨by rw [HZz.out]; rfl, k5⟩
        · have hdp : 0 < d := by omega
          have hdb : ((d : Int) != 0) = true := by simp; omega
          rw [if_neg hd0] at HE
          go_enter Tryd.func64, Tryd.ntmps64
          go_wp2_with fail
          refine (isUnknown y m d false false _ HZ2.out).mono ?_
          rintro e w1 ⟨rfl, b1⟩
          have k1 := HB.out.trans (b1.mono HB.out.size)
          have D1 := Lib.hid (HD.out.below b1)
          have T1 := Lib.hid (HT0.out.below b1)
          have M1 := Lib.hid (HM0.out.below b1)
          clear b1
          obtain ⟨hl, c0, c1, c2, c3⟩ := D1.out
          go_wp2_with fail
          refine (HI3.out _ T1.out).mono ?_
          rintro e w2 ⟨rfl, b2⟩
          have k2 := k1.trans (b2.mono k1.size)
          have D2 := Lib.hid (D1.out.below b2)
          have T2 := Lib.hid (T1.out.below b2)
          have M2 := Lib.hid (M1.out.below b2)
          clear b2 hl c0 c1 c2 c3
          obtain ⟨hl, c0, c1, c2, c3⟩ := D2.out
          have hmc := HC2.out _ M2.out hm0
          go_wp2_with fail
          refine (HI1.out _ T2.out).mono ?_
          rintro e w3 ⟨rfl, b3⟩
          have k3 := k2.trans (b3.mono k2.size)
          have D3 := Lib.hid (D2.out.below b3)
          have D4_ := Lib.hid (D3.out.below (box_below w3 (.cells #[.string p3, .string p2, .string p1] 9)))
          have k4 := k3.trans ((box_below w3 (.cells #[.string p3, .string p2, .string p1] 9)).mono k3.size)
          clear b3 hl c0 c1 c2 c3
          go_wp2_with fail
          refine (joinPresent _ _ 3 [p3, p2, p1] _ ⟨rds_lit rfl, (fun _ a ha => by cases ha; simp), rfl⟩ (by have h0 : (ByteArray.mk #[]).size = 0 := rfl; simp [lens]; omega)).mono ?_
          rintro e w5 ⟨rfl, b5⟩
          have k5 := k4.trans (b5.mono k4.size)
          have D5 := Lib.hid (D4_.out.below b5)
          rw [HJ.out]
          clear b5 k4
          obtain ⟨hl, c0, c1, c2, c3⟩ := D5.out
          generalize hz : ba (_ ++ (_ ++ Lib.decDigits y)) = z
          have HZz : Hid (ba (ltext y m d false) = z) := Lib.hid (by rw [HE.out, ← hz]; apply ByteArray.ext; simp [ba, HDn.out, HMn.out hm0, hm0, hd0])
          have hzs : z.size ≤ 40 := by rw [← hz, ba_size]; exact len40 hp1' (by rw [len_size]; omega) (by rw [len_size]; omega)
          clear hz
          go_wp2_with fail
          go_ret
          exact ⟨by rw [HZz.out]; rfl, k5⟩
    · have hp1' : (Lib.decDigits y).length ≤ 4 := dec_le 3 y (by omega)
      by_cases hm0 : m = 0
      · subst hm0
        rw [if_pos rfl] at HE
        by_cases hd0 : d = 0
        · subst hd0
          rw [if_pos rfl] at HE
          go_enter Tryd.func64, Tryd.ntmps64
          go_wp2_with fail
          refine (isUnknown y (0 : Nat) (0 : Nat) true false _ HZ2.out).mono ?_
          rintro e w1 ⟨rfl, b1⟩
          have k1 := HB.out.trans (b1.mono HB.out.size)
          have D1 := Lib.hid (HD.out.below b1)
          have T1 := Lib.hid (HT0.out.below b1)
          have M1 := Lib.hid (HM0.out.below b1)
          clear b1
          obtain ⟨hl, c0, c1, c2, c3⟩ := D1.out
          go_wp2_with fail
          refine (HI1.out _ T1.out).mono ?_
          rintro e w3 ⟨rfl, b3⟩
          have k3 := k1.trans (b3.mono k1.size)
          have D3 := Lib.hid (D1.out.below b3)
          have D4_ := Lib.hid (D3.out.below (box_below w3 (.cells #[.string ⟨#[]⟩, .string ⟨#[]⟩, .string p1] 9)))
          have k4 := k3.trans ((box_below w3 (.cells #[.string ⟨#[]⟩, .string ⟨#[]⟩, .string p1] 9)).mono k3.size)
          clear b3 hl c0 c1 c2 c3
          go_wp2_with fail
          refine (joinPresent _ _ 3 [⟨#[]⟩, ⟨#[]⟩, p1] _ ⟨rds_lit rfl, (fun _ a ha => by cases ha; simp), rfl⟩ (by have h0 : (ByteArray.mk #[]).size = 0 := rfl; simp [lens]; omega)).mono ?_
          rintro e w5 ⟨rfl, b5⟩
          have k5 := k4.trans (b5.mono k4.size)
          have D5 := Lib.hid (D4_.out.below b5)
          rw [HJ.out]
          clear b5 k4
          obtain ⟨hl, c0, c1, c2, c3⟩ := D5.out
          generalize hz : ba (_ ++ (_ ++ Lib.decDigits y)) = z
          have HZz : Hid (ba (ltext y (0 : Nat) (0 : Nat) true) = ⟨#[99, 97, 46, 32]⟩ ++ z) := Lib.hid (by rw [HE.out, ← hz]; apply ByteArray.ext; simp [ba, ca, HDn.out])
          have hzs : z.size ≤ 40 := by rw [← hz, ba_size]; exact len40 hp1' (by simp) (by simp)
          clear hz
          go_wp2_with fail
          go_ret
          exact ⟨by rw [HZz.out]; rfl, k5⟩
        · have hdp : 0 < d := by omega
          have hdb : ((d : Int) != 0) = true := by simp; omega
          rw [if_neg hd0] at HE
          go_enter Tryd.func64, Tryd.ntmps64
          go_wp2_with fail
          refine (isUnknown y (0 : Nat) d true false _ HZ2.out).mono ?_
          rintro e w1 ⟨rfl, b1⟩
          have k1 := HB.out.trans (b1.mono HB.out.size)
          have D1 := Lib.hid (HD.out.below b1)
          have T1 := Lib.hid (HT0.out.below b1)
          have M1 := Lib.hid (HM0.out.below b1)
          clear b1
          obtain ⟨hl, c0, c1, c2, c3⟩ := D1.out
          go_wp2_with fail
          refine (HI3.out _ T1.out).mono ?_
          rintro e w2 ⟨rfl, b2⟩
          have k2 := k1.trans (b2.mono k1.size)
          have D2 := Lib.hid (D1.out.below b2)
          have T2 := Lib.hid (T1.out.below b2)
          have M2 := Lib.hid (M1.out.below b2)
          clear b2 hl c0 c1 c2 c3
          obtain ⟨hl, c0, c1, c2, c3⟩ := D2.out
          go_wp2_with fail
          refine (HI1.out _ T2.out).mono ?_
          rintro e w3 ⟨rfl, b3⟩
          have k3 := k2.trans (b3.mono k2.size)
          have D3 := Lib.hid (D2.out.below b3)
          have D4_ := Lib.hid (D3.out.below (box_below w3 (.cells #[.string p3, .string ⟨#[]⟩, .string p1] 9)))
          have k4 := k3.trans ((box_below w3 (.cells #[.string p3, .string ⟨#[]⟩, .string p1] 9)).mono k3.size)
          clear b3 hl c0 c1 c2 c3
          go_wp2_with fail
          refine (joinPresent _ _ 3 [p3, ⟨#[]⟩, p1] _ ⟨rds_lit rfl, (fun _ a ha => by cases ha; simp), rfl⟩ (by have h0 : (ByteArray.mk #[]).size = 0 := rfl; simp [lens]; omega)).mono ?_
          rintro e w5 ⟨rfl, b5⟩
          have k5 := k4.trans (b5.mono k4.size)
          have D5 := Lib.hid (D4_.out.below b5)
          rw [HJ.out]
          clear b5 k4
          obtain ⟨hl, c0, c1, c2, c3⟩ := D5.out
          generalize hz : ba (_ ++ (_ ++ Lib.decDigits y)) = z
          have HZz : Hid (ba (ltext y (0 : Nat) d true) = ⟨#[99, 97, 46, 32]⟩ ++ z) := Lib.hid (by rw [HE.out, ← hz]; apply ByteArray.ext; simp [ba, ca, HDn.out, hd0])
          have hzs : z.size ≤ 40 := by rw [← hz, ba_size]; exact len40 hp1' (by rw [len_size]; omega) (by simp)
          clear hz
          go_wp2_with fail
          go_ret
          exact ⟨by rw [HZz.out]; rfl, k5⟩
      · have hmp : 0 < m := by omega
        have hmb : ((m : Int) != 0) = true := by simp; omega
        have hm1 : (m : Int) - 1 = ((m - 1 : Nat) : Int) := by omega
        rw [if_neg hm0] at HE
        by_cases hd0 : d = 0
        · subst hd0
          rw [if_pos rfl] at HE
          go_enter Tryd.func64, Tryd.ntmps64
          go_wp2_with fail
          refine (isUnknown y m (0 : Nat) true false _ HZ2.out).mono ?_
          rintro e w1 ⟨rfl, b1⟩
          have k1 := HB.out.trans (b1.mono HB.out.size)
          have D1 := Lib.hid (HD.out.below b1)
          have T1 := Lib.hid (HT0.out.below b1)
          have M1 := Lib.hid (HM0.out.below b1)
          clear b1
          obtain ⟨hl, c0, c1, c2, c3⟩ := D1.out
          have hmc := HC2.out _ M1.out hm0
          go_wp2_with fail
          refine (HI1.out _ T1.out).mono ?_
          rintro e w3 ⟨rfl, b3⟩
          have k3 := k1.trans (b3.mono k1.size)
          have D3 := Lib.hid (D1.out.below b3)
          have D4_ := Lib.hid (D3.out.below (box_below w3 (.cells #[.string ⟨#[]⟩, .string p2, .string p1] 9)))
          have k4 := k3.trans ((box_below w3 (.cells #[.string ⟨#[]⟩, .string p2, .string p1] 9)).mono k3.size)
          clear b3 hl c0 c1 c2 c3
          go_wp2_with fail
          refine (joinPresent _ _ 3 [⟨#[]⟩, p2, p1] _ ⟨rds_lit rfl, (fun _ a ha => by cases ha; simp), rfl⟩ (by have h0 : (ByteArray.mk #[]).size = 0 := rfl; simp [lens]; omega)).mono ?_
          rintro e w5 ⟨rfl, b5⟩
          have k5 := k4.trans (b5.mono k4.size)
          have D5 := Lib.hid (D4_.out.below b5)
          rw [HJ.out]
          clear b5 k4
          obtain ⟨hl, c0, c1, c2, c3⟩ := D5.out
          generalize hz : ba (_ ++ (_ ++ Lib.decDigits y)) = z
          have HZz : Hid (ba (ltext y m (0 : Nat) true) = ⟨#[99, 97, 46, 32]⟩ ++ z) := Lib.hid (by rw [HE.out, ← hz]; apply ByteArray.ext; simp [ba, ca, HDn.out, HMn.out hm0, hm0])
          have hzs : z.size ≤ 40 := by rw [← hz, ba_size]; exact len40 hp1' (by simp) (by rw [len_size]; omega)
          clear hz
          go_wp2_with fail
          go_ret
          exact ⟨by rw [HZz.out]; rfl, k5⟩
        · have hdp : 0 < d := by omega
          have hdb : ((d : Int) != 0) = true := by simp; omega
          rw [if_neg hd0] at HE
          go_enter Tryd.func64, Tryd.ntmps64
          go_wp2_with fail
          refine (isUnknown y m d true false _ HZ2.out).mono ?_
          rintro e w1 ⟨rfl, b1⟩
          have k1 := HB.out.trans (b1.mono HB.out.size)
          have D1 := Lib.hid (HD.out.below b1)
          have T1 := Lib.hid (HT0.out.below b1)
          have M1 := Lib.hid (HM0.out.below b1)
          clear b1
          obtain ⟨hl, c0, c1, c2, c3⟩ := D1.out
          go_wp2_with fail
          refine (HI3.out _ T1.out).mono ?_
          rintro e w2 ⟨rfl, b2⟩
          have k2 := k1.trans (b2.mono k1.size)
          have D2 := Lib.hid (D1.out.below b2)
          have T2 := Lib.hid (T1.out.below b2)
          have M2 := Lib.hid (M1.out.below b2)
          clear b2 hl c0 c1 c2 c3
          obtain ⟨hl, c0, c1, c2, c3⟩ := D2.out
          have hmc := HC2.out _ M2.out hm0
          go_wp2_with fail
          refine (HI1.out _ T2.out).mono ?_
          rintro e w3 ⟨rfl, b3⟩
          have k3 := k2.trans (b3.mono k2.size)
          have D3 := Lib.hid (D2.out.below b3)
          have D4_ := Lib.hid (D3.out.below (box_below w3 (.cells #[.string p3, .string p2, .string p1] 9)))
          have k4 := k3.trans ((box_below w3 (.cells #[.string p3, .string p2, .string p1] 9)).mono k3.size)
          clear b3 hl c0 c1 c2 c3
          go_wp2_with fail
          refine (joinPresent _ _ 3 [p3, p2, p1] _ ⟨rds_lit rfl, (fun _ a ha => by cases ha; simp), rfl⟩ (by have h0 : (ByteArray.mk #[]).size = 0 := rfl; simp [lens]; omega)).mono ?_
          rintro e w5 ⟨rfl, b5⟩
          have k5 := k4.trans (b5.mono k4.size)
          have D5 := Lib.hid (D4_.out.below b5)
          rw [HJ.out]
          clear b5 k4
          obtain ⟨hl, c0, c1, c2, c3⟩ := D5.out
          generalize hz : ba (_ ++ (_ ++ Lib.decDigits y)) = z
          have HZz : Hid (ba (ltext y m d true) = ⟨#[99, 97, 46, 32]⟩ ++ z) := Lib.hid (by rw [HE.out, ← hz]; apply ByteArray.ext; simp [ba, ca, HDn.out, HMn.out hm0, hm0, hd0])
          have hzs : z.size ≤ 40 := by rw [← hz, ba_size]; exact len40 hp1' (by rw [len_size]; omega) (by rw [len_size]; omega)
          clear hz
          go_wp2_with fail
          go_ret
          exact ⟨by rw [HZz.out]; rfl, k5⟩

set_option maxHeartbeats 1000000 in
theorem implLong (y m d : Int) (c : Bool) (r : Bool) (s : ByteArray) (w : World) (hr : okB y m d c = r) (hs : (if r = true then ba (ltext y.toNat m.toNat d.toNat c) else ⟨#[]⟩) = s) (ht : Tab w) (hmn : StrTab 1 (mons.drop 1) w) :
    Calls Tryd.prog 17 #[dtV y m d c] w fun e w' => e = .returned (.tuple #[.string s, .bool r]) ∧ Below w.heap.size w w' := by
  have HB := Lib.hid (box_below w (.cells #[.int .i64 y, .int .i64 m, .int .i64 d, .bool c] 23))
  have HD := Lib.hid (D4.new w y m d c 23)
  have HV := Lib.hid hr
  have HS := Lib.hid hs
  have HT := Lib.hid (ht.below HB.out)
  have HM := Lib.hid (hmn.below HB.out)
  clear hr hs ht hmn
  cases r with
  | false =>
    go_enter Tryd.func17, Tryd.ntmps17
    go_wp2_with fail
    refine (iValid y m d c false _ HV.out).mono ?_
    rintro e w1 ⟨rfl, b1⟩
    go_wp2_with fail
    go_ret2
    exact ⟨by rw [← HS.out]; rfl, HB.out.trans (b1.mono HB.out.size)⟩
  | true =>
    have HS2 : Hid (ba (ltext y.toNat m.toNat d.toNat c) = s) := Lib.hid (by rw [← HS.out]; rfl)
    clear HS
    have hbd := ok_bd HV.out
    obtain ⟨a, rfl⟩ := Int.eq_ofNat_of_zero_le hbd.1
    obtain ⟨b, rfl⟩ := Int.eq_ofNat_of_zero_le hbd.2.2.1
    obtain ⟨e, rfl⟩ := Int.eq_ofNat_of_zero_le hbd.2.2.2.2.1
    clear hbd
    simp only [Int.toNat_natCast] at HS2
    go_enter Tryd.func17, Tryd.ntmps17
    go_wp2_with fail
    refine (iValid _ _ _ _ true _ HV.out).mono ?_
    rintro e' w1 ⟨rfl, b1⟩
    have k1 := HB.out.trans (b1.mono HB.out.size)
    have D1 := Lib.hid (HD.out.below b1)
    have T1 := Lib.hid (HT.out.below b1)
    have M1 := Lib.hid (HM.out.below b1)
    clear b1
    obtain ⟨hl, c0, c1, c2, c3⟩ := D1.out
    go_wp2_with fail
    refine (iLong a b e c _ HV.out T1.out M1.out).mono ?_
    rintro e' w2 ⟨rfl, b2⟩
    rw [HS2.out]
    have k2 := k1.trans (b2.mono k1.size)
    clear b2 k1 hl c0 c1 c2 c3
    go_wp2_with fail
    go_ret2
    exact ⟨rfl, k2⟩
end Go.Proofs.YtjdnkjobccnmlaaDoor.Ldi
