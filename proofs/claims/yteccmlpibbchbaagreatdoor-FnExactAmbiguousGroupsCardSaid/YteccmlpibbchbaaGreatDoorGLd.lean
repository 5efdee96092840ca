/-
  Several texts of one claim in one file: Ld, Ldi, RdY.
-/
import Derived.Test.YteccmlpibbchbaaGreatDoorDt2
import Derived.Test.YteccmlpibbchbaaGreatDoorGDt
import Derived.Test.YteccmlpibbchbaaGreatDoorGNu
import Derived.LoopTactic
import Derived.Deep.RegionWith
import Derived.Test.YteccmlpibbchbaaGreatDoorGFr
import Derived.Test.YteccmlpibbchbaaGreatDoorGLs
import Derived.Test.YteccmlpibbchbaaGreatDoorShelf
import Derived.Test.YteccmlpibbchbaaGreatDoorPr
/-
  Contracts of l3Months, l3Long and LongDate of the model.
-/
namespace Go.Proofs.YteccmlpibbchbaaGreatDoor.Ld
open Go.RowKit Pl NmPl DtPl Dt DtTx LdPl Num ReadPl
set_option linter.unusedSimpArgs false
set_option linter.unusedVariables false

theorem ret_str {a b : ByteArray} (h : a = b) : Ending.returned (.string a) = .returned (.string b) := by rw [h]
theorem monB_size (m : Nat) (h : m ≤ 12) : (monB m).size ≤ 9 := by
  unfold monB
  rw [ba_size]
  rcases m with _ | m
  · decide
  · exact (mon_ne (m := m + 1) ⟨by omega, by omega⟩).2
/-- nothing that lies in W has changed -/
def Kept (W w' : World) : Prop := Below W.heap.size W w'
theorem Kept.drew (W : World) : Kept W W.drew := (Below.refl _ _).drew
theorem Kept.next {W w1 w2 : World} (h : Kept W w1) (h2 : Below w1.heap.size w1 w2) : Kept W w2 := Below.trans h (h2.mono (Below.size h))
theorem num_below (u : Nat) (h : u ≤ 999999) (w : World) : Calls Tryz.prog 91 #[.int .i64 (u : Int)] w fun e w' => e = .returned (.string (ba (Lib.decDigits u))) ∧ Below w.heap.size w w' :=
  (l1Num_nat u h w).mono fun _ _ ⟨he, q, hw⟩ => ⟨he, hw ▸ below_drewN (Below.refl _ _) q⟩
end Go.Proofs.YteccmlpibbchbaaGreatDoor.Ld
/-
  Contracts of longDate and LongDate of the program.
-/
namespace Go.Proofs.YteccmlpibbchbaaGreatDoor.Ldi
open Go.RowKit Pl Stands SplitPl NmPl DtPl Dt DtTx LdPl Num ReadPl LaidS Name Strs Help Word Part NGood Forms
open Ld (monB_size)
set_option linter.unusedSimpArgs false
set_option linter.unusedVariables false

theorem itoa_below (u : Nat) (h : u ≤ 9999) (w : World) (ht : Tab w) : Calls Tryz.prog 150 #[.int .i64 (u : Int)] w fun e w' => e = .returned (.string (ba (Lib.decDigits u))) ∧ Below w.heap.size w w' := by
  have HI := Tryz.strconv_Itoa u (by omega) (by omega) w ht
  rw [itoa_nat] at HI
  refine HI.mono ?_
  rintro e w1 ⟨he, k', os, hw⟩
  exact ⟨he, by rw [hw]; exact grow_below w k' os⟩
theorem mon_cell {w : World} {g m : Nat} (h : StrTab g (mons.drop 1) w) (hm : 1 ≤ m ∧ m ≤ 12) : w.cell? ⟨g, m - 1, none⟩ = some (.string (monB m)) := by
  have hl : mons.length = 13 := by decide
  have : (mons.drop 1)[m - 1]? = some (mon m) := by
    rw [List.getElem?_drop, show 1 + (m - 1) = m by omega]
    unfold mon
    rw [List.getD_eq_getElem?_getD, List.getElem?_eq_getElem (by omega)]
    rfl
  exact h.2 _ _ this
theorem len40 {a b z : List UInt8} (hz : z.length ≤ 4) (ha : a.length ≤ 9) (hb : b.length ≤ 9) : ((if a = [] then [] else a ++ [32]) ++ ((if b = [] then [] else b ++ [32]) ++ z)).length ≤ 40 := by
  rw [List.length_append, List.length_append]
  split <;> split <;> simp <;> omega

set_option maxRecDepth 100000 in
set_option maxHeartbeats 4000000 in
theorem iLong (y m d : Nat) (c : Bool) (w : World) (hv : okB y m d c = true) (ht : Tab w) (hmn : StrTab 0 (mons.drop 1) w) :
    Calls Tryz.prog 140 #[dtV y m d c] w fun e w' => e = .returned (.string (ba (ltext y m d c))) ∧ Below w.heap.size w w' := by
  have HB := Lib.hid (box_below w (.cells #[.int .i64 (y : Int), .int .i64 (m : Int), .int .i64 (d : Int), .bool c] 56))
  have HD := Lib.hid (D4.new w y m d c 56)
  have HT0 := Lib.hid (ht.below HB.out)
  have HM0 := Lib.hid (hmn.below HB.out)
  have HZ := Lib.hid (ok_zero hv)
  obtain ⟨_, hy, _, hm, _, hd⟩ := ok_bd hv
  replace hy : y ≤ 2999 := by omega
  replace hm : m ≤ 12 := by omega
  replace hd : d ≤ 31 := by omega
  clear hv ht hmn
  by_cases hy0 : y = 0
  · have HE : Hid (ltext y m d c = nd) := Lib.hid (by unfold ltext; rw [if_pos hy0])
    have HZ2 : Hid (zB y m d c = true) := Lib.hid (by rw [HZ.out]; exact decide_eq_true (by omega))
    clear hy0
    go_enter Tryz.func140, Tryz.ntmps140
    go_wp2_with fail
    refine (isUnknown y m d c true _ HZ2.out).mono ?_
    rintro e w1 ⟨rfl, b1⟩
    go_wp2_with fail
    go_ret
    exact ⟨by rw [HE.out]; rfl, HB.out.trans (b1.mono HB.out.size)⟩
  · have HZ2 : Hid (zB y m d c = false) := Lib.hid (by rw [HZ.out]; exact decide_eq_false (by omega))
    have HE : Hid (ltext y m d c = (if c then ca else []) ++ ((if d = 0 then [] else Lib.decDigits d ++ [32]) ++ ((if m = 0 then [] else mon m ++ [32]) ++ Lib.decDigits y))) := Lib.hid (by
      unfold ltext lbody
      rw [if_neg hy0])
    have hp1 : (ba (Lib.decDigits y)).size ≤ 4 := by rw [ba_size]; exact dec_le 3 y (by omega)
    have hp3 : (ba (Lib.decDigits d)).size ≤ 4 := by rw [ba_size]; exact dec_le 3 d (by omega)
    have hp2 : (monB m).size ≤ 9 := monB_size m hm
    have HJ : Hid (∀ a b : ByteArray, jn (ls [a, b, ba (Lib.decDigits y)]) = (if a.data.toList = [] then [] else a.data.toList ++ [32]) ++ ((if b.data.toList = [] then [] else b.data.toList ++ [32]) ++ Lib.decDigits y)) := Lib.hid (fun a b => by
      show jn [a.data.toList, b.data.toList, (ba (Lib.decDigits y)).data.toList] = _
      rw [toList_ba, jn3 _ _ _ (dec_ne y)])
    have HDn : Hid ((ba (Lib.decDigits d)).data.toList ≠ []) := Lib.hid (by rw [toList_ba]; exact dec_ne d)
    have HMn : Hid (m ≠ 0 → (monB m).data.toList ≠ []) := Lib.hid (fun h => by unfold monB; rw [toList_ba]; exact (mon_ne ⟨by omega, hm⟩).1)
    have H2 : Hid (mon m = (monB m).data.toList) := Lib.hid (toList_ba _).symm
    have H3 : Hid (Lib.decDigits d = (ba (Lib.decDigits d)).data.toList) := Lib.hid (toList_ba _).symm
    have HI1 : Hid (∀ w (ht : Tab w), Calls Tryz.prog 150 #[.int .i64 (y : Int)] w fun e w' => e = .returned (.string (ba (Lib.decDigits y))) ∧ Below w.heap.size w w') := Lib.hid (fun w ht => itoa_below y (by omega) w ht)
    have HI3 : Hid (∀ w (ht : Tab w), Calls Tryz.prog 150 #[.int .i64 (d : Int)] w fun e w' => e = .returned (.string (ba (Lib.decDigits d))) ∧ Below w.heap.size w w') := Lib.hid (fun w ht => itoa_below d (by omega) w ht)
    have HC2 : Hid (∀ w : World, StrTab 0 (mons.drop 1) w → m ≠ 0 → w.cell? ⟨0, m - 1, none⟩ = some (.string (monB m))) := Lib.hid (fun w h h0 => mon_cell h ⟨by omega, hm⟩)
    rw [H2.out, H3.out] at HE
    clear H2 H3 HZ
    generalize hpy : ba (Lib.decDigits y) = p1 at *
    have HPy : Hid (ba (Lib.decDigits y) = p1) := Lib.hid hpy
    clear hpy
    generalize ba (Lib.decDigits d) = p3 at *
    generalize monB m = p2 at *
    have hyp : 0 < y := by omega
    have hyn : ((y : Int) == 0) = false := by simp; omega
    clear hy0
    cases c
    · have hp1' : (Lib.decDigits y).length ≤ 4 := dec_le 3 y (by omega)
      by_cases hm0 : m = 0
      · subst hm0
        rw [if_pos rfl] at HE
        by_cases hd0 : d = 0
        · subst hd0
          rw [if_pos rfl] at HE
          go_enter Tryz.func140, Tryz.ntmps140
          go_wp2_with fail
          refine (isUnknown y (0 : Nat) (0 : Nat) false false _ HZ2.out).mono ?_
          rintro e w1 ⟨rfl, b1⟩
          have k1 := HB.out.trans (b1.mono HB.out.size)
          have D1 := Lib.hid (HD.out.below b1)
          have T1 := Lib.hid (HT0.out.below b1)
          have M1 := Lib.hid (HM0.out.below b1)
          clear b1
          obtain ⟨hl, c0, c1, c2, c3⟩ := D1.out
          go_wp2_with fail
          refine (HI1.out _ T1.out).mono ?_
          rintro e w3 ⟨rfl, b3⟩
          have k3 := k1.trans (b3.mono k1.size)
          have D3 := Lib.hid (D1.out.below b3)
          have D4_ := Lib.hid (D3.out.below (box_below w3 (.cells #[.string ⟨#[]⟩, .string ⟨#[]⟩, .string p1] 9)))
          have k4 := k3.trans ((box_below w3 (.cells #[.string ⟨#[]⟩, .string ⟨#[]⟩, .string p1] 9)).mono k3.size)
          clear b3 hl c0 c1 c2 c3
          go_wp2_with fail
          refine (joinPresent _ _ 3 [⟨#[]⟩, ⟨#[]⟩, p1] _ ⟨rds_lit rfl, (fun _ a ha => by cases ha; simp), rfl⟩ (by have h0 : (ByteArray.mk #[]).size = 0 := rfl; simp [lens]; omega)).mono ?_
          rintro e w5 ⟨rfl, b5⟩
          have k5 := k4.trans (b5.mono k4.size)
          have D5 := Lib.hid (D4_.out.below b5)
          rw [HJ.out]
          clear b5 k4
          obtain ⟨hl, c0, c1, c2, c3⟩ := D5.out
          generalize hz : ba (_ ++ (_ ++ Lib.decDigits y)) = z
          have HZz : Hid (ba (ltext y (0 : Nat) (0 : Nat) false) = z) := Lib.hid (by rw [HE.out, ← hz]; apply ByteArray.ext; simp [ba, HDn.out])
          have hzs : z.size ≤ 40 := by rw [← hz, ba_size]; exact len40 hp1' (by simp) (by simp)
          clear hz
          go_wp2_with fail
          go_ret
          exact ⟨by rw [HZz.out]; rfl, k5⟩
        · have hdp : 0 < d := by omega
          have hdb : ((d : Int) != 0) = true := by simp; omega
          rw [if_neg hd0] at HE
          go_enter Tryz.func140, Tryz.ntmps140
          go_wp2_with fail
          refine (isUnknown y (0 : Nat) d false false _ HZ2.out).mono ?_
          rintro e w1 ⟨rfl, b1⟩
          have k1 := HB.out.trans (b1.mono HB.out.size)
          have D1 := Lib.hid (HD.out.below b1)
          have T1 := Lib.hid (HT0.out.below b1)
          have M1 := Lib.hid (HM0.out.below b1)
          clear b1
          obtain ⟨hl, c0, c1, c2, c3⟩ := D1.out
          go_wp2_with fail
          refine (HI3.out _ T1.out).mono ?_
          rintro e w2 ⟨rfl, b2⟩
          have k2 := k1.trans (b2.mono k1.size)
          have D2 := Lib.hid (D1.out.below b2)
          have T2 := Lib.hid (T1.out.below b2)
          have M2 := Lib.hid (M1.out.below b2)
          clear b2 hl c0 c1 c2 c3
          obtain ⟨hl, c0, c1, c2, c3⟩ := D2.out
          go_wp2_with fail
          refine (HI1.out _ T2.out).mono ?_
          rintro e w3 ⟨rfl, b3⟩
          have k3 := k2.trans (b3.mono k2.size)
          have D3 := Lib.hid (D2.out.below b3)
          have D4_ := Lib.hid (D3.out.below (box_below w3 (.cells #[.string p3, .string ⟨#[]⟩, .string p1] 9)))
          have k4 := k3.trans ((box_below w3 (.cells #[.string p3, .string ⟨#[]⟩, .string p1] 9)).mono k3.size)
          clear b3 hl c0 c1 c2 c3
          go_wp2_with fail
          refine (joinPresent _ _ 3 [p3, ⟨#[]⟩, p1] _ ⟨rds_lit rfl, (fun _ a ha => by cases ha; simp), rfl⟩ (by have h0 : (ByteArray.mk #[]).size = 0 := rfl; simp [lens]; omega)).mono ?_
          rintro e w5 ⟨rfl, b5⟩
          have k5 := k4.trans (b5.mono k4.size)
          have D5 := Lib.hid (D4_.out.below b5)
          rw [HJ.out]
          clear b5 k4
          obtain ⟨hl, c0, c1, c2, c3⟩ := D5.out
          generalize hz : ba (_ ++ (_ ++ Lib.decDigits y)) = z
          have HZz : Hid (ba (ltext y (0 : Nat) d false) = z) := Lib.hid (by rw [HE.out, ← hz]; apply ByteArray.ext; simp [ba, HDn.out, hd0])
          have hzs : z.size ≤ 40 := by rw [← hz, ba_size]; exact len40 hp1' (by rw [len_size]; omega) (by simp)
          clear hz
          go_wp2_with fail
          go_ret
          exact ⟨by rw [HZz.out]; rfl, k5⟩
      · have hmp : 0 < m := by omega
        have hmb : ((m : Int) != 0) = true := by simp; omega
        have hm1 : (m : Int) - 1 = ((m - 1 : Nat) : Int) := by omega
        rw [if_neg hm0] at HE
        by_cases hd0 : d = 0
        · subst hd0
          rw [if_pos rfl] at HE
          go_enter Tryz.func140, Tryz.ntmps140
          go_wp2_with fail
          refine (isUnknown y m (0 : Nat) false false _ HZ2.out).mono ?_
          rintro e w1 ⟨rfl, b1⟩
          have k1 := HB.out.trans (b1.mono HB.out.size)
          have D1 := Lib.hid (HD.out.below b1)
          have T1 := Lib.hid (HT0.out.below b1)
          have M1 := Lib.hid (HM0.out.below b1)
          clear b1
          obtain ⟨hl, c0, c1, c2, c3⟩ := D1.out
          have hmc := HC2.out _ M1.out hm0
          go_wp2_with fail
          refine (HI1.out _ T1.out).mono ?_
          rintro e w3 ⟨rfl, b3⟩
          have k3 := k1.trans (b3.mono k1.size)
          have D3 := Lib.hid (D1.out.below b3)
          have D4_ := Lib.hid (D3.out.below (box_below w3 (.cells #[.string ⟨#[]⟩, .string p2, .string p1] 9)))
          have k4 := k3.trans ((box_below w3 (.cells #[.string ⟨#[]⟩, .string p2, .string p1] 9)).mono k3.size)
          clear b3 hl c0 c1 c2 c3
          go_wp2_with fail
          refine (joinPresent _ _ 3 [⟨#[]⟩, p2, p1] _ ⟨rds_lit rfl, (fun _ a ha => by cases ha; simp), rfl⟩ (by have h0 : (ByteArray.mk #[]).size = 0 := rfl; simp [lens]; omega)).mono ?_
          rintro e w5 ⟨rfl, b5⟩
          have k5 := k4.trans (b5.mono k4.size)
          have D5 := Lib.hid (D4_.out.below b5)
          rw [HJ.out]
          clear b5 k4
          obtain ⟨hl, c0, c1, c2, c3⟩ := D5.out
          generalize hz : ba (_ ++ (_ ++ Lib.decDigits y)) = z
          have HZz : Hid (ba (ltext y m (0 : Nat) false) = z) := Lib.hid (by rw [HE.out, ← hz]; apply ByteArray.ext; simp [ba, HDn.out, HMn.out hm0, hm0])
          have hzs : z.size ≤ 40 := by rw [← hz, ba_size]; exact len40 hp1' (by simp) (by rw [len_size]; omega)
          clear hz
          go_wp2_with fail
          go_ret
          exact ⟨by rw [HZz.out]; rfl, k5⟩
        · have hdp : 0 < d := by omega
          have hdb : ((d : Int) != 0) = true := by simp; omega
          rw [if_neg hd0] at HE
          go_enter Tryz.func140, Tryz.ntmps140
          go_wp2_with fail
          refine (isUnknown y m d false false _ HZ2.out).mono ?_
          rintro e w1 ⟨rfl, b1⟩
          have k1 := HB.out.trans (b1.mono HB.out.size)
          have D1 := Lib.hid (HD.out.below b1)
          have T1 := Lib.hid (HT0.out.below b1)
          have M1 := Lib.hid (HM0.out.below b1)
          clear b1
          obtain ⟨hl, c0, c1, c2, c3⟩ := D1.out
          go_wp2_with fail
          refine (HI3.out _ T1.out).mono ?_
          rintro e w2 ⟨rfl, b2⟩
          have k2 := k1.trans (b2.mono k1.size)
          have D2 := Lib.hid (D1.out.below b2)
          have T2 := Lib.hid (T1.out.below b2)
          have M2 := Lib.hid (M1.out.below b2)
          clear b2 hl c0 c1 c2 c3
          obtain ⟨hl, c0, c1, c2, c3⟩ := D2.out
          have hmc := HC2.out _ M2.out hm0
          go_wp2_with fail
          refine (HI1.out _ T2.out).mono ?_
          rintro e w3 ⟨rfl, b3⟩
          have k3 := k2.trans (b3.mono k2.size)
          have D3 := Lib.hid (D2.out.below b3)
          have D4_ := Lib.hid (D3.out.below (box_below w3 (.cells #[.string p3, .string p2, .string p1] 9)))
          have k4 := k3.trans ((box_below w3 (.cells #[.string p3, .string p2, .string p1] 9)).mono k3.size)
          clear b3 hl c0 c1 c2 c3
          go_wp2_with fail
          refine (joinPresent _ _ 3 [p3, p2, p1] _ ⟨rds_lit rfl, (fun _ a ha => by cases ha; simp), rfl⟩ (by have h0 : (ByteArray.mk #[]).size = 0 := rfl; simp [lens]; omega)).mono ?_
          rintro e w5 ⟨rfl, b5⟩
          have k5 := k4.trans (b5.mono k4.size)
          have D5 := Lib.hid (D4_.out.below b5)
          rw [HJ.out]
          clear b5 k4
          obtain ⟨hl, c0, c1, c2, c3⟩ := D5.out
          generalize hz : ba (_ ++ (_ ++ Lib.decDigits y)) = z
          have HZz : Hid (ba (ltext y m d false) = z) := Lib.hid (by rw [HE.out, ← hz]; apply ByteArray.ext; simp [ba, HDn.out, HMn.out hm0, hm0, hd0])
          have hzs : z.size ≤ 40 := by rw [← hz, ba_size]; exact len40 hp1' (by rw [len_size]; omega) (by rw [len_size]; omega)
          clear hz
          go_wp2_with fail
          go_ret
          exact ⟨by rw [HZz.out]; rfl, k5⟩
    · have hp1' : (Lib.decDigits y).length ≤ 4 := dec_le 3 y (by omega)
      by_cases hm0 : m = 0
      · subst hm0
        rw [if_pos rfl] at HE
        by_cases hd0 : d = 0
        · subst hd0
          rw [if_pos rfl] at HE
          go_enter Tryz.func140, Tryz.ntmps140
          go_wp2_with fail
          refine (isUnknown y (0 : Nat) (0 : Nat) true false _ HZ2.out).mono ?_
          rintro e w1 ⟨rfl, b1⟩
          have k1 := HB.out.trans (b1.mono HB.out.size)
          have D1 := Lib.hid (HD.out.below b1)
          have T1 := Lib.hid (HT0.out.below b1)
          have M1 := Lib.hid (HM0.out.below b1)
          clear b1
          obtain ⟨hl, c0, c1, c2, c3⟩ := D1.out
          go_wp2_with fail
          refine (HI1.out _ T1.out).mono ?_
          rintro e w3 ⟨rfl, b3⟩
          have k3 := k1.trans (b3.mono k1.size)
          have D3 := Lib.hid (D1.out.below b3)
          have D4_ := Lib.hid (D3.out.below (box_below w3 (.cells #[.string ⟨#[]⟩, .string ⟨#[]⟩, .string p1] 9)))
          have k4 := k3.trans ((box_below w3 (.cells #[.string ⟨#[]⟩, .string ⟨#[]⟩, .string p1] 9)).mono k3.size)
          clear b3 hl c0 c1 c2 c3
          go_wp2_with fail
          refine (joinPresent _ _ 3 [⟨#[]⟩, ⟨#[]⟩, p1] _ ⟨rds_lit rfl, (fun _ a ha => by cases ha; simp), rfl⟩ (by have h0 : (ByteArray.mk #[]).size = 0 := rfl; simp [lens]; omega)).mono ?_
          rintro e w5 ⟨rfl, b5⟩
          have k5 := k4.trans (b5.mono k4.size)
          have D5 := Lib.hid (D4_.out.below b5)
          rw [HJ.out]
          clear b5 k4
          obtain ⟨hl, c0, c1, c2, c3⟩ := D5.out
          generalize hz : ba (_ ++ (_ ++ Lib.decDigits y)) = z
          have HZz : Hid (ba (ltext y (0 : Nat) (0 : Nat) true) = ⟨#[99, 97, 46, 32]⟩ ++ z) := Lib.hid (by rw [HE.out, ← hz]; apply ByteArray.ext; simp [ba, ca, HDn.out])
          have hzs : z.size ≤ 40 := by rw [← hz, ba_size]; exact len40 hp1' (by simp) (by simp)
          clear hz
          go_wp2_with fail
          go_ret
          exact ⟨by rw [HZz.out]; rfl, k5⟩
        · have hdp : 0 < d := by omega
          have hdb : ((d : Int) != 0) = true := by simp; omega
          rw [if_neg hd0] at HE
          go_enter Tryz.func140, Tryz.ntmps140
          go_wp2_with fail
          refine (isUnknown y (0 : Nat) d true false _ HZ2.out).mono ?_
          rintro e w1 ⟨rfl, b1⟩
          have k1 := HB.out.trans (b1.mono HB.out.size)
          have D1 := Lib.hid (HD.out.below b1)
          have T1 := Lib.hid (HT0.out.below b1)
          have M1 := Lib.hid (HM0.out.below b1)
          clear b1
          obtain ⟨hl, c0, c1, c2, c3⟩ := D1.out
          go_wp2_with fail
          refine (HI3.out _ T1.out).mono ?_
          rintro e w2 ⟨rfl, b2⟩
          have k2 := k1.trans (b2.mono k1.size)
          have D2 := Lib.hid (D1.out.below b2)
          have T2 := Lib.hid (T1.out.below b2)
          have M2 := Lib.hid (M1.out.below b2)
          clear b2 hl c0 c1 c2 c3
          obtain ⟨hl, c0, c1, c2, c3⟩ := D2.out
          go_wp2_with fail
          refine (HI1.out _ T2.out).mono ?_
          rintro e w3 ⟨rfl, b3⟩
          have k3 := k2.trans (b3.mono k2.size)
          have D3 := Lib.hid (D2.out.below b3)
          have D4_ := Lib.hid (D3.out.below (box_below w3 (.cells #[.string p3, .string ⟨#[]⟩, .string p1] 9)))
          have k4 := k3.trans ((box_below w3 (.cells #[.string p3, .string ⟨#[]⟩, .string p1] 9)).mono k3.size)
          clear b3 hl c0 c1 c2 c3
          go_wp2_with fail
          refine (joinPresent _ _ 3 [p3, ⟨#[]⟩, p1] _ ⟨rds_lit rfl, (fun _ a ha => by cases ha; simp), rfl⟩ (by have h0 : (ByteArray.mk #[]).size = 0 := rfl; simp [lens]; omega)).mono ?_
          rintro e w5 ⟨rfl, b5⟩
          have k5 := k4.trans (b5.mono k4.size)
          have D5 := Lib.hid (D4_.out.below b5)
          rw [HJ.out]
          clear b5 k4
          obtain ⟨hl, c0, c1, c2, c3⟩ := D5.out
          generalize hz : ba (_ ++ (_ ++ Lib.decDigits y)) = z
          have HZz : Hid (ba (ltext y (0 : Nat) d true) = ⟨#[99, 97, 46, 32]⟩ ++ z) := Lib.hid (by rw [HE.out, ← hz]; apply ByteArray.ext; simp [ba, ca, HDn.out, hd0])
          have hzs : z.size ≤ 40 := by rw [← hz, ba_size]; exact len40 hp1' (by rw [len_size]; omega) (by simp)
          clear hz
          go_wp2_with fail
          go_ret
          exact ⟨by rw [HZz.out]; rfl, k5⟩
      · have hmp : 0 < m := by omega
        have hmb : ((m : Int) != 0) = true := by simp; omega
        have hm1 : (m : Int) - 1 = ((m - 1 : Nat) : Int) := by omega
        rw [if_neg hm0] at HE
        by_cases hd0 : d = 0
        · subst hd0
          rw [if_pos rfl] at HE
          go_enter Tryz.func140, Tryz.ntmps140
          go_wp2_with fail
          refine (isUnknown y m (0 : Nat) true false _ HZ2.out).mono ?_
          rintro e w1 ⟨rfl, b1⟩
          have k1 := HB.out.trans (b1.mono HB.out.size)
          have D1 := Lib.hid (HD.out.below b1)
          have T1 := Lib.hid (HT0.out.below b1)
          have M1 := Lib.hid (HM0.out.below b1)
          clear b1
          obtain ⟨hl, c0, c1, c2, c3⟩ := D1.out
          have hmc := HC2.out _ M1.out hm0
          go_wp2_with fail
          refine (HI1.out _ T1.out).mono ?_
          rintro e w3 ⟨rfl, b3⟩
          have k3 := k1.trans (b3.mono k1.size)
          have D3 := Lib.hid (D1.out.below b3)
          have D4_ := Lib.hid (D3.out.below (box_below w3 (.cells #[.string ⟨#[]⟩, .string p2, .string p1] 9)))
          have k4 := k3.trans ((box_below w3 (.cells #[.string ⟨#[]⟩, .string p2, .string p1] 9)).mono k3.size)
          clear b3 hl c0 c1 c2 c3
          go_wp2_with fail
          refine (joinPresent _ _ 3 [⟨#[]⟩, p2, p1] _ ⟨rds_lit rfl, (fun _ a ha => by cases ha; simp), rfl⟩ (by have h0 : (ByteArray.mk #[]).size = 0 := rfl; simp [lens]; omega)).mono ?_
          rintro e w5 ⟨rfl, b5⟩
          have k5 := k4.trans (b5.mono k4.size)
          have D5 := Lib.hid (D4_.out.below b5)
          rw [HJ.out]
          clear b5 k4
          obtain ⟨hl, c0, c1, c2, c3⟩ := D5.out
          generalize hz : ba (_ ++ (_ ++ Lib.decDigits y)) = z
          have HZz : Hid (ba (ltext y m (0 : Nat) true) = ⟨#[99, 97, 46, 32]⟩ ++ z) := Lib.hid (by rw [HE.out, ← hz]; apply ByteArray.ext; simp [ba, ca, HDn.out, HMn.out hm0, hm0])
          have hzs : z.size ≤ 40 := by rw [← hz, ba_size]; exact len40 hp1' (by simp) (by rw [len_size]; omega)
          clear hz
          go_wp2_with fail
          go_ret
          exact ⟨by rw [HZz.out]; rfl, k5⟩
        · have hdp : 0 < d := by omega
          have hdb : ((d : Int) != 0) = true := by simp; omega
          rw [if_neg hd0] at HE
          go_enter Tryz.func140, Tryz.ntmps140
          go_wp2_with fail
          refine (isUnknown y m d true false _ HZ2.out).mono ?_
          rintro e w1 ⟨rfl, b1⟩
          have k1 := HB.out.trans (b1.mono HB.out.size)
          have D1 := Lib.hid (HD.out.below b1)
          have T1 := Lib.hid (HT0.out.below b1)
          have M1 := Lib.hid (HM0.out.below b1)
          clear b1
          obtain ⟨hl, c0, c1, c2, c3⟩ := D1.out
          go_wp2_with fail
          refine (HI3.out _ T1.out).mono ?_
          rintro e w2 ⟨rfl, b2⟩
          have k2 := k1.trans (b2.mono k1.size)
          have D2 := Lib.hid (D1.out.below b2)
          have T2 := Lib.hid (T1.out.below b2)
          have M2 := Lib.hid (M1.out.below b2)
          clear b2 hl c0 c1 c2 c3
          obtain ⟨hl, c0, c1, c2, c3⟩ := D2.out
          have hmc := HC2.out _ M2.out hm0
          go_wp2_with fail
          refine (HI1.out _ T2.out).mono ?_
          rintro e w3 ⟨rfl, b3⟩
          have k3 := k2.trans (b3.mono k2.size)
          have D3 := Lib.hid (D2.out.below b3)
          have D4_ := Lib.hid (D3.out.below (box_below w3 (.cells #[.string p3, .string p2, .string p1] 9)))
          have k4 := k3.trans ((box_below w3 (.cells #[.string p3, .string p2, .string p1] 9)).mono k3.size)
          clear b3 hl c0 c1 c2 c3
          go_wp2_with fail
          refine (joinPresent _ _ 3 [p3, p2, p1] _ ⟨rds_lit rfl, (fun _ a ha => by cases ha; simp), rfl⟩ (by have h0 : (ByteArray.mk #[]).size = 0 := rfl; simp [lens]; omega)).mono ?_
          rintro e w5 ⟨rfl, b5⟩
          have k5 := k4.trans (b5.mono k4.size)
          have D5 := Lib.hid (D4_.out.below b5)
          rw [HJ.out]
          clear b5 k4
          obtain ⟨hl, c0, c1, c2, c3⟩ := D5.out
          generalize hz : ba (_ ++ (_ ++ Lib.decDigits y)) = z
          have HZz : Hid (ba (ltext y m d true) = ⟨#[99, 97, 46, 32]⟩ ++ z) := Lib.hid (by rw [HE.out, ← hz]; apply ByteArray.ext; simp [ba, ca, HDn.out, HMn.out hm0, hm0, hd0])
          have hzs : z.size ≤ 40 := by rw [← hz, ba_size]; exact len40 hp1' (by rw [len_size]; omega) (by rw [len_size]; omega)
          clear hz
          go_wp2_with fail
          go_ret
          exact ⟨by rw [HZz.out]; rfl, k5⟩

end Go.Proofs.YteccmlpibbchbaaGreatDoor.Ldi
/-
  The year and the date of a valid entry as they are rendered: contracts of knownLongDate and l10Year. (Parted from Rdf.)
-/
namespace Go.Proofs.YteccmlpibbchbaaGreatDoor.Rdf
open Go.RowKit Pl Strs Help NmPl LdPl
open Num (Tab Tab.below)
open LaidS (StrTab)
set_option linter.unusedSimpArgs false
set_option linter.unusedVariables false

/-- the long form of a date; none for the unknown one -/
def dlT (y m d : Int) (c : Bool) : ByteArray := if y = 0 then ⟨#[]⟩ else ba (ltext y.toNat m.toNat d.toNat c)
/-- the names of the months lie as laid -/
abbrev Mon (w : World) : Prop := StrTab 0 (mons.drop 1) w
theorem ok_year {y m d : Int} {c : Bool} (h : DtPl.okB y m d c = true) : DtPl.okB y 0 0 c = true := by
  rw [DtPl.okB_iff] at h ⊢
  cases c with
  | true => rw [DtPl.okT] at h ⊢; omega
  | false => rw [DtPl.okF] at h ⊢; omega
theorem ltext_year (y : Nat) (c : Bool) (h : y ≠ 0) : ltext y 0 0 c = (if c then ca else []) ++ Lib.decDigits y := by
  unfold ltext lbody
  rw [if_neg h]
  simp
set_option maxHeartbeats 1000000 in
theorem long_i (y m d : Int) (c : Bool) (w : World) (hv : DtPl.okB y m d c = true) (ht : Tab w) (hmn : Mon w) :
    Calls Tryz.prog 125 #[.agg #[.int .i64 y, .int .i64 m, .int .i64 d, .bool c]] w fun e w' => e = .returned (.string (dlT y m d c)) ∧ Below w.heap.size w w' := by
  have hz := DtPl.ok_zero hv
  have hbd := DtPl.ok_bd hv
  obtain ⟨y, rfl⟩ := Int.eq_ofNat_of_zero_le hbd.1
  obtain ⟨m, rfl⟩ := Int.eq_ofNat_of_zero_le hbd.2.2.1
  obtain ⟨d, rfl⟩ := Int.eq_ofNat_of_zero_le hbd.2.2.2.2.1
  have HT := Lib.hid (fun w' (hb : Below w.heap.size w w') => Ldi.iLong y m d c w' hv (ht.below hb) (hmn.below hb))
  have HU := Lib.hid (fun w' => Dt.isUnknown y m d c _ w' hz)
  clear hz hv ht hmn
  by_cases h0 : (y : Int) = 0
  · have HV : Hid (dlT y m d c = ⟨#[]⟩) := Lib.hid (if_pos h0)
    rw [decide_eq_true h0] at HU
    clear h0
    go_enter Tryz.func125, Tryz.ntmps125
    go_wp2_with fail
    refine (HU.out _).mono ?_
    rintro e w1 ⟨rfl, b1⟩
    go_wp2_with fail
    go_ret
    exact ⟨by rw [HV.out]; rfl, (Dt.box_below _ _).trans (b1.mono (Dt.box_below _ _).size)⟩
  · have HV : Hid (dlT y m d c = ba (ltext y m d c)) := Lib.hid ((if_neg h0).trans (by simp only [Int.toNat_natCast]))
    rw [decide_eq_false h0] at HU
    clear h0
    go_enter Tryz.func125, Tryz.ntmps125
    go_wp2_with fail
    refine (HU.out _).mono ?_
    rintro e w1 ⟨rfl, b1⟩
    have HB1 := Lib.hid ((Dt.box_below w (.cells #[.int .i64 y, .int .i64 m, .int .i64 d, .bool c] 56)).trans (b1.mono (Dt.box_below w (.cells #[.int .i64 y, .int .i64 m, .int .i64 d, .bool c] 56)).size))
    obtain ⟨x0, x1, x2, x3⟩ : (w1.cell? ⟨w.heap.size, 0, none⟩ = some (.int .i64 y) ∧ w1.cell? ⟨w.heap.size, 1, none⟩ = some (.int .i64 m) ∧ w1.cell? ⟨w.heap.size, 2, none⟩ = some (.int .i64 d) ∧ w1.cell? ⟨w.heap.size, 3, none⟩ = some (.bool c)) := by
      refine ⟨(b1.cell (p := ⟨w.heap.size, 0, none⟩) (by simp)).trans (by simp), (b1.cell (p := ⟨w.heap.size, 1, none⟩) (by simp)).trans (by simp), (b1.cell (p := ⟨w.heap.size, 2, none⟩) (by simp)).trans (by simp), (b1.cell (p := ⟨w.heap.size, 3, none⟩) (by simp)).trans (by simp)⟩
    clear b1
    go_wp2_with fail
    refine (HT.out _ HB1.out).mono ?_
    rintro e w2 ⟨rfl, b2⟩
    go_wp2_with fail
    go_ret
    exact ⟨by rw [HV.out]; rfl, HB1.out.trans (b2.mono HB1.out.size)⟩
theorem ca_ba (u : Nat) : (⟨#[99, 97, 46, 32]⟩ : ByteArray) ++ ba (Lib.decDigits u) = ba (ca ++ Lib.decDigits u) := by
  apply ByteArray.ext
  simp [ba, ca]
set_option maxHeartbeats 1000000 in
theorem year_s (y m d : Int) (c : Bool) (w : World) (hv : DtPl.okB y m d c = true) :
    Calls Tryz.prog 69 #[.agg #[.int .i64 y, .int .i64 m, .int .i64 d, .bool c]] w fun e w' => e = .returned (.string (dlT y 0 0 c)) ∧ Below w.heap.size w w' := by
  have hbd := DtPl.ok_bd hv
  obtain ⟨y, rfl⟩ := Int.eq_ofNat_of_zero_le hbd.1
  have hy : y ≤ 2999 := by omega
  have HNm := Lib.hid (fun w => Ld.num_below y (by omega) w)
  have HB := Lib.hid (Dt.box_below w (.cells #[.int .i64 y, .int .i64 m, .int .i64 d, .bool c] 56))
  have hln : (Lib.decDigits y).length ≤ 3000 := Nat.le_trans (Num.dec_len y) (by omega)
  have hsz : (ba (Lib.decDigits y)).size ≤ 3000 := by rw [ba_size]; exact hln
  clear hv hbd hln
  by_cases h0 : y = 0
  · have HV : Hid (dlT y 0 0 c = ⟨#[]⟩) := Lib.hid (if_pos (by omega))
    subst h0
    go_enter Tryz.func69, Tryz.ntmps69
    go_wp2_with fail
    go_ret
    exact ⟨by rw [HV.out]; rfl, HB.out⟩
  · have HV : Hid (dlT y 0 0 c = ba ((if c then ca else []) ++ Lib.decDigits y)) := Lib.hid ((if_neg (by omega)).trans (by rw [← ltext_year y c h0]; simp only [Int.toNat_natCast]; rfl))
    have hd : decide ((y : Int) = 0) = false := by simpa using h0
    have hd' : ((y : Int) == 0) = false := by simpa using h0
    have HC := Lib.hid (ca_ba y)
    clear h0
    generalize hDd : ba (Lib.decDigits y) = D at *
    have HDd := Lib.hid hDd
    clear hDd
    cases c with
    | false =>
      go_enter Tryz.func69, Tryz.ntmps69
      go_wp2_with fail
      refine (HNm.out _).mono ?_
      rintro e w1 ⟨rfl, b1⟩
      go_wp2_with fail
      go_ret
      exact ⟨by rw [HV.out]; exact Ld.ret_str (by rw [← HDd.out]; simp), HB.out.trans (b1.mono HB.out.size)⟩
    | true =>
      go_enter Tryz.func69, Tryz.ntmps69
      go_wp2_with fail
      refine (HNm.out _).mono ?_
      rintro e w1 ⟨rfl, b1⟩
      go_wp2_with fail
      go_ret
      exact ⟨by rw [HV.out]; exact Ld.ret_str HC.out, HB.out.trans (b1.mono HB.out.size)⟩

end Go.Proofs.YteccmlpibbchbaaGreatDoor.Rdf
