/-
  Several texts of one claim in one file: DtF, DtG.
-/
import Derived.Test.YtnekhfajolgjpaaGreatDoorDt2
import Derived.Test.YtnekhfajolgjpaaGreatDoorDtTx
import Derived.Test.YtnekhfajolgjpaaGreatDoorNum
import Derived.LoopTactic
/-
  Contracts of chapter 3's texts: l3Pad, padDecimal, l3Text, dateText, FormatDate of both.
-/
namespace Go.Proofs.YtnekhfajolgjpaaGreatDoor.DtF
open Go.RowKit Pl DtPl Dt DtTx Num ReadPl
set_option linter.unusedSimpArgs false
set_option linter.unusedVariables false

def strOf (v : Value) : ByteArray := match v with | .string s => s | _ => ⟨#[]⟩
theorem cons_ba (c : UInt8) (o : ByteArray) : (ByteArray.mk #[c]) ++ o = ba (c :: o.data.toList) := by
  apply ByteArray.ext; simp [ba]
theorem eq_ba {a : ByteArray} {l : List UInt8} (h : a.data.toList = l) : a = ba l := by rw [← h, ba_toList]

theorem one48 : (ByteArray.mk #[48]).size = 1 := rfl
set_option maxRecDepth 100000 in
set_option maxHeartbeats 1000000 in
theorem l3Pad (u k : Nat) (w : World) (hu : u ≤ 9999) (hk : k ≤ 4) :
    Calls Tryz.prog 77 #[.int .i64 u, .int .i64 k] w fun e w' => e = .returned (.string (ba (pad u k))) ∧ Below w.heap.size w w' := by
  have h1 := dec_pos u
  have h2 := dec_le 3 u (by omega)
  have HN := Lib.hid (fun w => l1Num_nat u (by omega) w)
  have HP : Hid (pad u k = List.replicate (k - (Lib.decDigits u).length) 48 ++ Lib.decDigits u) := Lib.hid rfl
  generalize Lib.decDigits u = D at *
  obtain ⟨L, HL⟩ : ∃ L, Hid (D.length = L) := ⟨_, Lib.hid rfl⟩
  rw [HL.out] at h1 h2
  go_enter Tryz.func77, Tryz.ntmps77
  go_wp2_with fail
  refine (HN.out _).mono ?_
  rintro e w' ⟨rfl, q, rfl⟩
  go_wp2_with fail
  go_loop [5] (fun v => ∃ (j : Nat) (o : ByteArray), v = .string o ∧ Hid (o.data.toList = List.replicate j 48 ++ D) ∧ j + L ≤ o.size ∧ o.size ≤ j + L ∧ j ≤ k - L) (fun v => k - (strOf v).size)
  case atStart => exact ⟨0, _, rfl, Lib.hid (by rw [toList_ba]; rfl), by rw [ba_size, HL.out]; omega, by rw [ba_size, HL.out]; omega, Nat.zero_le _⟩
  case round =>
    obtain ⟨j, o, rfl, HO, ho1, ho2, hj⟩ := hrel
    by_cases hlt : o.size < k
    · go_wp2_with fail
      go_round
      case rel =>
        refine ⟨j + 1, _, rfl, Lib.hid ?_, ?_, ?_, by omega⟩
        · rw [cons_ba, toList_ba, HO.out]; rfl
        · rw [ByteArray.size_append, one48]; omega
        · rw [ByteArray.size_append, one48]; omega
      case measure => simp [strOf, ByteArray.size_append, one48]; omega
    · have HE : Hid (o = ba (pad u k)) := Lib.hid (eq_ba (by rw [HO.out, HP.out, HL.out, show j = k - L by omega]))
      go_wp2_with fail
      go_ret
      exact ⟨by rw [HE.out]; rfl, below_drewN (Below.refl _ _) q⟩

theorem rep_l (c : Nat) : Lib.repeatL [48] c = List.replicate c 48 := by
  induction c with
  | zero => rfl
  | succ c ih => show [48] ++ Lib.repeatL [48] c = _; rw [ih]; rfl
set_option maxRecDepth 100000 in
set_option maxHeartbeats 1000000 in
theorem padDecimal (u k : Nat) (w : World) (hu : u ≤ 9999) (hk : k ≤ 4) (ht : Tab w) :
    Calls Tryz.prog 101 #[.int .i64 u, .int .i64 k] w fun e w' => e = .returned (.string (ba (pad u k))) ∧ Below w.heap.size w w' := by
  have h1 := dec_pos u
  have h2 := dec_le 3 u (by omega)
  have HI := Lib.hid (Tryz.strconv_Itoa u (by omega) (by omega) w ht)
  rw [itoa_nat] at HI
  have HP : Hid (pad u k = List.replicate (k - (Lib.decDigits u).length) 48 ++ Lib.decDigits u) := Lib.hid rfl
  generalize Lib.decDigits u = D at *
  have hs : (ba D).size = D.length := ba_size D
  have HD : Hid ((ba D).data.toList = D) := Lib.hid (toList_ba D)
  clear ht
  generalize hL : D.length = L at *
  change Hid (Calls _ _ _ _ fun e w' => e = .returned (.string (ba D)) ∧ _) at HI
  generalize ba D = o at *
  have HS := Lib.hid hs
  have hs1 : L ≤ o.size := by omega
  have hs2 : o.size ≤ L := by omega
  clear hs hL
  go_enter Tryz.func101, Tryz.ntmps101
  go_wp2_with fail
  refine HI.out.mono ?_
  rintro e w1 ⟨rfl, k', os, hw⟩
  have b1 : Below w.heap.size w w1 := by rw [hw]; exact grow_below w k' os
  clear hw
  go_wp2_with fail
  have hm : max (0 : Int) ((k : Int) - (o.size : Int)) = ((k - L : Nat) : Int) := by omega
  rw [hm]
  have HR := Lib.hid (Tryz.strings_Repeat ⟨#[48]⟩ (k - L) w1 (by omega) (by rw [one48]; omega))
  rw [show (ByteArray.mk #[48]).data.toList = [48] from rfl, rep_l] at HR
  have HE : Hid (ByteArray.mk (List.replicate (k - L) (48 : UInt8)).toArray ++ o = ba (pad u k)) := Lib.hid (by
    rw [HP.out]; apply ByteArray.ext; rw [← HD.out]; simp [ba])
  have hz : (ByteArray.mk (List.replicate (k - L) (48 : UInt8)).toArray).size ≤ 4 := by simp [ByteArray.size]; omega
  generalize ByteArray.mk (List.replicate (k - L) (48 : UInt8)).toArray = z at *
  clear hm
  refine HR.out.mono ?_
  rintro e w2 ⟨rfl, b2⟩
  go_wp2_with fail
  go_ret
  exact ⟨by rw [← HE.out]; rfl, b1.trans (b2.mono b1.size)⟩
end Go.Proofs.YtnekhfajolgjpaaGreatDoor.DtF
/-
  Contracts of chapter 3's texts: l3Text, dateText.
-/
namespace Go.Proofs.YtnekhfajolgjpaaGreatDoor.DtF
open Go.RowKit Pl DtPl Dt DtTx Num ReadPl
set_option linter.unusedSimpArgs false
set_option linter.unusedVariables false

theorem ret_str {a b : ByteArray} (h : a = b) : Ending.returned (.string a) = .returned (.string b) := by rw [h]

set_option maxRecDepth 100000 in
set_option maxHeartbeats 4000000 in
theorem sText (y m d : Nat) (c : Bool) (w : World) (hv : okB y m d c = true) :
    Calls Tryz.prog 52 #[dtV y m d c] w fun e w' => e = .returned (.string (ba (text y m d c))) ∧ Below w.heap.size w w' := by
  have HB := Lib.hid (box_below w (.cells #[.int .i64 (y : Int), .int .i64 (m : Int), .int .i64 (d : Int), .bool c] 31))
  have HD := Lib.hid (D4.new w y m d c 31)
  have HV := Lib.hid hv
  obtain ⟨_, hy, _, hm, _, hd⟩ := ok_bd hv
  replace hy : y ≤ 2999 := by omega
  replace hm : m ≤ 12 := by omega
  replace hd : d ≤ 31 := by omega
  clear hv
  by_cases hy0 : y = 0
  · have HE : Hid (text y m d c = unk) := Lib.hid (by unfold text; rw [if_pos (by omega)])
    subst hy0
    go_enter Tryz.func52, Tryz.ntmps52
    go_wp2_with fail
    go_ret
    exact ⟨by rw [HE.out]; rfl, HB.out⟩
  · have HE : Hid (text y m d c = (if c then [99] else []) ++ (pad y 4 ++ ((if m = 0 then [] else 45 :: pad m 2) ++ (if d = 0 then [] else 45 :: pad d 2)))) := Lib.hid (by
      unfold text body
      rw [if_neg (by omega)]
      simp)
    have hp1 : (ba (pad y 4)).size ≤ 4 := by rw [ba_size]; exact pad_len4 (by omega) 4 (by omega)
    have hp2 : (ba (pad m 2)).size ≤ 4 := by rw [ba_size]; exact pad_len4 (by omega) 2 (by omega)
    have hp3 : (ba (pad d 2)).size ≤ 4 := by rw [ba_size]; exact pad_len4 (by omega) 2 (by omega)
    have H1 : Hid (pad y 4 = (ba (pad y 4)).data.toList) := Lib.hid (toList_ba _).symm
    have H2 : Hid (pad m 2 = (ba (pad m 2)).data.toList) := Lib.hid (toList_ba _).symm
    have H3 : Hid (pad d 2 = (ba (pad d 2)).data.toList) := Lib.hid (toList_ba _).symm
    have HC1 : Hid (∀ w, Calls Tryz.prog 77 #[.int .i64 (y : Int), .int .i64 4] w fun e w' => e = .returned (.string (ba (pad y 4))) ∧ Below w.heap.size w w') := Lib.hid (fun w => l3Pad y 4 w (by omega) (by omega))
    have HC2 : Hid (∀ w, Calls Tryz.prog 77 #[.int .i64 (m : Int), .int .i64 2] w fun e w' => e = .returned (.string (ba (pad m 2))) ∧ Below w.heap.size w w') := Lib.hid (fun w => l3Pad m 2 w (by omega) (by omega))
    have HC3 : Hid (∀ w, Calls Tryz.prog 77 #[.int .i64 (d : Int), .int .i64 2] w fun e w' => e = .returned (.string (ba (pad d 2))) ∧ Below w.heap.size w w') := Lib.hid (fun w => l3Pad d 2 w (by omega) (by omega))
    generalize ba (pad y 4) = p1 at *
    generalize ba (pad m 2) = p2 at *
    generalize ba (pad d 2) = p3 at *
    rw [H1.out, H2.out, H3.out] at HE
    clear H1 H2 H3
    have hyp : 0 < y := by omega
    have hyn : ((y : Int) == 0) = false := by simp; omega
    clear hy0
    cases c
    · by_cases hm0 : m = 0
      · subst hm0
        rw [if_pos rfl] at HE
        by_cases hd0 : d = 0
        · subst hd0
          rw [if_pos rfl] at HE
          go_enter Tryz.func52, Tryz.ntmps52
          go_wp2_with fail
          refine (HC1.out _).mono ?_
          rintro e w1 ⟨rfl, b1⟩
          have k1 := HB.out.trans (b1.mono HB.out.size)
          have D1 := Lib.hid (HD.out.below b1)
          clear b1
          obtain ⟨hl, c0, c1, c2, c3⟩ := D1.out
          go_wp2_with fail
          go_ret
          refine ⟨ret_str ?_, k1⟩
          rw [HE.out]
          apply ByteArray.ext
          simp [ba]
        · have hdp : 0 < d := by omega
          have hdn : ((d : Int) == 0) = false := by simp; omega
          have hdb : ((d : Int) != 0) = true := by simp; omega
          have hdd : decide (0 < (d : Int)) = true := by simp; omega
          rw [if_neg (show ¬ d = 0 by omega)] at HE
          clear hd0
          go_enter Tryz.func52, Tryz.ntmps52
          go_wp2_with fail
          refine (HC1.out _).mono ?_
          rintro e w1 ⟨rfl, b1⟩
          have k1 := HB.out.trans (b1.mono HB.out.size)
          have D1 := Lib.hid (HD.out.below b1)
          clear b1
          obtain ⟨hl, c0, c1, c2, c3⟩ := D1.out
          go_wp2_with fail
          refine (HC3.out _).mono ?_
          rintro e w3 ⟨rfl, b3⟩
          have k3 := k1.trans (b3.mono k1.size)
          have D3 := Lib.hid (D1.out.below b3)
          clear b3
          clear hl c0 c1 c2 c3
          obtain ⟨hl, c0, c1, c2, c3⟩ := D3.out
          go_wp2_with fail
          go_ret
          refine ⟨ret_str ?_, k3⟩
          rw [HE.out]
          apply ByteArray.ext
          simp [ba]
      · have hmp : 0 < m := by omega
        have hmn : ((m : Int) == 0) = false := by simp; omega
        have hmb : ((m : Int) != 0) = true := by simp; omega
        have hmd : decide (0 < (m : Int)) = true := by simp; omega
        rw [if_neg (show ¬ m = 0 by omega)] at HE
        clear hm0
        by_cases hd0 : d = 0
        · subst hd0
          rw [if_pos rfl] at HE
          go_enter Tryz.func52, Tryz.ntmps52
          go_wp2_with fail
          refine (HC1.out _).mono ?_
          rintro e w1 ⟨rfl, b1⟩
          have k1 := HB.out.trans (b1.mono HB.out.size)
          have D1 := Lib.hid (HD.out.below b1)
          clear b1
          obtain ⟨hl, c0, c1, c2, c3⟩ := D1.out
          go_wp2_with fail
          refine (HC2.out _).mono ?_
          rintro e w2 ⟨rfl, b2⟩
          have k2 := k1.trans (b2.mono k1.size)
          have D2 := Lib.hid (D1.out.below b2)
          clear b2
          clear hl c0 c1 c2 c3
          obtain ⟨hl, c0, c1, c2, c3⟩ := D2.out
          go_wp2_with fail
          go_ret
          refine ⟨ret_str ?_, k2⟩
          rw [HE.out]
          apply ByteArray.ext
          simp [ba]
        · have hdp : 0 < d := by omega
          have hdn : ((d : Int) == 0) = false := by simp; omega
          have hdb : ((d : Int) != 0) = true := by simp; omega
          have hdd : decide (0 < (d : Int)) = true := by simp; omega
          rw [if_neg (show ¬ d = 0 by omega)] at HE
          clear hd0
          go_enter Tryz.func52, Tryz.ntmps52
          go_wp2_with fail
          refine (HC1.out _).mono ?_
          rintro e w1 ⟨rfl, b1⟩
          have k1 := HB.out.trans (b1.mono HB.out.size)
          have D1 := Lib.hid (HD.out.below b1)
          clear b1
          obtain ⟨hl, c0, c1, c2, c3⟩ := D1.out
          go_wp2_with fail
          refine (HC2.out _).mono ?_
          rintro e w2 ⟨rfl, b2⟩
          have k2 := k1.trans (b2.mono k1.size)
          have D2 := Lib.hid (D1.out.below b2)
          clear b2
          clear hl c0 c1 c2 c3
          obtain ⟨hl, c0, c1, c2, c3⟩ := D2.out
          go_wp2_with fail
          refine (HC3.out _).mono ?_
          rintro e w3 ⟨rfl, b3⟩
          have k3 := k2.trans (b3.mono k2.size)
          have D3 := Lib.hid (D2.out.below b3)
          clear b3
          clear hl c0 c1 c2 c3
          obtain ⟨hl, c0, c1, c2, c3⟩ := D3.out
          go_wp2_with fail
          go_ret
          refine ⟨ret_str ?_, k3⟩
          rw [HE.out]
          apply ByteArray.ext
          simp [ba]
    · by_cases hm0 : m = 0
      · subst hm0
        rw [if_pos rfl] at HE
        by_cases hd0 : d = 0
        · subst hd0
          rw [if_pos rfl] at HE
          go_enter Tryz.func52, Tryz.ntmps52
          go_wp2_with fail
          refine (HC1.out _).mono ?_
          rintro e w1 ⟨rfl, b1⟩
          have k1 := HB.out.trans (b1.mono HB.out.size)
          have D1 := Lib.hid (HD.out.below b1)
          clear b1
          obtain ⟨hl, c0, c1, c2, c3⟩ := D1.out
          go_wp2_with fail
          go_ret
          refine ⟨ret_str ?_, k1⟩
          rw [HE.out]
          apply ByteArray.ext
          simp [ba]
        · have hdp : 0 < d := by omega
          have hdn : ((d : Int) == 0) = false := by simp; omega
          have hdb : ((d : Int) != 0) = true := by simp; omega
          have hdd : decide (0 < (d : Int)) = true := by simp; omega
          rw [if_neg (show ¬ d = 0 by omega)] at HE
          clear hd0
          go_enter Tryz.func52, Tryz.ntmps52
          go_wp2_with fail
          refine (HC1.out _).mono ?_
          rintro e w1 ⟨rfl, b1⟩
          have k1 := HB.out.trans (b1.mono HB.out.size)
          have D1 := Lib.hid (HD.out.below b1)
          clear b1
          obtain ⟨hl, c0, c1, c2, c3⟩ := D1.out
          go_wp2_with fail
          refine (HC3.out _).mono ?_
          rintro e w3 ⟨rfl, b3⟩
          have k3 := k1.trans (b3.mono k1.size)
          have D3 := Lib.hid (D1.out.below b3)
          clear b3
          clear hl c0 c1 c2 c3
          obtain ⟨hl, c0, c1, c2, c3⟩ := D3.out
          go_wp2_with fail
          go_ret
          refine ⟨ret_str ?_, k3⟩
          rw [HE.out]
          apply ByteArray.ext
          simp [ba]
      · have hmp : 0 < m := by omega
        have hmn : ((m : Int) == 0) = false := by simp; omega
        have hmb : ((m : Int) != 0) = true := by simp; omega
        have hmd : decide (0 < (m : Int)) = true := by simp; omega
        rw [if_neg (show ¬ m = 0 by omega)] at HE
        clear hm0
        by_cases hd0 : d = 0
        · subst hd0
          rw [if_pos rfl] at HE
          go_enter Tryz.func52, Tryz.ntmps52
          go_wp2_with fail
          refine (HC1.out _).mono ?_
          rintro e w1 ⟨rfl, b1⟩
          have k1 := HB.out.trans (b1.mono HB.out.size)
          have D1 := Lib.hid (HD.out.below b1)
          clear b1
          obtain ⟨hl, c0, c1, c2, c3⟩ := D1.out
          go_wp2_with fail
          refine (HC2.out _).mono ?_
          rintro e w2 ⟨rfl, b2⟩
          have k2 := k1.trans (b2.mono k1.size)
          have D2 := Lib.hid (D1.out.below b2)
          clear b2
          clear hl c0 c1 c2 c3
          obtain ⟨hl, c0, c1, c2, c3⟩ := D2.out
          go_wp2_with fail
          go_ret
          refine ⟨ret_str ?_, k2⟩
          rw [HE.out]
          apply ByteArray.ext
          simp [ba]
        · have hdp : 0 < d := by omega
          have hdn : ((d : Int) == 0) = false := by simp; omega
          have hdb : ((d : Int) != 0) = true := by simp; omega
          have hdd : decide (0 < (d : Int)) = true := by simp; omega
          rw [if_neg (show ¬ d = 0 by omega)] at HE
          clear hd0
          go_enter Tryz.func52, Tryz.ntmps52
          go_wp2_with fail
          refine (HC1.out _).mono ?_
          rintro e w1 ⟨rfl, b1⟩
          have k1 := HB.out.trans (b1.mono HB.out.size)
          have D1 := Lib.hid (HD.out.below b1)
          clear b1
          obtain ⟨hl, c0, c1, c2, c3⟩ := D1.out
          go_wp2_with fail
          refine (HC2.out _).mono ?_
          rintro e w2 ⟨rfl, b2⟩
          have k2 := k1.trans (b2.mono k1.size)
          have D2 := Lib.hid (D1.out.below b2)
          clear b2
          clear hl c0 c1 c2 c3
          obtain ⟨hl, c0, c1, c2, c3⟩ := D2.out
          go_wp2_with fail
          refine (HC3.out _).mono ?_
          rintro e w3 ⟨rfl, b3⟩
          have k3 := k2.trans (b3.mono k2.size)
          have D3 := Lib.hid (D2.out.below b3)
          clear b3
          clear hl c0 c1 c2 c3
          obtain ⟨hl, c0, c1, c2, c3⟩ := D3.out
          go_wp2_with fail
          go_ret
          refine ⟨ret_str ?_, k3⟩
          rw [HE.out]
          apply ByteArray.ext
          simp [ba]


set_option maxRecDepth 100000 in
set_option maxHeartbeats 4000000 in
theorem iText (y m d : Nat) (c : Bool) (w : World) (hv : okB y m d c = true) (ht : Tab w) :
    Calls Tryz.prog 88 #[dtV y m d c] w fun e w' => e = .returned (.string (ba (text y m d c))) ∧ Below w.heap.size w w' := by
  have HB := Lib.hid (box_below w (.cells #[.int .i64 (y : Int), .int .i64 (m : Int), .int .i64 (d : Int), .bool c] 31))
  have HD := Lib.hid (D4.new w y m d c 31)
  have HV := Lib.hid hv
  have HT0 : Hid (Tab (w.alloc (.cells #[.int .i64 (y : Int), .int .i64 (m : Int), .int .i64 (d : Int), .bool c] 31))) := Lib.hid (ht.below HB.out)
  have HZ := Lib.hid (ok_zero hv)
  obtain ⟨_, hy, _, hm, _, hd⟩ := ok_bd hv
  replace hy : y ≤ 2999 := by omega
  replace hm : m ≤ 12 := by omega
  replace hd : d ≤ 31 := by omega
  clear hv ht
  by_cases hy0 : y = 0
  · have HE : Hid (text y m d c = unk) := Lib.hid (by unfold text; rw [if_pos (by omega)])
    have HZ2 : Hid (zB y m d c = true) := Lib.hid (by rw [HZ.out]; exact decide_eq_true (by omega))
    clear hy0
    go_enter Tryz.func88, Tryz.ntmps88
    go_wp2_with fail
    refine (isUnknown y m d c true _ HZ2.out).mono ?_
    rintro e w1 ⟨rfl, b1⟩
    go_wp2_with fail
    go_ret
    exact ⟨by rw [HE.out]; rfl, HB.out.trans (b1.mono HB.out.size)⟩
  · have HE : Hid (text y m d c = (if c then [99] else []) ++ (pad y 4 ++ ((if m = 0 then [] else 45 :: pad m 2) ++ (if d = 0 then [] else 45 :: pad d 2)))) := Lib.hid (by
      unfold text body
      rw [if_neg (by omega)]
      simp)
    have hp1 : (ba (pad y 4)).size ≤ 4 := by rw [ba_size]; exact pad_len4 (by omega) 4 (by omega)
    have hp2 : (ba (pad m 2)).size ≤ 4 := by rw [ba_size]; exact pad_len4 (by omega) 2 (by omega)
    have hp3 : (ba (pad d 2)).size ≤ 4 := by rw [ba_size]; exact pad_len4 (by omega) 2 (by omega)
    have H1 : Hid (pad y 4 = (ba (pad y 4)).data.toList) := Lib.hid (toList_ba _).symm
    have H2 : Hid (pad m 2 = (ba (pad m 2)).data.toList) := Lib.hid (toList_ba _).symm
    have H3 : Hid (pad d 2 = (ba (pad d 2)).data.toList) := Lib.hid (toList_ba _).symm
    have HC1 : Hid (∀ w (ht : Tab w), Calls Tryz.prog 101 #[.int .i64 (y : Int), .int .i64 4] w fun e w' => e = .returned (.string (ba (pad y 4))) ∧ Below w.heap.size w w') := Lib.hid (fun w ht => padDecimal y 4 w (by omega) (by omega) ht)
    have HC2 : Hid (∀ w (ht : Tab w), Calls Tryz.prog 101 #[.int .i64 (m : Int), .int .i64 2] w fun e w' => e = .returned (.string (ba (pad m 2))) ∧ Below w.heap.size w w') := Lib.hid (fun w ht => padDecimal m 2 w (by omega) (by omega) ht)
    have HC3 : Hid (∀ w (ht : Tab w), Calls Tryz.prog 101 #[.int .i64 (d : Int), .int .i64 2] w fun e w' => e = .returned (.string (ba (pad d 2))) ∧ Below w.heap.size w w') := Lib.hid (fun w ht => padDecimal d 2 w (by omega) (by omega) ht)
    generalize ba (pad y 4) = p1 at *
    generalize ba (pad m 2) = p2 at *
    generalize ba (pad d 2) = p3 at *
    rw [H1.out, H2.out, H3.out] at HE
    clear H1 H2 H3
    have HZ2 : Hid (zB y m d c = false) := Lib.hid (by rw [HZ.out]; exact decide_eq_false (by omega))
    clear HZ
    have hyp : 0 < y := by omega
    have hyn : ((y : Int) == 0) = false := by simp; omega
    clear hy0
    cases c
    · by_cases hm0 : m = 0
      · subst hm0
        rw [if_pos rfl] at HE
        by_cases hd0 : d = 0
        · subst hd0
          rw [if_pos rfl] at HE
          go_enter Tryz.func88, Tryz.ntmps88
          go_wp2_with fail
          refine (isUnknown _ _ _ _ false _ HZ2.out).mono ?_
          rintro e w0 ⟨rfl, b0⟩
          have k0 := HB.out.trans (b0.mono HB.out.size)
          have D0 := Lib.hid (HD.out.below b0)
          have HT1 : Hid (Tab w0) := Lib.hid (HT0.out.below b0)
          clear b0
          obtain ⟨hl, c0, c1, c2, c3⟩ := D0.out
          go_wp2_with fail
          refine (HC1.out _ HT1.out).mono ?_
          rintro e w1 ⟨rfl, b1⟩
          have k1 := k0.trans (b1.mono k0.size)
          have D1 := Lib.hid (D0.out.below b1)
          have HT2 : Hid (Tab w1) := Lib.hid (HT1.out.below b1)
          clear b1
          clear hl c0 c1 c2 c3
          obtain ⟨hl, c0, c1, c2, c3⟩ := D1.out
          go_wp2_with fail
          go_ret
          refine ⟨ret_str ?_, k1⟩
          rw [HE.out]
          apply ByteArray.ext
          simp [ba]
        · have hdp : 0 < d := by omega
          have hdn : ((d : Int) == 0) = false := by simp; omega
          have hdb : ((d : Int) != 0) = true := by simp; omega
          have hdd : decide (0 < (d : Int)) = true := by simp; omega
          rw [if_neg (show ¬ d = 0 by omega)] at HE
          clear hd0
          go_enter Tryz.func88, Tryz.ntmps88
          go_wp2_with fail
          refine (isUnknown _ _ _ _ false _ HZ2.out).mono ?_
          rintro e w0 ⟨rfl, b0⟩
          have k0 := HB.out.trans (b0.mono HB.out.size)
          have D0 := Lib.hid (HD.out.below b0)
          have HT1 : Hid (Tab w0) := Lib.hid (HT0.out.below b0)
          clear b0
          obtain ⟨hl, c0, c1, c2, c3⟩ := D0.out
          go_wp2_with fail
          refine (HC1.out _ HT1.out).mono ?_
          rintro e w1 ⟨rfl, b1⟩
          have k1 := k0.trans (b1.mono k0.size)
          have D1 := Lib.hid (D0.out.below b1)
          have HT2 : Hid (Tab w1) := Lib.hid (HT1.out.below b1)
          clear b1
          clear hl c0 c1 c2 c3
          obtain ⟨hl, c0, c1, c2, c3⟩ := D1.out
          go_wp2_with fail
          refine (HC3.out _ HT2.out).mono ?_
          rintro e w3 ⟨rfl, b3⟩
          have k3 := k1.trans (b3.mono k1.size)
          have D3 := Lib.hid (D1.out.below b3)
          have HT4 : Hid (Tab w3) := Lib.hid (HT2.out.below b3)
          clear b3
          clear hl c0 c1 c2 c3
          obtain ⟨hl, c0, c1, c2, c3⟩ := D3.out
          go_wp2_with fail
          go_ret
          refine ⟨ret_str ?_, k3⟩
          rw [HE.out]
          apply ByteArray.ext
          simp [ba]
      · have hmp : 0 < m := by omega
        have hmn : ((m : Int) == 0) = false := by simp; omega
        have hmb : ((m : Int) != 0) = true := by simp; omega
        have hmd : decide (0 < (m : Int)) = true := by simp; omega
        rw [if_neg (show ¬ m = 0 by omega)] at HE
        clear hm0
        by_cases hd0 : d = 0
        · subst hd0
          rw [if_pos rfl] at HE
          go_enter Tryz.func88, Tryz.ntmps88
          go_wp2_with fail
          refine (isUnknown _ _ _ _ false _ HZ2.out).mono ?_
          rintro e w0 ⟨rfl, b0⟩
          have k0 := HB.out.trans (b0.mono HB.out.size)
          have D0 := Lib.hid (HD.out.below b0)
          have HT1 : Hid (Tab w0) := Lib.hid (HT0.out.below b0)
          clear b0
          obtain ⟨hl, c0, c1, c2, c3⟩ := D0.out
          go_wp2_with fail
          refine (HC1.out _ HT1.out).mono ?_
          rintro e w1 ⟨rfl, b1⟩
          have k1 := k0.trans (b1.mono k0.size)
          have D1 := Lib.hid (D0.out.below b1)
          have HT2 : Hid (Tab w1) := Lib.hid (HT1.out.below b1)
          clear b1
          clear hl c0 c1 c2 c3
          obtain ⟨hl, c0, c1, c2, c3⟩ := D1.out
          go_wp2_with fail
          refine (HC2.out _ HT2.out).mono ?_
          rintro e w2 ⟨rfl, b2⟩
          have k2 := k1.trans (b2.mono k1.size)
          have D2 := Lib.hid (D1.out.below b2)
          have HT3 : Hid (Tab w2) := Lib.hid (HT2.out.below b2)
          clear b2
          clear hl c0 c1 c2 c3
          obtain ⟨hl, c0, c1, c2, c3⟩ := D2.out
          go_wp2_with fail
          go_ret
          refine ⟨ret_str ?_, k2⟩
          rw [HE.out]
          apply ByteArray.ext
          simp [ba]
        · have hdp : 0 < d := by omega
          have hdn : ((d : Int) == 0) = false := by simp; omega
          have hdb : ((d : Int) != 0) = true := by simp; omega
          have hdd : decide (0 < (d : Int)) = true := by simp; omega
          rw [if_neg (show ¬ d = 0 by omega)] at HE
          clear hd0
          go_enter Tryz.func88, Tryz.ntmps88
          go_wp2_with fail
          refine (isUnknown _ _ _ _ false _ HZ2.out).mono ?_
          rintro e w0 ⟨rfl, b0⟩
          have k0 := HB.out.trans (b0.mono HB.out.size)
          have D0 := Lib.hid (HD.out.below b0)
          have HT1 : Hid (Tab w0) := Lib.hid (HT0.out.below b0)
          clear b0
          obtain ⟨hl, c0, c1, c2, c3⟩ := D0.out
          go_wp2_with fail
          refine (HC1.out _ HT1.out).mono ?_
          rintro e w1 ⟨rfl, b1⟩
          have k1 := k0.trans (b1.mono k0.size)
          have D1 := Lib.hid (D0.out.below b1)
          have HT2 : Hid (Tab w1) := Lib.hid (HT1.out.below b1)
          clear b1
          clear hl c0 c1 c2 c3
          obtain ⟨hl, c0, c1, c2, c3⟩ := D1.out
          go_wp2_with fail
          refine (HC2.out _ HT2.out).mono ?_
          rintro e w2 ⟨rfl, b2⟩
          have k2 := k1.trans (b2.mono k1.size)
          have D2 := Lib.hid (D1.out.below b2)
          have HT3 : Hid (Tab w2) := Lib.hid (HT2.out.below b2)
          clear b2
          clear hl c0 c1 c2 c3
          obtain ⟨hl, c0, c1, c2, c3⟩ := D2.out
          go_wp2_with fail
          refine (HC3.out _ HT3.out).mono ?_
          rintro e w3 ⟨rfl, b3⟩
          have k3 := k2.trans (b3.mono k2.size)
          have D3 := Lib.hid (D2.out.below b3)
          have HT4 : Hid (Tab w3) := Lib.hid (HT3.out.below b3)
          clear b3
          clear hl c0 c1 c2 c3
          obtain ⟨hl, c0, c1, c2, c3⟩ := D3.out
          go_wp2_with fail
          go_ret
          refine ⟨ret_str ?_, k3⟩
          rw [HE.out]
          apply ByteArray.ext
          simp [ba]
    · by_cases hm0 : m = 0
      · subst hm0
        rw [if_pos rfl] at HE
        by_cases hd0 : d = 0
        · subst hd0
          rw [if_pos rfl] at HE
          go_enter Tryz.func88, Tryz.ntmps88
          go_wp2_with fail
          refine (isUnknown _ _ _ _ false _ HZ2.out).mono ?_
          rintro e w0 ⟨rfl, b0⟩
          have k0 := HB.out.trans (b0.mono HB.out.size)
          have D0 := Lib.hid (HD.out.below b0)
          have HT1 : Hid (Tab w0) := Lib.hid (HT0.out.below b0)
          clear b0
          obtain ⟨hl, c0, c1, c2, c3⟩ := D0.out
          go_wp2_with fail
          refine (HC1.out _ HT1.out).mono ?_
          rintro e w1 ⟨rfl, b1⟩
          have k1 := k0.trans (b1.mono k0.size)
          have D1 := Lib.hid (D0.out.below b1)
          have HT2 : Hid (Tab w1) := Lib.hid (HT1.out.below b1)
          clear b1
          clear hl c0 c1 c2 c3
          obtain ⟨hl, c0, c1, c2, c3⟩ := D1.out
          go_wp2_with fail
          go_ret
          refine ⟨ret_str ?_, k1⟩
          rw [HE.out]
          apply ByteArray.ext
          simp [ba]
        · have hdp : 0 < d := by omega
          have hdn : ((d : Int) == 0) = false := by simp; omega
          have hdb : ((d : Int) != 0) = true := by simp; omega
          have hdd : decide (0 < (d : Int)) = true := by simp; omega
          rw [if_neg (show ¬ d = 0 by omega)] at HE
          clear hd0
          go_enter Tryz.func88, Tryz.ntmps88
          go_wp2_with fail
          refine (isUnknown _ _ _ _ false _ HZ2.out).mono ?_
          rintro e w0 ⟨rfl, b0⟩
          have k0 := HB.out.trans (b0.mono HB.out.size)
          have D0 := Lib.hid (HD.out.below b0)
          have HT1 : Hid (Tab w0) := Lib.hid (HT0.out.below b0)
          clear b0
          obtain ⟨hl, c0, c1, c2, c3⟩ := D0.out
          go_wp2_with fail
          refine (HC1.out _ HT1.out).mono ?_
          rintro e w1 ⟨rfl, b1⟩
          have k1 := k0.trans (b1.mono k0.size)
          have D1 := Lib.hid (D0.out.below b1)
          have HT2 : Hid (Tab w1) := Lib.hid (HT1.out.below b1)
          clear b1
          clear hl c0 c1 c2 c3
          obtain ⟨hl, c0, c1, c2, c3⟩ := D1.out
          go_wp2_with fail
          refine (HC3.out _ HT2.out).mono ?_
          rintro e w3 ⟨rfl, b3⟩
          have k3 := k1.trans (b3.mono k1.size)
          have D3 := Lib.hid (D1.out.below b3)
          have HT4 : Hid (Tab w3) := Lib.hid (HT2.out.below b3)
          clear b3
          clear hl c0 c1 c2 c3
          obtain ⟨hl, c0, c1, c2, c3⟩ := D3.out
          go_wp2_with fail
          go_ret
          refine ⟨ret_str ?_, k3⟩
          rw [HE.out]
          apply ByteArray.ext
          simp [ba]
      · have hmp : 0 < m := by omega
        have hmn : ((m : Int) == 0) = false := by simp; omega
        have hmb : ((m : Int) != 0) = true := by simp; omega
        have hmd : decide (0 < (m : Int)) = true := by simp; omega
        rw [if_neg (show ¬ m = 0 by omega)] at HE
        clear hm0
        by_cases hd0 : d = 0
        · subst hd0
          rw [if_pos rfl] at HE
          go_enter Tryz.func88, Tryz.ntmps88
          go_wp2_with fail
          refine (isUnknown _ _ _ _ false _ HZ2.out).mono ?_
          rintro e w0 ⟨rfl, b0⟩
          have k0 := HB.out.trans (b0.mono HB.out.size)
          have D0 := Lib.hid (HD.out.below b0)
          have HT1 : Hid (Tab w0) := Lib.hid (HT0.out.below b0)
          clear b0
          obtain ⟨hl, c0, c1, c2, c3⟩ := D0.out
          go_wp2_with fail
          refine (HC1.out _ HT1.out).mono ?_
          rintro e w1 ⟨rfl, b1⟩
          have k1 := k0.trans (b1.mono k0.size)
          have D1 := Lib.hid (D0.out.below b1)
          have HT2 : Hid (Tab w1) := Lib.hid (HT1.out.below b1)
          clear b1
          clear hl c0 c1 c2 c3
          obtain ⟨hl, c0, c1, c2, c3⟩ := D1.out
          go_wp2_with fail
          refine (HC2.out _ HT2.out).mono ?_
          rintro e w2 ⟨rfl, b2⟩
          have k2 := k1.trans (b2.mono k1.size)
          have D2 := Lib.hid (D1.out.below b2)
          have HT3 : Hid (Tab w2) := Lib.hid (HT2.out.below b2)
          clear b2
          clear hl c0 c1 c2 c3
          obtain ⟨hl, c0, c1, c2, c3⟩ := D2.out
          go_wp2_with fail
          go_ret
          refine ⟨ret_str ?_, k2⟩
          rw [HE.out]
          apply ByteArray.ext
          simp [ba]
        · have hdp : 0 < d := by omega
          have hdn : ((d : Int) == 0) = false := by simp; omega
          have hdb : ((d : Int) != 0) = true := by simp; omega
          have hdd : decide (0 < (d : Int)) = true := by simp; omega
          rw [if_neg (show ¬ d = 0 by omega)] at HE
          clear hd0
          go_enter Tryz.func88, Tryz.ntmps88
          go_wp2_with fail
          refine (isUnknown _ _ _ _ false _ HZ2.out).mono ?_
          rintro e w0 ⟨rfl, b0⟩
          have k0 := HB.out.trans (b0.mono HB.out.size)
          have D0 := Lib.hid (HD.out.below b0)
          have HT1 : Hid (Tab w0) := Lib.hid (HT0.out.below b0)
          clear b0
          obtain ⟨hl, c0, c1, c2, c3⟩ := D0.out
          go_wp2_with fail
          refine (HC1.out _ HT1.out).mono ?_
          rintro e w1 ⟨rfl, b1⟩
          have k1 := k0.trans (b1.mono k0.size)
          have D1 := Lib.hid (D0.out.below b1)
          have HT2 : Hid (Tab w1) := Lib.hid (HT1.out.below b1)
          clear b1
          clear hl c0 c1 c2 c3
          obtain ⟨hl, c0, c1, c2, c3⟩ := D1.out
          go_wp2_with fail
          refine (HC2.out _ HT2.out).mono ?_
          rintro e w2 ⟨rfl, b2⟩
          have k2 := k1.trans (b2.mono k1.size)
          have D2 := Lib.hid (D1.out.below b2)
          have HT3 : Hid (Tab w2) := Lib.hid (HT2.out.below b2)
          clear b2
          clear hl c0 c1 c2 c3
          obtain ⟨hl, c0, c1, c2, c3⟩ := D2.out
          go_wp2_with fail
          refine (HC3.out _ HT3.out).mono ?_
          rintro e w3 ⟨rfl, b3⟩
          have k3 := k2.trans (b3.mono k2.size)
          have D3 := Lib.hid (D2.out.below b3)
          have HT4 : Hid (Tab w3) := Lib.hid (HT3.out.below b3)
          clear b3
          clear hl c0 c1 c2 c3
          obtain ⟨hl, c0, c1, c2, c3⟩ := D3.out
          go_wp2_with fail
          go_ret
          refine ⟨ret_str ?_, k3⟩
          rw [HE.out]
          apply ByteArray.ext
          simp [ba]

end Go.Proofs.YtnekhfajolgjpaaGreatDoor.DtF
