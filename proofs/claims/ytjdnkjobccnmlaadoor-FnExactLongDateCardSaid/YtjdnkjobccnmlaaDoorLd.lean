/-
  Contracts of l3Months, l3Long and LongDate of the model.
-/
import Derived.Test.YtjdnkjobccnmlaaDoorDt2
import Derived.Test.YtjdnkjobccnmlaaDoorLdPl
import Derived.Test.YtjdnkjobccnmlaaDoorNum
import Derived.LoopTactic
import Derived.Deep.RegionWith
namespace Go.Proofs.YtjdnkjobccnmlaaDoor.Ld
open Go.RowKit Pl NmPl DtPl Dt DtTx LdPl Num ReadPl
set_option linter.unusedSimpArgs false
set_option linter.unusedVariables false

theorem ret_str {a b : ByteArray} (h : a = b) : Ending.returned (.string a) = .returned (.string b) := by rw [h]
theorem monB_size (m : Nat) (h : m ≤ 12) : (monB m).size ≤ 9 := by
  unfold monB
  rw [ba_size]
  rcases m with _ | m
  · decide
  · exact (mon_ne (m := m + 1) ⟨by omega, by omega⟩).2
set_option maxRecDepth 100000 in
set_option maxHeartbeats 1000000 in
theorem l3Months (w : World) : Calls Tryd.prog 123 #[] w fun e w' => ∃ g, e = .returned (.slice (some ⟨g, 0, none⟩) 13 13) ∧ Below w.heap.size w w' ∧ ∀ k, k ≤ 12 → w'.cell? ⟨g, k, none⟩ = some (.string (monB k)) := by
  go_enter Tryd.func123, Tryd.ntmps123
  go_wp2_with fail
  go_ret
  refine ⟨w.heap.size, rfl, box_below w _, fun k hk => ?_⟩
  rcases k with _ | _ | _ | _ | _ | _ | _ | _ | _ | _ | _ | _ | _ | k
  all_goals first | omega | (simp; rfl)

/-- nothing that lies in W has changed -/
def Kept (W w' : World) : Prop := Below W.heap.size W w'
theorem Kept.drew (W : World) : Kept W W.drew := (Below.refl _ _).drew
theorem Kept.next {W w1 w2 : World} (h : Kept W w1) (h2 : Below w1.heap.size w1 w2) : Kept W w2 := Below.trans h (h2.mono (Below.size h))
theorem num_below (u : Nat) (h : u ≤ 999999) (w : World) : Calls Tryd.prog 122 #[.int .i64 (u : Int)] w fun e w' => e = .returned (.string (ba (Lib.decDigits u))) ∧ Below w.heap.size w w' :=
  (l1Num_nat u h w).mono fun _ _ ⟨he, q, hw⟩ => ⟨he, hw ▸ below_drewN (Below.refl _ _) q⟩
set_option maxRecDepth 100000 in
set_option maxHeartbeats 4000000 in
theorem sLong (y m d : Nat) (c : Bool) (w : World) (hv : okB y m d c = true) :
    Calls Tryd.prog 62 #[dtV y m d c] w fun e w' => e = .returned (.string (ba (ltext y m d c))) ∧ Below w.heap.size w w' := by
  have HB := Lib.hid (box_below w (.cells #[.int .i64 (y : Int), .int .i64 (m : Int), .int .i64 (d : Int), .bool c] 23))
  have HD := Lib.hid (D4.new w y m d c 23)
  obtain ⟨_, hy, _, hm, _, hd⟩ := ok_bd hv
  replace hy : y ≤ 2999 := by omega
  replace hm : m ≤ 12 := by omega
  replace hd : d ≤ 31 := by omega
  clear hv
  by_cases hy0 : y = 0
  · have HE : Hid (ltext y m d c = nd) := Lib.hid (by unfold ltext; rw [if_pos hy0])
    subst hy0
    go_enter Tryd.func62, Tryd.ntmps62
    go_wp2_with fail
    go_ret
    exact ⟨by rw [HE.out]; rfl, HB.out⟩
  · have HE : Hid (ltext y m d c = (if c then ca else []) ++ ((if d = 0 then [] else Lib.decDigits d ++ [32]) ++ ((if m = 0 then [] else mon m ++ [32]) ++ Lib.decDigits y))) := Lib.hid (by
      unfold ltext lbody
      rw [if_neg hy0])
    have hp1 : (ba (Lib.decDigits y)).size ≤ 4 := by rw [ba_size]; exact dec_le 3 y (by omega)
    have hp3 : (ba (Lib.decDigits d)).size ≤ 4 := by rw [ba_size]; exact dec_le 3 d (by omega)
    have H1 : Hid (Lib.decDigits y = (ba (Lib.decDigits y)).data.toList) := Lib.hid (toList_ba _).symm
    have H2 : Hid (mon m = (monB m).data.toList) := Lib.hid (toList_ba _).symm
    have H3 : Hid (Lib.decDigits d = (ba (Lib.decDigits d)).data.toList) := Lib.hid (toList_ba _).symm
    have HC1 := Lib.hid (fun w => num_below y (by omega) w)
    have HC3 := Lib.hid (fun w => num_below d (by omega) w)
    have HM := Lib.hid (fun w => l3Months w)
    have hp2 : (monB m).size ≤ 9 := monB_size m hm
    generalize ba (Lib.decDigits y) = p1 at *
    generalize ba (Lib.decDigits d) = p3 at *
    have HC2 : Hid (∀ w : World, ∀ g, (∀ k, k ≤ 12 → w.cell? ⟨g, k, none⟩ = some (.string (monB k))) → w.cell? ⟨g, m, none⟩ = some (.string (monB m))) := Lib.hid (fun w g h => h m hm)
    generalize monB m = p2 at *
    rw [H1.out, H2.out, H3.out] at HE
    clear H1 H2 H3
    have hyp : 0 < y := by omega
    have hyn : ((y : Int) == 0) = false := by simp; omega
    clear hy0
    cases c
    · by_cases hm0 : m = 0
      · subst hm0
        rw [if_pos rfl] at HE
        by_cases hd0 : d = 0
        · subst hd0
          rw [if_pos rfl] at HE
          go_enter Tryd.func62, Tryd.ntmps62
          go_wp2_with fail
          refine (HC1.out _).mono ?_
          rintro e w1 ⟨rfl, b1⟩
          have k1 := HB.out.trans (b1.mono HB.out.size)
          have D1 := Lib.hid (HD.out.below b1)
          clear b1
          obtain ⟨hl, c0, c1, c2, c3⟩ := D1.out
          go_wp2_with fail
          go_ret
          refine ⟨ret_str ?_, k1⟩
          rw [HE.out]
          apply ByteArray.ext
          simp [ba, ca]
        · have hdp : 0 < d := by omega
          have hdd : decide (0 < (d : Int)) = true := by simp; omega
          rw [if_neg hd0] at HE
          clear hd0
          go_enter Tryd.func62, Tryd.ntmps62
          go_wp2_with fail
          refine (HC1.out _).mono ?_
          rintro e w1 ⟨rfl, b1⟩
          have k1 := HB.out.trans (b1.mono HB.out.size)
          have D1 := Lib.hid (HD.out.below b1)
          clear b1
          obtain ⟨hl, c0, c1, c2, c3⟩ := D1.out
          go_wp2_with fail
          refine (HC3.out _).mono ?_
          rintro e w3 ⟨rfl, b3⟩
          have k3 := k1.trans (b3.mono k1.size)
          have D3 := Lib.hid (D1.out.below b3)
          clear b3 hl c0 c1 c2 c3
          obtain ⟨hl, c0, c1, c2, c3⟩ := D3.out
          go_wp2_with fail
          go_ret
          refine ⟨ret_str ?_, k3⟩
          rw [HE.out]
          apply ByteArray.ext
          simp [ba, ca]
      · have hmp : 0 < m := by omega
        have hmd : decide (0 < (m : Int)) = true := by simp; omega
        rw [if_neg hm0] at HE
        clear hm0
        by_cases hd0 : d = 0
        · subst hd0
          rw [if_pos rfl] at HE
          go_enter Tryd.func62, Tryd.ntmps62
          go_wp2_with fail
          refine (HC1.out _).mono ?_
          rintro e w1 ⟨rfl, b1⟩
          have k1 := HB.out.trans (b1.mono HB.out.size)
          have D1 := Lib.hid (HD.out.below b1)
          clear b1
          obtain ⟨hl, c0, c1, c2, c3⟩ := D1.out
          go_wp2_with fail
          go_region_with (go_at_call 123; refine (HM.out _).mono ?_; rintro e w2 ⟨g, rfl, b2, hce⟩; have b2' : Below w1.heap.size w1 w2 := ⟨b2.os, b2.tape, b2.output, b2.size, b2.block⟩; have k2 := k1.trans (b2'.mono k1.size); have D2 := Lib.hid (D1.out.below b2'); have hmc := HC2.out _ _ hce; obtain ⟨hl2, d0, d1, d2, d3⟩ := D2.out; clear b2 b2' hce)
          all_goals clear hl c0 c1 c2 c3
          all_goals go_wp2_with fail
          all_goals go_ret
          all_goals refine ⟨ret_str ?_, k2⟩
          all_goals rw [HE.out]
          all_goals apply ByteArray.ext
          all_goals simp [ba, ca]
        · have hdp : 0 < d := by omega
          have hdd : decide (0 < (d : Int)) = true := by simp; omega
          rw [if_neg hd0] at HE
          clear hd0
          go_enter Tryd.func62, Tryd.ntmps62
          go_wp2_with fail
          refine (HC1.out _).mono ?_
          rintro e w1 ⟨rfl, b1⟩
          have k1 := HB.out.trans (b1.mono HB.out.size)
          have D1 := Lib.hid (HD.out.below b1)
          clear b1
          obtain ⟨hl, c0, c1, c2, c3⟩ := D1.out
          go_wp2_with fail
          go_region_with (go_at_call 123; refine (HM.out _).mono ?_; rintro e w2 ⟨g, rfl, b2, hce⟩; have b2' : Below w1.heap.size w1 w2 := ⟨b2.os, b2.tape, b2.output, b2.size, b2.block⟩; have k2 := k1.trans (b2'.mono k1.size); have D2 := Lib.hid (D1.out.below b2'); have hmc := HC2.out _ _ hce; obtain ⟨hl2, d0, d1, d2, d3⟩ := D2.out; clear b2 b2' hce)
          all_goals clear hl c0 c1 c2 c3
          all_goals go_wp2_with fail
          all_goals refine (HC3.out _).mono ?_
          all_goals rintro e w3 ⟨rfl, b3⟩
          all_goals have k3 := k2.trans (b3.mono k2.size)
          all_goals have D3 := Lib.hid (D2.out.below b3)
          all_goals clear b3 hl2 d0 d1 d2 d3
          all_goals obtain ⟨hl, c0, c1, c2, c3⟩ := D3.out
          all_goals go_wp2_with fail
          all_goals go_ret
          all_goals refine ⟨ret_str ?_, k3⟩
          all_goals rw [HE.out]
          all_goals apply ByteArray.ext
          all_goals simp [ba, ca]
    · by_cases hm0 : m = 0
      · subst hm0
        rw [if_pos rfl] at HE
        by_cases hd0 : d = 0
        · subst hd0
          rw [if_pos rfl] at HE
          go_enter Tryd.func62, Tryd.ntmps62
          go_wp2_with fail
          refine (HC1.out _).mono ?_
          rintro e w1 ⟨rfl, b1⟩
          have k1 := HB.out.trans (b1.mono HB.out.size)
          have D1 := Lib.hid (HD.out.below b1)
          clear b1
          obtain ⟨hl, c0, c1, c2, c3⟩ := D1.out
          go_wp2_with fail
          go_ret
          refine ⟨ret_str ?_, k1⟩
          rw [HE.out]
          apply ByteArray.ext
          simp [ba, ca]
        · have hdp : 0 < d := by omega
          have hdd : decide (0 < (d : Int)) = true := by simp; omega
          rw [if_neg hd0] at HE
          clear hd0
          go_enter Tryd.func62, Tryd.ntmps62
          go_wp2_with fail
          refine (HC1.out _).mono ?_
          rintro e w1 ⟨rfl, b1⟩
          have k1 := HB.out.trans (b1.mono HB.out.size)
          have D1 := Lib.hid (HD.out.below b1)
          clear b1
          obtain ⟨hl, c0, c1, c2, c3⟩ := D1.out
          go_wp2_with fail
          refine (HC3.out _).mono ?_
          rintro e w3 ⟨rfl, b3⟩
          have k3 := k1.trans (b3.mono k1.size)
          have D3 := Lib.hid (D1.out.below b3)
          clear b3 hl c0 c1 c2 c3
          obtain ⟨hl, c0, c1, c2, c3⟩ := D3.out
          go_wp2_with fail
          go_ret
          refine ⟨ret_str ?_, k3⟩
          rw [HE.out]
          apply ByteArray.ext
          simp [ba, ca]
      · have hmp : 0 < m := by omega
        have hmd : decide (0 < (m : Int)) = true := by simp; omega
        rw [if_neg hm0] at HE
        clear hm0
        by_cases hd0 : d = 0
        · subst hd0
          rw [if_pos rfl] at HE
          go_enter Tryd.func62, Tryd.ntmps62
          go_wp2_with fail
          refine (HC1.out _).mono ?_
          rintro e w1 ⟨rfl, b1⟩
          have k1 := HB.out.trans (b1.mono HB.out.size)
          have D1 := Lib.hid (HD.out.below b1)
          clear b1
          obtain ⟨hl, c0, c1, c2, c3⟩ := D1.out
          go_wp2_with fail
          go_region_with (go_at_call 123; refine (HM.out _).mono ?_; rintro e w2 ⟨g, rfl, b2, hce⟩; have b2' : Below w1.heap.size w1 w2 := ⟨b2.os, b2.tape, b2.output, b2.size, b2.block⟩; have k2 := k1.trans (b2'.mono k1.size); have D2 := Lib.hid (D1.out.below b2'); have hmc := HC2.out _ _ hce; obtain ⟨hl2, d0, d1, d2, d3⟩ := D2.out; clear b2 b2' hce)
          all_goals clear hl c0 c1 c2 c3
          all_goals go_wp2_with fail
          all_goals go_ret
          all_goals refine ⟨ret_str ?_, k2⟩
          all_goals rw [HE.out]
          all_goals apply ByteArray.ext
          all_goals simp [ba, ca]
        · have hdp : 0 < d := by omega
          have hdd : decide (0 < (d : Int)) = true := by simp; omega
          rw [if_neg hd0] at HE
          clear hd0
          go_enter Tryd.func62, Tryd.ntmps62
          go_wp2_with fail
          refine (HC1.out _).mono ?_
          rintro e w1 ⟨rfl, b1⟩
          have k1 := HB.out.trans (b1.mono HB.out.size)
          have D1 := Lib.hid (HD.out.below b1)
          clear b1
          obtain ⟨hl, c0, c1, c2, c3⟩ := D1.out
          go_wp2_with fail
          go_region_with (go_at_call 123; refine (HM.out _).mono ?_; rintro e w2 ⟨g, rfl, b2, hce⟩; have b2' : Below w1.heap.size w1 w2 := ⟨b2.os, b2.tape, b2.output, b2.size, b2.block⟩; have k2 := k1.trans (b2'.mono k1.size); have D2 := Lib.hid (D1.out.below b2'); have hmc := HC2.out _ _ hce; obtain ⟨hl2, d0, d1, d2, d3⟩ := D2.out; clear b2 b2' hce)
          all_goals clear hl c0 c1 c2 c3
          all_goals go_wp2_with fail
          all_goals refine (HC3.out _).mono ?_
          all_goals rintro e w3 ⟨rfl, b3⟩
          all_goals have k3 := k2.trans (b3.mono k2.size)
          all_goals have D3 := Lib.hid (D2.out.below b3)
          all_goals clear b3 hl2 d0 d1 d2 d3
          all_goals obtain ⟨hl, c0, c1, c2, c3⟩ := D3.out
          all_goals go_wp2_with fail
          all_goals go_ret
          all_goals refine ⟨ret_str ?_, k3⟩
          all_goals rw [HE.out]
          all_goals apply ByteArray.ext
          all_goals simp [ba, ca]


set_option maxHeartbeats 1000000 in
theorem specLong (y m d : Int) (c : Bool) (r : Bool) (s : ByteArray) (w : World) (hr : okB y m d c = r) (hs : (if r = true then ba (ltext y.toNat m.toNat d.toNat c) else ⟨#[]⟩) = s) :
    Calls Tryd.prog 15 #[dtV y m d c] w fun e w' => e = .returned (.tuple #[.string s, .bool r]) ∧ Below w.heap.size w w' := by
  have HB := Lib.hid (box_below w (.cells #[.int .i64 y, .int .i64 m, .int .i64 d, .bool c] 23))
  have HD := Lib.hid (D4.new w y m d c 23)
  have HV := Lib.hid hr
  have HS := Lib.hid hs
  clear hr hs
  cases r with
  | false =>
    go_enter Tryd.func15, Tryd.ntmps15
    go_wp2_with fail
    refine (l3Good y m d c false _ HV.out).mono ?_
    rintro e w1 ⟨rfl, b1⟩
    go_wp2_with fail
    go_ret2
    exact ⟨by rw [← HS.out]; rfl, HB.out.trans (b1.mono HB.out.size)⟩
  | true =>
    have HS2 : Hid (ba (ltext y.toNat m.toNat d.toNat c) = s) := Lib.hid (by rw [← HS.out]; rfl)
    clear HS
    have hbd := ok_bd HV.out
    obtain ⟨a, rfl⟩ := Int.eq_ofNat_of_zero_le hbd.1
    obtain ⟨b, rfl⟩ := Int.eq_ofNat_of_zero_le hbd.2.2.1
    obtain ⟨e, rfl⟩ := Int.eq_ofNat_of_zero_le hbd.2.2.2.2.1
    clear hbd
    simp only [Int.toNat_natCast] at HS2
    go_enter Tryd.func15, Tryd.ntmps15
    go_wp2_with fail
    refine (l3Good _ _ _ _ true _ HV.out).mono ?_
    rintro e' w1 ⟨rfl, b1⟩
    have k1 := HB.out.trans (b1.mono HB.out.size)
    have D1 := Lib.hid (HD.out.below b1)
    clear b1
    obtain ⟨hl, c0, c1, c2, c3⟩ := D1.out
    go_wp2_with fail
    refine (sLong a b e c _ HV.out).mono ?_
    rintro e' w2 ⟨rfl, b2⟩
    rw [HS2.out]
    have k2 := k1.trans (b2.mono k1.size)
    clear b2 k1 hl c0 c1 c2 c3
    go_wp2_with fail
    go_ret2
    exact ⟨rfl, k2⟩
end Go.Proofs.YtjdnkjobccnmlaaDoor.Ld
