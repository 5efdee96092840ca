/-
  Proved: for every code of bytes the law FnStrings returns true; the argument reads as before. The library's tables and its two errors lie as the program's text and the pinned constants lay them (the card ties them). No further condition.
-/
import Derived.Test.YtfnkaoobnhjlbaaDoorRows
import Derived.Test.YtfnkaoobnhjlbaaDoorStrF
import Derived.Test.YtfnkaoobnhjlbaaDoorOpenB
import Derived.Test.YtfnkaoobnhjlbaaDoorLaid5
import Derived.StillTailTactics
import Derived.WalkKit
import Derived.ProofKit
import Derived.OpenShut
import Derived.ShutString
import Derived.ChangeOld
import Derived.Below
import Derived.Lib.SmallJoins
import Derived.Test.YtfnkaoobnhjlbaaDoorCards
import Derived.Test.YtfnkaoobnhjlbaaDoorTie
import Derived.LaidMore
import Derived.Lay
import Derived.SevenTiedAt
import Derived.Stop.Joined
namespace Go.Proofs.YtfnkaoobnhjlbaaDoor.fnStrings
open Go.ChangeShapes Go.WideShapes Go.ChangeAt Go.RowKit
open Go.ChangeMaps (open_string shut_string)
set_option linter.ambiguousOpen false
open Pl Cur Draw0 Draw2 Num Read ReadPl Seal Verify SealPl RowB StrF OpenB
open Laid (tab5 errs_of)
set_option linter.unusedVariables false
set_option linter.unusedSimpArgs false

set_option maxRecDepth 100000 in
set_option maxHeartbeats 8000000 in
theorem walk (A : Option Addr) (n c : Nat) (w : World) (hr : RdB w A n) (ha : Apart A n w.heap.size) (ht : Tab w) (he : Errs w) :
    Calls Tryd.prog 7 #[.slice A n c] w fun e w' => e = .returned (.bool true) ∧ Below w.heap.size w w' := by
  have HR := Lib.hid hr
  have HA := Lib.hid ha
  have HT := Lib.hid ht
  have HErr := Lib.hid he
  clear hr ha ht he
  by_cases hbig : 65536 < n
  · go_enter Tryd.func7, Tryd.ntmps7
    go_wp2_with fail
    refine (vBig_any A n c _ true (by simp; omega)).mono ?_
    rintro e w' ⟨rfl, rfl⟩
    go_wp2_with fail
    go_ret
    exact ⟨rfl, Below.refl _ _⟩
  · go_enter Tryd.func7, Tryd.ntmps7
    go_wp2_with fail
    refine (vBig_any A n c _ false (by simp; omega)).mono ?_
    rintro e w' ⟨rfl, rfl⟩
    go_wp2_with fail
    refine (drawFormat_any A n c _ (by omega) HR.out HA.out).mono ?_
    rintro e w1 ⟨q, rfl, b1⟩
    have k1 := b1
    have HT1 : Hid (Tab w1) := Lib.hid (HT.out.below k1)
    clear b1
    rcases fmt_form q with ⟨hf, hq⟩ | hf
    · have HF := Lib.hid hf
      have HQ := Lib.hid hq
      have HSz : Hid ((ba (Lib.itoa q)).size ≤ 1048576) := Lib.hid (by rw [ba_size]; have := itoa_len q hq; omega)
      clear hf hq
      go_wp2_with fail
      refine (implFormat q _ HT1.out).mono ?_
      rintro e w2 ⟨rfl, b2⟩
      rw [HF.out]
      have k2 := k1.trans (b2.mono k1.size)
      clear b2
      go_wp2_with fail
      refine (specFormat q _).mono ?_
      rintro e w3 ⟨rfl, p3, hw3⟩
      have b3 : Below w2.heap.size w2 w3 := by rw [hw3]; exact below_drewN (Below.refl _ _) p3
      clear hw3
      rw [HF.out]
      have k3 := k2.trans (b3.mono k2.size)
      clear b3
      have HR3 := Lib.hid (rdb_below HR.out HA.out k3)
      have HA3 : Hid (Apart A n w3.heap.size) := Lib.hid (fun hp a h => Nat.lt_of_lt_of_le (HA.out hp a h) k3.size)
      generalize hs : ba (Lib.itoa q) = s at *
      have HS := Lib.hid hs
      clear hs
      go_wp2_with fail
      refine (drawParse_any A n c _ (by omega) HR3.out HA3.out).mono ?_
      rintro e w4 ⟨t, ht, rfl, b4⟩
      have k4 := k3.trans (b4.mono k3.size)
      clear b4
      have HT4 : Hid (Tab w4) := Lib.hid (HT.out.below k4)
      have HE4 : Hid (Errs w4) := Lib.hid (HErr.out.below k4)
      go_wp2_with fail
      refine (implParse t _ ht HT4.out HE4.out).mono ?_
      rintro e w5 ⟨v, hv, rfl, b5⟩
      obtain ⟨m5, r5, rfl⟩ := hv.form
      have HV := Lib.hid hv
      clear hv
      have k5 := k4.trans (b5.mono k4.size)
      clear b5
      go_wp2_with fail
      refine (specParse t _ ht).mono ?_
      rintro e w6 ⟨v, hv, rfl, p6, hw6⟩
      obtain rfl := HV.out.uniq hv
      have b6 : Below w5.heap.size w5 w6 := by rw [hw6]; exact below_drewN (Below.refl _ _) p6
      clear hw6 hv
      have k6 := k5.trans (b6.mono k5.size)
      clear b6
      have HR6 := Lib.hid (rdb_below HR.out HA.out k6)
      have HA6 : Hid (Apart A n w6.heap.size) := Lib.hid (fun hp a h => Nat.lt_of_lt_of_le (HA.out hp a h) k6.size)
      go_wp2_with fail
      refine (drawAppend_any A n c _ (by omega) HR6.out HA6.out).mono ?_
      rintro e w7 ⟨x, hx, rfl, b7⟩
      have k7 := k6.trans (b7.mono k6.size)
      clear b7
      have HT7 : Hid (Tab w7) := Lib.hid (HT.out.below k7)
      cases hap : apB x with
      | false =>
        have HAP := Lib.hid hap
        have HV2 := Lib.hid (apV_no hap)
        clear hap
        go_wp2_with fail
        refine (implAppend x _ HT7.out).mono ?_
        rintro e w8 ⟨rfl, b8⟩
        rw [HV2.out]
        have k8 := k7.trans (b8.mono k7.size)
        clear b8
        go_wp2_with fail
        refine (specAppend x _ (by unfold maxLen; omega)).mono ?_
        rintro e w9 ⟨rfl, p9, hw9⟩
        rw [HV2.out]
        have b9 : Below w8.heap.size w8 w9 := by rw [hw9]; exact below_drewN (Below.refl _ _) p9
        clear hw9
        have k9 := k8.trans (b9.mono k8.size)
        clear b9
        have HT9 : Hid (Tab w9) := Lib.hid (HT.out.below k9)
        have HE9 : Hid (Errs w9) := Lib.hid (HErr.out.below k9)
        go_wp2_with fail
        refine (implParse s _ HSz.out HT9.out HE9.out).mono ?_
        rintro e w10 ⟨v, hv, rfl, b10⟩
        obtain rfl := ParIs.uniq (.inl ⟨q, HQ.out, HS.out.symm, rfl⟩) hv
        clear hv
        have k10 := k9.trans (b10.mono k9.size)
        clear b10
        have HT10 : Hid (Tab w10) := Lib.hid (HT.out.below k10)
        have HR10 := Lib.hid (rdb_below HR.out HA.out k10)
        have HA10 : Hid (Apart A n w10.heap.size) := Lib.hid (fun hp a h => Nat.lt_of_lt_of_le (HA.out hp a h) k10.size)
        go_wp2_with fail
        go_ret
        exact ⟨by simp, k10⟩
      | true =>
        have HAP := Lib.hid hap
        have HV2 := Lib.hid (apV_yes hap)
        have hys := (ap_facts hap).2.2
        have hyp := seal_pos x
        have HVF := Lib.hid (vf_seal hap)
        clear hap
        generalize hy : sealB x = y at *
        have HY := Lib.hid hy
        clear hy
        go_wp2_with fail
        refine (implAppend x _ HT7.out).mono ?_
        rintro e w8 ⟨rfl, b8⟩
        rw [HV2.out]
        have k8 := k7.trans (b8.mono k7.size)
        clear b8
        go_wp2_with fail
        refine (specAppend x _ (by unfold maxLen; omega)).mono ?_
        rintro e w9 ⟨rfl, p9, hw9⟩
        rw [HV2.out]
        have b9 : Below w8.heap.size w8 w9 := by rw [hw9]; exact below_drewN (Below.refl _ _) p9
        clear hw9
        have k9 := k8.trans (b9.mono k8.size)
        clear b9
        have HT9 : Hid (Tab w9) := Lib.hid (HT.out.below k9)
        have HE9 : Hid (Errs w9) := Lib.hid (HErr.out.below k9)
        go_wp2_with fail
        refine (implParse s _ HSz.out HT9.out HE9.out).mono ?_
        rintro e w10 ⟨v, hv, rfl, b10⟩
        obtain rfl := ParIs.uniq (.inl ⟨q, HQ.out, HS.out.symm, rfl⟩) hv
        clear hv
        have k10 := k9.trans (b10.mono k9.size)
        clear b10
        have HT10 : Hid (Tab w10) := Lib.hid (HT.out.below k10)
        have HR10 := Lib.hid (rdb_below HR.out HA.out k10)
        have HA10 : Hid (Apart A n w10.heap.size) := Lib.hid (fun hp a h => Nat.lt_of_lt_of_le (HA.out hp a h) k10.size)
        go_wp2_with fail
        refine (implVerify y _ (by unfold maxLen; omega) HT10.out).mono ?_
        rintro e w11 ⟨rfl, b11⟩
        rw [HVF.out]
        have k11 := k10.trans (b11.mono k10.size)
        clear b11
        have HR11 := Lib.hid (rdb_below HR.out HA.out k11)
        have HA11 : Hid (Apart A n w11.heap.size) := Lib.hid (fun hp a h => Nat.lt_of_lt_of_le (HA.out hp a h) k11.size)
        have hcv := Go.Lib.run_convert_string_bytes (P := Tryd.prog) w11 9 33 5 y Tryd.underlying9 Tryd.underlying33 Tryd.underlying5
        have HRow := Lib.hid (row_new w11 y)
        have b12 := below_bytes w11 y
        generalize Go.Lib.bytesWorld w11 5 y = w12 at *
        generalize grownCap w11 y.size 0 5 = cap at *
        have hBk : w.heap.size ≤ w11.heap.size := k11.size
        have k12 := k11.trans (b12.mono k11.size)
        clear b12
        have HR12 := Lib.hid (rdb_below HR.out HA.out k12)
        have HA12 : Hid (Apart A n w12.heap.size) := Lib.hid (fun hp a h => Nat.lt_of_lt_of_le (HA.out hp a h) k12.size)
        have HT12 : Hid (Tab w12) := Lib.hid (HT.out.below k12)
        generalize hB : w11.heap.size = B at *
        clear hB
        obtain ⟨N, HN⟩ : ∃ N, Hid (y.size = N) := ⟨_, Lib.hid rfl⟩
        rw [HN.out] at hcv hys hyp
        go_wp2_with fail
        clear hcv
        refine (vAt_any A n c 9 _ (by omega) (by omega) HR12.out).mono ?_
        rintro e w13 ⟨r9, rfl, hr9, hr9', rfl⟩
        have hBl := Lib.hid (len_size y)
        obtain ⟨ρ, rfl⟩ := Int.eq_ofNat_of_zero_le hr9
        clear hr9 hr9'
        have hkN : ρ % N < N := Nat.mod_lt _ (by omega)
        have hmod : ((ρ : Int) % (N : Int)) = ((ρ % N : Nat) : Int) := by omega
        generalize ρ % N = k at *
        have hkL : k < y.data.toList.length := by rw [hBl.out, HN.out]; exact hkN
        obtain ⟨c0, HC0⟩ : ∃ c0, Hid (y.data.toList[k]? = some c0) := ⟨_, Lib.hid (List.getElem?_eq_getElem hkL)⟩
        have HcL := Lib.hid (HRow.out k c0 HC0.out)
        have HkL := Lib.hid hkL
        clear hkL
        go_wp2_with fail
        have HS0 : Hid (∀ w', Drew w13 w' → (w'.cell? ⟨B, k, none⟩ = some (.int .u8 c0.toNat) ∧ w'.frozen? ⟨B, k, none⟩ = false ∧ Drew w13 w')) := Lib.hid (fun w' h => by obtain ⟨p, rfl⟩ := h; exact ⟨HcL.out.1, HcL.out.2, p, rfl⟩)
        have HRd : Hid (∀ w', Drew w13 w' → RdB w' A n) := Lib.hid (fun w' h => by obtain ⟨p, rfl⟩ := h; exact HR12.out)
        obtain ⟨r10, hr10, hr10', hvat⟩ := vAt_det A n c 10 w13 (by omega) (by omega) (HRd.out _ ⟨0, rfl⟩)
        have HVat := Lib.hid hvat
        clear hvat
        obtain ⟨hcl, hfz⟩ := HcL.out
        go_still_tail 13, (by kernel_rfl)
        still_call (HVat.out _ (Drew.one w13))
        repeat still_step
        refine wpStill_nil ?_
        change wpList _ _ _ _ _ w13.drew
        have HD14 := Lib.hid (HS0.out _ (Drew.one w13))
        clear hcl hfz
        generalize w13.drew = w14 at *
        obtain ⟨hcl, hfz, hdr⟩ := HD14.out
        obtain ⟨c', hne, hV⟩ := changed c0 hr10 hr10'
        have HRow14 := (hdr.row HRow.out).set HkL.out c'
        have k14 := k12.trans (hdr.below.mono k12.size)
        have k16 := k14.setCell (p := ⟨B, k, none⟩) hBk (.int .u8 c'.toNat)
        have hst := row_str (cap := cap) HRow14 (n := N) (by rw [List.length_set, hBl.out, HN.out])
        rw [nums_str] at hst
        have HVB : Hid (vfV ⟨(y.data.toList.set k c').toArray⟩ = .tuple #[.string ⟨#[]⟩, .bool false]) := Lib.hid (by
          obtain ⟨hkl, hce⟩ := List.getElem?_eq_some_iff.1 HC0.out
          have hY := HY.out
          subst hY
          exact vf_bad (k := k) (c' := c') HAP.out hkl (by rw [hce]; exact hne) (by simp))
        have hsz2 : (ByteArray.mk (y.data.toList.set k c').toArray).size ≤ 4000 := by rw [set_size, HN.out]; omega
        generalize ByteArray.mk (y.data.toList.set k c').toArray = y2 at *
        rw [← hV] at hst k16
        have HT16 := Lib.hid (HT.out.below k16)
        clear hV hne HRow14 hdr
        go_wp2_with fail
        refine (implVerify y2 _ (by unfold maxLen; omega) HT16.out).mono ?_
        rintro e w17 ⟨rfl, b17⟩
        rw [HVB.out]
        have k17 := k16.trans (b17.mono k16.size)
        clear b17 k16 hst hcl hfz
        go_wp2_with fail
        go_ret
        exact ⟨by simp, k17⟩
    · have HF := Lib.hid hf
      clear hf
      go_wp2_with fail
      refine (implFormat q _ HT1.out).mono ?_
      rintro e w2 ⟨rfl, b2⟩
      rw [HF.out]
      have k2 := k1.trans (b2.mono k1.size)
      clear b2
      go_wp2_with fail
      refine (specFormat q _).mono ?_
      rintro e w3 ⟨rfl, p3, hw3⟩
      have b3 : Below w2.heap.size w2 w3 := by rw [hw3]; exact below_drewN (Below.refl _ _) p3
      clear hw3
      rw [HF.out]
      have k3 := k2.trans (b3.mono k2.size)
      clear b3
      have HR3 := Lib.hid (rdb_below HR.out HA.out k3)
      have HA3 : Hid (Apart A n w3.heap.size) := Lib.hid (fun hp a h => Nat.lt_of_lt_of_le (HA.out hp a h) k3.size)
      go_wp2_with fail
      refine (drawParse_any A n c _ (by omega) HR3.out HA3.out).mono ?_
      rintro e w4 ⟨t, ht, rfl, b4⟩
      have k4 := k3.trans (b4.mono k3.size)
      clear b4
      have HT4 : Hid (Tab w4) := Lib.hid (HT.out.below k4)
      have HE4 : Hid (Errs w4) := Lib.hid (HErr.out.below k4)
      go_wp2_with fail
      refine (implParse t _ ht HT4.out HE4.out).mono ?_
      rintro e w5 ⟨v, hv, rfl, b5⟩
      obtain ⟨m5, r5, rfl⟩ := hv.form
      have HV := Lib.hid hv
      clear hv
      have k5 := k4.trans (b5.mono k4.size)
      clear b5
      go_wp2_with fail
      refine (specParse t _ ht).mono ?_
      rintro e w6 ⟨v, hv, rfl, p6, hw6⟩
      obtain rfl := HV.out.uniq hv
      have b6 : Below w5.heap.size w5 w6 := by rw [hw6]; exact below_drewN (Below.refl _ _) p6
      clear hw6 hv
      have k6 := k5.trans (b6.mono k5.size)
      clear b6
      have HR6 := Lib.hid (rdb_below HR.out HA.out k6)
      have HA6 : Hid (Apart A n w6.heap.size) := Lib.hid (fun hp a h => Nat.lt_of_lt_of_le (HA.out hp a h) k6.size)
      go_wp2_with fail
      refine (drawAppend_any A n c _ (by omega) HR6.out HA6.out).mono ?_
      rintro e w7 ⟨x, hx, rfl, b7⟩
      have k7 := k6.trans (b7.mono k6.size)
      clear b7
      have HT7 : Hid (Tab w7) := Lib.hid (HT.out.below k7)
      cases hap : apB x with
      | false =>
        have HAP := Lib.hid hap
        have HV2 := Lib.hid (apV_no hap)
        clear hap
        go_wp2_with fail
        refine (implAppend x _ HT7.out).mono ?_
        rintro e w8 ⟨rfl, b8⟩
        rw [HV2.out]
        have k8 := k7.trans (b8.mono k7.size)
        clear b8
        go_wp2_with fail
        refine (specAppend x _ (by unfold maxLen; omega)).mono ?_
        rintro e w9 ⟨rfl, p9, hw9⟩
        rw [HV2.out]
        have b9 : Below w8.heap.size w8 w9 := by rw [hw9]; exact below_drewN (Below.refl _ _) p9
        clear hw9
        have k9 := k8.trans (b9.mono k8.size)
        clear b9
        have HT9 : Hid (Tab w9) := Lib.hid (HT.out.below k9)
        have HE9 : Hid (Errs w9) := Lib.hid (HErr.out.below k9)
        go_wp2_with fail
        refine (implParse ⟨#[]⟩ _ (by decide) HT9.out HE9.out).mono ?_
        rintro e w10 ⟨v, hv, rfl, b10⟩
        obtain ⟨m10, r10, rfl⟩ := hv.form
        clear hv
        have k10 := k9.trans (b10.mono k9.size)
        clear b10
        have HT10 : Hid (Tab w10) := Lib.hid (HT.out.below k10)
        have HR10 := Lib.hid (rdb_below HR.out HA.out k10)
        have HA10 : Hid (Apart A n w10.heap.size) := Lib.hid (fun hp a h => Nat.lt_of_lt_of_le (HA.out hp a h) k10.size)
        go_wp2_with fail
        go_ret
        exact ⟨by simp, k10⟩
      | true =>
        have HAP := Lib.hid hap
        have HV2 := Lib.hid (apV_yes hap)
        have hys := (ap_facts hap).2.2
        have hyp := seal_pos x
        have HVF := Lib.hid (vf_seal hap)
        clear hap
        generalize hy : sealB x = y at *
        have HY := Lib.hid hy
        clear hy
        go_wp2_with fail
        refine (implAppend x _ HT7.out).mono ?_
        rintro e w8 ⟨rfl, b8⟩
        rw [HV2.out]
        have k8 := k7.trans (b8.mono k7.size)
        clear b8
        go_wp2_with fail
        refine (specAppend x _ (by unfold maxLen; omega)).mono ?_
        rintro e w9 ⟨rfl, p9, hw9⟩
        rw [HV2.out]
        have b9 : Below w8.heap.size w8 w9 := by rw [hw9]; exact below_drewN (Below.refl _ _) p9
        clear hw9
        have k9 := k8.trans (b9.mono k8.size)
        clear b9
        have HT9 : Hid (Tab w9) := Lib.hid (HT.out.below k9)
        have HE9 : Hid (Errs w9) := Lib.hid (HErr.out.below k9)
        go_wp2_with fail
        refine (implParse ⟨#[]⟩ _ (by decide) HT9.out HE9.out).mono ?_
        rintro e w10 ⟨v, hv, rfl, b10⟩
        obtain ⟨m10, r10, rfl⟩ := hv.form
        clear hv
        have k10 := k9.trans (b10.mono k9.size)
        clear b10
        have HT10 : Hid (Tab w10) := Lib.hid (HT.out.below k10)
        have HR10 := Lib.hid (rdb_below HR.out HA.out k10)
        have HA10 : Hid (Apart A n w10.heap.size) := Lib.hid (fun hp a h => Nat.lt_of_lt_of_le (HA.out hp a h) k10.size)
        go_wp2_with fail
        refine (implVerify y _ (by unfold maxLen; omega) HT10.out).mono ?_
        rintro e w11 ⟨rfl, b11⟩
        rw [HVF.out]
        have k11 := k10.trans (b11.mono k10.size)
        clear b11
        have HR11 := Lib.hid (rdb_below HR.out HA.out k11)
        have HA11 : Hid (Apart A n w11.heap.size) := Lib.hid (fun hp a h => Nat.lt_of_lt_of_le (HA.out hp a h) k11.size)
        have hcv := Go.Lib.run_convert_string_bytes (P := Tryd.prog) w11 9 33 5 y Tryd.underlying9 Tryd.underlying33 Tryd.underlying5
        have HRow := Lib.hid (row_new w11 y)
        have b12 := below_bytes w11 y
        generalize Go.Lib.bytesWorld w11 5 y = w12 at *
        generalize grownCap w11 y.size 0 5 = cap at *
        have hBk : w.heap.size ≤ w11.heap.size := k11.size
        have k12 := k11.trans (b12.mono k11.size)
        clear b12
        have HR12 := Lib.hid (rdb_below HR.out HA.out k12)
        have HA12 : Hid (Apart A n w12.heap.size) := Lib.hid (fun hp a h => Nat.lt_of_lt_of_le (HA.out hp a h) k12.size)
        have HT12 : Hid (Tab w12) := Lib.hid (HT.out.below k12)
        generalize hB : w11.heap.size = B at *
        clear hB
        obtain ⟨N, HN⟩ : ∃ N, Hid (y.size = N) := ⟨_, Lib.hid rfl⟩
        rw [HN.out] at hcv hys hyp
        go_wp2_with fail
        clear hcv
        refine (vAt_any A n c 9 _ (by omega) (by omega) HR12.out).mono ?_
        rintro e w13 ⟨r9, rfl, hr9, hr9', rfl⟩
        have hBl := Lib.hid (len_size y)
        obtain ⟨ρ, rfl⟩ := Int.eq_ofNat_of_zero_le hr9
        clear hr9 hr9'
        have hkN : ρ % N < N := Nat.mod_lt _ (by omega)
        have hmod : ((ρ : Int) % (N : Int)) = ((ρ % N : Nat) : Int) := by omega
        generalize ρ % N = k at *
        have hkL : k < y.data.toList.length := by rw [hBl.out, HN.out]; exact hkN
        obtain ⟨c0, HC0⟩ : ∃ c0, Hid (y.data.toList[k]? = some c0) := ⟨_, Lib.hid (List.getElem?_eq_getElem hkL)⟩
        have HcL := Lib.hid (HRow.out k c0 HC0.out)
        have HkL := Lib.hid hkL
        clear hkL
        go_wp2_with fail
        have HS0 : Hid (∀ w', Drew w13 w' → (w'.cell? ⟨B, k, none⟩ = some (.int .u8 c0.toNat) ∧ w'.frozen? ⟨B, k, none⟩ = false ∧ Drew w13 w')) := Lib.hid (fun w' h => by obtain ⟨p, rfl⟩ := h; exact ⟨HcL.out.1, HcL.out.2, p, rfl⟩)
        have HRd : Hid (∀ w', Drew w13 w' → RdB w' A n) := Lib.hid (fun w' h => by obtain ⟨p, rfl⟩ := h; exact HR12.out)
        obtain ⟨r10, hr10, hr10', hvat⟩ := vAt_det A n c 10 w13 (by omega) (by omega) (HRd.out _ ⟨0, rfl⟩)
        have HVat := Lib.hid hvat
        clear hvat
        obtain ⟨hcl, hfz⟩ := HcL.out
        go_still_tail 13, (by kernel_rfl)
        still_call (HVat.out _ (Drew.one w13))
        repeat still_step
        refine wpStill_nil ?_
        change wpList _ _ _ _ _ w13.drew
        have HD14 := Lib.hid (HS0.out _ (Drew.one w13))
        clear hcl hfz
        generalize w13.drew = w14 at *
        obtain ⟨hcl, hfz, hdr⟩ := HD14.out
        obtain ⟨c', hne, hV⟩ := changed c0 hr10 hr10'
        have HRow14 := (hdr.row HRow.out).set HkL.out c'
        have k14 := k12.trans (hdr.below.mono k12.size)
        have k16 := k14.setCell (p := ⟨B, k, none⟩) hBk (.int .u8 c'.toNat)
        have hst := row_str (cap := cap) HRow14 (n := N) (by rw [List.length_set, hBl.out, HN.out])
        rw [nums_str] at hst
        have HVB : Hid (vfV ⟨(y.data.toList.set k c').toArray⟩ = .tuple #[.string ⟨#[]⟩, .bool false]) := Lib.hid (by
          obtain ⟨hkl, hce⟩ := List.getElem?_eq_some_iff.1 HC0.out
          have hY := HY.out
          subst hY
          exact vf_bad (k := k) (c' := c') HAP.out hkl (by rw [hce]; exact hne) (by simp))
        have hsz2 : (ByteArray.mk (y.data.toList.set k c').toArray).size ≤ 4000 := by rw [set_size, HN.out]; omega
        generalize ByteArray.mk (y.data.toList.set k c').toArray = y2 at *
        rw [← hV] at hst k16
        have HT16 := Lib.hid (HT.out.below k16)
        clear hV hne HRow14 hdr
        go_wp2_with fail
        refine (implVerify y2 _ (by unfold maxLen; omega) HT16.out).mono ?_
        rintro e w17 ⟨rfl, b17⟩
        rw [HVB.out]
        have k17 := k16.trans (b17.mono k16.size)
        clear b17 k16 hst hcl hfz
        go_wp2_with fail
        go_ret
        exact ⟨by simp, k17⟩


set_option maxRecDepth 100000 in
theorem lifted (os : Os) (started : os.Started) (H : Type) (enc : TypeId × Value → H) :
    ReturnsInHanded {} Tryd.checked os 7 .any (fun w args => (Rows.fnStringsSpec.pre enc Tryd.prog Tryd.f7 Rows.fnStringsRow.domain false w args ∧ laidMetH Tryd.prog Rows.fnStringsRow.laid w) ∧ sizedMet enc Tryd.prog Tryd.f7 (OpenSpec.ofChange Rows.fnStringsSpec) false w args)
      (Rows.fnStringsSpec.post enc Tryd.prog Tryd.f7 false true false false) := by
  refine returnsInHanded_of_change_and (C := Tryd.checked) (X := fun w _ => laidMetH Tryd.prog Rows.fnStringsRow.laid w) (fun _ _ _ hh h => h.of_heap hh) own started (by kernel_rfl) Tryd.func7
    (ChangeSpec.witness_shaped (enc := enc) (C := Tryd.checked) (os := os) (X := fun w _ => laidMetH Tryd.prog Rows.fnStringsRow.laid w) false (World.laidAll Tryd.prog os Rows.fnStringsRow.laid) #[.slice none 0 0] 8 (World.laidAll_os _ _ _)
      (World.shaped_of_ZipB (by kernel_rfl) (by kernel_rfl)) (by kernel_rfl) (by kernel_rfl) (by kernel_rfl)
      (by rw [MakeChecks.laidMetH_plain _ _ _ (by kernel_rfl)]; exact laidMet_laidAll _ (by kernel_rfl) (by kernel_rfl))) ?_
  intro W base args ds gs before hval0 hW hcnd _ hL _
  rw [MakeChecks.laidMetH_plain _ _ _ (by kernel_rfl)] at hL
  have hval : ∀ (j : Nat) t v, Tryd.f7.params[j]? = some t → args[j]? = some v → Value.okWide Tryd.prog W .any base t v := hval0
  have hW' := hW
  obtain ⟨p, q, hA0, hV, rfl, hfz, hnd⟩ := hW
  have hA : DataW.TrodAll enc Tryd.prog W 0 (fun _ => true) true Tryd.f7.params.toList args.toList ds p := hA0
  rw [Tryd.params7] at hA hval
  obtain ⟨v0, vs0, d0, ds0, p0, q0, hargs, rfl, rfl, h0, r0⟩ := trodAll_cons hA
  obtain ⟨rfl, rfl, rfl⟩ := trodAll_nil r0
  obtain rfl : args = #[v0] := by cases args; simp_all
  obtain ⟨rfl, rfl⟩ := trodVars_none hV
  have k0 := h0
  have lt0 : ∀ x ∈ p0, x.block < W.heap.size := by obtain ⟨m, hm⟩ := k0; exact DataW.trod_lt m _ _ _ hm
  obtain ⟨A0, n0, c0, rfl, rd0, ap0⟩ := open_bytes (hval 0 33 v0 rfl rfl) h0
  clear hA0 hval0
  refine (walk A0 n0 c0 W rd0 ap0 (tab5 hL) (errs_of hL)).mono fun e W' ⟨he, bel⟩ => ?_
  subst he
  exact ⟨_, rfl, _, _, _, [], _, [], hW', trodAll_mk1 (shut_bool Tryd.underlying4 _), (trodAll_cons_mk (Below.trod laidOut (by kernel_rfl) (of_decide_eq_true (by kernel_rfl)) k0 bel lt0) trodAll_mk0), rfl, bel.frame _, fun h => by cases h⟩

theorem over : Rows.fnStringsRow.holds Tryd.pinned (OpenSpec.ofChange Rows.fnStringsSpec) :=
  OpenClaim.holds_of_wide 7 Tryd.f7 rfl rfl rfl rfl rfl rfl rfl ⟨rfl, rfl, rfl, rfl, rfl⟩ rfl rfl rfl rfl rfl (by kernel_rfl) Tryd.func7 (by kernel_rfl)
    (of_decide_eq_true (by kernel_rfl)) (by unfold Func.isWrapper; first | (rw [if_pos (by decide +kernel)]; kernel_rfl) | (rw [if_neg (by decide +kernel)]; exact ⟨rfl, rfl⟩))
    (fun os started H enc _ => lifted os started H enc)

theorem plain (f : FuncId) (fn : Func) (hf : Tryd.pinned.checked.prog.funcNamed "loop.example/g00896/laws.FnStrings" = some f) (hfn : Tryd.pinned.checked.prog.funcs[f]? = some fn) :
    true = Tryd.pinned.checked.prog.looks [] ∧ ∀ (j : Nat) t, fn.params[j]? = some t → Tryd.pinned.checked.prog.wantsStandIn t = false := by
  obtain rfl : f = 7 := Option.some.inj ((show Tryd.prog.funcNamed "loop.example/g00896/laws.FnStrings" = some 7 by kernel_rfl).symm.trans hf) |>.symm
  obtain rfl : fn = Tryd.f7 := (Option.some.inj (Tryd.func7.symm.trans hfn)).symm
  refine ⟨by kernel_rfl, fun j t ht => ?_⟩
  rw [Tryd.params7] at ht
  obtain rfl : t = 33 := by simpa using Array.mem_of_getElem? ht
  exact (show Tryd.prog.wantsStandIn 33 = false by kernel_rfl)

theorem card : Rows.FnStringsCardSaid :=
  Claim7.holds_tied_plain_at .later [] _ _ _ _ over (fun _ h => by cases h) (by kernel_rfl) (fun _ h => by cases h) fnStrings_row_tie rfl ⟨rfl, rfl⟩ (by kernel_rfl) rfl plain (by kernel_rfl)
#print axioms card
end Go.Proofs.YtfnkaoobnhjlbaaDoor.fnStrings
