/-
  Proved: for every list of spans and every place the law FnExactSplitSpans returns true: SplitSpans answers as its model, writes into no argument, and its two answers own their memory; the argument reads as before. No further condition.
-/
import Derived.Test.YtglgkgkcilkinaaRows
import Derived.Test.YtglgkgkcilkinaaSpMk
import Derived.Test.YtglgkgkcilkinaaSpC
import Derived.WalkKit
import Derived.ProofKit
import Derived.OpenShut
import Derived.ShutString
import Derived.ChangeOld
import Derived.Below
import Derived.Lib.SmallJoins
namespace Go.Proofs.Ytglgkgkcilkinaa.fnExactSplitSpans
open Go.ChangeShapes Go.WideShapes Go.ChangeAt Go.RowKit
open Go.ChangeMaps (open_string shut_string)
open SpPl Sp SpA SpMk SpG SpC
set_option linter.unusedVariables false
set_option linter.unusedSimpArgs false

theorem apart {w w' : World} {b0 b : Nat} {e e' : TypeId} {s s' n n' : Nat} {v v' : Value} {xs xs' : List Value} (h : w.ownsRow b0 e s v n xs) (hb : w.heap.size ≤ b) (h' : w'.ownsRow b e' s' v' n' xs') : v.ownBlock = none ∨ v.ownBlock ≠ v'.ownBlock := by
  rcases hv : v.ownBlock with _ | k
  · exact .inl rfl
  · refine .inr fun he => ?_
    have h1 := (h.lt k hv).2
    have h2 := (h'.lt k he.symm).1
    omega
theorem apart' {w w' : World} {b0 b : Nat} {e e' : TypeId} {s s' n n' : Nat} {v v' : Value} {xs xs' : List Value} (h : w.ownsRow b0 e s v n xs) (hb : w.heap.size ≤ b) (h' : w'.ownsRow b e' s' v' n' xs') : v'.ownBlock = none ∨ v'.ownBlock ≠ v.ownBlock := by
  rcases hv : v'.ownBlock with _ | k
  · exact .inl rfl
  · refine .inr fun he => ?_
    have h1 := (h.lt k he.symm).2
    have h2 := (h'.lt k hv).1
    omega

set_option maxRecDepth 100000 in
set_option maxHeartbeats 4000000 in
theorem walk (A : Option Addr) (N c : Nat) (L : List Sp1) (at_ : Int) (w : World) (hr : RdSp w A L) (hn : L.length = N) (hm : N ≤ maxLen) (hx : ∀ x ∈ L, x.l.size ≤ maxLen) :
    Calls Try.prog 4 #[.slice A N c, .int .i64 at_] w fun e w' => e = .returned (.bool true) ∧ Below w.heap.size w w' := by
  have HS := Lib.hid (szSpans A c N L 1048576 w hr hn hm hx (Nat.le_refl _))
  have HR := Lib.hid hr
  have HN := Lib.hid hn
  by_cases hfit : N + szL L ≤ 1048576
  · obtain ⟨t, ht⟩ : ∃ t : Nat, szPs 1048576 L = (t : Int) := ⟨1048576 - (N + szL L), by unfold szPs; rw [hn, if_pos hfit]; omega⟩
    rw [ht] at HS
    have hN : N ≤ 1048576 := by omega
    have hsL : szL L ≤ 1048576 := by omega
    obtain ⟨z, hz⟩ : ∃ z, cutOk L at_ = z := ⟨_, rfl⟩
    obtain ⟨R0, hv0⟩ : ∃ R, cutF z L at_ = R := ⟨_, rfl⟩
    obtain ⟨R1, hv1⟩ : ∃ R, cutB z L at_ = R := ⟨_, rfl⟩
    have hRl0 := (cut_80 hz).1
    have hRl1 := (cut_80 hz).2
    rw [hv0] at hRl0
    rw [hv1] at hRl1
    obtain ⟨n0, hRn0⟩ : ∃ n, R0.length = n := ⟨_, rfl⟩
    obtain ⟨n1, hRn1⟩ : ∃ n, R1.length = n := ⟨_, rfl⟩
    rw [hRn0] at hRl0
    rw [hRn1] at hRl1
    have HRn0 := Lib.hid hRn0
    have HRn1 := Lib.hid hRn1
    have HCS := Lib.hid (fun (A : Option Addr) (c : Nat) (w : World) (h : RdSp w A L) => cut_s A c N L at_ z R0 R1 w h hn hN hsL hz hv0 hv1)
    have HCI := Lib.hid (fun (A : Option Addr) (c : Nat) (w : World) (h : RdSp w A L) => cut_i A c N L at_ z R0 R1 w h hn hN hsL hz hv0 hv1)
    clear hv0 hv1 hRn0 hRn1 hz
    clear ht hr hn hm hx hfit hsL
    go_enter Try.func4, Try.ntmps4
    go_wp2_with fail
    refine HS.out.mono ?_
    rintro e w1 ⟨rfl, k1⟩
    go_wp2_with fail
    refine (toSpans A c N L _ (HR.out.below k1) HN.out hN).mono ?_
    rintro e w2 ⟨rfl, o2, b2⟩
    have loT := k1.size
    have HT_2 := Lib.hid o2
    clear o2
    have k2 := k1.trans (b2.mono k1.size)
    clear b2
    go_wp2_with fail
    refine (HCS.out _ _ _ (own_rd HT_2.out)).mono ?_
    rintro e w3 ⟨v3_0, v3_1, rfl, o3_0, o3_1, ap3, aq3, b3⟩
    have loS := k2.size
    rw [HRn0.out] at o3_0
    obtain ⟨A3_0, c3_0, rfl, _, _, _⟩ := own_rdp o3_0
    have HS0_3 := Lib.hid o3_0
    clear o3_0
    rw [HRn1.out] at o3_1
    obtain ⟨A3_1, c3_1, rfl, _, _, _⟩ := own_rdp o3_1
    have HS1_3 := Lib.hid o3_1
    clear o3_1
    have HA_S0_S1 := Lib.hid ap3
    have HA_S1_S0 := Lib.hid aq3
    clear ap3 aq3
    have HT_3 := Lib.hid (own_kept HT_2.out b3)
    clear HT_2
    have k3 := k2.trans (b3.mono k2.size)
    clear b3
    go_wp2_with fail
    clear HT_3
    refine (toSpans A c N L _ (HR.out.below k3) HN.out hN).mono ?_
    rintro e w4 ⟨rfl, o4, b4⟩
    have loX := k3.size
    have HX_4 := Lib.hid o4
    clear o4
    have HA_S0_X := Lib.hid (apart HS0_3.out (Nat.le_refl _) HX_4.out)
    have HS0_4 := Lib.hid (own_kept HS0_3.out b4)
    clear HS0_3
    have HA_S1_X := Lib.hid (apart HS1_3.out (Nat.le_refl _) HX_4.out)
    have HS1_4 := Lib.hid (own_kept HS1_3.out b4)
    clear HS1_3
    have k4 := k3.trans (b4.mono k3.size)
    clear b4
    go_wp2_with fail
    refine (HCI.out _ _ _ (own_rd HX_4.out)).mono ?_
    rintro e w5 ⟨v5_0, v5_1, rfl, o5_0, o5_1, ap5, aq5, b5⟩
    have loG := k4.size
    rw [HRn0.out] at o5_0
    obtain ⟨A5_0, c5_0, rfl, _, _, _⟩ := own_rdp o5_0
    have HG0_5 := Lib.hid o5_0
    clear o5_0
    rw [HRn1.out] at o5_1
    obtain ⟨A5_1, c5_1, rfl, _, _, _⟩ := own_rdp o5_1
    have HG1_5 := Lib.hid o5_1
    clear o5_1
    have HA_G0_G1 := Lib.hid ap5
    have HA_G1_G0 := Lib.hid aq5
    clear ap5 aq5
    have HA_S0_G0 := Lib.hid (apart HS0_4.out (Nat.le_refl _) HG0_5.out)
    have HA_S0_G1 := Lib.hid (apart HS0_4.out (Nat.le_refl _) HG1_5.out)
    have HS0_5 := Lib.hid (own_kept HS0_4.out b5)
    clear HS0_4
    have HA_S1_G0 := Lib.hid (apart HS1_4.out (Nat.le_refl _) HG0_5.out)
    have HA_S1_G1 := Lib.hid (apart HS1_4.out (Nat.le_refl _) HG1_5.out)
    have HS1_5 := Lib.hid (own_kept HS1_4.out b5)
    clear HS1_4
    have HA_G0_X := Lib.hid (apart' HX_4.out (Nat.le_refl _) HG0_5.out)
    have HA_G1_X := Lib.hid (apart' HX_4.out (Nat.le_refl _) HG1_5.out)
    have HX_5 := Lib.hid (own_kept HX_4.out b5)
    clear HX_4
    have k5 := k4.trans (b5.mono k4.size)
    clear b5
    go_wp2_with fail
    refine (eqSpans A5_0 A3_0 _ _ n0 R0 _ (own_rd HG0_5.out) (own_rd HS0_5.out) HRn0.out (by omega)).mono ?_
    rintro e w6 ⟨rfl, b6⟩
    have HS0_6 := Lib.hid (own_kept HS0_5.out b6)
    clear HS0_5
    have HS1_6 := Lib.hid (own_kept HS1_5.out b6)
    clear HS1_5
    have HX_6 := Lib.hid (own_kept HX_5.out b6)
    clear HX_5
    have HG0_6 := Lib.hid (own_kept HG0_5.out b6)
    clear HG0_5
    have HG1_6 := Lib.hid (own_kept HG1_5.out b6)
    clear HG1_5
    have k6 := k5.trans (b6.mono k5.size)
    clear b6
    go_wp2_with fail
    refine (eqSpans A5_1 A3_1 _ _ n1 R1 _ (own_rd HG1_6.out) (own_rd HS1_6.out) HRn1.out (by omega)).mono ?_
    rintro e w7 ⟨rfl, b7⟩
    have HS0_7 := Lib.hid (own_kept HS0_6.out b7)
    clear HS0_6
    have HS1_7 := Lib.hid (own_kept HS1_6.out b7)
    clear HS1_6
    have HX_7 := Lib.hid (own_kept HX_6.out b7)
    clear HX_6
    have HG0_7 := Lib.hid (own_kept HG0_6.out b7)
    clear HG0_6
    have HG1_7 := Lib.hid (own_kept HG1_6.out b7)
    clear HG1_6
    have k7 := k6.trans (b7.mono k6.size)
    clear b7
    go_wp2_with fail
    refine (toSpans A c N L _ (HR.out.below k7) HN.out hN).mono ?_
    rintro e w8 ⟨rfl, o8, b8⟩
    have loT := k7.size
    have HT_8 := Lib.hid o8
    clear o8
    have HS0_8 := Lib.hid (own_kept HS0_7.out b8)
    clear HS0_7
    have HS1_8 := Lib.hid (own_kept HS1_7.out b8)
    clear HS1_7
    have HX_8 := Lib.hid (own_kept HX_7.out b8)
    clear HX_7
    have HG0_8 := Lib.hid (own_kept HG0_7.out b8)
    clear HG0_7
    have HG1_8 := Lib.hid (own_kept HG1_7.out b8)
    clear HG1_7
    have k8 := k7.trans (b8.mono k7.size)
    clear b8
    go_wp2_with fail
    refine (eqSpans _ _ _ _ N L _ (own_rd HX_8.out) (own_rd HT_8.out) HN.out (by omega)).mono ?_
    rintro e w9 ⟨rfl, b9⟩
    have HS0_9 := Lib.hid (own_kept HS0_8.out b9)
    clear HS0_8
    have HS1_9 := Lib.hid (own_kept HS1_8.out b9)
    clear HS1_8
    have HX_9 := Lib.hid (own_kept HX_8.out b9)
    clear HX_8
    have HG0_9 := Lib.hid (own_kept HG0_8.out b9)
    clear HG0_8
    have HG1_9 := Lib.hid (own_kept HG1_8.out b9)
    clear HG1_8
    have HT_9 := Lib.hid (own_kept HT_8.out b9)
    clear HT_8
    have k9 := k8.trans (b9.mono k8.size)
    clear b9
    go_wp2_with fail
    clear HT_9
    refine (mark_own _ _ L 1 N _ HX_9.out HN.out (by omega) (by omega)).mono ?_
    rintro e w10 ⟨rfl, o10, g10⟩
    have k10 := below_grown k9 g10 k9.size (fun q hq => by have := (HX_9.out.lt q hq).1; have := loX; omega)
    have HS0_10 := Lib.hid (HS0_9.out.kept g10 HA_S0_X.out)
    clear HS0_9
    have HS1_10 := Lib.hid (HS1_9.out.kept g10 HA_S1_X.out)
    clear HS1_9
    have HG0_10 := Lib.hid (HG0_9.out.kept g10 HA_G0_X.out)
    clear HG0_9
    have HG1_10 := Lib.hid (HG1_9.out.kept g10 HA_G1_X.out)
    clear HG1_9
    have HX_10 := Lib.hid o10
    clear o10 g10 HX_9
    go_wp2_with fail
    clear HX_10
    refine (eqSpans A5_0 A3_0 _ _ n0 R0 _ (own_rd HG0_10.out) (own_rd HS0_10.out) HRn0.out (by omega)).mono ?_
    rintro e w11 ⟨rfl, b11⟩
    have HS0_11 := Lib.hid (own_kept HS0_10.out b11)
    clear HS0_10
    have HS1_11 := Lib.hid (own_kept HS1_10.out b11)
    clear HS1_10
    have HG0_11 := Lib.hid (own_kept HG0_10.out b11)
    clear HG0_10
    have HG1_11 := Lib.hid (own_kept HG1_10.out b11)
    clear HG1_10
    have k11 := k10.trans (b11.mono k10.size)
    clear b11
    go_wp2_with fail
    refine (eqSpans A5_1 A3_1 _ _ n1 R1 _ (own_rd HG1_11.out) (own_rd HS1_11.out) HRn1.out (by omega)).mono ?_
    rintro e w12 ⟨rfl, b12⟩
    have HS0_12 := Lib.hid (own_kept HS0_11.out b12)
    clear HS0_11
    have HS1_12 := Lib.hid (own_kept HS1_11.out b12)
    clear HS1_11
    have HG0_12 := Lib.hid (own_kept HG0_11.out b12)
    clear HG0_11
    have HG1_12 := Lib.hid (own_kept HG1_11.out b12)
    clear HG1_11
    have k12 := k11.trans (b12.mono k11.size)
    clear b12
    go_wp2_with fail
    refine (mark_own _ _ R0 1 n0 _ HG0_12.out HRn0.out (by omega) (by omega)).mono ?_
    rintro e w13 ⟨rfl, o13, g13⟩
    have k13 := below_grown k12 g13 k12.size (fun q hq => by have := (HG0_12.out.lt q hq).1; have := loG; omega)
    have HS0_13 := Lib.hid (HS0_12.out.kept g13 HA_S0_G0.out)
    clear HS0_12
    have HS1_13 := Lib.hid (HS1_12.out.kept g13 HA_S1_G0.out)
    clear HS1_12
    have HG1_13 := Lib.hid (HG1_12.out.kept g13 HA_G1_G0.out)
    clear HG1_12
    have HG0_13 := Lib.hid o13
    clear o13 g13 HG0_12
    go_wp2_with fail
    refine (mark_own _ _ R1 (1 + 3 * n0) n1 _ HG1_13.out HRn1.out (by omega) (by omega)).mono ?_
    rintro e w14 ⟨rfl, o14, g14⟩
    have k14 := below_grown k13 g14 k13.size (fun q hq => by have := (HG1_13.out.lt q hq).1; have := loG; omega)
    have HS0_14 := Lib.hid (HS0_13.out.kept g14 HA_S0_G1.out)
    clear HS0_13
    have HS1_14 := Lib.hid (HS1_13.out.kept g14 HA_S1_G1.out)
    clear HS1_13
    have HG0_14 := Lib.hid (HG0_13.out.kept g14 HA_G0_G1.out)
    clear HG0_13
    have HG1_14 := Lib.hid o14
    clear o14 g14 HG1_13
    go_wp2_with fail
    refine (held_marks A5_0 _ 1 n0 _ (own_rd HG0_14.out) (by omega) (by omega)).mono ?_
    rintro e w15 ⟨rfl, b15⟩
    have HS0_15 := Lib.hid (own_kept HS0_14.out b15)
    clear HS0_14
    have HS1_15 := Lib.hid (own_kept HS1_14.out b15)
    clear HS1_14
    have HG0_15 := Lib.hid (own_kept HG0_14.out b15)
    clear HG0_14
    have HG1_15 := Lib.hid (own_kept HG1_14.out b15)
    clear HG1_14
    have k15 := k14.trans (b15.mono k14.size)
    clear b15
    go_wp2_with fail
    refine (held_marks A5_1 _ (1 + 3 * n0) n1 _ (own_rd HG1_15.out) (by omega) (by omega)).mono ?_
    rintro e w16 ⟨rfl, b16⟩
    have HS0_16 := Lib.hid (own_kept HS0_15.out b16)
    clear HS0_15
    have HS1_16 := Lib.hid (own_kept HS1_15.out b16)
    clear HS1_15
    have HG0_16 := Lib.hid (own_kept HG0_15.out b16)
    clear HG0_15
    have HG1_16 := Lib.hid (own_kept HG1_15.out b16)
    clear HG1_15
    have k16 := k15.trans (b16.mono k15.size)
    clear b16
    go_wp2_with fail
    refine (toSpans A c N L _ (HR.out.below k16) HN.out hN).mono ?_
    rintro e w17 ⟨rfl, o17, b17⟩
    have loT := k16.size
    have HT_17 := Lib.hid o17
    clear o17
    have HS0_17 := Lib.hid (own_kept HS0_16.out b17)
    clear HS0_16
    have HS1_17 := Lib.hid (own_kept HS1_16.out b17)
    clear HS1_16
    have HG0_17 := Lib.hid (own_kept HG0_16.out b17)
    clear HG0_16
    have HG1_17 := Lib.hid (own_kept HG1_16.out b17)
    clear HG1_16
    have k17 := k16.trans (b17.mono k16.size)
    clear b17
    go_wp2_with fail
    refine (HCI.out _ _ _ (own_rd HT_17.out)).mono ?_
    rintro e w18 ⟨v18_0, v18_1, rfl, o18_0, o18_1, ap18, aq18, b18⟩
    have loQ := k17.size
    rw [HRn0.out] at o18_0
    obtain ⟨A18_0, c18_0, rfl, _, _, _⟩ := own_rdp o18_0
    have HQ0_18 := Lib.hid o18_0
    clear o18_0
    rw [HRn1.out] at o18_1
    obtain ⟨A18_1, c18_1, rfl, _, _, _⟩ := own_rdp o18_1
    have HQ1_18 := Lib.hid o18_1
    clear o18_1
    have HA_Q0_Q1 := Lib.hid ap18
    have HA_Q1_Q0 := Lib.hid aq18
    clear ap18 aq18
    have HS0_18 := Lib.hid (own_kept HS0_17.out b18)
    clear HS0_17
    have HS1_18 := Lib.hid (own_kept HS1_17.out b18)
    clear HS1_17
    have HG0_18 := Lib.hid (own_kept HG0_17.out b18)
    clear HG0_17
    have HG1_18 := Lib.hid (own_kept HG1_17.out b18)
    clear HG1_17
    have HT_18 := Lib.hid (own_kept HT_17.out b18)
    clear HT_17
    have k18 := k17.trans (b18.mono k17.size)
    clear b18
    go_wp2_with fail
    clear HT_18
    refine (eqSpans A18_0 A3_0 _ _ n0 R0 _ (own_rd HQ0_18.out) (own_rd HS0_18.out) HRn0.out (by omega)).mono ?_
    rintro e w19 ⟨rfl, b19⟩
    have HS0_19 := Lib.hid (own_kept HS0_18.out b19)
    clear HS0_18
    have HS1_19 := Lib.hid (own_kept HS1_18.out b19)
    clear HS1_18
    have HG0_19 := Lib.hid (own_kept HG0_18.out b19)
    clear HG0_18
    have HG1_19 := Lib.hid (own_kept HG1_18.out b19)
    clear HG1_18
    have HQ0_19 := Lib.hid (own_kept HQ0_18.out b19)
    clear HQ0_18
    have HQ1_19 := Lib.hid (own_kept HQ1_18.out b19)
    clear HQ1_18
    have k19 := k18.trans (b19.mono k18.size)
    clear b19
    go_wp2_with fail
    refine (eqSpans A18_1 A3_1 _ _ n1 R1 _ (own_rd HQ1_19.out) (own_rd HS1_19.out) HRn1.out (by omega)).mono ?_
    rintro e w20 ⟨rfl, b20⟩
    have HS0_20 := Lib.hid (own_kept HS0_19.out b20)
    clear HS0_19
    have HS1_20 := Lib.hid (own_kept HS1_19.out b20)
    clear HS1_19
    have HG0_20 := Lib.hid (own_kept HG0_19.out b20)
    clear HG0_19
    have HG1_20 := Lib.hid (own_kept HG1_19.out b20)
    clear HG1_19
    have HQ0_20 := Lib.hid (own_kept HQ0_19.out b20)
    clear HQ0_19
    have HQ1_20 := Lib.hid (own_kept HQ1_19.out b20)
    clear HQ1_19
    have k20 := k19.trans (b20.mono k19.size)
    clear b20
    go_wp2_with fail
    clear HQ0_20
    clear HS0_20
    clear HQ1_20
    clear HS1_20
    refine (held_marks A5_0 _ 1 n0 _ (own_rd HG0_20.out) (by omega) (by omega)).mono ?_
    rintro e w21 ⟨rfl, b21⟩
    have HG0_21 := Lib.hid (own_kept HG0_20.out b21)
    clear HG0_20
    have HG1_21 := Lib.hid (own_kept HG1_20.out b21)
    clear HG1_20
    have k21 := k20.trans (b21.mono k20.size)
    clear b21
    go_wp2_with fail
    refine (held_marks A5_1 _ (1 + 3 * n0) n1 _ (own_rd HG1_21.out) (by omega) (by omega)).mono ?_
    rintro e w22 ⟨rfl, b22⟩
    have HG0_22 := Lib.hid (own_kept HG0_21.out b22)
    clear HG0_21
    have HG1_22 := Lib.hid (own_kept HG1_21.out b22)
    clear HG1_21
    have k22 := k21.trans (b22.mono k21.size)
    clear b22
    go_wp2_with fail
    go_ret
    exact ⟨rfl, k22⟩
  · have ht : szPs 1048576 L = -1 := by unfold szPs; rw [hn, if_neg hfit]
    rw [ht] at HS
    clear ht hr hn hm hx hfit
    go_enter Try.func4, Try.ntmps4
    go_wp2_with fail
    refine HS.out.mono ?_
    rintro e w1 ⟨rfl, k1⟩
    go_wp2_with fail
    go_ret
    exact ⟨rfl, k1⟩

set_option maxRecDepth 100000 in
theorem lifted (os : Os) (started : os.Started) (H : Type) (enc : TypeId × Value → H) :
    ReturnsInHanded {} Try.checked os 4 .any (Rows.fnExactSplitSpansSpec.pre6 enc Try.prog Try.f4 Rows.fnExactSplitSpansRow.domain false) (Rows.fnExactSplitSpansSpec.post enc Try.prog Try.f4 false true false false) := by
  refine returnsInHanded_of_change (C := Try.checked) own started (by kernel_rfl) Try.func4
    (ChangeSpec.witness6 (enc := enc) (C := Try.checked) false ⟨#[], #[.slice none 0 0, .int .i64 0], []⟩ 8 (by kernel_rfl) (by kernel_rfl) (by kernel_rfl) (by kernel_rfl)) ?_
  intro W base args ds gs before hval0 hW hcnd _
  have hval : ∀ (j : Nat) t v, Try.f4.params[j]? = some t → args[j]? = some v → Value.okWide Try.prog W .any base t v := hval0
  have hW' := hW
  obtain ⟨p, q, hA0, hV, rfl, hfz, hnd⟩ := hW
  have hA : DataW.TrodAll enc Try.prog W 0 (fun _ => true) true Try.f4.params.toList args.toList ds p := hA0
  rw [Try.params4] at hA hval
  obtain ⟨v0, vs0, d0, ds0, p0, q0, hargs, rfl, rfl, h0, r0⟩ := trodAll_cons hA
  obtain ⟨v1, vs1, d1, ds1, p1, q1, rfl, rfl, rfl, h1, r1⟩ := trodAll_cons r0
  obtain ⟨rfl, rfl, rfl⟩ := trodAll_nil r1
  obtain rfl : args = #[v0, v1] := by cases args; simp_all
  obtain ⟨rfl, rfl⟩ := trodVars_none hV
  have k0 := h0
  have lt0 : ∀ x ∈ p0, x.block < W.heap.size := by obtain ⟨m, hm⟩ := k0; exact DataW.trod_lt m _ _ _ hm
  have k1 := h1
  have lt1 : ∀ x ∈ p1, x.block < W.heap.size := by obtain ⟨m, hm⟩ := k1; exact DataW.trod_lt m _ _ _ hm
  obtain ⟨A0, N0, c0, L0, rfl, hr0, hn0, hm0, hx0, _⟩ := open_spans (hval 0 22 v0 rfl rfl) h0
  obtain ⟨z1, rfl, _, _, _⟩ := open_int Try.underlying3 (hval 1 3 v1 rfl rfl) h1
  clear hA0 hval0
  refine (walk A0 N0 c0 L0 z1 W hr0 hn0 hm0 hx0 ).mono fun e W' ⟨he, bel⟩ => ?_
  subst he
  exact ⟨_, rfl, _, _, _, [], _, [], hW', trodAll_mk1 (shut_bool Try.underlying4 _), (trodAll_cons_mk (Below.trod laidOut (by kernel_rfl) (of_decide_eq_true (by kernel_rfl)) k0 bel lt0) (trodAll_cons_mk (Below.trod laidOut (by kernel_rfl) (of_decide_eq_true (by kernel_rfl)) k1 bel lt1) trodAll_mk0)), rfl, bel.frame _, fun h => by cases h⟩

theorem closed : joinedFacts Try.pinned.checked.prog 4 Try.f4 Rows.fnExactSplitSpansSpec Rows.fnExactSplitSpansRow = true := by kernel_rfl
theorem over : Rows.fnExactSplitSpansRow.holds Try.pinned (OpenSpec.ofChange Rows.fnExactSplitSpansSpec) :=
  OpenClaim.holds_of_wide 4 Try.f4 rfl rfl rfl rfl rfl rfl rfl ⟨rfl, rfl, rfl, rfl, rfl⟩ rfl rfl rfl rfl rfl (by kernel_rfl) Try.func4 closed
    (of_decide_eq_true (by kernel_rfl)) (by unfold Func.isWrapper; first | (rw [if_pos (by decide +kernel)]; kernel_rfl) | (rw [if_neg (by decide +kernel)]; exact ⟨rfl, rfl⟩))
    (fun os started H enc _ => lifted os started H enc)

theorem proved : Rows.FnExactSplitSpansSaid :=
  over
#print axioms proved
end Go.Proofs.Ytglgkgkcilkinaa.fnExactSplitSpans
