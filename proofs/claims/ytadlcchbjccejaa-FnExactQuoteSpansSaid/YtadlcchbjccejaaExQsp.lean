/-
  Proved: for every list of spans the law FnExactQuoteSpans returns true: QuoteSpans answers as its model, writes into no argument, and its answer owns its memory; the argument reads as before. No further condition.
-/
import Derived.Test.YtadlcchbjccejaaRows
import Derived.Test.YtadlcchbjccejaaSpMk
import Derived.Test.YtadlcchbjccejaaSpQ
import Derived.WalkKit
import Derived.ProofKit
import Derived.OpenShut
import Derived.ShutString
import Derived.ChangeOld
import Derived.Below
import Derived.Lib.SmallJoins
namespace Go.Proofs.Ytadlcchbjccejaa.fnExactQuoteSpans
open Go.ChangeShapes Go.WideShapes Go.ChangeAt Go.RowKit
open Go.ChangeMaps (open_string shut_string)
open SpPl Sp SpA SpMk SpG SpQ
set_option linter.unusedVariables false
set_option linter.unusedSimpArgs false

theorem apart {w w' : World} {b0 b : Nat} {e e' : TypeId} {s s' n n' : Nat} {v v' : Value} {xs xs' : List Value} (h : w.ownsRow b0 e s v n xs) (hb : w.heap.size ≤ b) (h' : w'.ownsRow b e' s' v' n' xs') : v.ownBlock = none ∨ v.ownBlock ≠ v'.ownBlock := by
  rcases hv : v.ownBlock with _ | k
  · exact .inl rfl
  · refine .inr fun he => ?_
    have h1 := (h.lt k hv).2
    have h2 := (h'.lt k he.symm).1
    omega
theorem apart' {w w' : World} {b0 b : Nat} {e e' : TypeId} {s s' n n' : Nat} {v v' : Value} {xs xs' : List Value} (h : w.ownsRow b0 e s v n xs) (hb : w.heap.size ≤ b) (h' : w'.ownsRow b e' s' v' n' xs') : v'.ownBlock = none ∨ v'.ownBlock ≠ v.ownBlock := by
  rcases hv : v'.ownBlock with _ | k
  · exact .inl rfl
  · refine .inr fun he => ?_
    have h1 := (h.lt k he.symm).2
    have h2 := (h'.lt k hv).1
    omega

set_option maxRecDepth 100000 in
set_option maxHeartbeats 4000000 in
theorem walk (A : Option Addr) (N c : Nat) (L : List Sp1) (w : World) (hr : RdSp w A L) (hn : L.length = N) (hm : N ≤ maxLen) (hx : ∀ x ∈ L, x.l.size ≤ maxLen) :
    Calls Try.prog 3 #[.slice A N c] w fun e w' => e = .returned (.bool true) ∧ Below w.heap.size w w' := by
  have HS := Lib.hid (szSpans A c N L 1048576 w hr hn hm hx (Nat.le_refl _))
  have HR := Lib.hid hr
  have HN := Lib.hid hn
  by_cases hfit : N + szL L ≤ 1048576
  · obtain ⟨t, ht⟩ : ∃ t : Nat, szPs 1048576 L = (t : Int) := ⟨1048576 - (N + szL L), by unfold szPs; rw [hn, if_pos hfit]; omega⟩
    rw [ht] at HS
    have hN : N ≤ 1048576 := by omega
    have hsL : szL L ≤ 1048576 := by omega
    obtain ⟨z, hz⟩ : ∃ z, qz L = z := ⟨_, rfl⟩
    obtain ⟨R0, hv0⟩ : ∃ R, qR L = R := ⟨_, rfl⟩
    have hRl0 := qR_len L
    rw [hv0] at hRl0
    obtain ⟨n0, hRn0⟩ : ∃ n, R0.length = n := ⟨_, rfl⟩
    rw [hRn0] at hRl0
    have hb0 : 3 * n0 ≤ 3000000 := by omega
    have HRn0 := Lib.hid hRn0
    have HCS := Lib.hid (fun (g : Nat) (c : Nat) (w : World) (h : RdSp w (some ⟨g, 0, none⟩) L) (hg : g < w.heap.size) => qspans_s (some ⟨g, 0, none⟩) c N L w h hn hN hsL)
    have HCI := Lib.hid (fun (g : Nat) (c : Nat) (w : World) (h : RdSp w (some ⟨g, 0, none⟩) L) (hg : g < w.heap.size) => qspans_i g c N L w h hg hn hN hsL)
    unfold QsPost at HCS HCI
    rw [hz, hv0] at HCS HCI
    clear hv0 hRn0 hz
    clear ht hr hn hm hx hfit hsL
    go_enter Try.func3, Try.ntmps3
    go_wp2_with fail
    refine HS.out.mono ?_
    rintro e w1 ⟨rfl, k1⟩
    go_wp2_with fail
    refine (toSpans A c N L _ (HR.out.below k1) HN.out hN).mono ?_
    rintro e w2 ⟨rfl, o2, b2⟩
    have loT := k1.size
    have HT_2 := Lib.hid o2
    clear o2
    have k2 := k1.trans (b2.mono k1.size)
    clear b2
    go_wp2_with fail
    refine (HCS.out _ _ _ (own_rd HT_2.out) (HT_2.out.lt _ rfl).2).mono ?_
    rintro e w3 ⟨v3_0, rfl, o3_0, b3⟩
    have loS := k2.size
    rw [HRn0.out] at o3_0
    obtain ⟨A3_0, c3_0, rfl, _, _, _⟩ := own_rdp o3_0
    have HS0_3 := Lib.hid o3_0
    clear o3_0
    have HT_3 := Lib.hid (own_kept HT_2.out b3)
    clear HT_2
    have k3 := k2.trans (b3.mono k2.size)
    clear b3
    go_wp2_with fail
    clear HT_3
    refine (toSpans A c N L _ (HR.out.below k3) HN.out hN).mono ?_
    rintro e w4 ⟨rfl, o4, b4⟩
    have loX := k3.size
    have HX_4 := Lib.hid o4
    clear o4
    have HA_S0_X := Lib.hid (apart HS0_3.out (Nat.le_refl _) HX_4.out)
    have HS0_4 := Lib.hid (own_kept HS0_3.out b4)
    clear HS0_3
    have k4 := k3.trans (b4.mono k3.size)
    clear b4
    go_wp2_with fail
    refine (HCI.out _ _ _ (own_rd HX_4.out) (HX_4.out.lt _ rfl).2).mono ?_
    rintro e w5 ⟨v5_0, rfl, o5_0, b5⟩
    have loG := k4.size
    rw [HRn0.out] at o5_0
    obtain ⟨A5_0, c5_0, rfl, _, _, _⟩ := own_rdp o5_0
    have HG0_5 := Lib.hid o5_0
    clear o5_0
    have HA_S0_G0 := Lib.hid (apart HS0_4.out (Nat.le_refl _) HG0_5.out)
    have HS0_5 := Lib.hid (own_kept HS0_4.out b5)
    clear HS0_4
    have HA_G0_X := Lib.hid (apart' HX_4.out (Nat.le_refl _) HG0_5.out)
    have HX_5 := Lib.hid (own_kept HX_4.out b5)
    clear HX_4
    have k5 := k4.trans (b5.mono k4.size)
    clear b5
    go_wp2_with fail
    refine (eqSpans A5_0 A3_0 _ _ n0 R0 _ (own_rd HG0_5.out) (own_rd HS0_5.out) HRn0.out (by omega)).mono ?_
    rintro e w6 ⟨rfl, b6⟩
    have HS0_6 := Lib.hid (own_kept HS0_5.out b6)
    clear HS0_5
    have HX_6 := Lib.hid (own_kept HX_5.out b6)
    clear HX_5
    have HG0_6 := Lib.hid (own_kept HG0_5.out b6)
    clear HG0_5
    have k6 := k5.trans (b6.mono k5.size)
    clear b6
    go_wp2_with fail
    refine (toSpans A c N L _ (HR.out.below k6) HN.out hN).mono ?_
    rintro e w7 ⟨rfl, o7, b7⟩
    have loT := k6.size
    have HT_7 := Lib.hid o7
    clear o7
    have HS0_7 := Lib.hid (own_kept HS0_6.out b7)
    clear HS0_6
    have HX_7 := Lib.hid (own_kept HX_6.out b7)
    clear HX_6
    have HG0_7 := Lib.hid (own_kept HG0_6.out b7)
    clear HG0_6
    have k7 := k6.trans (b7.mono k6.size)
    clear b7
    go_wp2_with fail
    refine (eqSpans _ _ _ _ N L _ (own_rd HX_7.out) (own_rd HT_7.out) HN.out (by omega)).mono ?_
    rintro e w8 ⟨rfl, b8⟩
    have HS0_8 := Lib.hid (own_kept HS0_7.out b8)
    clear HS0_7
    have HX_8 := Lib.hid (own_kept HX_7.out b8)
    clear HX_7
    have HG0_8 := Lib.hid (own_kept HG0_7.out b8)
    clear HG0_7
    have HT_8 := Lib.hid (own_kept HT_7.out b8)
    clear HT_7
    have k8 := k7.trans (b8.mono k7.size)
    clear b8
    go_wp2_with fail
    clear HT_8
    refine (mark_own _ _ L 1 N _ HX_8.out HN.out (by omega) (by omega)).mono ?_
    rintro e w9 ⟨rfl, o9, g9⟩
    have k9 := below_grown k8 g9 k8.size (fun q hq => by have := (HX_8.out.lt q hq).1; have := loX; omega)
    have HS0_9 := Lib.hid (HS0_8.out.kept g9 HA_S0_X.out)
    clear HS0_8
    have HG0_9 := Lib.hid (HG0_8.out.kept g9 HA_G0_X.out)
    clear HG0_8
    have HX_9 := Lib.hid o9
    clear o9 g9 HX_8
    go_wp2_with fail
    clear HX_9
    refine (eqSpans A5_0 A3_0 _ _ n0 R0 _ (own_rd HG0_9.out) (own_rd HS0_9.out) HRn0.out (by omega)).mono ?_
    rintro e w10 ⟨rfl, b10⟩
    have HS0_10 := Lib.hid (own_kept HS0_9.out b10)
    clear HS0_9
    have HG0_10 := Lib.hid (own_kept HG0_9.out b10)
    clear HG0_9
    have k10 := k9.trans (b10.mono k9.size)
    clear b10
    go_wp2_with fail
    refine (mark_own _ _ R0 1 n0 _ HG0_10.out HRn0.out (by omega) (by omega)).mono ?_
    rintro e w11 ⟨rfl, o11, g11⟩
    have k11 := below_grown k10 g11 k10.size (fun q hq => by have := (HG0_10.out.lt q hq).1; have := loG; omega)
    have HS0_11 := Lib.hid (HS0_10.out.kept g11 HA_S0_G0.out)
    clear HS0_10
    have HG0_11 := Lib.hid o11
    clear o11 g11 HG0_10
    go_wp2_with fail
    refine (held_marks A5_0 _ 1 n0 _ (own_rd HG0_11.out) (by omega) (by omega)).mono ?_
    rintro e w12 ⟨rfl, b12⟩
    have HS0_12 := Lib.hid (own_kept HS0_11.out b12)
    clear HS0_11
    have HG0_12 := Lib.hid (own_kept HG0_11.out b12)
    clear HG0_11
    have k12 := k11.trans (b12.mono k11.size)
    clear b12
    go_wp2_with fail
    refine (toSpans A c N L _ (HR.out.below k12) HN.out hN).mono ?_
    rintro e w13 ⟨rfl, o13, b13⟩
    have loT := k12.size
    have HT_13 := Lib.hid o13
    clear o13
    have HS0_13 := Lib.hid (own_kept HS0_12.out b13)
    clear HS0_12
    have HG0_13 := Lib.hid (own_kept HG0_12.out b13)
    clear HG0_12
    have k13 := k12.trans (b13.mono k12.size)
    clear b13
    go_wp2_with fail
    refine (HCI.out _ _ _ (own_rd HT_13.out) (HT_13.out.lt _ rfl).2).mono ?_
    rintro e w14 ⟨v14_0, rfl, o14_0, b14⟩
    have loQ := k13.size
    rw [HRn0.out] at o14_0
    obtain ⟨A14_0, c14_0, rfl, _, _, _⟩ := own_rdp o14_0
    have HQ0_14 := Lib.hid o14_0
    clear o14_0
    have HS0_14 := Lib.hid (own_kept HS0_13.out b14)
    clear HS0_13
    have HG0_14 := Lib.hid (own_kept HG0_13.out b14)
    clear HG0_13
    have HT_14 := Lib.hid (own_kept HT_13.out b14)
    clear HT_13
    have k14 := k13.trans (b14.mono k13.size)
    clear b14
    go_wp2_with fail
    clear HT_14
    refine (eqSpans A14_0 A3_0 _ _ n0 R0 _ (own_rd HQ0_14.out) (own_rd HS0_14.out) HRn0.out (by omega)).mono ?_
    rintro e w15 ⟨rfl, b15⟩
    have HS0_15 := Lib.hid (own_kept HS0_14.out b15)
    clear HS0_14
    have HG0_15 := Lib.hid (own_kept HG0_14.out b15)
    clear HG0_14
    have HQ0_15 := Lib.hid (own_kept HQ0_14.out b15)
    clear HQ0_14
    have k15 := k14.trans (b15.mono k14.size)
    clear b15
    go_wp2_with fail
    clear HQ0_15
    clear HS0_15
    refine (held_marks A5_0 _ 1 n0 _ (own_rd HG0_15.out) (by omega) (by omega)).mono ?_
    rintro e w16 ⟨rfl, b16⟩
    have HG0_16 := Lib.hid (own_kept HG0_15.out b16)
    clear HG0_15
    have k16 := k15.trans (b16.mono k15.size)
    clear b16
    go_wp2_with fail
    go_ret
    exact ⟨rfl, k16⟩
  · have ht : szPs 1048576 L = -1 := by unfold szPs; rw [hn, if_neg hfit]
    rw [ht] at HS
    clear ht hr hn hm hx hfit
    go_enter Try.func3, Try.ntmps3
    go_wp2_with fail
    refine HS.out.mono ?_
    rintro e w1 ⟨rfl, k1⟩
    go_wp2_with fail
    go_ret
    exact ⟨rfl, k1⟩

set_option maxRecDepth 100000 in
theorem lifted (os : Os) (started : os.Started) (H : Type) (enc : TypeId × Value → H) :
    ReturnsInHanded {} Try.checked os 3 .any (Rows.fnExactQuoteSpansSpec.pre6 enc Try.prog Try.f3 Rows.fnExactQuoteSpansRow.domain false) (Rows.fnExactQuoteSpansSpec.post enc Try.prog Try.f3 false true false false) := by
  refine returnsInHanded_of_change (C := Try.checked) own started (by kernel_rfl) Try.func3
    (ChangeSpec.witness6 (enc := enc) (C := Try.checked) false ⟨#[], #[.slice none 0 0], []⟩ 8 (by kernel_rfl) (by kernel_rfl) (by kernel_rfl) (by kernel_rfl)) ?_
  intro W base args ds gs before hval0 hW hcnd _
  have hval : ∀ (j : Nat) t v, Try.f3.params[j]? = some t → args[j]? = some v → Value.okWide Try.prog W .any base t v := hval0
  have hW' := hW
  obtain ⟨p, q, hA0, hV, rfl, hfz, hnd⟩ := hW
  have hA : DataW.TrodAll enc Try.prog W 0 (fun _ => true) true Try.f3.params.toList args.toList ds p := hA0
  rw [Try.params3] at hA hval
  obtain ⟨v0, vs0, d0, ds0, p0, q0, hargs, rfl, rfl, h0, r0⟩ := trodAll_cons hA
  obtain ⟨rfl, rfl, rfl⟩ := trodAll_nil r0
  obtain rfl : args = #[v0] := by cases args; simp_all
  obtain ⟨rfl, rfl⟩ := trodVars_none hV
  have k0 := h0
  have lt0 : ∀ x ∈ p0, x.block < W.heap.size := by obtain ⟨m, hm⟩ := k0; exact DataW.trod_lt m _ _ _ hm
  obtain ⟨A0, N0, c0, L0, rfl, hr0, hn0, hm0, hx0, _⟩ := open_spans (hval 0 22 v0 rfl rfl) h0
  clear hA0 hval0
  refine (walk A0 N0 c0 L0 W hr0 hn0 hm0 hx0 ).mono fun e W' ⟨he, bel⟩ => ?_
  subst he
  exact ⟨_, rfl, _, _, _, [], _, [], hW', trodAll_mk1 (shut_bool Try.underlying4 _), (trodAll_cons_mk (Below.trod laidOut (by kernel_rfl) (of_decide_eq_true (by kernel_rfl)) k0 bel lt0) trodAll_mk0), rfl, bel.frame _, fun h => by cases h⟩

theorem closed : joinedFacts Try.pinned.checked.prog 3 Try.f3 Rows.fnExactQuoteSpansSpec Rows.fnExactQuoteSpansRow = true := by kernel_rfl
theorem over : Rows.fnExactQuoteSpansRow.holds Try.pinned (OpenSpec.ofChange Rows.fnExactQuoteSpansSpec) :=
  OpenClaim.holds_of_wide 3 Try.f3 rfl rfl rfl rfl rfl rfl rfl ⟨rfl, rfl, rfl, rfl, rfl⟩ rfl rfl rfl rfl rfl (by kernel_rfl) Try.func3 closed
    (of_decide_eq_true (by kernel_rfl)) (by unfold Func.isWrapper; first | (rw [if_pos (by decide +kernel)]; kernel_rfl) | (rw [if_neg (by decide +kernel)]; exact ⟨rfl, rfl⟩))
    (fun os started H enc _ => lifted os started H enc)

theorem proved : Rows.FnExactQuoteSpansSaid :=
  over
#print axioms proved
end Go.Proofs.Ytadlcchbjccejaa.fnExactQuoteSpans
