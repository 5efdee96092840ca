/-
  Proved: for every list of spans the law FnExactNormalizeSpans returns true: NormalizeSpans answers as its model, writes into no argument, and its answer owns its memory; the argument reads as before. No further condition.
-/
import Derived.Test.YthahgejgkjcebaaRows
import Derived.Test.YthahgejgkjcebaaSpN
import Derived.Test.YthahgejgkjcebaaSpMk
import Derived.WalkKit
import Derived.ProofKit
import Derived.OpenShut
import Derived.ShutString
import Derived.ChangeOld
import Derived.Below
import Derived.Lib.SmallJoins
namespace Go.Proofs.Ythahgejgkjcebaa.fnExactNormalizeSpans
open Go.ChangeShapes Go.WideShapes Go.ChangeAt Go.RowKit
open Go.ChangeMaps (open_string shut_string)
open SpPl Sp SpA SpG SpN SpMk
set_option linter.unusedVariables false
set_option linter.unusedSimpArgs false

theorem apart {w w' : World} {b0 b : Nat} {e e' : TypeId} {s s' n n' : Nat} {v v' : Value} {xs xs' : List Value} (h : w.ownsRow b0 e s v n xs) (hb : w.heap.size ≤ b) (h' : w'.ownsRow b e' s' v' n' xs') : v.ownBlock = none ∨ v.ownBlock ≠ v'.ownBlock := by
  rcases hv : v.ownBlock with _ | k
  · exact .inl rfl
  · refine .inr fun he => ?_
    have h1 := (h.lt k hv).2
    have h2 := (h'.lt k he.symm).1
    omega
theorem apart' {w w' : World} {b0 b : Nat} {e e' : TypeId} {s s' n n' : Nat} {v v' : Value} {xs xs' : List Value} (h : w.ownsRow b0 e s v n xs) (hb : w.heap.size ≤ b) (h' : w'.ownsRow b e' s' v' n' xs') : v'.ownBlock = none ∨ v'.ownBlock ≠ v.ownBlock := by
  rcases hv : v'.ownBlock with _ | k
  · exact .inl rfl
  · refine .inr fun he => ?_
    have h1 := (h.lt k he.symm).2
    have h2 := (h'.lt k hv).1
    omega

set_option maxRecDepth 100000 in
set_option maxHeartbeats 4000000 in
theorem walk (A : Option Addr) (N c : Nat) (L : List Sp1) (w : World) (hr : RdSp w A L) (hn : L.length = N) (hm : N ≤ maxLen) (hx : ∀ x ∈ L, x.l.size ≤ maxLen) :
    Calls Try.prog 3 #[.slice A N c] w fun e w' => e = .returned (.bool true) ∧ Below w.heap.size w w' := by
  have HS := Lib.hid (szSpans A c N L 1048576 w hr hn hm hx (Nat.le_refl _))
  have HR := Lib.hid hr
  have HN := Lib.hid hn
  by_cases hfit : N + szL L ≤ 1048576
  · obtain ⟨t, ht⟩ : ∃ t : Nat, szPs 1048576 L = (t : Int) := ⟨1048576 - (N + szL L), by unfold szPs; rw [hn, if_pos hfit]; omega⟩
    rw [ht] at HS
    have hN : N ≤ 1048576 := by omega
    have hsL : szL L ≤ 1048576 := by omega
    obtain ⟨z, hz⟩ : ∃ z, okS L = z := ⟨_, rfl⟩
    have HZ := Lib.hid hz
    obtain ⟨R, hv⟩ : ∃ R, nrm z L = R := ⟨_, rfl⟩
    have HV := Lib.hid hv
    have hRl := nrm_len hv
    rw [hn] at hRl
    obtain ⟨n, hRn⟩ : ∃ n, R.length = n := ⟨_, rfl⟩
    rw [hRn] at hRl
    have HRn := Lib.hid hRn
    clear hz hv ht hr hn hm hx hfit hRn
    go_enter Try.func3, Try.ntmps3
    go_wp2_with fail
    refine HS.out.mono ?_
    rintro e w1 ⟨rfl, k1⟩
    go_wp2_with fail
    refine (toSpans A c N L _ (HR.out.below k1) HN.out hN).mono ?_
    rintro e w2 ⟨rfl, o2, b2⟩
    have k2 := k1.trans (b2.mono k1.size)
    have R2 := Lib.hid (own_rd o2)
    clear o2 b2 k1
    go_wp2_with fail
    refine (norms_s _ _ N L z R _ R2.out HN.out hN hsL HZ.out HV.out).mono ?_
    rintro e w3 ⟨v3, rfl, o3, b3⟩
    rw [HRn.out] at o3
    have k3 := k2.trans (b3.mono k2.size)
    obtain ⟨A3, c3, rfl, _, _, _⟩ := own_rdp o3
    have hs3 : w.heap.size ≤ w2.heap.size := k2.size
    have H3 := Lib.hid o3
    clear b3 k2 R2 o3
    go_wp2_with fail
    refine (toSpans A c N L _ (HR.out.below k3) HN.out hN).mono ?_
    rintro e w4 ⟨rfl, o4, b4⟩
    have k4 := k3.trans (b4.mono k3.size)
    have H4 := Lib.hid o4
    have H34 := Lib.hid (own_kept H3.out b4)
    clear b4 o4
    go_wp2_with fail
    refine (norms_i _ _ N L z R _ (own_rd H4.out) HN.out hN hsL HZ.out HV.out).mono ?_
    rintro e w5 ⟨v5, rfl, o5, b5⟩
    rw [HRn.out] at o5
    have k5 := k4.trans (b5.mono k4.size)
    obtain ⟨A5, c5, rfl, _, _, _⟩ := own_rdp o5
    have H5 := Lib.hid o5
    have H45 := Lib.hid (own_kept H4.out b5)
    have H35 := Lib.hid (own_kept H34.out b5)
    have HA34 := Lib.hid (apart H3.out (Nat.le_refl _) H4.out)
    have HA45 := Lib.hid (apart' H4.out (Nat.le_refl _) H5.out)
    have HA53 := Lib.hid (apart H34.out (Nat.le_refl _) H5.out)
    clear b5 o5
    go_wp2_with fail
    refine (eqSpans A5 A3 _ _ n R _ (own_rd H5.out) (own_rd H35.out) HRn.out (by omega)).mono ?_
    rintro e w6 ⟨rfl, b6⟩
    have k6 := k5.trans (b6.mono k5.size)
    have H56 := Lib.hid (own_kept H5.out b6)
    have H46 := Lib.hid (own_kept H45.out b6)
    have H36 := Lib.hid (own_kept H35.out b6)
    clear b6 H3 H34 H35 H4 H45
    go_wp2_with fail
    refine (toSpans A c N L _ (HR.out.below k6) HN.out hN).mono ?_
    rintro e w7 ⟨rfl, o7, b7⟩
    have k7 := k6.trans (b7.mono k6.size)
    have H57 := Lib.hid (own_kept H56.out b7)
    have H47 := Lib.hid (own_kept H46.out b7)
    have H37 := Lib.hid (own_kept H36.out b7)
    have R7 := Lib.hid (own_rd o7)
    clear b7 o7 H56 H46 H36
    go_wp2_with fail
    refine (eqSpans _ _ _ _ N L _ (own_rd H47.out) R7.out HN.out hN).mono ?_
    rintro e w8 ⟨rfl, b8⟩
    have k8 := k7.trans (b8.mono k7.size)
    have H58 := Lib.hid (own_kept H57.out b8)
    have H48 := Lib.hid (own_kept H47.out b8)
    have H38 := Lib.hid (own_kept H37.out b8)
    clear b8 H57 H47 H37 R7
    go_wp2_with fail
    refine (mark_own _ _ L 1 N _ H48.out HN.out (by omega) (by omega)).mono ?_
    rintro e w9 ⟨rfl, o9, g9⟩
    have k9 := below_grown k8 g9 k8.size (fun q hq => by have := (H48.out.lt q hq).1; have := k3.size; omega)
    have H59 := Lib.hid (H58.out.kept g9 HA45.out)
    have H39 := Lib.hid (H38.out.kept g9 HA34.out)
    clear o9 g9 H58 H48 H38
    go_wp2_with fail
    refine (eqSpans A5 A3 _ _ n R _ (own_rd H59.out) (own_rd H39.out) HRn.out (by omega)).mono ?_
    rintro e w10 ⟨rfl, b10⟩
    have k10 := k9.trans (b10.mono k9.size)
    have H510 := Lib.hid (own_kept H59.out b10)
    have H310 := Lib.hid (own_kept H39.out b10)
    clear b10 H59 H39
    go_wp2_with fail
    refine (mark_own _ _ R 1 n _ H510.out HRn.out (by omega) (by omega)).mono ?_
    rintro e w11 ⟨rfl, o11, g11⟩
    have k11 := below_grown k10 g11 k10.size (fun q hq => by have := (H510.out.lt q hq).1; have := k4.size; omega)
    have H511 := Lib.hid o11
    have H311 := Lib.hid (H310.out.kept g11 HA53.out)
    clear o11 g11 H510 H310
    go_wp2_with fail
    refine (held_marks A5 _ 1 n _ (own_rd H511.out) (by omega) (by omega)).mono ?_
    rintro e w12 ⟨rfl, b12⟩
    have k12 := k11.trans (b12.mono k11.size)
    have H512 := Lib.hid (own_kept H511.out b12)
    have H312 := Lib.hid (own_kept H311.out b12)
    clear b12 H511 H311
    go_wp2_with fail
    refine (toSpans A c N L _ (HR.out.below k12) HN.out hN).mono ?_
    rintro e w13 ⟨rfl, o13, b13⟩
    have k13 := k12.trans (b13.mono k12.size)
    have H513 := Lib.hid (own_kept H512.out b13)
    have H313 := Lib.hid (own_kept H312.out b13)
    have R13 := Lib.hid (own_rd o13)
    clear b13 o13 H512 H312
    go_wp2_with fail
    refine (norms_i _ _ N L z R _ R13.out HN.out hN hsL HZ.out HV.out).mono ?_
    rintro e w14 ⟨v14, rfl, o14, b14⟩
    rw [HRn.out] at o14
    have k14 := k13.trans (b14.mono k13.size)
    obtain ⟨A14, c14, rfl, _, _, _⟩ := own_rdp o14
    have H514 := Lib.hid (own_kept H513.out b14)
    have H314 := Lib.hid (own_kept H313.out b14)
    have R14 := Lib.hid (own_rd o14)
    clear b14 o14 H513 H313 R13
    go_wp2_with fail
    refine (eqSpans A14 A3 _ _ n R _ R14.out (own_rd H314.out) HRn.out (by omega)).mono ?_
    rintro e w15 ⟨rfl, b15⟩
    have k15 := k14.trans (b15.mono k14.size)
    have H515 := Lib.hid (own_kept H514.out b15)
    clear b15 H514 H314 R14
    go_wp2_with fail
    refine (held_marks A5 _ 1 n _ (own_rd H515.out) (by omega) (by omega)).mono ?_
    rintro e w16 ⟨rfl, b16⟩
    have k16 := k15.trans (b16.mono k15.size)
    clear b16 H515
    go_wp2_with fail
    go_ret
    exact ⟨rfl, k16⟩
  · have ht : szPs 1048576 L = -1 := by unfold szPs; rw [hn, if_neg hfit]
    rw [ht] at HS
    clear ht hr hn hm hx hfit
    go_enter Try.func3, Try.ntmps3
    go_wp2_with fail
    refine HS.out.mono ?_
    rintro e w1 ⟨rfl, k1⟩
    go_wp2_with fail
    go_ret
    exact ⟨rfl, k1⟩

set_option maxRecDepth 100000 in
theorem lifted (os : Os) (started : os.Started) (H : Type) (enc : TypeId × Value → H) :
    ReturnsInHanded {} Try.checked os 3 .any (Rows.fnExactNormalizeSpansSpec.pre6 enc Try.prog Try.f3 Rows.fnExactNormalizeSpansRow.domain false) (Rows.fnExactNormalizeSpansSpec.post enc Try.prog Try.f3 false true false false) := by
  refine returnsInHanded_of_change (C := Try.checked) own started (by kernel_rfl) Try.func3
    (ChangeSpec.witness6 (enc := enc) (C := Try.checked) false ⟨#[], #[.slice none 0 0], []⟩ 8 (by kernel_rfl) (by kernel_rfl) (by kernel_rfl) (by kernel_rfl)) ?_
  intro W base args ds gs before hval0 hW hcnd _
  have hval : ∀ (j : Nat) t v, Try.f3.params[j]? = some t → args[j]? = some v → Value.okWide Try.prog W .any base t v := hval0
  have hW' := hW
  obtain ⟨p, q, hA0, hV, rfl, hfz, hnd⟩ := hW
  have hA : DataW.TrodAll enc Try.prog W 0 (fun _ => true) true Try.f3.params.toList args.toList ds p := hA0
  rw [Try.params3] at hA hval
  obtain ⟨v0, vs0, d0, ds0, p0, q0, hargs, rfl, rfl, h0, r0⟩ := trodAll_cons hA
  obtain ⟨rfl, rfl, rfl⟩ := trodAll_nil r0
  obtain rfl : args = #[v0] := by cases args; simp_all
  obtain ⟨rfl, rfl⟩ := trodVars_none hV
  have k0 := h0
  have lt0 : ∀ x ∈ p0, x.block < W.heap.size := by obtain ⟨m, hm⟩ := k0; exact DataW.trod_lt m _ _ _ hm
  obtain ⟨A0, N0, c0, L0, rfl, hr0, hn0, hm0, hx0, _⟩ := open_spans (hval 0 22 v0 rfl rfl) h0
  clear hA0 hval0
  refine (walk A0 N0 c0 L0 W hr0 hn0 hm0 hx0 ).mono fun e W' ⟨he, bel⟩ => ?_
  subst he
  exact ⟨_, rfl, _, _, _, [], _, [], hW', trodAll_mk1 (shut_bool Try.underlying4 _), (trodAll_cons_mk (Below.trod laidOut (by kernel_rfl) (of_decide_eq_true (by kernel_rfl)) k0 bel lt0) trodAll_mk0), rfl, bel.frame _, fun h => by cases h⟩

theorem closed : joinedFacts Try.pinned.checked.prog 3 Try.f3 Rows.fnExactNormalizeSpansSpec Rows.fnExactNormalizeSpansRow = true := by kernel_rfl
theorem over : Rows.fnExactNormalizeSpansRow.holds Try.pinned (OpenSpec.ofChange Rows.fnExactNormalizeSpansSpec) :=
  OpenClaim.holds_of_wide 3 Try.f3 rfl rfl rfl rfl rfl rfl rfl ⟨rfl, rfl, rfl, rfl, rfl⟩ rfl rfl rfl rfl rfl (by kernel_rfl) Try.func3 closed
    (of_decide_eq_true (by kernel_rfl)) (by unfold Func.isWrapper; first | (rw [if_pos (by decide +kernel)]; kernel_rfl) | (rw [if_neg (by decide +kernel)]; exact ⟨rfl, rfl⟩))
    (fun os started H enc _ => lifted os started H enc)

theorem proved : Rows.FnExactNormalizeSpansSaid :=
  over
#print axioms proved
end Go.Proofs.Ythahgejgkjcebaa.fnExactNormalizeSpans
