/-
  Proved: for every list of spans the law FnExactPlainText returns true: PlainText answers as its model and writes into no argument; the argument reads as before. No further condition.
-/
import Derived.Test.YthahgejgkjcebaaRows
import Derived.Test.YthahgejgkjcebaaSpT
import Derived.WalkKit
import Derived.ProofKit
import Derived.OpenShut
import Derived.ShutString
import Derived.ChangeOld
import Derived.Below
import Derived.Lib.SmallJoins
namespace Go.Proofs.Ythahgejgkjcebaa.fnExactPlainText
open Go.ChangeShapes Go.WideShapes Go.ChangeAt Go.RowKit
open Go.ChangeMaps (open_string shut_string)
open SpPl Sp SpA SpG SpT
set_option linter.unusedVariables false
set_option linter.unusedSimpArgs false

set_option maxRecDepth 100000 in
set_option maxHeartbeats 4000000 in
theorem walk (A : Option Addr) (N c : Nat) (L : List Sp1) (w : World) (hr : RdSp w A L) (hn : L.length = N) (hm : N ≤ maxLen) (hx : ∀ x ∈ L, x.l.size ≤ maxLen) :
    Calls Try.prog 4 #[.slice A N c] w fun e w' => e = .returned (.bool true) ∧ Below w.heap.size w w' := by
  have HS := Lib.hid (szSpans A c N L 1048576 w hr hn hm hx (Nat.le_refl _))
  have HR := Lib.hid hr
  have HN := Lib.hid hn
  by_cases hfit : N + szL L ≤ 1048576
  · obtain ⟨t, ht⟩ : ∃ t : Nat, szPs 1048576 L = (t : Int) := ⟨1048576 - (N + szL L), by unfold szPs; rw [hn, if_pos hfit]; omega⟩
    rw [ht] at HS
    have hN : N ≤ 1048576 := by omega
    have hsL : szL L ≤ 1048576 := by omega
    obtain ⟨z, hz⟩ : ∃ z, okS L = z := ⟨_, rfl⟩
    have HZ := Lib.hid hz
    obtain ⟨T, hv⟩ : ∃ T, plA z L = T := ⟨_, rfl⟩
    have HV := Lib.hid hv
    have hTr : (T.toList == T.toList) = true := by simp
    clear hz hv ht hr hn hm hx hfit
    go_enter Try.func4, Try.ntmps4
    go_wp2_with fail
    refine HS.out.mono ?_
    rintro e w1 ⟨rfl, k1⟩
    go_wp2_with fail
    refine (toSpans A c N L _ (HR.out.below k1) HN.out hN).mono ?_
    rintro e w2 ⟨rfl, o2, b2⟩
    have k2 := k1.trans (b2.mono k1.size)
    have R2 := Lib.hid (own_rd o2)
    clear o2 b2 k1
    go_wp2_with fail
    refine (text_s _ _ N L z T _ R2.out HN.out hN hsL HZ.out HV.out).mono ?_
    rintro e w3 ⟨rfl, b3⟩
    have k3 := k2.trans (b3.mono k2.size)
    clear b3 k2 R2
    go_wp2_with fail
    refine (toSpans A c N L _ (HR.out.below k3) HN.out hN).mono ?_
    rintro e w4 ⟨rfl, o4, b4⟩
    have k4 := k3.trans (b4.mono k3.size)
    have H4 := Lib.hid o4
    clear b4 o4
    go_wp2_with fail
    refine (text_i _ _ N L z T _ (own_rd H4.out) HN.out hN hsL HZ.out HV.out).mono ?_
    rintro e w5 ⟨rfl, b5⟩
    have k5 := k4.trans (b5.mono k4.size)
    have H45 := Lib.hid (own_kept H4.out b5)
    clear b5 H4
    go_wp2_with fail
    refine (toSpans A c N L _ (HR.out.below k5) HN.out hN).mono ?_
    rintro e w7 ⟨rfl, o7, b7⟩
    have k7 := k5.trans (b7.mono k5.size)
    have H47 := Lib.hid (own_kept H45.out b7)
    have R7 := Lib.hid (own_rd o7)
    clear b7 o7 H45
    go_wp2_with fail
    refine (eqSpans _ _ _ _ N L _ (own_rd H47.out) R7.out HN.out hN).mono ?_
    rintro e w8 ⟨rfl, b8⟩
    have k8 := k7.trans (b8.mono k7.size)
    clear b8 H47 R7
    go_wp2_with fail
    go_ret
    exact ⟨rfl, k8⟩
  · have ht : szPs 1048576 L = -1 := by unfold szPs; rw [hn, if_neg hfit]
    rw [ht] at HS
    clear ht hr hn hm hx hfit
    go_enter Try.func4, Try.ntmps4
    go_wp2_with fail
    refine HS.out.mono ?_
    rintro e w1 ⟨rfl, k1⟩
    go_wp2_with fail
    go_ret
    exact ⟨rfl, k1⟩

set_option maxRecDepth 100000 in
theorem lifted (os : Os) (started : os.Started) (H : Type) (enc : TypeId × Value → H) :
    ReturnsInHanded {} Try.checked os 4 .any (Rows.fnExactPlainTextSpec.pre6 enc Try.prog Try.f4 Rows.fnExactPlainTextRow.domain false) (Rows.fnExactPlainTextSpec.post enc Try.prog Try.f4 false true false false) := by
  refine returnsInHanded_of_change (C := Try.checked) own started (by kernel_rfl) Try.func4
    (ChangeSpec.witness6 (enc := enc) (C := Try.checked) false ⟨#[], #[.slice none 0 0], []⟩ 8 (by kernel_rfl) (by kernel_rfl) (by kernel_rfl) (by kernel_rfl)) ?_
  intro W base args ds gs before hval0 hW hcnd _
  have hval : ∀ (j : Nat) t v, Try.f4.params[j]? = some t → args[j]? = some v → Value.okWide Try.prog W .any base t v := hval0
  have hW' := hW
  obtain ⟨p, q, hA0, hV, rfl, hfz, hnd⟩ := hW
  have hA : DataW.TrodAll enc Try.prog W 0 (fun _ => true) true Try.f4.params.toList args.toList ds p := hA0
  rw [Try.params4] at hA hval
  obtain ⟨v0, vs0, d0, ds0, p0, q0, hargs, rfl, rfl, h0, r0⟩ := trodAll_cons hA
  obtain ⟨rfl, rfl, rfl⟩ := trodAll_nil r0
  obtain rfl : args = #[v0] := by cases args; simp_all
  obtain ⟨rfl, rfl⟩ := trodVars_none hV
  have k0 := h0
  have lt0 : ∀ x ∈ p0, x.block < W.heap.size := by obtain ⟨m, hm⟩ := k0; exact DataW.trod_lt m _ _ _ hm
  obtain ⟨A0, N0, c0, L0, rfl, hr0, hn0, hm0, hx0, _⟩ := open_spans (hval 0 22 v0 rfl rfl) h0
  clear hA0 hval0
  refine (walk A0 N0 c0 L0 W hr0 hn0 hm0 hx0 ).mono fun e W' ⟨he, bel⟩ => ?_
  subst he
  exact ⟨_, rfl, _, _, _, [], _, [], hW', trodAll_mk1 (shut_bool Try.underlying4 _), (trodAll_cons_mk (Below.trod laidOut (by kernel_rfl) (of_decide_eq_true (by kernel_rfl)) k0 bel lt0) trodAll_mk0), rfl, bel.frame _, fun h => by cases h⟩

theorem closed : joinedFacts Try.pinned.checked.prog 4 Try.f4 Rows.fnExactPlainTextSpec Rows.fnExactPlainTextRow = true := by kernel_rfl
theorem over : Rows.fnExactPlainTextRow.holds Try.pinned (OpenSpec.ofChange Rows.fnExactPlainTextSpec) :=
  OpenClaim.holds_of_wide 4 Try.f4 rfl rfl rfl rfl rfl rfl rfl ⟨rfl, rfl, rfl, rfl, rfl⟩ rfl rfl rfl rfl rfl (by kernel_rfl) Try.func4 closed
    (of_decide_eq_true (by kernel_rfl)) (by unfold Func.isWrapper; first | (rw [if_pos (by decide +kernel)]; kernel_rfl) | (rw [if_neg (by decide +kernel)]; exact ⟨rfl, rfl⟩))
    (fun os started H enc _ => lifted os started H enc)

theorem proved : Rows.FnExactPlainTextSaid :=
  over
#print axioms proved
end Go.Proofs.Ythahgejgkjcebaa.fnExactPlainText
