/-
  Proved: for every date the law FnExactIsValidDate returns true: IsValidDate answers as its model; the argument reads as before. No further condition.
-/
import Derived.Test.YtfnkaoobnhjlbaaRows
import Derived.Test.YtfnkaoobnhjlbaaDt2
import Derived.Test.YtfnkaoobnhjlbaaOpenD
import Derived.WalkKit
import Derived.ProofKit
import Derived.OpenShut
import Derived.ShutString
import Derived.ChangeOld
import Derived.Below
import Derived.Lib.SmallJoins
namespace Go.Proofs.Ytfnkaoobnhjlbaa.fnExactIsValidDate
open Go.ChangeShapes Go.WideShapes Go.ChangeAt Go.RowKit
open Go.ChangeMaps (open_string shut_string)
open DtPl Dt OpenD
set_option linter.unusedVariables false
set_option linter.unusedSimpArgs false

set_option maxHeartbeats 1000000 in
theorem walk (y m d : Int) (c : Bool) (w : World) :
    Calls Try.prog 3 #[dtV y m d c] w fun e w' => e = .returned (.bool true) ∧ Below w.heap.size w w' := by
  have HB := Lib.hid (box_below w (.cells #[.int .i64 y, .int .i64 m, .int .i64 d, .bool c] 23))
  have HD := Lib.hid (D4.new w y m d c 23)
  generalize hr : okB y m d c = r
  have HR := Lib.hid hr
  clear hr
  go_enter Try.func3, Try.ntmps3
  go_wp2_with fail
  refine (toDate y m d c _).mono ?_
  rintro e w1 ⟨rfl, b1⟩
  have k1 := HB.out.trans (b1.mono HB.out.size)
  have D1 := Lib.hid (HD.out.below b1)
  clear b1 HD
  go_wp2_with fail
  refine (sValid y m d c r _ HR.out).mono ?_
  rintro e w2 ⟨rfl, b2⟩
  have k2 := k1.trans (b2.mono k1.size)
  have D2 := Lib.hid (D1.out.below b2)
  clear b2 D1 k1
  obtain ⟨hlt, hc0, hc1, hc2, hc3⟩ := D2.out
  go_wp2_with fail
  refine (toDate y m d c _).mono ?_
  rintro e w3 ⟨rfl, b3⟩
  have k3 := k2.trans (b3.mono k2.size)
  clear b3 hlt hc0 hc1 hc2 hc3 D2 k2
  go_wp2_with fail
  refine (iValid y m d c r _ HR.out).mono ?_
  rintro e w4 ⟨rfl, b4⟩
  have k4 := k3.trans (b4.mono k3.size)
  clear b4 k3
  go_wp2_with fail
  go_ret
  exact ⟨rfl, k4⟩

set_option maxRecDepth 100000 in
theorem lifted (os : Os) (started : os.Started) (H : Type) (enc : TypeId × Value → H) :
    ReturnsInHanded {} Try.checked os 3 .any (Rows.fnExactIsValidDateSpec.pre6 enc Try.prog Try.f3 Rows.fnExactIsValidDateRow.domain false) (Rows.fnExactIsValidDateSpec.post enc Try.prog Try.f3 false true false false) := by
  refine returnsInHanded_of_change (C := Try.checked) own started (by kernel_rfl) Try.func3
    (ChangeSpec.witness6 (enc := enc) (C := Try.checked) false ⟨#[], #[.agg #[.int .i64 0, .int .i64 0, .int .i64 0, .bool false]], []⟩ 8 (by kernel_rfl) (by kernel_rfl) (by kernel_rfl) (by kernel_rfl)) ?_
  intro W base args ds gs before hval0 hW hcnd _
  have hval : ∀ (j : Nat) t v, Try.f3.params[j]? = some t → args[j]? = some v → Value.okWide Try.prog W .any base t v := hval0
  have hW' := hW
  obtain ⟨p, q, hA0, hV, rfl, hfz, hnd⟩ := hW
  have hA : DataW.TrodAll enc Try.prog W 0 (fun _ => true) true Try.f3.params.toList args.toList ds p := hA0
  rw [Try.params3] at hA hval
  obtain ⟨v0, vs0, d0, ds0, p0, q0, hargs, rfl, rfl, h0, r0⟩ := trodAll_cons hA
  obtain ⟨rfl, rfl, rfl⟩ := trodAll_nil r0
  obtain rfl : args = #[v0] := by cases args; simp_all
  obtain ⟨rfl, rfl⟩ := trodVars_none hV
  have k0 := h0
  have lt0 : ∀ x ∈ p0, x.block < W.heap.size := by obtain ⟨m, hm⟩ := k0; exact DataW.trod_lt m _ _ _ hm
  obtain ⟨ya0, ma0, da0, ca0, rfl⟩ := open_date (hval 0 23 v0 rfl rfl) h0
  clear hA0 hval0
  refine (walk ya0 ma0 da0 ca0 W  ).mono fun e W' ⟨he, bel⟩ => ?_
  subst he
  exact ⟨_, rfl, _, _, _, [], _, [], hW', trodAll_mk1 (shut_bool Try.underlying4 _), (trodAll_cons_mk (Below.trod laidOut (by kernel_rfl) (of_decide_eq_true (by kernel_rfl)) k0 bel lt0) trodAll_mk0), rfl, bel.frame _, fun h => by cases h⟩

theorem over : Rows.fnExactIsValidDateRow.holds Try.pinned (OpenSpec.ofChange Rows.fnExactIsValidDateSpec) :=
  OpenClaim.holds_of_wide 3 Try.f3 rfl rfl rfl rfl rfl rfl rfl ⟨rfl, rfl, rfl, rfl, rfl⟩ rfl rfl rfl rfl rfl (by kernel_rfl) Try.func3 (by kernel_rfl)
    (of_decide_eq_true (by kernel_rfl)) (by unfold Func.isWrapper; first | (rw [if_pos (by decide +kernel)]; kernel_rfl) | (rw [if_neg (by decide +kernel)]; exact ⟨rfl, rfl⟩))
    (fun os started H enc _ => lifted os started H enc)

theorem proved : Rows.FnExactIsValidDateSaid :=
  over
#print axioms proved
end Go.Proofs.Ytfnkaoobnhjlbaa.fnExactIsValidDate
