/-
  Proved: for every date the law FnExactDateBounds returns true: DateBounds answers as its model; the argument reads as before. No further condition.
-/
import Derived.Test.YtfnkaoobnhjlbaaRows
import Derived.Test.YtfnkaoobnhjlbaaDt8
import Derived.Test.YtfnkaoobnhjlbaaOpenD
import Derived.Deep.DeepCutAuto
import Derived.WalkKit
import Derived.ProofKit
import Derived.OpenShut
import Derived.ShutString
import Derived.ChangeOld
import Derived.Below
import Derived.Lib.SmallJoins
namespace Go.Proofs.Ytfnkaoobnhjlbaa.fnExactDateBounds
open Go.ChangeShapes Go.WideShapes Go.ChangeAt Go.RowKit
open Go.ChangeMaps (open_string shut_string)
open DtPl Dt OpenD
set_option linter.unusedVariables false
set_option linter.unusedSimpArgs false

set_option maxHeartbeats 4000000 in
theorem walk (y m d : Int) (c : Bool) (w : World) :
    Calls Try.prog 7 #[dtV y m d c] w fun e w' => e = .returned (.bool true) ∧ Below w.heap.size w w' := by
  have HB := Lib.hid (box_below w (.cells #[.int .i64 y, .int .i64 m, .int .i64 d, .bool c] 23))
  have HD := Lib.hid (D4.new w y m d c 23)
  obtain ⟨a, b, z, f, a', b', z', f', r, hv⟩ := bd_form y m d c
  have HV := Lib.hid hv
  clear hv
  go_enter Try.func7, Try.ntmps7
  go_wp2_with fail
  refine (toDate y m d c _).mono ?_
  rintro e w1 ⟨rfl, b1⟩
  have k1 := HB.out.trans (b1.mono HB.out.size)
  have D1 := Lib.hid (HD.out.below b1)
  clear b1 HD
  go_wp2_with fail
  refine (sBounds y m d c _ _ HV.out).mono ?_
  rintro e w2 ⟨rfl, b2⟩
  have k2 := k1.trans (b2.mono k1.size)
  have D2 := Lib.hid (D1.out.below b2)
  clear b2 D1 k1
  have T3 := Lib.hid (Law2.Two.new w2 a b z f a' b' z' f' 25 25)
  have B3 := box2 w2 (.cells #[.int .i64 a, .int .i64 b, .int .i64 z, .bool f] 25) (.cells #[.int .i64 a', .int .i64 b', .int .i64 z', .bool f'] 25)
  have k3 := k2.trans (B3.mono k2.size)
  have D3 := Lib.hid (D2.out.below B3)
  clear B3 D2 k2
  obtain ⟨hlt, hc0, hc1, hc2, hc3⟩ := D3.out
  go_upto_region 2 with fail
  generalize hW : (w2.alloc _).alloc _ = W3 at T3 k3 D3 hlt hc0 hc1 hc2 hc3 ⊢
  clear hW
  go_wp2_with fail
  refine (toDate y m d c _).mono ?_
  rintro e w4 ⟨rfl, b4⟩
  have k4 := k3.trans (b4.mono k3.size)
  have T4 := Lib.hid (T3.out.below b4)
  clear b4 hlt hc0 hc1 hc2 hc3 D3 k3 T3
  go_wp2_with fail
  refine (iBounds y m d c _ _ HV.out).mono ?_
  rintro e w5 ⟨rfl, b5⟩
  have k5 := k4.trans (b5.mono k4.size)
  have T5 := Lib.hid (T4.out.below b5)
  clear b5 k4 T4
  have B6 := box2 w5 (.cells #[.int .i64 a, .int .i64 b, .int .i64 z, .bool f] 25) (.cells #[.int .i64 a', .int .i64 b', .int .i64 z', .bool f'] 25)
  have T6 := Lib.hid (Law2.Two.new w5 a b z f a' b' z' f' 25 25)
  have T7 := Lib.hid (T5.out.below B6)
  have k6 := k5.trans (B6.mono k5.size)
  clear B6 k5 T5
  go_upto_region 3 with fail
  generalize hW : (w5.alloc _).alloc _ = W6 at T6 T7 k6 ⊢
  clear hW
  obtain ⟨⟨l1, p0, p1, p2, p3⟩, ⟨l2, q0, q1, q2, q3⟩⟩ := T6.out
  obtain ⟨⟨l3, r0, r1, r2, r3⟩, ⟨l4, s0, s1, s2, s3⟩⟩ := T7.out
  go_wp2_with fail
  refine (eqDate a b z f _).mono ?_
  rintro e w7 ⟨rfl, b7⟩
  have k7 := k6.trans (b7.mono k6.size)
  have T8 := Lib.hid (T6.out.below b7)
  have T9 := Lib.hid (T7.out.below b7)
  clear b7 l1 p0 p1 p2 p3 l2 q0 q1 q2 q3 l3 r0 r1 r2 r3 l4 s0 s1 s2 s3 T6 T7 k6
  obtain ⟨_, ⟨l2, q0, q1, q2, q3⟩⟩ := T8.out
  obtain ⟨_, ⟨l4, s0, s1, s2, s3⟩⟩ := T9.out
  go_wp2_with fail
  refine (eqDate a' b' z' f' _).mono ?_
  rintro e w8 ⟨rfl, b8⟩
  go_wp2_with fail
  go_ret
  exact ⟨rfl, k7.trans (b8.mono k7.size)⟩

set_option maxRecDepth 100000 in
theorem lifted (os : Os) (started : os.Started) (H : Type) (enc : TypeId × Value → H) :
    ReturnsInHanded {} Try.checked os 7 .any (Rows.fnExactDateBoundsSpec.pre6 enc Try.prog Try.f7 Rows.fnExactDateBoundsRow.domain false) (Rows.fnExactDateBoundsSpec.post enc Try.prog Try.f7 false true false false) := by
  refine returnsInHanded_of_change (C := Try.checked) own started (by kernel_rfl) Try.func7
    (ChangeSpec.witness6 (enc := enc) (C := Try.checked) false ⟨#[], #[.agg #[.int .i64 0, .int .i64 0, .int .i64 0, .bool false]], []⟩ 8 (by kernel_rfl) (by kernel_rfl) (by kernel_rfl) (by kernel_rfl)) ?_
  intro W base args ds gs before hval0 hW hcnd _
  have hval : ∀ (j : Nat) t v, Try.f7.params[j]? = some t → args[j]? = some v → Value.okWide Try.prog W .any base t v := hval0
  have hW' := hW
  obtain ⟨p, q, hA0, hV, rfl, hfz, hnd⟩ := hW
  have hA : DataW.TrodAll enc Try.prog W 0 (fun _ => true) true Try.f7.params.toList args.toList ds p := hA0
  rw [Try.params7] at hA hval
  obtain ⟨v0, vs0, d0, ds0, p0, q0, hargs, rfl, rfl, h0, r0⟩ := trodAll_cons hA
  obtain ⟨rfl, rfl, rfl⟩ := trodAll_nil r0
  obtain rfl : args = #[v0] := by cases args; simp_all
  obtain ⟨rfl, rfl⟩ := trodVars_none hV
  have k0 := h0
  have lt0 : ∀ x ∈ p0, x.block < W.heap.size := by obtain ⟨m, hm⟩ := k0; exact DataW.trod_lt m _ _ _ hm
  obtain ⟨ya0, ma0, da0, ca0, rfl⟩ := open_date (hval 0 23 v0 rfl rfl) h0
  clear hA0 hval0
  refine (walk ya0 ma0 da0 ca0 W  ).mono fun e W' ⟨he, bel⟩ => ?_
  subst he
  exact ⟨_, rfl, _, _, _, [], _, [], hW', trodAll_mk1 (shut_bool Try.underlying4 _), (trodAll_cons_mk (Below.trod laidOut (by kernel_rfl) (of_decide_eq_true (by kernel_rfl)) k0 bel lt0) trodAll_mk0), rfl, bel.frame _, fun h => by cases h⟩

theorem over : Rows.fnExactDateBoundsRow.holds Try.pinned (OpenSpec.ofChange Rows.fnExactDateBoundsSpec) :=
  OpenClaim.holds_of_wide 7 Try.f7 rfl rfl rfl rfl rfl rfl rfl ⟨rfl, rfl, rfl, rfl, rfl⟩ rfl rfl rfl rfl rfl (by kernel_rfl) Try.func7 (by kernel_rfl)
    (of_decide_eq_true (by kernel_rfl)) (by unfold Func.isWrapper; first | (rw [if_pos (by decide +kernel)]; kernel_rfl) | (rw [if_neg (by decide +kernel)]; exact ⟨rfl, rfl⟩))
    (fun os started H enc _ => lifted os started H enc)

theorem proved : Rows.FnExactDateBoundsSaid :=
  over
#print axioms proved
end Go.Proofs.Ytfnkaoobnhjlbaa.fnExactDateBounds
