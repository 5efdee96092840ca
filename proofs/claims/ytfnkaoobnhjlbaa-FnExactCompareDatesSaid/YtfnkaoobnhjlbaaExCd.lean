/-
  Proved: for all pairs of dates the law FnExactCompareDates returns true: CompareDates answers as its model; the arguments read as before. No further condition.
-/
import Derived.Test.YtfnkaoobnhjlbaaRows
import Derived.Test.YtfnkaoobnhjlbaaDt6
import Derived.Test.YtfnkaoobnhjlbaaOpenD
import Derived.Deep.RegionHeld3
import Derived.Test.YtfnkaoobnhjlbaaLaw2
import Derived.WalkKit
import Derived.ProofKit
import Derived.OpenShut
import Derived.ShutString
import Derived.ChangeOld
import Derived.Below
import Derived.Lib.SmallJoins
namespace Go.Proofs.Ytfnkaoobnhjlbaa.fnExactCompareDates
open Go.ChangeShapes Go.WideShapes Go.ChangeAt Go.RowKit
open Go.ChangeMaps (open_string shut_string)
open DtPl Dt OpenD Law2
set_option linter.unusedVariables false
set_option linter.unusedSimpArgs false

set_option maxHeartbeats 4000000 in
theorem walk (y m d : Int) (c : Bool) (y' m' d' : Int) (c' : Bool) (w : World) :
    Calls Try.prog 5 #[dtV y m d c, dtV y' m' d' c'] w fun e w' => e = .returned (.bool true) ∧ Below w.heap.size w w' := by
  have HT := Lib.hid (Two.new w y m d c y' m' d' c' 23 23)
  have HB := Lib.hid (box2 w (.cells #[.int .i64 y, .int .i64 m, .int .i64 d, .bool c] 23) (.cells #[.int .i64 y', .int .i64 m', .int .i64 d', .bool c'] 23))
  generalize hra : okB y m d c = ra
  generalize hrb : okB y' m' d' c' = rb
  generalize hx : (if (ra && rb) = true then cmpD y m d c y' m' d' c' else 0) = x
  have HVa := Lib.hid hra
  have HVb := Lib.hid hrb
  have HX := Lib.hid hx
  clear hra hrb hx
  go_enter Try.func5, Try.ntmps5
  go_wp2_with fail
  generalize hW : (w.alloc _).alloc _ = W0 at HT HB ⊢
  clear hW
  have HS1 : Hid (∀ w', Kept W0 w' → ((w'.cell? ⟨w.heap.size, 0, none⟩ = some (.int .i64 y) ∧ w'.cell? ⟨w.heap.size, 1, none⟩ = some (.int .i64 m) ∧ w'.cell? ⟨w.heap.size, 2, none⟩ = some (.int .i64 d) ∧ w'.cell? ⟨w.heap.size, 3, none⟩ = some (.bool c)) ∧ (w'.cell? ⟨w.heap.size + 1, 0, none⟩ = some (.int .i64 y') ∧ w'.cell? ⟨w.heap.size + 1, 1, none⟩ = some (.int .i64 m') ∧ w'.cell? ⟨w.heap.size + 1, 2, none⟩ = some (.int .i64 d') ∧ w'.cell? ⟨w.heap.size + 1, 3, none⟩ = some (.bool c')) ∧ Kept W0 w')) := Lib.hid (fun w' h => ⟨(HT.out.below h).1.2, (HT.out.below h).2.2, h⟩)
  have HK1 := Lib.hid (Kept.drew W0)
  go_wp2_with fail
  go_region_held3 (fun w' => (w'.cell? ⟨w.heap.size, 0, none⟩ = some (.int .i64 y) ∧ w'.cell? ⟨w.heap.size, 1, none⟩ = some (.int .i64 m) ∧ w'.cell? ⟨w.heap.size, 2, none⟩ = some (.int .i64 d) ∧ w'.cell? ⟨w.heap.size, 3, none⟩ = some (.bool c)) ∧ (w'.cell? ⟨w.heap.size + 1, 0, none⟩ = some (.int .i64 y') ∧ w'.cell? ⟨w.heap.size + 1, 1, none⟩ = some (.int .i64 m') ∧ w'.cell? ⟨w.heap.size + 1, 2, none⟩ = some (.int .i64 d') ∧ w'.cell? ⟨w.heap.size + 1, 3, none⟩ = some (.bool c')) ∧ Kept W0 w')
    (first | exact HS1.out _ HK1.out | exact HS1.out _ (by assumption))
    (first
      | (go_at_call 15; (with_reducible refine (sCompare y m d c y' m' d' c' ra rb x _ HVa.out HVb.out HX.out).mono ?_); rintro e w5 ⟨rfl, b5⟩; have hk5 : Kept W0 w5 := Kept.next hk4 b5)
      | (go_at_call 11; (with_reducible refine (toDate y' m' d' c' _).mono ?_); rintro e w4 ⟨rfl, b4⟩; have hk4 : Kept W0 w4 := Kept.next hk3 b4)
      | (go_at_call 11; (with_reducible refine (toDate y m d c _).mono ?_); rintro e w3 ⟨rfl, b3⟩; have hk3 : Kept W0 w3 := Kept.next HK1.out b3))
  have k1 := HB.out.trans (Below.mono hk5 HB.out.size)
  have HT1 := Lib.hid (HT.out.below hk5)
  clear HS1 HK1 hk5 hk4 hk3 b3 b4 b5 HT HB
  have HS2 : Hid (∀ w', Kept w5 w' → ((w'.cell? ⟨w.heap.size, 0, none⟩ = some (.int .i64 y) ∧ w'.cell? ⟨w.heap.size, 1, none⟩ = some (.int .i64 m) ∧ w'.cell? ⟨w.heap.size, 2, none⟩ = some (.int .i64 d) ∧ w'.cell? ⟨w.heap.size, 3, none⟩ = some (.bool c)) ∧ (w'.cell? ⟨w.heap.size + 1, 0, none⟩ = some (.int .i64 y') ∧ w'.cell? ⟨w.heap.size + 1, 1, none⟩ = some (.int .i64 m') ∧ w'.cell? ⟨w.heap.size + 1, 2, none⟩ = some (.int .i64 d') ∧ w'.cell? ⟨w.heap.size + 1, 3, none⟩ = some (.bool c')) ∧ Kept w5 w')) := Lib.hid (fun w' h => ⟨(HT1.out.below h).1.2, (HT1.out.below h).2.2, h⟩)
  have HK2 := Lib.hid (Kept.drew w5)
  go_wp2_with fail
  go_region_held3 (fun w' => (w'.cell? ⟨w.heap.size, 0, none⟩ = some (.int .i64 y) ∧ w'.cell? ⟨w.heap.size, 1, none⟩ = some (.int .i64 m) ∧ w'.cell? ⟨w.heap.size, 2, none⟩ = some (.int .i64 d) ∧ w'.cell? ⟨w.heap.size, 3, none⟩ = some (.bool c)) ∧ (w'.cell? ⟨w.heap.size + 1, 0, none⟩ = some (.int .i64 y') ∧ w'.cell? ⟨w.heap.size + 1, 1, none⟩ = some (.int .i64 m') ∧ w'.cell? ⟨w.heap.size + 1, 2, none⟩ = some (.int .i64 d') ∧ w'.cell? ⟨w.heap.size + 1, 3, none⟩ = some (.bool c')) ∧ Kept w5 w')
    (first | exact HS2.out _ HK2.out | exact HS2.out _ (by assumption))
    (first
      | (go_at_call 16; (with_reducible refine (iCompareD y m d c y' m' d' c' ra rb x _ HVa.out HVb.out HX.out).mono ?_); rintro e w8 ⟨rfl, b8⟩; have hk8 : Kept w5 w8 := Kept.next hk7 b8)
      | (go_at_call 11; (with_reducible refine (toDate y' m' d' c' _).mono ?_); rintro e w7 ⟨rfl, b7⟩; have hk7 : Kept w5 w7 := Kept.next hk6 b7)
      | (go_at_call 11; (with_reducible refine (toDate y m d c _).mono ?_); rintro e w6 ⟨rfl, b6⟩; have hk6 : Kept w5 w6 := Kept.next HK2.out b6))
  go_wp2_with fail
  go_ret
  exact ⟨rfl, k1.trans (Below.mono hk8 k1.size)⟩


set_option maxRecDepth 100000 in
theorem lifted (os : Os) (started : os.Started) (H : Type) (enc : TypeId × Value → H) :
    ReturnsInHanded {} Try.checked os 5 .any (Rows.fnExactCompareDatesSpec.pre6 enc Try.prog Try.f5 Rows.fnExactCompareDatesRow.domain false) (Rows.fnExactCompareDatesSpec.post enc Try.prog Try.f5 false true false false) := by
  refine returnsInHanded_of_change (C := Try.checked) own started (by kernel_rfl) Try.func5
    (ChangeSpec.witness6 (enc := enc) (C := Try.checked) false ⟨#[], #[.agg #[.int .i64 0, .int .i64 0, .int .i64 0, .bool false], .agg #[.int .i64 0, .int .i64 0, .int .i64 0, .bool false]], []⟩ 8 (by kernel_rfl) (by kernel_rfl) (by kernel_rfl) (by kernel_rfl)) ?_
  intro W base args ds gs before hval0 hW hcnd _
  have hval : ∀ (j : Nat) t v, Try.f5.params[j]? = some t → args[j]? = some v → Value.okWide Try.prog W .any base t v := hval0
  have hW' := hW
  obtain ⟨p, q, hA0, hV, rfl, hfz, hnd⟩ := hW
  have hA : DataW.TrodAll enc Try.prog W 0 (fun _ => true) true Try.f5.params.toList args.toList ds p := hA0
  rw [Try.params5] at hA hval
  obtain ⟨v0, vs0, d0, ds0, p0, q0, hargs, rfl, rfl, h0, r0⟩ := trodAll_cons hA
  obtain ⟨v1, vs1, d1, ds1, p1, q1, rfl, rfl, rfl, h1, r1⟩ := trodAll_cons r0
  obtain ⟨rfl, rfl, rfl⟩ := trodAll_nil r1
  obtain rfl : args = #[v0, v1] := by cases args; simp_all
  obtain ⟨rfl, rfl⟩ := trodVars_none hV
  have k0 := h0
  have lt0 : ∀ x ∈ p0, x.block < W.heap.size := by obtain ⟨m, hm⟩ := k0; exact DataW.trod_lt m _ _ _ hm
  have k1 := h1
  have lt1 : ∀ x ∈ p1, x.block < W.heap.size := by obtain ⟨m, hm⟩ := k1; exact DataW.trod_lt m _ _ _ hm
  obtain ⟨ya0, ma0, da0, ca0, rfl⟩ := open_date (hval 0 23 v0 rfl rfl) h0
  obtain ⟨ya1, ma1, da1, ca1, rfl⟩ := open_date (hval 1 23 v1 rfl rfl) h1
  clear hA0 hval0
  refine (walk ya0 ma0 da0 ca0 ya1 ma1 da1 ca1 W  ).mono fun e W' ⟨he, bel⟩ => ?_
  subst he
  exact ⟨_, rfl, _, _, _, [], _, [], hW', trodAll_mk1 (shut_bool Try.underlying4 _), (trodAll_cons_mk (Below.trod laidOut (by kernel_rfl) (of_decide_eq_true (by kernel_rfl)) k0 bel lt0) (trodAll_cons_mk (Below.trod laidOut (by kernel_rfl) (of_decide_eq_true (by kernel_rfl)) k1 bel lt1) trodAll_mk0)), rfl, bel.frame _, fun h => by cases h⟩

theorem over : Rows.fnExactCompareDatesRow.holds Try.pinned (OpenSpec.ofChange Rows.fnExactCompareDatesSpec) :=
  OpenClaim.holds_of_wide 5 Try.f5 rfl rfl rfl rfl rfl rfl rfl ⟨rfl, rfl, rfl, rfl, rfl⟩ rfl rfl rfl rfl rfl (by kernel_rfl) Try.func5 (by kernel_rfl)
    (of_decide_eq_true (by kernel_rfl)) (by unfold Func.isWrapper; first | (rw [if_pos (by decide +kernel)]; kernel_rfl) | (rw [if_neg (by decide +kernel)]; exact ⟨rfl, rfl⟩))
    (fun os started H enc _ => lifted os started H enc)

theorem proved : Rows.FnExactCompareDatesSaid :=
  over
#print axioms proved
end Go.Proofs.Ytfnkaoobnhjlbaa.fnExactCompareDates
