/-
  Proved: for all pairs of dates the law FnExactMergeDates returns true: MergeDates answers as its model; the arguments read as before. No further condition.
-/
import Derived.Test.YtfnkaoobnhjlbaaRows
import Derived.Test.YtfnkaoobnhjlbaaDt7
import Derived.Test.YtfnkaoobnhjlbaaOpenD
import Derived.Deep.RegionHeld3
import Derived.Deep.DeepCutAuto
import Derived.Test.YtfnkaoobnhjlbaaLaw2
import Derived.WalkKit
import Derived.ProofKit
import Derived.OpenShut
import Derived.ShutString
import Derived.ChangeOld
import Derived.Below
import Derived.Lib.SmallJoins
namespace Go.Proofs.Ytfnkaoobnhjlbaa.fnExactMergeDates
open Go.ChangeShapes Go.WideShapes Go.ChangeAt Go.RowKit
open Go.ChangeMaps (open_string shut_string)
open DtPl Dt OpenD Law2
set_option linter.unusedVariables false
set_option linter.unusedSimpArgs false

set_option maxHeartbeats 8000000 in
theorem walk (y m d : Int) (c : Bool) (y' m' d' : Int) (c' : Bool) (w : World) :
    Calls Try.prog 8 #[dtV y m d c, dtV y' m' d' c'] w fun e w' => e = .returned (.bool true) ∧ Below w.heap.size w w' := by
  have HT := Lib.hid (Two.new w y m d c y' m' d' c' 23 23)
  have HB := Lib.hid (box2 w (.cells #[.int .i64 y, .int .i64 m, .int .i64 d, .bool c] 23) (.cells #[.int .i64 y', .int .i64 m', .int .i64 d', .bool c'] 23))
  obtain ⟨a, b, z, f, r, hv⟩ := mg_form y m d c y' m' d' c'
  have HV := Lib.hid hv
  clear hv
  go_enter Try.func8, Try.ntmps8
  go_upto_region 1 with fail
  generalize hW : (w.alloc _).alloc _ = W0 at HT HB ⊢
  clear hW
  go_cut [5, 6] (fun s5 s6 wx => ∃ B : Nat, s5 = .pointer (some ⟨B, 0, none⟩) ∧ s6 = .bool r ∧ Hid (Mid1 w wx B y m d c y' m' d' c' a b z f))
  case first =>
    have HS1 : Hid (∀ w', Kept W0 w' → ((w'.cell? ⟨w.heap.size, 0, none⟩ = some (.int .i64 y) ∧ w'.cell? ⟨w.heap.size, 1, none⟩ = some (.int .i64 m) ∧ w'.cell? ⟨w.heap.size, 2, none⟩ = some (.int .i64 d) ∧ w'.cell? ⟨w.heap.size, 3, none⟩ = some (.bool c)) ∧ (w'.cell? ⟨w.heap.size + 1, 0, none⟩ = some (.int .i64 y') ∧ w'.cell? ⟨w.heap.size + 1, 1, none⟩ = some (.int .i64 m') ∧ w'.cell? ⟨w.heap.size + 1, 2, none⟩ = some (.int .i64 d') ∧ w'.cell? ⟨w.heap.size + 1, 3, none⟩ = some (.bool c')) ∧ Kept W0 w')) := Lib.hid (fun w' h => ⟨(HT.out.below h).1.2, (HT.out.below h).2.2, h⟩)
    have HK1 := Lib.hid (Kept.drew W0)
    go_region_held3 (fun w' => (w'.cell? ⟨w.heap.size, 0, none⟩ = some (.int .i64 y) ∧ w'.cell? ⟨w.heap.size, 1, none⟩ = some (.int .i64 m) ∧ w'.cell? ⟨w.heap.size, 2, none⟩ = some (.int .i64 d) ∧ w'.cell? ⟨w.heap.size, 3, none⟩ = some (.bool c)) ∧ (w'.cell? ⟨w.heap.size + 1, 0, none⟩ = some (.int .i64 y') ∧ w'.cell? ⟨w.heap.size + 1, 1, none⟩ = some (.int .i64 m') ∧ w'.cell? ⟨w.heap.size + 1, 2, none⟩ = some (.int .i64 d') ∧ w'.cell? ⟨w.heap.size + 1, 3, none⟩ = some (.bool c')) ∧ Kept W0 w')
      (first | exact HS1.out _ HK1.out | exact HS1.out _ (Kept.new1 _ _) | exact HS1.out _ (Kept.alloc (by assumption) _) | exact HS1.out _ (by assumption) | exact HS1.out _ (Kept.set4 (by assumption) (by first | exact Nat.le_refl _ | exact Kept.size (by assumption))))
      (first
        | (go_at_call 22; (with_reducible refine (sMerge y m d c y' m' d' c' _ _ HV.out).mono ?_); rintro e w5 ⟨rfl, b5⟩; have hk5 : Kept W0 w5 := (by first | exact Kept.next HK1.out b5 | exact Kept.next (Kept.new1 _ _) b5 | exact Kept.next (by assumption) b5 | exact Kept.next (Kept.alloc (by assumption) _) b5); try (have hz5 := D4F.below b5 (by first | assumption | (with_reducible exact D4F.newD _ _ _ _ _ _) | (with_reducible exact D4F.new _ _ _ _ _ _))); try (have HZ5 := Lib.hid hz5; obtain ⟨⟨hl5, hp50, hp51, hp52, hp53⟩, hf50, hf51, hf52, hf53⟩ := hz5))
        | (go_at_call 11; (with_reducible refine (toDate y' m' d' c' _).mono ?_); rintro e w4 ⟨rfl, b4⟩; have hk4 : Kept W0 w4 := (by first | exact Kept.next HK1.out b4 | exact Kept.next (Kept.new1 _ _) b4 | exact Kept.next (by assumption) b4 | exact Kept.next (Kept.alloc (by assumption) _) b4); try (have hz4 := D4F.below b4 (by first | assumption | (with_reducible exact D4F.newD _ _ _ _ _ _) | (with_reducible exact D4F.new _ _ _ _ _ _))))
        | (go_at_call 11; (with_reducible refine (toDate y m d c _).mono ?_); rintro e w3 ⟨rfl, b3⟩; have hk3 : Kept W0 w3 := (by first | exact Kept.next HK1.out b3 | exact Kept.next (Kept.new1 _ _) b3 | exact Kept.next (by assumption) b3 | exact Kept.next (Kept.alloc (by assumption) _) b3); try (have hz3 := D4F.below b3 (by first | assumption | (with_reducible exact D4F.newD _ _ _ _ _ _) | (with_reducible exact D4F.new _ _ _ _ _ _)))))
    all_goals go_wp2_with fail
    all_goals go_meet
    all_goals (first | exact ⟨_, rfl, rfl, Lib.hid (Mid1.mk' HB.out HT.out (Kept.alloc hk5 _) (D4.new _ _ _ _ _ _))⟩ | exact ⟨_, rfl, rfl, Lib.hid (Mid1.mk' HB.out HT.out (Kept.set4 hk5 (by first | exact Nat.le_refl _ | exact Kept.size (by assumption))) (D4F.set4 HZ5.out _ _ _ _))⟩)
  case rest =>
    obtain ⟨B, rfl, rfl, HM⟩ := hcut
    clear HT HB W0
    rename World => W1
    have HT1 := Lib.hid HM.out.t
    go_upto_region 2 with fail
    go_cut [7, 8] (fun s7 s8 wx => ∃ C : Nat, s7 = .pointer (some ⟨C, 0, none⟩) ∧ s8 = .bool r ∧ Hid (Mid2 w wx B C a b z f))
    case first =>
      have HS2 : Hid (∀ w', Kept W1 w' → ((w'.cell? ⟨w.heap.size, 0, none⟩ = some (.int .i64 y) ∧ w'.cell? ⟨w.heap.size, 1, none⟩ = some (.int .i64 m) ∧ w'.cell? ⟨w.heap.size, 2, none⟩ = some (.int .i64 d) ∧ w'.cell? ⟨w.heap.size, 3, none⟩ = some (.bool c)) ∧ (w'.cell? ⟨w.heap.size + 1, 0, none⟩ = some (.int .i64 y') ∧ w'.cell? ⟨w.heap.size + 1, 1, none⟩ = some (.int .i64 m') ∧ w'.cell? ⟨w.heap.size + 1, 2, none⟩ = some (.int .i64 d') ∧ w'.cell? ⟨w.heap.size + 1, 3, none⟩ = some (.bool c')) ∧ Kept W1 w')) := Lib.hid (fun w' h => ⟨(HT1.out.below h).1.2, (HT1.out.below h).2.2, h⟩)
      have HK2 := Lib.hid (Kept.drew W1)
      go_region_held3 (fun w' => (w'.cell? ⟨w.heap.size, 0, none⟩ = some (.int .i64 y) ∧ w'.cell? ⟨w.heap.size, 1, none⟩ = some (.int .i64 m) ∧ w'.cell? ⟨w.heap.size, 2, none⟩ = some (.int .i64 d) ∧ w'.cell? ⟨w.heap.size, 3, none⟩ = some (.bool c)) ∧ (w'.cell? ⟨w.heap.size + 1, 0, none⟩ = some (.int .i64 y') ∧ w'.cell? ⟨w.heap.size + 1, 1, none⟩ = some (.int .i64 m') ∧ w'.cell? ⟨w.heap.size + 1, 2, none⟩ = some (.int .i64 d') ∧ w'.cell? ⟨w.heap.size + 1, 3, none⟩ = some (.bool c')) ∧ Kept W1 w')
        (first | exact HS2.out _ HK2.out | exact HS2.out _ (Kept.new1 _ _) | exact HS2.out _ (Kept.alloc (by assumption) _) | exact HS2.out _ (by assumption) | exact HS2.out _ (Kept.set4 (by assumption) (by first | exact Nat.le_refl _ | exact Kept.size (by assumption))))
        (first
          | (go_at_call 23; (with_reducible refine (iMerge y m d c y' m' d' c' _ _ HV.out).mono ?_); rintro e w8 ⟨rfl, b8⟩; have hk8 : Kept W1 w8 := (by first | exact Kept.next HK2.out b8 | exact Kept.next (Kept.new1 _ _) b8 | exact Kept.next (by assumption) b8 | exact Kept.next (Kept.alloc (by assumption) _) b8); try (have hz8 := D4F.below b8 (by first | assumption | (with_reducible exact D4F.newD _ _ _ _ _ _) | (with_reducible exact D4F.new _ _ _ _ _ _))); try (have HZ8 := Lib.hid hz8; obtain ⟨⟨hl8, hp80, hp81, hp82, hp83⟩, hf80, hf81, hf82, hf83⟩ := hz8))
          | (go_at_call 11; (with_reducible refine (toDate y' m' d' c' _).mono ?_); rintro e w7 ⟨rfl, b7⟩; have hk7 : Kept W1 w7 := (by first | exact Kept.next HK2.out b7 | exact Kept.next (Kept.new1 _ _) b7 | exact Kept.next (by assumption) b7 | exact Kept.next (Kept.alloc (by assumption) _) b7); try (have hz7 := D4F.below b7 (by first | assumption | (with_reducible exact D4F.newD _ _ _ _ _ _) | (with_reducible exact D4F.new _ _ _ _ _ _))))
          | (go_at_call 11; (with_reducible refine (toDate y m d c _).mono ?_); rintro e w6 ⟨rfl, b6⟩; have hk6 : Kept W1 w6 := (by first | exact Kept.next HK2.out b6 | exact Kept.next (Kept.new1 _ _) b6 | exact Kept.next (by assumption) b6 | exact Kept.next (Kept.alloc (by assumption) _) b6); try (have hz6 := D4F.below b6 (by first | assumption | (with_reducible exact D4F.newD _ _ _ _ _ _) | (with_reducible exact D4F.new _ _ _ _ _ _)))))
      all_goals go_wp2_with fail
      all_goals go_meet
      all_goals (first | exact ⟨_, rfl, rfl, Lib.hid (Mid2.mk' HM.out.k HM.out.d (Kept.alloc hk8 _) (D4.new _ _ _ _ _ _))⟩ | exact ⟨_, rfl, rfl, Lib.hid (Mid2.mk' HM.out.k HM.out.d (Kept.set4 hk8 (by first | exact Nat.le_refl _ | exact Kept.size (by assumption))) (D4F.set4 HZ8.out _ _ _ _))⟩)
    case rest =>
      obtain ⟨C, rfl, rfl, HM2⟩ := hcut
      rename World => W2
      obtain ⟨l1, p0, p1, p2, p3⟩ := HM2.out.d
      obtain ⟨l2, q0, q1, q2, q3⟩ := HM2.out.d'
      have k2 := HM2.out.k
      go_wp2_with fail
      refine (eqDate a b z f _).mono ?_
      rintro e' w9 ⟨rfl, b9⟩
      go_wp2_with fail
      go_ret
      exact ⟨rfl, k2.trans (b9.mono k2.size)⟩


set_option maxRecDepth 100000 in
theorem lifted (os : Os) (started : os.Started) (H : Type) (enc : TypeId × Value → H) :
    ReturnsInHanded {} Try.checked os 8 .any (Rows.fnExactMergeDatesSpec.pre6 enc Try.prog Try.f8 Rows.fnExactMergeDatesRow.domain false) (Rows.fnExactMergeDatesSpec.post enc Try.prog Try.f8 false true false false) := by
  refine returnsInHanded_of_change (C := Try.checked) own started (by kernel_rfl) Try.func8
    (ChangeSpec.witness6 (enc := enc) (C := Try.checked) false ⟨#[], #[.agg #[.int .i64 0, .int .i64 0, .int .i64 0, .bool false], .agg #[.int .i64 0, .int .i64 0, .int .i64 0, .bool false]], []⟩ 8 (by kernel_rfl) (by kernel_rfl) (by kernel_rfl) (by kernel_rfl)) ?_
  intro W base args ds gs before hval0 hW hcnd _
  have hval : ∀ (j : Nat) t v, Try.f8.params[j]? = some t → args[j]? = some v → Value.okWide Try.prog W .any base t v := hval0
  have hW' := hW
  obtain ⟨p, q, hA0, hV, rfl, hfz, hnd⟩ := hW
  have hA : DataW.TrodAll enc Try.prog W 0 (fun _ => true) true Try.f8.params.toList args.toList ds p := hA0
  rw [Try.params8] at hA hval
  obtain ⟨v0, vs0, d0, ds0, p0, q0, hargs, rfl, rfl, h0, r0⟩ := trodAll_cons hA
  obtain ⟨v1, vs1, d1, ds1, p1, q1, rfl, rfl, rfl, h1, r1⟩ := trodAll_cons r0
  obtain ⟨rfl, rfl, rfl⟩ := trodAll_nil r1
  obtain rfl : args = #[v0, v1] := by cases args; simp_all
  obtain ⟨rfl, rfl⟩ := trodVars_none hV
  have k0 := h0
  have lt0 : ∀ x ∈ p0, x.block < W.heap.size := by obtain ⟨m, hm⟩ := k0; exact DataW.trod_lt m _ _ _ hm
  have k1 := h1
  have lt1 : ∀ x ∈ p1, x.block < W.heap.size := by obtain ⟨m, hm⟩ := k1; exact DataW.trod_lt m _ _ _ hm
  obtain ⟨ya0, ma0, da0, ca0, rfl⟩ := open_date (hval 0 23 v0 rfl rfl) h0
  obtain ⟨ya1, ma1, da1, ca1, rfl⟩ := open_date (hval 1 23 v1 rfl rfl) h1
  clear hA0 hval0
  refine (walk ya0 ma0 da0 ca0 ya1 ma1 da1 ca1 W  ).mono fun e W' ⟨he, bel⟩ => ?_
  subst he
  exact ⟨_, rfl, _, _, _, [], _, [], hW', trodAll_mk1 (shut_bool Try.underlying4 _), (trodAll_cons_mk (Below.trod laidOut (by kernel_rfl) (of_decide_eq_true (by kernel_rfl)) k0 bel lt0) (trodAll_cons_mk (Below.trod laidOut (by kernel_rfl) (of_decide_eq_true (by kernel_rfl)) k1 bel lt1) trodAll_mk0)), rfl, bel.frame _, fun h => by cases h⟩

theorem over : Rows.fnExactMergeDatesRow.holds Try.pinned (OpenSpec.ofChange Rows.fnExactMergeDatesSpec) :=
  OpenClaim.holds_of_wide 8 Try.f8 rfl rfl rfl rfl rfl rfl rfl ⟨rfl, rfl, rfl, rfl, rfl⟩ rfl rfl rfl rfl rfl (by kernel_rfl) Try.func8 (by kernel_rfl)
    (of_decide_eq_true (by kernel_rfl)) (by unfold Func.isWrapper; first | (rw [if_pos (by decide +kernel)]; kernel_rfl) | (rw [if_neg (by decide +kernel)]; exact ⟨rfl, rfl⟩))
    (fun os started H enc _ => lifted os started H enc)

theorem proved : Rows.FnExactMergeDatesSaid :=
  over
#print axioms proved
end Go.Proofs.Ytfnkaoobnhjlbaa.fnExactMergeDates
