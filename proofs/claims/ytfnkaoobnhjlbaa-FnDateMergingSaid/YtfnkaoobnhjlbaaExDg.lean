/-
  Proved: for every code of bytes the law FnDateMerging returns true; the argument reads as before. No further condition.
-/
import Derived.Test.YtfnkaoobnhjlbaaRows
import Derived.Test.YtfnkaoobnhjlbaaDtU
import Derived.Test.YtfnkaoobnhjlbaaOpenB
import Derived.Deep.DeepCutAuto
import Derived.WalkKit
import Derived.ProofKit
import Derived.OpenShut
import Derived.ShutString
import Derived.ChangeOld
import Derived.Below
import Derived.Lib.SmallJoins
namespace Go.Proofs.Ytfnkaoobnhjlbaa.fnDateMerging
open Go.ChangeShapes Go.WideShapes Go.ChangeAt Go.RowKit
open Go.ChangeMaps (open_string shut_string)
open DtPl Dt Cur Draw0 Among Law2 DtD OpenB
set_option linter.unusedVariables false
set_option linter.unusedSimpArgs false

set_option maxHeartbeats 4000000 in
theorem walk (A : Option Addr) (n c : Nat) (w : World) (hr : RdB w A n) (ha : Apart A n w.heap.size) :
    Calls Try.prog 9 #[.slice A n c] w fun e w' => e = .returned (.bool true) ∧ Below w.heap.size w w' := by
  have HR := Lib.hid hr
  have HA := Lib.hid ha
  clear hr ha
  by_cases hbig : 65536 < n
  · go_enter Try.func9, Try.ntmps9
    go_wp2_with fail
    refine (vBig_any A n c _ true (by simp; omega)).mono ?_
    rintro e w' ⟨rfl, rfl⟩
    go_wp2_with fail
    go_ret
    exact ⟨rfl, Below.refl _ _⟩
  go_enter Try.func9, Try.ntmps9
  go_wp2_with fail
  refine (vBig_any A n c _ false (by simp; omega)).mono ?_
  rintro e w' ⟨rfl, rfl⟩
  go_wp2_with fail
  refine (drawMerge A n c _ (by omega) HR.out HA.out).mono ?_
  rintro e w1 ⟨y, m, d, ci, y', m', d', ci', rfl, k1⟩
  have T2 := Lib.hid (Two.new w1 y m d ci y' m' d' ci' 25 25)
  have B2 := box2 w1 (.cells #[.int .i64 y, .int .i64 m, .int .i64 d, .bool ci] 25) (.cells #[.int .i64 y', .int .i64 m', .int .i64 d', .bool ci'] 25)
  have k2 := k1.trans (B2.mono k1.size)
  clear B2
  go_upto_region 4 with fail
  generalize hW : (w1.alloc _).alloc _ = w2 at T2 k2 ⊢
  clear hW k1
  generalize hb : w1.heap.size = ba at *
  clear hb
  rcases mg_cases y m d ci y' m' d' ci' with hv | ⟨hva, hvb, hrf, hv⟩ | ⟨hva, hvb, hrf, hv⟩
  · have HV : Hid (mgV y m d ci y' m' d' ci' = .tuple #[dtV 0 0 0 false, .bool false]) := Lib.hid hv
    clear hv
    obtain ⟨⟨al, a0, a1, a2, a3⟩, ⟨bl, b0, b1, b2, b3⟩⟩ := T2.out
    go_wp2_with fail
    refine (iMerge y m d ci y' m' d' ci' (.tuple #[dtV 0 0 0 false, .bool false]) _ HV.out).mono ?_
    rintro e w3 ⟨rfl, b3⟩
    have k3 := k2.trans (b3.mono k2.size)
    have T3 := Lib.hid (T2.out.below b3)
    clear al a0 a1 a2 a3 bl b0 b1 b2 b3 T2
    have B4 := box_below w3 (.cells #[.int .i64 0, .int .i64 0, .int .i64 0, .bool false] 25)
    have D4_ := Lib.hid (D4.new w3 0 0 0 false 25)
    have T4 := Lib.hid (T3.out.below B4)
    have k4 := k3.trans (B4.mono k3.size)
    clear B4 T3 k3 k2
    go_upto_region 5 with fail
    generalize hW : w3.alloc _ = w4 at D4_ T4 k4 ⊢
    clear hW
    generalize hb : w3.heap.size = bm at *
    clear hb
    obtain ⟨⟨al, a0, a1, a2, a3⟩, ⟨bl, b0, b1, b2, b3⟩⟩ := T4.out
    go_wp2_with fail
    refine (sMerge y m d ci y' m' d' ci' (.tuple #[dtV 0 0 0 false, .bool false]) _ HV.out).mono ?_
    rintro e w5 ⟨rfl, b5⟩
    have k5 := k4.trans (b5.mono k4.size)
    have T5 := Lib.hid (T4.out.below b5)
    have D5_ := Lib.hid (D4_.out.below b5)
    clear al a0 a1 a2 a3 bl b0 b1 b2 b3 T4 D4_ k4
    have B6 := box_below w5 (.cells #[.int .i64 0, .int .i64 0, .int .i64 0, .bool false] 25)
    have E6_ := Lib.hid (D4.new w5 0 0 0 false 25)
    have T6 := Lib.hid (T5.out.below B6)
    have D6_ := Lib.hid (D5_.out.below B6)
    have k6 := k5.trans (B6.mono k5.size)
    clear B6 T5 D5_ k5
    go_upto_region 6 with fail
    generalize hW : w5.alloc _ = w6 at E6_ D6_ T6 k6 ⊢
    clear hW
    generalize hb : w5.heap.size = bw at *
    clear hb
    obtain ⟨ml, m0, m1, m2, m3⟩ := D6_.out
    obtain ⟨wl, v0, v1, v2, v3⟩ := E6_.out
    go_wp2_with fail
    go_ret
    exact ⟨by simp, k6⟩
  · have HV := Lib.hid hv
    have HVa := Lib.hid hva
    have HVb := Lib.hid hvb
    have HRf := Lib.hid hrf
    clear hv hva hvb hrf
    obtain ⟨⟨al, a0, a1, a2, a3⟩, ⟨bl, b0, b1, b2, b3⟩⟩ := T2.out
    go_wp2_with fail
    refine (iMerge y m d ci y' m' d' ci' (.tuple #[dtV y m d ci, .bool true]) _ HV.out).mono ?_
    rintro e w3 ⟨rfl, b3⟩
    have k3 := k2.trans (b3.mono k2.size)
    have T3 := Lib.hid (T2.out.below b3)
    clear al a0 a1 a2 a3 bl b0 b1 b2 b3 T2
    have B4 := box_below w3 (.cells #[.int .i64 y, .int .i64 m, .int .i64 d, .bool ci] 25)
    have D4_ := Lib.hid (D4.new w3 y m d ci 25)
    have T4 := Lib.hid (T3.out.below B4)
    have k4 := k3.trans (B4.mono k3.size)
    clear B4 T3 k3 k2
    go_upto_region 5 with fail
    generalize hW : w3.alloc _ = w4 at D4_ T4 k4 ⊢
    clear hW
    generalize hb : w3.heap.size = bm at *
    clear hb
    obtain ⟨⟨al, a0, a1, a2, a3⟩, ⟨bl, b0, b1, b2, b3⟩⟩ := T4.out
    go_wp2_with fail
    refine (sMerge y m d ci y' m' d' ci' (.tuple #[dtV y m d ci, .bool true]) _ HV.out).mono ?_
    rintro e w5 ⟨rfl, b5⟩
    have k5 := k4.trans (b5.mono k4.size)
    have T5 := Lib.hid (T4.out.below b5)
    have D5_ := Lib.hid (D4_.out.below b5)
    clear al a0 a1 a2 a3 bl b0 b1 b2 b3 T4 D4_ k4
    have B6 := box_below w5 (.cells #[.int .i64 y, .int .i64 m, .int .i64 d, .bool ci] 25)
    have E6_ := Lib.hid (D4.new w5 y m d ci 25)
    have T6 := Lib.hid (T5.out.below B6)
    have D6_ := Lib.hid (D5_.out.below B6)
    have k6 := k5.trans (B6.mono k5.size)
    clear B6 T5 D5_ k5
    go_upto_region 6 with fail
    generalize hW : w5.alloc _ = w6 at E6_ D6_ T6 k6 ⊢
    clear hW
    generalize hb : w5.heap.size = bw at *
    clear hb
    obtain ⟨ml, m0, m1, m2, m3⟩ := D6_.out
    obtain ⟨wl, v0, v1, v2, v3⟩ := E6_.out
    obtain ⟨⟨al, a0, a1, a2, a3⟩, ⟨bl, b0, b1, b2, b3⟩⟩ := T6.out
    go_wp2_with fail
    refine (iRefines y m d ci y m d ci true true true _ HVa.out HVa.out (by show rfB _ _ _ _ _ _ _ _ = true; exact rf_refl _ _ _ _)).mono ?_
    rintro e w7 ⟨rfl, b7⟩
    have k7 := k6.trans (b7.mono k6.size)
    have T7 := Lib.hid (T6.out.below b7)
    have D7_ := Lib.hid (D6_.out.below b7)
    clear al a0 a1 a2 a3 bl b0 b1 b2 b3 ml m0 m1 m2 m3 wl v0 v1 v2 v3 T6 D6_ E6_ k6 b7
    obtain ⟨⟨al, a0, a1, a2, a3⟩, ⟨bl, b0, b1, b2, b3⟩⟩ := T7.out
    obtain ⟨ml, m0, m1, m2, m3⟩ := D7_.out
    go_wp2_with fail
    refine (iRefines y m d ci y' m' d' ci' true true true _ HVa.out HVb.out (by show rfB _ _ _ _ _ _ _ _ = true; exact HRf.out)).mono ?_
    rintro e w8 ⟨rfl, b8⟩
    have k8 := k7.trans (b8.mono k7.size)
    have T8 := Lib.hid (T7.out.below b8)
    have D8_ := Lib.hid (D7_.out.below b8)
    clear al a0 a1 a2 a3 bl b0 b1 b2 b3 ml m0 m1 m2 m3 T7 D7_ k7 b8
    obtain ⟨⟨al, a0, a1, a2, a3⟩, ⟨bl, b0, b1, b2, b3⟩⟩ := T8.out
    obtain ⟨ml, m0, m1, m2, m3⟩ := D8_.out
    go_wp2_with fail
    all_goals go_ret
    all_goals exact ⟨by simp [*], k8⟩
  · have HV := Lib.hid hv
    have HVa := Lib.hid hva
    have HVb := Lib.hid hvb
    have HRf := Lib.hid hrf
    clear hv hva hvb hrf
    obtain ⟨⟨al, a0, a1, a2, a3⟩, ⟨bl, b0, b1, b2, b3⟩⟩ := T2.out
    go_wp2_with fail
    refine (iMerge y m d ci y' m' d' ci' (.tuple #[dtV y' m' d' ci', .bool true]) _ HV.out).mono ?_
    rintro e w3 ⟨rfl, b3⟩
    have k3 := k2.trans (b3.mono k2.size)
    have T3 := Lib.hid (T2.out.below b3)
    clear al a0 a1 a2 a3 bl b0 b1 b2 b3 T2
    have B4 := box_below w3 (.cells #[.int .i64 y', .int .i64 m', .int .i64 d', .bool ci'] 25)
    have D4_ := Lib.hid (D4.new w3 y' m' d' ci' 25)
    have T4 := Lib.hid (T3.out.below B4)
    have k4 := k3.trans (B4.mono k3.size)
    clear B4 T3 k3 k2
    go_upto_region 5 with fail
    generalize hW : w3.alloc _ = w4 at D4_ T4 k4 ⊢
    clear hW
    generalize hb : w3.heap.size = bm at *
    clear hb
    obtain ⟨⟨al, a0, a1, a2, a3⟩, ⟨bl, b0, b1, b2, b3⟩⟩ := T4.out
    go_wp2_with fail
    refine (sMerge y m d ci y' m' d' ci' (.tuple #[dtV y' m' d' ci', .bool true]) _ HV.out).mono ?_
    rintro e w5 ⟨rfl, b5⟩
    have k5 := k4.trans (b5.mono k4.size)
    have T5 := Lib.hid (T4.out.below b5)
    have D5_ := Lib.hid (D4_.out.below b5)
    clear al a0 a1 a2 a3 bl b0 b1 b2 b3 T4 D4_ k4
    have B6 := box_below w5 (.cells #[.int .i64 y', .int .i64 m', .int .i64 d', .bool ci'] 25)
    have E6_ := Lib.hid (D4.new w5 y' m' d' ci' 25)
    have T6 := Lib.hid (T5.out.below B6)
    have D6_ := Lib.hid (D5_.out.below B6)
    have k6 := k5.trans (B6.mono k5.size)
    clear B6 T5 D5_ k5
    go_upto_region 6 with fail
    generalize hW : w5.alloc _ = w6 at E6_ D6_ T6 k6 ⊢
    clear hW
    generalize hb : w5.heap.size = bw at *
    clear hb
    obtain ⟨ml, m0, m1, m2, m3⟩ := D6_.out
    obtain ⟨wl, v0, v1, v2, v3⟩ := E6_.out
    obtain ⟨⟨al, a0, a1, a2, a3⟩, ⟨bl, b0, b1, b2, b3⟩⟩ := T6.out
    go_wp2_with fail
    refine (iRefines y' m' d' ci' y m d ci true true true _ HVb.out HVa.out (by show rfB _ _ _ _ _ _ _ _ = true; exact HRf.out)).mono ?_
    rintro e w7 ⟨rfl, b7⟩
    have k7 := k6.trans (b7.mono k6.size)
    have T7 := Lib.hid (T6.out.below b7)
    have D7_ := Lib.hid (D6_.out.below b7)
    clear al a0 a1 a2 a3 bl b0 b1 b2 b3 ml m0 m1 m2 m3 wl v0 v1 v2 v3 T6 D6_ E6_ k6 b7
    obtain ⟨⟨al, a0, a1, a2, a3⟩, ⟨bl, b0, b1, b2, b3⟩⟩ := T7.out
    obtain ⟨ml, m0, m1, m2, m3⟩ := D7_.out
    go_wp2_with fail
    refine (iRefines y' m' d' ci' y' m' d' ci' true true true _ HVb.out HVb.out (by show rfB _ _ _ _ _ _ _ _ = true; exact rf_refl _ _ _ _)).mono ?_
    rintro e w8 ⟨rfl, b8⟩
    have k8 := k7.trans (b8.mono k7.size)
    have T8 := Lib.hid (T7.out.below b8)
    have D8_ := Lib.hid (D7_.out.below b8)
    clear al a0 a1 a2 a3 bl b0 b1 b2 b3 ml m0 m1 m2 m3 T7 D7_ k7 b8
    obtain ⟨⟨al, a0, a1, a2, a3⟩, ⟨bl, b0, b1, b2, b3⟩⟩ := T8.out
    obtain ⟨ml, m0, m1, m2, m3⟩ := D8_.out
    go_wp2_with fail
    all_goals go_ret
    all_goals exact ⟨by simp [*], k8⟩


set_option maxRecDepth 100000 in
theorem lifted (os : Os) (started : os.Started) (H : Type) (enc : TypeId × Value → H) :
    ReturnsInHanded {} Try.checked os 9 .any (Rows.fnDateMergingSpec.pre6 enc Try.prog Try.f9 Rows.fnDateMergingRow.domain false) (Rows.fnDateMergingSpec.post enc Try.prog Try.f9 false true false false) := by
  refine returnsInHanded_of_change (C := Try.checked) own started (by kernel_rfl) Try.func9
    (ChangeSpec.witness6 (enc := enc) (C := Try.checked) false ⟨#[], #[.slice none 0 0], []⟩ 8 (by kernel_rfl) (by kernel_rfl) (by kernel_rfl) (by kernel_rfl)) ?_
  intro W base args ds gs before hval0 hW hcnd _
  have hval : ∀ (j : Nat) t v, Try.f9.params[j]? = some t → args[j]? = some v → Value.okWide Try.prog W .any base t v := hval0
  have hW' := hW
  obtain ⟨p, q, hA0, hV, rfl, hfz, hnd⟩ := hW
  have hA : DataW.TrodAll enc Try.prog W 0 (fun _ => true) true Try.f9.params.toList args.toList ds p := hA0
  rw [Try.params9] at hA hval
  obtain ⟨v0, vs0, d0, ds0, p0, q0, hargs, rfl, rfl, h0, r0⟩ := trodAll_cons hA
  obtain ⟨rfl, rfl, rfl⟩ := trodAll_nil r0
  obtain rfl : args = #[v0] := by cases args; simp_all
  obtain ⟨rfl, rfl⟩ := trodVars_none hV
  have k0 := h0
  have lt0 : ∀ x ∈ p0, x.block < W.heap.size := by obtain ⟨m, hm⟩ := k0; exact DataW.trod_lt m _ _ _ hm
  obtain ⟨A0, n0, c0, rfl, rd0, ap0⟩ := open_bytes (hval 0 40 v0 rfl rfl) h0
  clear hA0 hval0
  refine (walk A0 n0 c0 W rd0 ap0 ).mono fun e W' ⟨he, bel⟩ => ?_
  subst he
  exact ⟨_, rfl, _, _, _, [], _, [], hW', trodAll_mk1 (shut_bool Try.underlying4 _), (trodAll_cons_mk (Below.trod laidOut (by kernel_rfl) (of_decide_eq_true (by kernel_rfl)) k0 bel lt0) trodAll_mk0), rfl, bel.frame _, fun h => by cases h⟩

theorem over : Rows.fnDateMergingRow.holds Try.pinned (OpenSpec.ofChange Rows.fnDateMergingSpec) :=
  OpenClaim.holds_of_wide 9 Try.f9 rfl rfl rfl rfl rfl rfl rfl ⟨rfl, rfl, rfl, rfl, rfl⟩ rfl rfl rfl rfl rfl (by kernel_rfl) Try.func9 (by kernel_rfl)
    (of_decide_eq_true (by kernel_rfl)) (by unfold Func.isWrapper; first | (rw [if_pos (by decide +kernel)]; kernel_rfl) | (rw [if_neg (by decide +kernel)]; exact ⟨rfl, rfl⟩))
    (fun os started H enc _ => lifted os started H enc)

theorem proved : Rows.FnDateMergingSaid :=
  over
#print axioms proved
end Go.Proofs.Ytfnkaoobnhjlbaa.fnDateMerging
