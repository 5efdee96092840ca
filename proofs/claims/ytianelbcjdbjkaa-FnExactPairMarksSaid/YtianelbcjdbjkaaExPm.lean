/-
  Proved: for every input the law FnExactPairMarks returns true: PairMarks answers as its model, and its answer owns its memory; the argument reads as before. No further condition.
-/
import Derived.Test.YtianelbcjdbjkaaRows
import Derived.Test.YtianelbcjdbjkaaQtK
import Derived.WalkKit
import Derived.ProofKit
import Derived.OpenShut
import Derived.ShutString
import Derived.ChangeOld
import Derived.Below
import Derived.Lib.SmallJoins
namespace Go.Proofs.Ytianelbcjdbjkaa.fnExactPairMarks
open Go.ChangeShapes Go.WideShapes Go.ChangeAt Go.RowKit
open Go.ChangeMaps (open_string shut_string)
open QtPl QtB QtL QtQ QtK
set_option linter.unusedVariables false
set_option linter.unusedSimpArgs false

theorem own : ownKnob Try.prog.godebug = none := by kernel_rfl
theorem laidOut : laidOutB Try.prog = true := by kernel_rfl
set_option maxRecDepth 100000 in
set_option maxHeartbeats 2000000 in
theorem walk (s0 : ByteArray) (w : World) (hs0 : s0.size ≤ maxLen) :
    Calls Try.prog 3 #[.string s0] w fun e w' => e = .returned (.bool true) ∧ Below w.heap.size w w' := by
  unfold maxLen at hs0
  by_cases qs0 : s0.size ≤ 1048576
  · have HS := Lib.hid (fun w => pairs_s s0 w qs0)
    have HV := Lib.hid (fun w => pairs_i s0 w qs0)
    unfold PmPost at HS HV
    have hl := pm_len s0
    generalize okQ s0 = z at HS HV
    generalize pmV s0 = M at HS HV hl
    obtain ⟨n, hn⟩ : ∃ n, M.length = n := ⟨_, rfl⟩
    rw [hn] at hl
    have HN := Lib.hid hn
    clear hn
    go_enter Try.func3, Try.ntmps3
    go_wp2_with fail
    refine (HS.out _).mono ?_
    rintro e w1 ⟨v1, F1, rfl, o1, k1⟩
    obtain ⟨A1, c1, rfl⟩ := o1.form
    have hF1 : F1.length = n := by rw [o1.len, HN.out]
    have HF1 := Lib.hid hF1
    have S1 := Lib.hid o1
    rw [hF1]
    clear o1 hF1
    go_wp2_with fail
    refine (HV.out _).mono ?_
    rintro e w2 ⟨v2, F2, rfl, o2, k2⟩
    obtain ⟨A2, c2, rfl⟩ := o2.form
    have hF2 : F2.length = n := by rw [o2.len, HN.out]
    have HF2 := Lib.hid hF2
    have G2 := Lib.hid o2
    have S2 := Lib.hid (S1.out.kp k2)
    have HLv := Lib.hid (fun k (h : (Value.slice A1 F1.length c1).ownBlock = some k) => (S1.out.row.lt k h).2)
    have HLf := Lib.hid (fun f (h : f ∈ F1) => (S1.out.fat h).2)
    have hk2 := ktr k1 k2
    have hlo := ksz k1
    have hlo2 := ksz k2
    rw [hF2]
    clear o2 k1 k2 S1 hF2
    go_wp2_with fail
    refine (eqL A2 A1 _ _ n _ _ F2 F1 M _ G2.out S2.out HN.out (by omega)).mono ?_
    rintro e w3 ⟨rfl, k3⟩
    have G3 := Lib.hid (G2.out.kp k3)
    have S3 := Lib.hid (S2.out.kp k3)
    have hk3 := ktr hk2 k3
    have hlo3 : w1.heap.size ≤ w3.heap.size := Nat.le_trans hlo2 (ksz k3)
    clear k3 G2 S2 hk2
    go_wp2_with fail
    refine (markL _ A2 c2 F2 M 1 n _ G3.out HN.out (by omega) hlo3).mono ?_
    rintro e w4 ⟨rfl, o4, g4⟩
    have hk4 : Kp w w4 := Below.trans hk3 (g4.mono hlo)
    have G4 := Lib.hid o4
    have S4 := Lib.hid (S3.out.keepB HLv.out HLf.out g4)
    clear o4 g4 G3 S3 hk3
    go_wp2_with fail
    refine (heldL _ A2 c2 F2 1 n _ G4.out (by omega)).mono ?_
    rintro e w5 ⟨rfl, k5⟩
    have G5 := Lib.hid (G4.out.kp k5)
    have S5 := Lib.hid (S4.out.kp k5)
    have hk5 := ktr hk4 k5
    clear k5 G4 S4 hk4
    go_wp2_with fail
    refine (HV.out _).mono ?_
    rintro e w6 ⟨v6, F6, rfl, o6, k6⟩
    obtain ⟨A6, c6, rfl⟩ := o6.form
    have hF6 : F6.length = n := by rw [o6.len, HN.out]
    have Q6 := Lib.hid o6
    have G6 := Lib.hid (G5.out.kp k6)
    have S6 := Lib.hid (S5.out.kp k6)
    have hk6 := ktr hk5 k6
    rw [hF6]
    clear o6 k6 G5 S5 hk5 hF6
    go_wp2_with fail
    refine (eqL A6 A1 _ _ n _ _ F6 F1 M _ Q6.out S6.out HN.out (by omega)).mono ?_
    rintro e w7 ⟨rfl, k7⟩
    have G7 := Lib.hid (G6.out.kp k7)
    have hk7 := ktr hk6 k7
    clear k7 G6 S6 Q6 hk6
    go_wp2_with fail
    refine (heldL _ A2 c2 F2 1 n _ G7.out (by omega)).mono ?_
    rintro e w8 ⟨rfl, k8⟩
    have hk8 := ktr hk7 k8
    clear k8 G7 hk7
    go_wp2_with fail
    go_ret
    exact ⟨rfl, hk8⟩
  · go_enter Try.func3, Try.ntmps3
    go_wp2_with fail
    go_ret
    exact ⟨rfl, Below.refl _ _⟩

set_option maxRecDepth 100000 in
theorem lifted (os : Os) (started : os.Started) (H : Type) (enc : TypeId × Value → H) :
    ReturnsInHanded {} Try.checked os 3 .any (Rows.fnExactPairMarksSpec.pre6 enc Try.prog Try.f3 Rows.fnExactPairMarksRow.domain false) (Rows.fnExactPairMarksSpec.post enc Try.prog Try.f3 false true false false) := by
  refine returnsInHanded_of_change (C := Try.checked) own started (by kernel_rfl) Try.func3
    (ChangeSpec.witness6 (enc := enc) (C := Try.checked) false ⟨#[], #[.string ByteArray.empty], []⟩ 8 (by kernel_rfl) (by kernel_rfl) (by kernel_rfl) (by kernel_rfl)) ?_
  intro W base args ds gs before hval0 hW hcnd _
  have hval : ∀ (j : Nat) t v, Try.f3.params[j]? = some t → args[j]? = some v → Value.okWide Try.prog W .any base t v := hval0
  have hW' := hW
  obtain ⟨p, q, hA0, hV, rfl, hfz, hnd⟩ := hW
  have hA : DataW.TrodAll enc Try.prog W 0 (fun _ => true) true Try.f3.params.toList args.toList ds p := hA0
  rw [Try.params3] at hA hval
  obtain ⟨v0, vs0, d0, ds0, p0, q0, hargs, rfl, rfl, h0, r0⟩ := trodAll_cons hA
  obtain ⟨rfl, rfl, rfl⟩ := trodAll_nil r0
  obtain rfl : args = #[v0] := by cases args; simp_all
  obtain ⟨rfl, rfl⟩ := trodVars_none hV
  have k0 := h0
  have lt0 : ∀ x ∈ p0, x.block < W.heap.size := by obtain ⟨m, hm⟩ := k0; exact DataW.trod_lt m _ _ _ hm
  obtain ⟨s0, rfl, _, _, hs0⟩ := open_string Try.underlying9 (hval 0 9 v0 rfl rfl) h0
  clear hA0 hval0
  refine (walk s0 W hs0 ).mono fun e W' ⟨he, bel⟩ => ?_
  subst he
  exact ⟨_, rfl, _, _, _, [], _, [], hW', trodAll_mk1 (shut_bool Try.underlying4 _), (trodAll_cons_mk (Below.trod laidOut (by kernel_rfl) (of_decide_eq_true (by kernel_rfl)) k0 bel lt0) trodAll_mk0), rfl, bel.frame _, fun h => by cases h⟩

theorem closed : joinedFacts Try.pinned.checked.prog 3 Try.f3 Rows.fnExactPairMarksSpec Rows.fnExactPairMarksRow = true := by kernel_rfl
theorem over : Rows.fnExactPairMarksRow.holds Try.pinned (OpenSpec.ofChange Rows.fnExactPairMarksSpec) :=
  OpenClaim.holds_of_wide 3 Try.f3 rfl rfl rfl rfl rfl rfl rfl ⟨rfl, rfl, rfl, rfl, rfl⟩ rfl rfl rfl rfl rfl (by kernel_rfl) Try.func3 closed
    (of_decide_eq_true (by kernel_rfl)) (by unfold Func.isWrapper; first | (rw [if_pos (by decide +kernel)]; kernel_rfl) | (rw [if_neg (by decide +kernel)]; exact ⟨rfl, rfl⟩))
    (fun os started H enc _ => lifted os started H enc)

theorem proved : Rows.FnExactPairMarksSaid :=
  over
#print axioms proved
end Go.Proofs.Ytianelbcjdbjkaa.fnExactPairMarks
