/-
  Proved: for every input the law FnExactUnpairedMarks returns true: UnpairedMarks answers as its model, and its answer owns its memory; the argument reads as before. No further condition.
-/
import Derived.Test.YtianelbcjdbjkaaRows
import Derived.Test.YtianelbcjdbjkaaQtH
import Derived.WalkKit
import Derived.ProofKit
import Derived.OpenShut
import Derived.ShutString
import Derived.ChangeOld
import Derived.Below
import Derived.Lib.SmallJoins
namespace Go.Proofs.Ytianelbcjdbjkaa.fnExactUnpairedMarks
open Go.ChangeShapes Go.WideShapes Go.ChangeAt Go.RowKit
open Go.ChangeMaps (open_string shut_string)
open QtPl QtB QtS QtE QtN QtQ QtH
set_option linter.unusedVariables false
set_option linter.unusedSimpArgs false

theorem own : ownKnob Try.prog.godebug = none := by kernel_rfl
theorem laidOut : laidOutB Try.prog = true := by kernel_rfl
theorem apart {w w' : World} {b0 b : Nat} {e e' : TypeId} {s s' n n' : Nat} {v v' : Value} {xs xs' : List Value} (h : w.ownsRow b0 e s v n xs) (hb : w.heap.size ≤ b) (h' : w'.ownsRow b e' s' v' n' xs') : v.ownBlock = none ∨ v.ownBlock ≠ v'.ownBlock := by
  rcases hv : v.ownBlock with _ | k
  · exact .inl rfl
  · refine .inr fun he => ?_
    have h1 := (h.lt k hv).2
    have h2 := (h'.lt k he.symm).1
    omega
theorem form {w : World} {base n : Nat} {e : TypeId} {size : Nat} {v : Value} {xs : List Value} (h : w.ownsRow base e size v n xs) : ∃ A c, v = .slice A n c := by
  rcases h.2 with ⟨rfl, rfl⟩ | ⟨g, cap, cur, rfl, _⟩
  · exact ⟨none, 0, rfl⟩
  · exact ⟨_, _, rfl⟩
set_option maxRecDepth 100000 in
set_option maxHeartbeats 2000000 in
theorem walk (s0 : ByteArray) (w : World) (hs0 : s0.size ≤ maxLen) :
    Calls Try.prog 5 #[.string s0] w fun e w' => e = .returned (.bool true) ∧ Below w.heap.size w w' := by
  unfold maxLen at hs0
  by_cases qs0 : s0.size ≤ 1048576
  · have HS := Lib.hid (fun w => unpaired_s s0 w qs0)
    have HV := Lib.hid (fun w => unpaired_i s0 w qs0)
    unfold UmPost at HS HV
    have hl := um_len s0
    rw [← toI_len] at hl
    generalize okQ s0 = z at HS HV
    rw [← toI_len] at HS HV
    generalize toI (umV s0) = M at HS HV hl
    obtain ⟨n, hn⟩ : ∃ n, M.length = n := ⟨_, rfl⟩
    rw [hn] at HS HV hl
    have HN := Lib.hid hn
    clear hn
    go_enter Try.func5, Try.ntmps5
    go_wp2_with fail
    refine (HS.out _).mono ?_
    rintro e w1 ⟨v1, rfl, o1, k1⟩
    obtain ⟨A1, c1, rfl⟩ := form o1
    have S1 := Lib.hid o1
    clear o1
    go_wp2_with fail
    refine (HV.out _).mono ?_
    rintro e w2 ⟨v2, rfl, o2, k2⟩
    obtain ⟨A2, c2, rfl⟩ := form o2
    have G2 := Lib.hid o2
    have S2 := Lib.hid (own_kp S1.out k2)
    have HA := Lib.hid (apart S1.out (Nat.le_refl _) G2.out)
    have hk2 := ktr k1 k2
    have hlo := ksz k1
    clear o2 k1 k2 S1
    go_wp2_with fail
    refine (eqI A2 A1 _ _ n M _ (own_rmo G2.out) (own_rmo S2.out) HN.out (by omega)).mono ?_
    rintro e w3 ⟨rfl, k3⟩
    have G3 := Lib.hid (own_kp G2.out k3)
    have S3 := Lib.hid (own_kp S2.out k3)
    have hk3 := ktr hk2 k3
    clear k3 G2 S2 hk2
    go_wp2_with fail
    refine (markI _ _ M 1 n _ G3.out HN.out (by omega)).mono ?_
    rintro e w4 ⟨rfl, o4, g4⟩
    have hk4 : Kp w w4 := kgr hk3 g4 (fun q hq => by have := (G3.out.lt q hq).1; omega)
    have G4 := Lib.hid o4
    have S4 := Lib.hid (S3.out.kept g4 HA.out)
    clear o4 g4 G3 S3 hk3
    go_wp2_with fail
    refine (heldI A2 _ 1 n _ (own_rmo G4.out) (by omega)).mono ?_
    rintro e w5 ⟨rfl, k5⟩
    have G5 := Lib.hid (own_kp G4.out k5)
    have S5 := Lib.hid (own_kp S4.out k5)
    have hk5 := ktr hk4 k5
    clear k5 G4 S4 hk4
    go_wp2_with fail
    refine (HV.out _).mono ?_
    rintro e w6 ⟨v6, rfl, o6, k6⟩
    obtain ⟨A6, c6, rfl⟩ := form o6
    have Q6 := Lib.hid o6
    have G6 := Lib.hid (own_kp G5.out k6)
    have S6 := Lib.hid (own_kp S5.out k6)
    have hk6 := ktr hk5 k6
    clear o6 k6 G5 S5 hk5
    go_wp2_with fail
    refine (eqI A6 A1 _ _ n M _ (own_rmo Q6.out) (own_rmo S6.out) HN.out (by omega)).mono ?_
    rintro e w7 ⟨rfl, k7⟩
    have G7 := Lib.hid (own_kp G6.out k7)
    have hk7 := ktr hk6 k7
    clear k7 G6 S6 Q6 hk6
    go_wp2_with fail
    refine (heldI A2 _ 1 n _ (own_rmo G7.out) (by omega)).mono ?_
    rintro e w8 ⟨rfl, k8⟩
    have hk8 := ktr hk7 k8
    clear k8 G7 hk7
    go_wp2_with fail
    go_ret
    exact ⟨rfl, hk8⟩
  · go_enter Try.func5, Try.ntmps5
    go_wp2_with fail
    go_ret
    exact ⟨rfl, Below.refl _ _⟩

set_option maxRecDepth 100000 in
theorem lifted (os : Os) (started : os.Started) (H : Type) (enc : TypeId × Value → H) :
    ReturnsInHanded {} Try.checked os 5 .any (Rows.fnExactUnpairedMarksSpec.pre6 enc Try.prog Try.f5 Rows.fnExactUnpairedMarksRow.domain false) (Rows.fnExactUnpairedMarksSpec.post enc Try.prog Try.f5 false true false false) := by
  refine returnsInHanded_of_change (C := Try.checked) own started (by kernel_rfl) Try.func5
    (ChangeSpec.witness6 (enc := enc) (C := Try.checked) false ⟨#[], #[.string ByteArray.empty], []⟩ 8 (by kernel_rfl) (by kernel_rfl) (by kernel_rfl) (by kernel_rfl)) ?_
  intro W base args ds gs before hval0 hW hcnd _
  have hval : ∀ (j : Nat) t v, Try.f5.params[j]? = some t → args[j]? = some v → Value.okWide Try.prog W .any base t v := hval0
  have hW' := hW
  obtain ⟨p, q, hA0, hV, rfl, hfz, hnd⟩ := hW
  have hA : DataW.TrodAll enc Try.prog W 0 (fun _ => true) true Try.f5.params.toList args.toList ds p := hA0
  rw [Try.params5] at hA hval
  obtain ⟨v0, vs0, d0, ds0, p0, q0, hargs, rfl, rfl, h0, r0⟩ := trodAll_cons hA
  obtain ⟨rfl, rfl, rfl⟩ := trodAll_nil r0
  obtain rfl : args = #[v0] := by cases args; simp_all
  obtain ⟨rfl, rfl⟩ := trodVars_none hV
  have k0 := h0
  have lt0 : ∀ x ∈ p0, x.block < W.heap.size := by obtain ⟨m, hm⟩ := k0; exact DataW.trod_lt m _ _ _ hm
  obtain ⟨s0, rfl, _, _, hs0⟩ := open_string Try.underlying9 (hval 0 9 v0 rfl rfl) h0
  clear hA0 hval0
  refine (walk s0 W hs0 ).mono fun e W' ⟨he, bel⟩ => ?_
  subst he
  exact ⟨_, rfl, _, _, _, [], _, [], hW', trodAll_mk1 (shut_bool Try.underlying4 _), (trodAll_cons_mk (Below.trod laidOut (by kernel_rfl) (of_decide_eq_true (by kernel_rfl)) k0 bel lt0) trodAll_mk0), rfl, bel.frame _, fun h => by cases h⟩

theorem closed : joinedFacts Try.pinned.checked.prog 5 Try.f5 Rows.fnExactUnpairedMarksSpec Rows.fnExactUnpairedMarksRow = true := by kernel_rfl
theorem over : Rows.fnExactUnpairedMarksRow.holds Try.pinned (OpenSpec.ofChange Rows.fnExactUnpairedMarksSpec) :=
  OpenClaim.holds_of_wide 5 Try.f5 rfl rfl rfl rfl rfl rfl rfl ⟨rfl, rfl, rfl, rfl, rfl⟩ rfl rfl rfl rfl rfl (by kernel_rfl) Try.func5 closed
    (of_decide_eq_true (by kernel_rfl)) (by unfold Func.isWrapper; first | (rw [if_pos (by decide +kernel)]; kernel_rfl) | (rw [if_neg (by decide +kernel)]; exact ⟨rfl, rfl⟩))
    (fun os started H enc _ => lifted os started H enc)

theorem proved : Rows.FnExactUnpairedMarksSaid :=
  over
#print axioms proved
end Go.Proofs.Ytianelbcjdbjkaa.fnExactUnpairedMarks
