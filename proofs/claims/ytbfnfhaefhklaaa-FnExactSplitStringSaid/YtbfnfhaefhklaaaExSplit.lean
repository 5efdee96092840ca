/-
  Proved: for every two strings the law FnExactSplitString returns true: SplitString answers as its model, its answer owns its memory; the arguments read as before. No further condition.
-/
import Derived.Test.YtbfnfhaefhklaaaRows
import Derived.Test.YtbfnfhaefhklaaaStrs
import Derived.Test.YtbfnfhaefhklaaaSplit
import Derived.Test.YtbfnfhaefhklaaaIter
import Derived.WalkKit
import Derived.ProofKit
import Derived.OpenShut
import Derived.ShutString
import Derived.ChangeOld
import Derived.Below
namespace Go.Proofs.Ytbfnfhaefhklaaa.fnExactSplitString
open Go.ChangeShapes Go.WideShapes Go.ChangeAt Go.RowKit
open Go.ChangeMaps (open_string shut_string)
set_option linter.unusedVariables false

theorem own : ownKnob Try.prog.godebug = none := by kernel_rfl

/-- function f answers this list -/
def SplitsTo (f : Nat) (s sep : ByteArray) (l : List ByteArray) (ok : Bool) : Prop :=
  ∀ w, Calls Try.prog f #[.string s, .string sep] w fun e W' => ∃ v, e = .returned (.tuple #[v, .bool ok]) ∧ W'.ownsRow w.heap.size 9 1 v l.length (l.map Value.string) ∧ Below w.heap.size w W'

set_option maxHeartbeats 1000000 in
theorem both (s sep : ByteArray) (l : List ByteArray) (ok : Bool) (hS : SplitsTo 17 s sep l ok) (hI : SplitsTo 10 s sep l ok) (hl : l.length ≤ 2097152)
    (c0 : s.size ≤ 1048576) (c1 : sep.size ≤ 1048576) (w : World) :
    Calls Try.prog 4 #[.string s, .string sep] w fun e w' => e = .returned (.bool true) ∧ Below w.heap.size w w' := by
  go_enter Try.func4, Try.ntmps4
  go_wp2_with fail
  refine (hS _).mono ?_
  rintro e w1 ⟨v0, rfl, o0, b1⟩
  go_wp2_with fail
  refine (hI _).mono ?_
  rintro e w2 ⟨v1, rfl, o1, b2⟩
  have o0b := Strs.own_below o0 b2
  go_wp2_with fail
  refine (Strs.eqStringS_own _ _ _ _ _ l _ o1 o0b hl).mono ?_
  rintro e w' ⟨rfl, n1, rfl⟩
  go_wp2_with fail
  refine (Strs.markStringS_1 _ _ l _ _ (Strs.own_of_drewN o1 n1) rfl hl).mono ?_
  rintro e w3 ⟨rfl, o1m, g3⟩
  have o0c := (Strs.own_of_drewN o0b n1).kept g3 (Strs.own_apart o0 o1)
  have z3 := g3.size
  go_wp2_with fail
  refine (Strs.heldStringS_1 _ _ _ _ o1m hl).mono ?_
  rintro e w4 ⟨rfl, b4⟩
  have o1m4 := Strs.own_below o1m b4
  have o0d := Strs.own_below o0c b4
  have hpos : ¬ ((1 : Int) + (l.length : Int) < 0) := by omega
  have hpos' : decide ((1 : Int) + (l.length : Int) < 0) = false := by simp; omega
  go_wp2_with fail
  refine (hI _).mono ?_
  rintro e w5 ⟨v2, rfl, o2, b5⟩
  have o0e := Strs.own_below o0d b5
  have o1m5 := Strs.own_below o1m4 b5
  go_wp2_with fail
  refine (Strs.eqStringS_own _ _ _ _ _ l _ o2 o0e hl).mono ?_
  rintro e w' ⟨rfl, n2, rfl⟩
  go_wp2_with fail
  refine (Strs.heldStringS_1 _ _ _ _ (Strs.own_of_drewN o1m5 n2) hl).mono ?_
  rintro e w6 ⟨rfl, b6⟩
  go_wp2_with fail
  go_ret
  refine ⟨rfl, ?_⟩
  have z1 := b1.size
  have z2 := b2.size
  have z4 := b4.size
  have z5 := b5.size
  have k2 := b1.trans (b2.mono z1)
  have k3 : Below w.heap.size w w3 := Below.grown (w := w2.drewN n1) ⟨k2.os, k2.tape, k2.output, k2.size, k2.block⟩ g3 k2.size (fun k hk => by have := (o1.lt k hk).1; omega)
  have k5 := (k3.trans (b4.mono k3.size)).trans (b5.mono (Nat.le_trans k3.size z4))
  have k5' : Below w.heap.size w (w5.drewN n2) := ⟨k5.os, k5.tape, k5.output, k5.size, k5.block⟩
  exact k5'.trans (b6.mono k5'.size)

theorem spec_to (s sep : ByteArray) (hs : s.size ≤ 4000) (hp : 0 < sep.size) (h1 : sep.size = 1) : SplitsTo 17 s sep ((Pl.split sep[0] s.data.toList).map Pl.ba) true := by
  intro w
  refine (Split.specSplit_any s sep w hs hp h1).mono ?_
  rintro e w' ⟨v, rfl, ho, hb⟩
  exact ⟨v, rfl, by simpa [Split.cs, Function.comp_def] using ho, hb⟩
theorem impl_to (s sep : ByteArray) (hs : s.size ≤ 4000) (hp : 0 < sep.size) (h1 : sep.size = 1) : SplitsTo 10 s sep ((Pl.split sep[0] s.data.toList).map Pl.ba) true := by
  intro w
  refine (Iter.split_any s sep w hs hp h1).mono ?_
  rintro e w' ⟨v, rfl, ho, hb⟩
  exact ⟨v, rfl, by simpa [Split.cs, Function.comp_def] using ho, hb⟩
theorem spec_no (s sep : ByteArray) (h : 4000 < s.size ∨ sep.size ≠ 1) : SplitsTo 17 s sep [] false := by
  intro w
  refine (Split.specSplit_no s sep w h).mono ?_
  rintro e w' ⟨rfl, rfl⟩
  exact ⟨_, rfl, World.ownsRow_lit w #[] 0 (Nat.le_refl _) (Nat.zero_le _) rfl, (Below.refl _ _).alloc (Nat.le_refl _) _⟩
theorem impl_no (s sep : ByteArray) (h : 4000 < s.size ∨ sep.size ≠ 1) : SplitsTo 10 s sep [] false := by
  intro w
  refine (Iter.split_no s sep w h).mono ?_
  rintro e w' ⟨rfl, rfl⟩
  exact ⟨_, rfl, World.ownsRow_lit w #[] 0 (Nat.le_refl _) (Nat.zero_le _) rfl, (Below.refl _ _).alloc (Nat.le_refl _) _⟩

theorem walk (s sep : ByteArray) (w : World) :
    Calls Try.prog 4 #[.string s, .string sep] w fun e w' => e = .returned (.bool true) ∧ Below w.heap.size w w' := by
  by_cases c0 : 1048576 < s.size
  · go_enter Try.func4, Try.ntmps4
    go_wp2_with fail
    go_ret
    exact ⟨rfl, Below.refl _ _⟩
  · by_cases c1 : 1048576 < sep.size
    · go_enter Try.func4, Try.ntmps4
      go_wp2_with fail
      go_ret
      exact ⟨rfl, Below.refl _ _⟩
    · by_cases h : 4000 < s.size ∨ sep.size ≠ 1
      · exact both s sep [] false (spec_no s sep h) (impl_no s sep h) (Nat.zero_le _) (by omega) (by omega) w
      · have hp : 0 < sep.size := by omega
        refine both s sep _ true (spec_to s sep (by omega) hp (by omega)) (impl_to s sep (by omega) hp (by omega)) ?_ (by omega) (by omega) w
        have := Pl.spC_le sep[0] s.data.toList
        rw [Pl.len_size] at this
        simp [Pl.split]; omega

set_option maxRecDepth 100000 in
theorem lifted (os : Os) (started : os.Started) (H : Type) (enc : TypeId × Value → H) :
    ReturnsInHanded {} Try.checked os 4 .any (Rows.fnExactSplitStringSpec.pre6 enc Try.prog Try.f4 Rows.fnExactSplitStringRow.domain false) (Rows.fnExactSplitStringSpec.post enc Try.prog Try.f4 false true false false) := by
  refine returnsInHanded_of_change (C := Try.checked) own started (by kernel_rfl) Try.func4
    (ChangeSpec.witness6 (enc := enc) (C := Try.checked) false ⟨#[], #[.string ByteArray.empty, .string ByteArray.empty], []⟩ 8 (by kernel_rfl) (by kernel_rfl) (by kernel_rfl) (by kernel_rfl)) ?_
  intro W base args ds gs before hval0 hW hcnd _
  have hval : ∀ (j : Nat) t v, Try.f4.params[j]? = some t → args[j]? = some v → Value.okWide Try.prog W .any base t v := hval0
  have hW' := hW
  obtain ⟨p, q, hA0, hV, rfl, hfz, hnd⟩ := hW
  have hA : DataW.TrodAll enc Try.prog W 0 (fun _ => true) true Try.f4.params.toList args.toList ds p := hA0
  rw [Try.params4] at hA hval
  obtain ⟨v0, vs0, d0, ds0, p0, q0, hargs, rfl, rfl, h0, r0⟩ := trodAll_cons hA
  obtain ⟨v1, vs1, d1, ds1, p1, q1, rfl, rfl, rfl, h1, r1⟩ := trodAll_cons r0
  obtain ⟨rfl, rfl, rfl⟩ := trodAll_nil r1
  obtain rfl : args = #[v0, v1] := by cases args; simp_all
  obtain ⟨rfl, rfl⟩ := trodVars_none hV
  obtain ⟨a0, rfl, rfl, rfl, w0⟩ := open_string Try.underlying9 (hval 0 9 v0 rfl rfl) h0
  obtain ⟨a1, rfl, rfl, rfl, w1⟩ := open_string Try.underlying9 (hval 1 9 v1 rfl rfl) h1
  clear hA0 hval0
  simp only [List.append_nil] at hW'
  refine (walk a0 a1 W).mono fun e W' ⟨he, bel⟩ => ?_
  subst he
  exact ⟨_, rfl, _, _, _, [], _, [], hW', trodAll_mk1 (shut_bool Try.underlying4 _), (trodAll_cons_mk (shut_string Try.underlying9 w0) (trodAll_cons_mk (shut_string Try.underlying9 w1) trodAll_mk0)), rfl, bel.frame _, fun h => by cases h⟩

theorem over : Rows.fnExactSplitStringRow.holds Try.pinned (OpenSpec.ofChange Rows.fnExactSplitStringSpec) :=
  OpenClaim.holds_of_wide 4 Try.f4 rfl rfl rfl rfl rfl rfl rfl ⟨rfl, rfl, rfl, rfl, rfl⟩ rfl rfl rfl rfl rfl (by kernel_rfl) Try.func4 (by kernel_rfl)
    (of_decide_eq_true (by kernel_rfl)) (by unfold Func.isWrapper; first | (rw [if_pos (by decide +kernel)]; kernel_rfl) | (rw [if_neg (by decide +kernel)]; exact ⟨rfl, rfl⟩))
    (fun os started H enc _ => lifted os started H enc)

theorem proved : Rows.FnExactSplitStringSaid :=
  over
#print axioms proved
end Go.Proofs.Ytbfnfhaefhklaaa.fnExactSplitString
