/-
  Proved: for every string the law FnExactTitleWords returns true: TitleWords answers as its model, its answer owns its memory; the argument reads as before. The library's tables and its error lie as the program's text and the pinned constants lay them (the card ties them). No further condition.
-/
import Derived.Test.YtheiammmanpddaaDoorRows
import Derived.Test.YtheiammmanpddaaDoorWt
import Derived.Test.YtheiammmanpddaaDoorAndSh
import Derived.Test.YtheiammmanpddaaDoorStrs
import Derived.Test.YtheiammmanpddaaDoorMarks
import Derived.WalkKit
import Derived.ProofKit
import Derived.OpenShut
import Derived.ShutString
import Derived.ChangeOld
import Derived.Below
import Derived.Lib.SmallJoins
import Derived.Test.YtheiammmanpddaaDoorCards
import Derived.Test.YtheiammmanpddaaDoorTie
import Derived.LaidMore
import Derived.Lay
import Derived.SevenTiedAt
import Derived.Stop.Joined
namespace Go.Proofs.YtheiammmanpddaaDoor.fnExactTitleWords
open Go.ChangeShapes Go.WideShapes Go.ChangeAt Go.RowKit
open Go.ChangeMaps (open_string shut_string)
open Ti Wt
set_option linter.unusedVariables false
set_option linter.unusedSimpArgs false

theorem own : ownKnob Tryd.prog.godebug = none := by kernel_rfl
theorem laidOut : laidOutB Tryd.prog = true := by kernel_rfl
theorem ml_of {w : World} (h : w.ShapedOpen Tryd.prog) : ML w := Tryd.laysM144.s1_3 w h
set_option maxHeartbeats 1000000 in
theorem both (s : ByteArray) (l : List ByteArray) (ok : Bool) (hS : WordsTo 8 s l ok) (hI : WordsTo 9 s l ok) (hl : l.length ≤ 2097152)
    (c0 : s.size ≤ 1048576) (w : World) (hM : ML w) :
    Calls Tryd.prog 4 #[.string s] w fun e w' => e = .returned (.bool true) ∧ Below w.heap.size w w' := by
  have HM := Lib.hid hM
  have HS := Lib.hid hS
  have HI := Lib.hid hI
  clear hM hS hI
  go_enter Tryd.func4, Tryd.ntmps4
  go_wp2_with fail
  refine (HS.out _ HM.out).mono ?_
  rintro e w1 ⟨v0, rfl, o0, b1⟩
  have HM1 := Lib.hid (HM.out.below b1)
  go_wp2_with fail
  refine (HI.out _ HM1.out).mono ?_
  rintro e w2 ⟨v1, rfl, o1, b2⟩
  have o0b := Strs.own_below o0 b2
  go_wp2_with fail
  refine (Strs.eqStringS_own _ _ _ _ _ l _ o1 o0b hl).mono ?_
  rintro e w' ⟨rfl, n1, rfl⟩
  go_wp2_with fail
  refine (Strs.markStringS_1 _ _ l _ _ (Strs.own_of_drewN o1 n1) rfl hl).mono ?_
  rintro e w3 ⟨rfl, o1m, g3⟩
  have o0c := (Strs.own_of_drewN o0b n1).kept g3 (Strs.own_apart o0 o1)
  have z3 := g3.size
  go_wp2_with fail
  refine (Strs.heldStringS_1 _ _ _ _ o1m hl).mono ?_
  rintro e w4 ⟨rfl, b4⟩
  have o1m4 := Strs.own_below o1m b4
  have o0d := Strs.own_below o0c b4
  have hpos : ¬ ((1 : Int) + (l.length : Int) < 0) := by omega
  have hpos' : decide ((1 : Int) + (l.length : Int) < 0) = false := by simp; omega
  have z1 := b1.size
  have z2 := b2.size
  have z4 := b4.size
  have k2 := b1.trans (b2.mono z1)
  have k3 : Below w.heap.size w w3 := Below.grown (w := w2.drewN n1) ⟨k2.os, k2.tape, k2.output, k2.size, k2.block⟩ g3 k2.size (fun k hk => by have := (o1.lt k hk).1; omega)
  have k4 := k3.trans (b4.mono k3.size)
  have HM4 := Lib.hid (HM.out.below k4)
  go_wp2_with fail
  refine (HI.out _ HM4.out).mono ?_
  rintro e w5 ⟨v2, rfl, o2, b5⟩
  have o0e := Strs.own_below o0d b5
  have o1m5 := Strs.own_below o1m4 b5
  go_wp2_with fail
  refine (Strs.eqStringS_own _ _ _ _ _ l _ o2 o0e hl).mono ?_
  rintro e w' ⟨rfl, n2, rfl⟩
  go_wp2_with fail
  refine (Strs.heldStringS_1 _ _ _ _ (Strs.own_of_drewN o1m5 n2) hl).mono ?_
  rintro e w6 ⟨rfl, b6⟩
  go_wp2_with fail
  go_ret
  refine ⟨rfl, ?_⟩
  have z5 := b5.size
  have k5 := k4.trans (b5.mono k4.size)
  have k5' : Below w.heap.size w (w5.drewN n2) := ⟨k5.os, k5.tape, k5.output, k5.size, k5.block⟩
  exact k5'.trans (b6.mono k5'.size)
theorem walk (s : ByteArray) (w : World) (hs : s.size ≤ maxLen) (hsh : w.ShapedOpen Tryd.prog) :
    Calls Tryd.prog 4 #[.string s] w fun e w' => e = .returned (.bool true) ∧ Below w.heap.size w w' := by
  unfold maxLen at hs
  by_cases h0 : s.size ≤ 1048576
  · exact both s _ _ (specWords s h0) (implWords s h0) (answer_len _ (by rw [Pl.len_size]; exact h0)) h0 w (ml_of hsh)
  · clear hsh
    go_enter Tryd.func4, Tryd.ntmps4
    go_wp2_with fail
    go_ret
    exact ⟨rfl, Below.refl _ _⟩

set_option maxRecDepth 100000 in
theorem lifted (os : Os) (started : os.Started) (H : Type) (enc : TypeId × Value → H) :
    ReturnsInHanded {} Tryd.checked os 4 .any (fun w args => (Rows.fnExactTitleWordsSpec.pre enc Tryd.prog Tryd.f4 Rows.fnExactTitleWordsRow.domain false w args ∧ laidMetH Tryd.prog Rows.fnExactTitleWordsRow.laid w) ∧ sizedMet enc Tryd.prog Tryd.f4 (OpenSpec.ofChange Rows.fnExactTitleWordsSpec) false w args)
      (Rows.fnExactTitleWordsSpec.post enc Tryd.prog Tryd.f4 false true false false) := by
  refine change_and_shaped (C := Tryd.checked) (X := fun w _ => laidMetH Tryd.prog Rows.fnExactTitleWordsRow.laid w) (fun _ _ _ hh h => h.of_heap hh) own started (by kernel_rfl) Tryd.func4
    (ChangeSpec.witness_shaped (enc := enc) (C := Tryd.checked) (os := os) (X := fun w _ => laidMetH Tryd.prog Rows.fnExactTitleWordsRow.laid w) false (World.laidAll Tryd.prog os Rows.fnExactTitleWordsRow.laid) #[.string ByteArray.empty] 8 (World.laidAll_os _ _ _)
      (World.shaped_of_ZipB (by kernel_rfl) (by kernel_rfl)) (by kernel_rfl) (by kernel_rfl) (by kernel_rfl)
      (by rw [MakeChecks.laidMetH_plain _ _ _ (by kernel_rfl)]; exact laidMet_laidAll _ (by kernel_rfl) (by kernel_rfl))) ?_
  intro W base args ds gs before hval0 hW hL hsh
  have hval : ∀ (j : Nat) t v, Tryd.f4.params[j]? = some t → args[j]? = some v → Value.okWide Tryd.prog W .any base t v := hval0
  have hW' := hW
  obtain ⟨p, q, hA0, hV, rfl, hfz, hnd⟩ := hW
  have hA : DataW.TrodAll enc Tryd.prog W 0 (fun _ => true) true Tryd.f4.params.toList args.toList ds p := hA0
  rw [Tryd.params4] at hA hval
  obtain ⟨v0, vs0, d0, ds0, p0, q0, hargs, rfl, rfl, h0, r0⟩ := trodAll_cons hA
  obtain ⟨rfl, rfl, rfl⟩ := trodAll_nil r0
  obtain rfl : args = #[v0] := by cases args; simp_all
  obtain ⟨rfl, rfl⟩ := trodVars_none hV
  have k0 := h0
  have lt0 : ∀ x ∈ p0, x.block < W.heap.size := by obtain ⟨m, hm⟩ := k0; exact DataW.trod_lt m _ _ _ hm
  obtain ⟨s0, rfl, _, _, hs0⟩ := open_string Tryd.underlying9 (hval 0 9 v0 rfl rfl) h0
  clear hA0 hval0
  refine (walk s0 W hs0 hsh).mono fun e W' ⟨he, bel⟩ => ?_
  subst he
  exact ⟨_, rfl, _, _, _, [], _, [], hW', trodAll_mk1 (shut_bool Tryd.underlying4 _), (trodAll_cons_mk (Below.trod laidOut (by kernel_rfl) (of_decide_eq_true (by kernel_rfl)) k0 bel lt0) trodAll_mk0), rfl, bel.frame _, fun h => by cases h⟩

theorem over : Rows.fnExactTitleWordsRow.holds Tryd.pinned (OpenSpec.ofChange Rows.fnExactTitleWordsSpec) :=
  OpenClaim.holds_of_wide 4 Tryd.f4 rfl rfl rfl rfl rfl rfl rfl ⟨rfl, rfl, rfl, rfl, rfl⟩ rfl rfl rfl rfl rfl (by kernel_rfl) Tryd.func4 (by kernel_rfl)
    (of_decide_eq_true (by kernel_rfl)) (by unfold Func.isWrapper; first | (rw [if_pos (by decide +kernel)]; kernel_rfl) | (rw [if_neg (by decide +kernel)]; exact ⟨rfl, rfl⟩))
    (fun os started H enc _ => lifted os started H enc)

theorem plain (f : FuncId) (fn : Func) (hf : Tryd.pinned.checked.prog.funcNamed "loop.example/g00896/laws.FnExactTitleWords" = some f) (hfn : Tryd.pinned.checked.prog.funcs[f]? = some fn) :
    false = Tryd.pinned.checked.prog.looks [] ∧ ∀ (j : Nat) t, fn.params[j]? = some t → Tryd.pinned.checked.prog.wantsStandIn t = false := by
  obtain rfl : f = 4 := Option.some.inj ((show Tryd.prog.funcNamed "loop.example/g00896/laws.FnExactTitleWords" = some 4 by kernel_rfl).symm.trans hf) |>.symm
  obtain rfl : fn = Tryd.f4 := (Option.some.inj (Tryd.func4.symm.trans hfn)).symm
  refine ⟨by kernel_rfl, fun j t ht => ?_⟩
  rw [Tryd.params4] at ht
  obtain rfl : t = 9 := by simpa using Array.mem_of_getElem? ht
  exact (show Tryd.prog.wantsStandIn 9 = false by kernel_rfl)

theorem card : Rows.FnExactTitleWordsCardSaid :=
  Claim7.holds_tied_plain_at .later [] _ _ _ _ over (fun _ h => by cases h) (by kernel_rfl) (fun _ h => by cases h) fnExactTitleWords_row_tie rfl ⟨rfl, rfl⟩ (by kernel_rfl) rfl plain (by kernel_rfl)
#print axioms card
end Go.Proofs.YtheiammmanpddaaDoor.fnExactTitleWords
