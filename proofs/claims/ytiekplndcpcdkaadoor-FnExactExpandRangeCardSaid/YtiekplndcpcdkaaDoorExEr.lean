/-
  Proved: for every string the law FnExactExpandRange returns true: ExpandRange answers as its model. The library's tables lie as the program's text and the pinned constants lay them (the card ties them). No further condition.
-/
import Derived.Test.YtiekplndcpcdkaaDoorRows
import Derived.Test.YtiekplndcpcdkaaDoorPgEs
import Derived.Test.YtiekplndcpcdkaaDoorLaid5
import Derived.Deep.DeepCutAuto
import Derived.WalkKit
import Derived.ProofKit
import Derived.OpenShut
import Derived.ShutString
import Derived.ChangeOld
import Derived.Below
import Derived.Lib.SmallJoins
import Derived.Test.YtiekplndcpcdkaaDoorCards
import Derived.Test.YtiekplndcpcdkaaDoorTie
import Derived.LaidMore
import Derived.Lay
import Derived.SevenTiedAt
import Derived.Stop.Joined
namespace Go.Proofs.YtiekplndcpcdkaaDoor.fnExactExpandRange
set_option linter.ambiguousOpen false
open Go.ChangeShapes Go.WideShapes Go.ChangeAt Go.RowKit
open Go.ChangeMaps (open_string shut_string)
open PgPl Pg PgTx PgF PgBx PgEx PgEi PgEs
open Num (Tab Tab.below)
open Laid (tab5 errs_of)
open _root_.Go.Proofs.YtiekplndcpcdkaaDoor.Read (Errs Errs.below)
set_option linter.unusedVariables false
set_option linter.unusedSimpArgs false

theorem ans_form {s : ByteArray} {v : Value} (h : AnsE s v) : ∃ l f t r, v = .tuple #[prV l f t, .bool r] := by
  rcases h with ⟨r, _, rfl⟩ | ⟨_, rfl⟩
  · exact ⟨_, _, _, _, rfl⟩
  · exact ⟨_, _, _, _, rfl⟩
set_option maxHeartbeats 2000000 in
theorem walk (s : ByteArray) (w : World) (hs : s.size ≤ maxLen) (ht : Tab w) (he : Errs w) :
    Calls Tryd.prog 3 #[.string s] w fun e w' => e = .returned (.bool true) ∧ Below w.heap.size w w' := by
  have HT := Lib.hid ht
  have HE := Lib.hid he
  unfold maxLen at hs
  clear ht he
  by_cases hbig : 1048576 < s.size
  · go_enter Tryd.func3, Tryd.ntmps3
    go_wp2_with fail
    go_ret
    exact ⟨rfl, Below.refl _ _⟩
  · have HM := Lib.hid (fun w => expand_s s w (by omega))
    have HI := Lib.hid (fun w ht he => expand_i s w (by omega) ht he)
    go_enter Tryd.func3, Tryd.ntmps3
    go_wp2_with fail
    refine (HM.out _).mono ?_
    rintro e w1 ⟨v, hv, rfl, b1⟩
    obtain ⟨l, f, t, r, rfl⟩ := ans_form hv
    have HV := Lib.hid hv
    clear hv
    have HD2 := Lib.hid (P3.new w1 l f t 23)
    have k2 := b1.trans ((box_below w1 (.cells #[.string l, .int .i64 f, .int .i64 t] 23)).mono b1.size)
    have HT2 := Lib.hid (HT.out.below k2)
    have HE2 := Lib.hid (HE.out.below k2)
    clear b1
    go_wp2_with fail
    refine (HI.out _ HT2.out HE2.out).mono ?_
    rintro e w3 ⟨v', hv', rfl, b3⟩
    obtain rfl := hv'.uniq HV.out
    have k3 := k2.trans (b3.mono k2.size)
    have HD3 := Lib.hid (HD2.out.below b3)
    have B4 := box_below w3 (.cells #[.string l, .int .i64 f, .int .i64 t] 23)
    have HD4 := Lib.hid (HD3.out.below B4)
    have HF4 := Lib.hid (P3.new w3 l f t 23)
    have k4 := k3.trans (B4.mono k3.size)
    clear b3 k2 k3 HT2 HE2 HD2 HD3 B4 hv' HM HI
    go_upto_region 5 with fail
    generalize hW : w3.alloc _ = w4 at HD4 HF4 k4 ⊢
    clear hW
    generalize w1.heap.size = ba at *
    generalize w3.heap.size = bb at *
    obtain ⟨al, a0, a1, a2⟩ := HD4.out
    obtain ⟨bl, b0, b1, b2⟩ := HF4.out
    go_wp2_with fail
    refine (eqRange l f t _).mono ?_
    rintro e w5 ⟨rfl, b5⟩
    have k5 := k4.trans (b5.mono k4.size)
    clear b5 k4
    go_wp2_with fail
    go_ret
    exact ⟨rfl, k5⟩

set_option maxRecDepth 100000 in
theorem lifted (os : Os) (started : os.Started) (H : Type) (enc : TypeId × Value → H) :
    ReturnsInHanded {} Tryd.checked os 3 .any (fun w args => (Rows.fnExactExpandRangeSpec.pre enc Tryd.prog Tryd.f3 Rows.fnExactExpandRangeRow.domain false w args ∧ laidMetH Tryd.prog Rows.fnExactExpandRangeRow.laid w) ∧ sizedMet enc Tryd.prog Tryd.f3 (OpenSpec.ofChange Rows.fnExactExpandRangeSpec) false w args)
      (Rows.fnExactExpandRangeSpec.post enc Tryd.prog Tryd.f3 false true false false) := by
  refine returnsInHanded_of_change_and (C := Tryd.checked) (X := fun w _ => laidMetH Tryd.prog Rows.fnExactExpandRangeRow.laid w) (fun _ _ _ hh h => h.of_heap hh) own started (by kernel_rfl) Tryd.func3
    (ChangeSpec.witness_shaped (enc := enc) (C := Tryd.checked) (os := os) (X := fun w _ => laidMetH Tryd.prog Rows.fnExactExpandRangeRow.laid w) false (World.laidAll Tryd.prog os Rows.fnExactExpandRangeRow.laid) #[.string ByteArray.empty] 8 (World.laidAll_os _ _ _)
      (World.shaped_of_ZipB (by kernel_rfl) (by kernel_rfl)) (by kernel_rfl) (by kernel_rfl) (by kernel_rfl)
      (by rw [MakeChecks.laidMetH_plain _ _ _ (by kernel_rfl)]; exact laidMet_laidAll _ (by kernel_rfl) (by kernel_rfl))) ?_
  intro W base args ds gs before hval0 hW hcnd _ hL _
  rw [MakeChecks.laidMetH_plain _ _ _ (by kernel_rfl)] at hL
  have hval : ∀ (j : Nat) t v, Tryd.f3.params[j]? = some t → args[j]? = some v → Value.okWide Tryd.prog W .any base t v := hval0
  have hW' := hW
  obtain ⟨p, q, hA0, hV, rfl, hfz, hnd⟩ := hW
  have hA : DataW.TrodAll enc Tryd.prog W 0 (fun _ => true) true Tryd.f3.params.toList args.toList ds p := hA0
  rw [Tryd.params3] at hA hval
  obtain ⟨v0, vs0, d0, ds0, p0, q0, hargs, rfl, rfl, h0, r0⟩ := trodAll_cons hA
  obtain ⟨rfl, rfl, rfl⟩ := trodAll_nil r0
  obtain rfl : args = #[v0] := by cases args; simp_all
  obtain ⟨rfl, rfl⟩ := trodVars_none hV
  have k0 := h0
  have lt0 : ∀ x ∈ p0, x.block < W.heap.size := by obtain ⟨m, hm⟩ := k0; exact DataW.trod_lt m _ _ _ hm
  obtain ⟨s0, rfl, _, _, hs0⟩ := open_string Tryd.underlying9 (hval 0 9 v0 rfl rfl) h0
  clear hA0 hval0
  refine (walk s0 W hs0 (tab5 hL) (errs_of hL)).mono fun e W' ⟨he, bel⟩ => ?_
  subst he
  exact ⟨_, rfl, _, _, _, [], _, [], hW', trodAll_mk1 (shut_bool Tryd.underlying4 _), (trodAll_cons_mk (Below.trod laidOut (by kernel_rfl) (of_decide_eq_true (by kernel_rfl)) k0 bel lt0) trodAll_mk0), rfl, bel.frame _, fun h => by cases h⟩

theorem closed : joinedFacts Tryd.pinned.checked.prog 3 Tryd.f3 Rows.fnExactExpandRangeSpec Rows.fnExactExpandRangeRow = true := by kernel_rfl
theorem over : Rows.fnExactExpandRangeRow.holds Tryd.pinned (OpenSpec.ofChange Rows.fnExactExpandRangeSpec) :=
  OpenClaim.holds_of_wide 3 Tryd.f3 rfl rfl rfl rfl rfl rfl rfl ⟨rfl, rfl, rfl, rfl, rfl⟩ rfl rfl rfl rfl rfl (by kernel_rfl) Tryd.func3 closed
    (of_decide_eq_true (by kernel_rfl)) (by unfold Func.isWrapper; first | (rw [if_pos (by decide +kernel)]; kernel_rfl) | (rw [if_neg (by decide +kernel)]; exact ⟨rfl, rfl⟩))
    (fun os started H enc _ => lifted os started H enc)

theorem plain (f : FuncId) (fn : Func) (hf : Tryd.pinned.checked.prog.funcNamed "loop.example/g00896/laws.FnExactExpandRange" = some f) (hfn : Tryd.pinned.checked.prog.funcs[f]? = some fn) :
    true = Tryd.pinned.checked.prog.looks [] ∧ ∀ (j : Nat) t, fn.params[j]? = some t → Tryd.pinned.checked.prog.wantsStandIn t = false := by
  obtain rfl : f = 3 := Option.some.inj ((show Tryd.prog.funcNamed "loop.example/g00896/laws.FnExactExpandRange" = some 3 by kernel_rfl).symm.trans hf) |>.symm
  obtain rfl : fn = Tryd.f3 := (Option.some.inj (Tryd.func3.symm.trans hfn)).symm
  refine ⟨by kernel_rfl, fun j t ht => ?_⟩
  rw [Tryd.params3] at ht
  obtain rfl : t = 9 := by simpa using Array.mem_of_getElem? ht
  exact (show Tryd.prog.wantsStandIn 9 = false by kernel_rfl)

theorem card : Rows.FnExactExpandRangeCardSaid :=
  Claim7.holds_tied_plain_at .later [] _ _ _ _ over (fun _ h => by cases h) (by kernel_rfl) (fun _ h => by cases h) fnExactExpandRange_row_tie rfl ⟨rfl, rfl⟩ (by kernel_rfl) rfl plain (by kernel_rfl)
#print axioms card
end Go.Proofs.YtiekplndcpcdkaaDoor.fnExactExpandRange
