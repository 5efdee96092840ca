/-
  Proved: for every range and every style the law FnExactCollapseRange returns true: CollapseRange answers as its model; the arguments read as before. The library's tables lie as the program's text and the pinned constants lay them (the card ties them). No further condition.
-/
import Derived.Test.YtjaebblkedlpnaaDoorRows
import Derived.Test.YtjaebblkedlpnaaDoorPgC
import Derived.Test.YtjaebblkedlpnaaDoorLaid
import Derived.WalkKit
import Derived.ProofKit
import Derived.OpenShut
import Derived.ShutString
import Derived.ChangeOld
import Derived.Below
import Derived.Lib.SmallJoins
import Derived.Test.YtjaebblkedlpnaaDoorCards
import Derived.Test.YtjaebblkedlpnaaDoorTie
import Derived.LaidMore
import Derived.Lay
import Derived.SevenTiedAt
import Derived.Stop.Joined
namespace Go.Proofs.YtjaebblkedlpnaaDoor.fnExactCollapseRange
open Go.ChangeShapes Go.WideShapes Go.ChangeAt Go.RowKit
open Go.ChangeMaps (open_string shut_string)
open PgPl Pg PgTx PgF PgCo PgC
open Num (Tab Tab.below)
open Laid (tab_of)
set_option linter.unusedVariables false
set_option linter.unusedSimpArgs false

set_option maxHeartbeats 1000000 in
theorem walk (l : ByteArray) (f t : Int) (st : Int) (w : World) (hl : l.size ≤ maxLen) (ht0 : Tab w) :
    Calls Tryd.prog 4 #[prV l f t, .int .i64 st] w fun e w' => e = .returned (.bool true) ∧ Below w.heap.size w w' := by
  have hb0 := box_below w (.cells #[.string l, .int .i64 f, .int .i64 t] 31)
  have HB := Lib.hid hb0
  have HD := Lib.hid (P3.new w l f t 31)
  have HT := Lib.hid (ht0.below hb0)
  have HS := Lib.hid (fun w => szRange l f t 1048576 w hl (Nat.le_refl _))
  clear hb0 ht0
  by_cases hfit : l.size ≤ 1048576
  · rw [if_pos hfit] at HS
    obtain ⟨u, hu⟩ : ∃ u : Nat, ((1048576 : Nat) : Int) - l.size = u := ⟨1048576 - l.size, by omega⟩
    rw [hu] at HS
    obtain ⟨z, hz⟩ : ∃ z, colB ⟨l, f, t⟩ st = z := ⟨_, rfl⟩
    have HZ := Lib.hid hz
    obtain ⟨s, hv⟩ : ∃ s, colS z ⟨l, f, t⟩ st = s := ⟨_, rfl⟩
    have HV := Lib.hid hv
    clear hz hv hu hl hfit
    go_enter Tryd.func4, Tryd.ntmps4
    go_wp2_with fail
    refine (HS.out _).mono ?_
    rintro e w1 ⟨rfl, b1⟩
    have k1 := HB.out.trans (b1.mono HB.out.size)
    have D1 := Lib.hid (HD.out.below b1)
    have T1 := Lib.hid (HT.out.below b1)
    clear b1
    obtain ⟨hlt, c0, c1, c2⟩ := D1.out
    go_wp2_with fail
    refine (toRange l f t _).mono ?_
    rintro e w2 ⟨rfl, b2⟩
    have k2 := k1.trans (b2.mono k1.size)
    have D2 := Lib.hid (D1.out.below b2)
    have T2 := Lib.hid (T1.out.below b2)
    clear b2 k1 D1 T1 hlt c0 c1 c2
    go_wp2_with fail
    refine (collapse_s l f t st z s _ HZ.out HV.out).mono ?_
    rintro e w3 ⟨rfl, b3⟩
    have k3 := k2.trans (b3.mono k2.size)
    have D3 := Lib.hid (D2.out.below b3)
    have T3 := Lib.hid (T2.out.below b3)
    clear b3 k2 D2 T2
    obtain ⟨hlt, c0, c1, c2⟩ := D3.out
    go_wp2_with fail
    refine (toRange l f t _).mono ?_
    rintro e w4 ⟨rfl, b4⟩
    have k4 := k3.trans (b4.mono k3.size)
    have T4 := Lib.hid (T3.out.below b4)
    clear b4 k3 D3 T3 hlt c0 c1 c2
    go_wp2_with fail
    refine (collapse_i l f t st z s _ T4.out HZ.out HV.out).mono ?_
    rintro e w5 ⟨rfl, b5⟩
    have k5 := k4.trans (b5.mono k4.size)
    clear b5 k4 T4
    go_wp2_with fail
    go_ret
    exact ⟨rfl, k5⟩
  · rw [if_neg hfit] at HS
    clear hl hfit
    go_enter Tryd.func4, Tryd.ntmps4
    go_wp2_with fail
    refine (HS.out _).mono ?_
    rintro e w1 ⟨rfl, b1⟩
    go_wp2_with fail
    go_ret
    exact ⟨rfl, HB.out.trans (b1.mono HB.out.size)⟩

set_option maxRecDepth 100000 in
theorem lifted (os : Os) (started : os.Started) (H : Type) (enc : TypeId × Value → H) :
    ReturnsInHanded {} Tryd.checked os 4 .any (fun w args => (Rows.fnExactCollapseRangeSpec.pre enc Tryd.prog Tryd.f4 Rows.fnExactCollapseRangeRow.domain false w args ∧ laidMetH Tryd.prog Rows.fnExactCollapseRangeRow.laid w) ∧ sizedMet enc Tryd.prog Tryd.f4 (OpenSpec.ofChange Rows.fnExactCollapseRangeSpec) false w args)
      (Rows.fnExactCollapseRangeSpec.post enc Tryd.prog Tryd.f4 false true false false) := by
  refine returnsInHanded_of_change_and (C := Tryd.checked) (X := fun w _ => laidMetH Tryd.prog Rows.fnExactCollapseRangeRow.laid w) (fun _ _ _ hh h => h.of_heap hh) own started (by kernel_rfl) Tryd.func4
    (ChangeSpec.witness_shaped (enc := enc) (C := Tryd.checked) (os := os) (X := fun w _ => laidMetH Tryd.prog Rows.fnExactCollapseRangeRow.laid w) false (World.laidAll Tryd.prog os Rows.fnExactCollapseRangeRow.laid) #[.agg #[.string ByteArray.empty, .int .i64 0, .int .i64 0], .int .i64 0] 8 (World.laidAll_os _ _ _)
      (World.shaped_of_ZipB (by kernel_rfl) (by kernel_rfl)) (by kernel_rfl) (by kernel_rfl) (by kernel_rfl)
      (by rw [MakeChecks.laidMetH_plain _ _ _ (by kernel_rfl)]; exact laidMet_laidAll _ (by kernel_rfl) (by kernel_rfl))) ?_
  intro W base args ds gs before hval0 hW hcnd _ hL _
  rw [MakeChecks.laidMetH_plain _ _ _ (by kernel_rfl)] at hL
  have hval : ∀ (j : Nat) t v, Tryd.f4.params[j]? = some t → args[j]? = some v → Value.okWide Tryd.prog W .any base t v := hval0
  have hW' := hW
  obtain ⟨p, q, hA0, hV, rfl, hfz, hnd⟩ := hW
  have hA : DataW.TrodAll enc Tryd.prog W 0 (fun _ => true) true Tryd.f4.params.toList args.toList ds p := hA0
  rw [Tryd.params4] at hA hval
  obtain ⟨v0, vs0, d0, ds0, p0, q0, hargs, rfl, rfl, h0, r0⟩ := trodAll_cons hA
  obtain ⟨v1, vs1, d1, ds1, p1, q1, rfl, rfl, rfl, h1, r1⟩ := trodAll_cons r0
  obtain ⟨rfl, rfl, rfl⟩ := trodAll_nil r1
  obtain rfl : args = #[v0, v1] := by cases args; simp_all
  obtain ⟨rfl, rfl⟩ := trodVars_none hV
  have k0 := h0
  have lt0 : ∀ x ∈ p0, x.block < W.heap.size := by obtain ⟨m, hm⟩ := k0; exact DataW.trod_lt m _ _ _ hm
  have k1 := h1
  have lt1 : ∀ x ∈ p1, x.block < W.heap.size := by obtain ⟨m, hm⟩ := k1; exact DataW.trod_lt m _ _ _ hm
  obtain ⟨l0, f0, t0, rfl, hs0⟩ := open_range (hval 0 31 v0 rfl rfl) h0
  obtain ⟨z1, rfl, _, _, _⟩ := open_int Tryd.underlying3 (hval 1 3 v1 rfl rfl) h1
  clear hA0 hval0
  refine (walk l0 f0 t0 z1 W hs0 (tab_of hL)).mono fun e W' ⟨he, bel⟩ => ?_
  subst he
  exact ⟨_, rfl, _, _, _, [], _, [], hW', trodAll_mk1 (shut_bool Tryd.underlying4 _), (trodAll_cons_mk (Below.trod laidOut (by kernel_rfl) (of_decide_eq_true (by kernel_rfl)) k0 bel lt0) (trodAll_cons_mk (Below.trod laidOut (by kernel_rfl) (of_decide_eq_true (by kernel_rfl)) k1 bel lt1) trodAll_mk0)), rfl, bel.frame _, fun h => by cases h⟩

theorem closed : joinedFacts Tryd.pinned.checked.prog 4 Tryd.f4 Rows.fnExactCollapseRangeSpec Rows.fnExactCollapseRangeRow = true := by kernel_rfl
theorem over : Rows.fnExactCollapseRangeRow.holds Tryd.pinned (OpenSpec.ofChange Rows.fnExactCollapseRangeSpec) :=
  OpenClaim.holds_of_wide 4 Tryd.f4 rfl rfl rfl rfl rfl rfl rfl ⟨rfl, rfl, rfl, rfl, rfl⟩ rfl rfl rfl rfl rfl (by kernel_rfl) Tryd.func4 closed
    (of_decide_eq_true (by kernel_rfl)) (by unfold Func.isWrapper; first | (rw [if_pos (by decide +kernel)]; kernel_rfl) | (rw [if_neg (by decide +kernel)]; exact ⟨rfl, rfl⟩))
    (fun os started H enc _ => lifted os started H enc)

theorem plain (f : FuncId) (fn : Func) (hf : Tryd.pinned.checked.prog.funcNamed "loop.example/g00896/laws.FnExactCollapseRange" = some f) (hfn : Tryd.pinned.checked.prog.funcs[f]? = some fn) :
    false = Tryd.pinned.checked.prog.looks [] ∧ ∀ (j : Nat) t, fn.params[j]? = some t → Tryd.pinned.checked.prog.wantsStandIn t = false := by
  obtain rfl : f = 4 := Option.some.inj ((show Tryd.prog.funcNamed "loop.example/g00896/laws.FnExactCollapseRange" = some 4 by kernel_rfl).symm.trans hf) |>.symm
  obtain rfl : fn = Tryd.f4 := (Option.some.inj (Tryd.func4.symm.trans hfn)).symm
  refine ⟨by kernel_rfl, fun j t ht => ?_⟩
  rw [Tryd.params4] at ht
  have hm : t = 3 ∨ t = 31 := by have h9 := Array.mem_of_getElem? ht; simp at h9; first | omega | (rcases h9 with h9 | h9 <;> first | exact .inl h9 | exact .inr h9)
  rcases hm with rfl | rfl
  · exact (show Tryd.prog.wantsStandIn 3 = false by kernel_rfl)
  · exact (show Tryd.prog.wantsStandIn 31 = false by kernel_rfl)

theorem card : Rows.FnExactCollapseRangeCardSaid :=
  Claim7.holds_tied_plain_at .later [] _ _ _ _ over (fun _ h => by cases h) (by kernel_rfl) (fun _ h => by cases h) fnExactCollapseRange_row_tie rfl ⟨rfl, rfl⟩ (by kernel_rfl) rfl plain (by kernel_rfl)
#print axioms card
end Go.Proofs.YtjaebblkedlpnaaDoor.fnExactCollapseRange
