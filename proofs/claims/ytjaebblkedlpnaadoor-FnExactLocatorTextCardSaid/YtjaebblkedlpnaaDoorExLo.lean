/-
  Proved: for every label and every list of ranges the law FnExactLocatorText returns true: LocatorText answers as its model and writes into no argument; the arguments read as before. The library's tables lie as the program's text and the pinned constants lay them (the card ties them). No further condition.
-/
import Derived.Test.YtjaebblkedlpnaaDoorRows
import Derived.Test.YtjaebblkedlpnaaDoorPgLo
import Derived.Test.YtjaebblkedlpnaaDoorLaid
import Derived.WalkKit
import Derived.ProofKit
import Derived.OpenShut
import Derived.ShutString
import Derived.ChangeOld
import Derived.Below
import Derived.Lib.SmallJoins
import Derived.Test.YtjaebblkedlpnaaDoorCards
import Derived.Test.YtjaebblkedlpnaaDoorTie
import Derived.LaidMore
import Derived.Lay
import Derived.SevenTiedAt
import Derived.Stop.Joined
namespace Go.Proofs.YtjaebblkedlpnaaDoor.fnExactLocatorText
open Go.ChangeShapes Go.WideShapes Go.ChangeAt Go.RowKit
open Go.ChangeMaps (open_string shut_string)
open PgPl Pg PgTx PgF PgLo
open Num (Tab Tab.below)
open Laid (tab_of)
set_option linter.unusedVariables false
set_option linter.unusedSimpArgs false

set_option maxHeartbeats 1000000 in
theorem walk (l : ByteArray) (A : Option Addr) (N c : Nat) (L : List Pr) (w : World) (hl : l.size ≤ maxLen) (hr : RdP w A L) (hn : L.length = N) (hm : N ≤ maxLen) (hx : ∀ x ∈ L, x.l.size ≤ maxLen) (ht0 : Tab w) :
    Calls Tryd.prog 5 #[.string l, .slice A N c] w fun e w' => e = .returned (.bool true) ∧ Below w.heap.size w w' := by
  have HS := Lib.hid (szRanges A c N L 1048576 w hr hn hm hx (Nat.le_refl _))
  have HR := Lib.hid hr
  have HN := Lib.hid hn
  have HTb := Lib.hid ht0
  clear ht0
  have hzl := hl
  unfold maxLen at hzl
  by_cases hbl : 1048576 < l.size
  · clear hl
    go_enter Tryd.func5, Tryd.ntmps5
    go_wp2_with fail
    go_ret
    exact ⟨rfl, Below.refl _ _⟩
  replace hbl : l.size ≤ 1048576 := by omega
  by_cases hfit : N + szL L ≤ 1048576
  · obtain ⟨t, ht⟩ : ∃ t : Nat, szPs 1048576 L = (t : Int) := ⟨1048576 - (N + szL L), by unfold szPs; rw [hn, if_pos hfit]; omega⟩
    rw [ht] at HS
    have hN : N ≤ 1048576 := by omega
    obtain ⟨z, hz⟩ : ∃ z, locZ l L = z := ⟨_, rfl⟩
    have HZ := Lib.hid hz
    obtain ⟨q, hv⟩ : ∃ q, locS z l L = q := ⟨_, rfl⟩
    have HV := Lib.hid hv
    clear hz hv hl
    clear ht hr hn hm hx hfit
    go_enter Tryd.func5, Tryd.ntmps5
    go_wp2_with fail
    refine HS.out.mono ?_
    rintro e w1 ⟨rfl, k1⟩
    go_wp2_with fail
    refine (toRanges A c N L _ (HR.out.below k1) HN.out hN).mono ?_
    rintro e w2 ⟨rfl, o2, b2⟩
    have R2 := Lib.hid (own_rd o2)
    have k2 := k1.trans (b2.mono k1.size)
    clear o2 b2 k1
    go_wp2_with fail
    refine (loc_s l _ _ N L z q _ R2.out HN.out hN HZ.out HV.out).mono ?_
    rintro e w3 ⟨rfl, b3⟩
    have k3 := k2.trans (b3.mono k2.size)
    clear b3 k2 R2
    go_wp2_with fail
    refine (toRanges A c N L _ (HR.out.below k3) HN.out hN).mono ?_
    rintro e w4 ⟨rfl, o4, b4⟩
    have R4 := Lib.hid (own_rd o4)
    have k4 := k3.trans (b4.mono k3.size)
    clear o4 b4 k3
    go_wp2_with fail
    refine (loc_i l _ _ N L z q _ R4.out HN.out hN (HTb.out.below k4) HZ.out HV.out).mono ?_
    rintro e w5 ⟨rfl, b5⟩
    have R5 := Lib.hid (R4.out.below b5)
    have k5 := k4.trans (b5.mono k4.size)
    clear b5 k4 R4
    go_wp2_with fail
    refine (toRanges A c N L _ (HR.out.below k5) HN.out hN).mono ?_
    rintro e w6 ⟨rfl, o6, b6⟩
    have R6 := Lib.hid (own_rd o6)
    have R7 := Lib.hid (R5.out.below b6)
    have k6 := k5.trans (b6.mono k5.size)
    clear o6 b6 k5 R5
    go_wp2_with fail
    refine (eqRanges _ _ _ _ N L _ R7.out R6.out HN.out hN).mono ?_
    rintro e w7 ⟨rfl, b7⟩
    have k7 := k6.trans (b7.mono k6.size)
    clear b7 k6
    go_wp2_with fail
    go_ret
    exact ⟨rfl, k7⟩
  · have ht : szPs 1048576 L = -1 := by unfold szPs; rw [hn, if_neg hfit]
    rw [ht] at HS
    clear ht hr hn hm hx hfit
    go_enter Tryd.func5, Tryd.ntmps5
    go_wp2_with fail
    refine HS.out.mono ?_
    rintro e w1 ⟨rfl, k1⟩
    go_wp2_with fail
    go_ret
    exact ⟨rfl, k1⟩

set_option maxRecDepth 100000 in
theorem lifted (os : Os) (started : os.Started) (H : Type) (enc : TypeId × Value → H) :
    ReturnsInHanded {} Tryd.checked os 5 .any (fun w args => (Rows.fnExactLocatorTextSpec.pre enc Tryd.prog Tryd.f5 Rows.fnExactLocatorTextRow.domain false w args ∧ laidMetH Tryd.prog Rows.fnExactLocatorTextRow.laid w) ∧ sizedMet enc Tryd.prog Tryd.f5 (OpenSpec.ofChange Rows.fnExactLocatorTextSpec) false w args)
      (Rows.fnExactLocatorTextSpec.post enc Tryd.prog Tryd.f5 false true false false) := by
  refine returnsInHanded_of_change_and (C := Tryd.checked) (X := fun w _ => laidMetH Tryd.prog Rows.fnExactLocatorTextRow.laid w) (fun _ _ _ hh h => h.of_heap hh) own started (by kernel_rfl) Tryd.func5
    (ChangeSpec.witness_shaped (enc := enc) (C := Tryd.checked) (os := os) (X := fun w _ => laidMetH Tryd.prog Rows.fnExactLocatorTextRow.laid w) false (World.laidAll Tryd.prog os Rows.fnExactLocatorTextRow.laid) #[.string ByteArray.empty, .slice none 0 0] 8 (World.laidAll_os _ _ _)
      (World.shaped_of_ZipB (by kernel_rfl) (by kernel_rfl)) (by kernel_rfl) (by kernel_rfl) (by kernel_rfl)
      (by rw [MakeChecks.laidMetH_plain _ _ _ (by kernel_rfl)]; exact laidMet_laidAll _ (by kernel_rfl) (by kernel_rfl))) ?_
  intro W base args ds gs before hval0 hW hcnd _ hL _
  rw [MakeChecks.laidMetH_plain _ _ _ (by kernel_rfl)] at hL
  have hval : ∀ (j : Nat) t v, Tryd.f5.params[j]? = some t → args[j]? = some v → Value.okWide Tryd.prog W .any base t v := hval0
  have hW' := hW
  obtain ⟨p, q, hA0, hV, rfl, hfz, hnd⟩ := hW
  have hA : DataW.TrodAll enc Tryd.prog W 0 (fun _ => true) true Tryd.f5.params.toList args.toList ds p := hA0
  rw [Tryd.params5] at hA hval
  obtain ⟨v0, vs0, d0, ds0, p0, q0, hargs, rfl, rfl, h0, r0⟩ := trodAll_cons hA
  obtain ⟨v1, vs1, d1, ds1, p1, q1, rfl, rfl, rfl, h1, r1⟩ := trodAll_cons r0
  obtain ⟨rfl, rfl, rfl⟩ := trodAll_nil r1
  obtain rfl : args = #[v0, v1] := by cases args; simp_all
  obtain ⟨rfl, rfl⟩ := trodVars_none hV
  have k0 := h0
  have lt0 : ∀ x ∈ p0, x.block < W.heap.size := by obtain ⟨m, hm⟩ := k0; exact DataW.trod_lt m _ _ _ hm
  have k1 := h1
  have lt1 : ∀ x ∈ p1, x.block < W.heap.size := by obtain ⟨m, hm⟩ := k1; exact DataW.trod_lt m _ _ _ hm
  obtain ⟨s0, rfl, _, _, hs0⟩ := open_string Tryd.underlying9 (hval 0 9 v0 rfl rfl) h0
  obtain ⟨A1, N1, c1, L1, rfl, hr1, hn1, hm1, hx1, _⟩ := open_pages (hval 1 22 v1 rfl rfl) h1
  clear hA0 hval0
  refine (walk s0 A1 N1 c1 L1 W hs0 hr1 hn1 hm1 hx1 (tab_of hL)).mono fun e W' ⟨he, bel⟩ => ?_
  subst he
  exact ⟨_, rfl, _, _, _, [], _, [], hW', trodAll_mk1 (shut_bool Tryd.underlying4 _), (trodAll_cons_mk (Below.trod laidOut (by kernel_rfl) (of_decide_eq_true (by kernel_rfl)) k0 bel lt0) (trodAll_cons_mk (Below.trod laidOut (by kernel_rfl) (of_decide_eq_true (by kernel_rfl)) k1 bel lt1) trodAll_mk0)), rfl, bel.frame _, fun h => by cases h⟩

theorem closed : joinedFacts Tryd.pinned.checked.prog 5 Tryd.f5 Rows.fnExactLocatorTextSpec Rows.fnExactLocatorTextRow = true := by kernel_rfl
theorem over : Rows.fnExactLocatorTextRow.holds Tryd.pinned (OpenSpec.ofChange Rows.fnExactLocatorTextSpec) :=
  OpenClaim.holds_of_wide 5 Tryd.f5 rfl rfl rfl rfl rfl rfl rfl ⟨rfl, rfl, rfl, rfl, rfl⟩ rfl rfl rfl rfl rfl (by kernel_rfl) Tryd.func5 closed
    (of_decide_eq_true (by kernel_rfl)) (by unfold Func.isWrapper; first | (rw [if_pos (by decide +kernel)]; kernel_rfl) | (rw [if_neg (by decide +kernel)]; exact ⟨rfl, rfl⟩))
    (fun os started H enc _ => lifted os started H enc)

theorem plain (f : FuncId) (fn : Func) (hf : Tryd.pinned.checked.prog.funcNamed "loop.example/g00896/laws.FnExactLocatorText" = some f) (hfn : Tryd.pinned.checked.prog.funcs[f]? = some fn) :
    false = Tryd.pinned.checked.prog.looks [] ∧ ∀ (j : Nat) t, fn.params[j]? = some t → Tryd.pinned.checked.prog.wantsStandIn t = false := by
  obtain rfl : f = 5 := Option.some.inj ((show Tryd.prog.funcNamed "loop.example/g00896/laws.FnExactLocatorText" = some 5 by kernel_rfl).symm.trans hf) |>.symm
  obtain rfl : fn = Tryd.f5 := (Option.some.inj (Tryd.func5.symm.trans hfn)).symm
  refine ⟨by kernel_rfl, fun j t ht => ?_⟩
  rw [Tryd.params5] at ht
  have hm : t = 22 ∨ t = 9 := by have h9 := Array.mem_of_getElem? ht; simp at h9; first | omega | (rcases h9 with h9 | h9 <;> first | exact .inl h9 | exact .inr h9)
  rcases hm with rfl | rfl
  · exact (show Tryd.prog.wantsStandIn 22 = false by kernel_rfl)
  · exact (show Tryd.prog.wantsStandIn 9 = false by kernel_rfl)

theorem card : Rows.FnExactLocatorTextCardSaid :=
  Claim7.holds_tied_plain_at .later [] _ _ _ _ over (fun _ h => by cases h) (by kernel_rfl) (fun _ h => by cases h) fnExactLocatorText_row_tie rfl ⟨rfl, rfl⟩ (by kernel_rfl) rfl plain (by kernel_rfl)
#print axioms card
end Go.Proofs.YtjaebblkedlpnaaDoor.fnExactLocatorText
