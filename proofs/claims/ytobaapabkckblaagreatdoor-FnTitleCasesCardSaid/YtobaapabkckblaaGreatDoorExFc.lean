/-
  Proved: for every code of bytes the law FnTitleCases returns true; the argument reads as before. The library's tables and its error lie as the program's text and the pinned constants lay them (the card ties them). No further condition.
-/
import Derived.Test.YtobaapabkckblaaGreatDoorRows
import Derived.Test.YtobaapabkckblaaGreatDoorFcPl
import Derived.Test.YtobaapabkckblaaGreatDoorDw2
import Derived.Test.YtobaapabkckblaaGreatDoorSc
import Derived.Test.YtobaapabkckblaaGreatDoorOpenB
import Derived.Test.YtobaapabkckblaaGreatDoorAndSh
import Derived.WalkKit
import Derived.ProofKit
import Derived.OpenShut
import Derived.ShutString
import Derived.ChangeOld
import Derived.Below
import Derived.Lib.SmallJoins
import Derived.Test.YtobaapabkckblaaGreatDoorCards
import Derived.Test.YtobaapabkckblaaGreatDoorTie
import Derived.LaidMore
import Derived.Lay
import Derived.SevenTiedAt
import Derived.Stop.Joined
namespace Go.Proofs.YtobaapabkckblaaGreatDoor.fnTitleCases
open Go.ChangeShapes Go.WideShapes Go.ChangeAt Go.RowKit
open Go.ChangeMaps (open_string shut_string)
open Pl SplitPl Ti TiPl Cc Sc Cur Draw0 Dw OpenB Jo
set_option linter.unusedVariables false
set_option linter.unusedSimpArgs false


theorem ml_of {w : World} (h : w.ShapedOpen Tryz.prog) : ML w := Tryz.laysM144.s1_3 w h
theorem ba_list (l : List UInt8) : (ba l).data.toList = l := toList_ba l
theorem case_val (F : List (List UInt8) → Nat → List UInt8 → List UInt8) (s : ByteArray) (h : okT s.data.toList = true) : caseV F s = .tuple #[.string (ba (inCase F s.data.toList)), .bool true] := by
  unfold caseV; rw [if_pos h]; rfl
theorem case_none (F : List (List UInt8) → Nat → List UInt8 → List UInt8) (s : ByteArray) (h : okT s.data.toList = false) : caseV F s = .tuple #[.string ⟨#[]⟩, .bool false] := by
  unfold caseV; rw [if_neg (by rw [h]; decide)]
theorem facts (s : ByteArray) (h : okT s.data.toList = true) : ∃ a b : ByteArray, a.size = s.size ∧ b.size = s.size ∧ caseV tcF s = .tuple #[.string a, .bool true] ∧ caseV scF s = .tuple #[.string b, .bool true] ∧ caseV tcF a = .tuple #[.string a, .bool true] ∧ caseV scF b = .tuple #[.string b, .bool true] ∧ caseV scF a = .tuple #[.string b, .bool true] := by
  have ha : okT (ba (inCase tcF s.data.toList)).data.toList = true := by rw [ba_list, case_ok tcF_low]; exact h
  have hb : okT (ba (inCase scF s.data.toList)).data.toList = true := by rw [ba_list, case_ok scF_low]; exact h
  refine ⟨ba (inCase tcF s.data.toList), ba (inCase scF s.data.toList), by rw [ba_size, case_len tcF_low, len_size], by rw [ba_size, case_len scF_low, len_size], case_val tcF s h, case_val scF s h, ?_, ?_, ?_⟩
  · rw [case_val tcF _ ha, ba_list, title_title]
  · rw [case_val scF _ hb, ba_list, sent_sent]
  · rw [case_val scF _ ha, ba_list, sent_title]

set_option maxRecDepth 100000 in
set_option maxHeartbeats 4000000 in
theorem walk (A : Option Addr) (n c : Nat) (w : World) (hr : RdB w A n) (ha : Apart A n w.heap.size) (hsh : w.ShapedOpen Tryz.prog) :
    Calls Tryz.prog 3 #[.slice A n c] w fun e w' => e = .returned (.bool true) ∧ Below w.heap.size w w' := by
  have HR := Lib.hid hr
  have HA := Lib.hid ha
  have HM := Lib.hid (ml_of hsh)
  clear hr ha hsh
  by_cases hbig : 65536 < n
  · go_enter Tryz.func3, Tryz.ntmps3
    go_wp2_with fail
    refine (rBig_any A n c _ true (by simp; omega)).mono ?_
    rintro e w' ⟨rfl, rfl⟩
    go_wp2_with fail
    go_ret
    exact ⟨rfl, Below.refl _ _⟩
  · go_enter Tryz.func3, Tryz.ntmps3
    go_wp2_with fail
    refine (rBig_any A n c _ false (by simp; omega)).mono ?_
    rintro e w' ⟨rfl, rfl⟩
    go_wp2_with fail
    refine (drawTitle_any A n c _ (by omega) HR.out HA.out).mono ?_
    rintro e w1 ⟨s, hs, rfl, b1⟩
    have k1 := b1
    have HM1 := Lib.hid (HM.out.below k1)
    clear b1
    cases hok : okT s.data.toList with
    | false =>
      have HT := Lib.hid (fun w (hm : ML w) => titleCase_i s w hm (by omega))
      have HS := Lib.hid (fun w (hm : ML w) => sentenceCase_i s w hm (by omega))
      have HTs := Lib.hid (fun w => titleCase_s s w (by omega))
      have HSs := Lib.hid (fun w => sentenceCase_s s w (by omega))
      have HI := Lib.hid (fun w (hm : ML w) => isValidT s false w hm (by omega) hok)
      rw [case_none tcF s hok] at HT HTs
      rw [case_none scF s hok] at HS HSs
      clear hok
      go_wp2_with fail
      refine (HT.out _ HM1.out).mono ?_
      rintro e w2 ⟨rfl, b2⟩
      have k2 := k1.trans (b2.mono k1.size)
      have HM2 := Lib.hid (HM.out.below k2)
      clear b2
      go_wp2_with fail
      refine (HS.out _ HM2.out).mono ?_
      rintro e w3 ⟨rfl, b3⟩
      have k3 := k2.trans (b3.mono k2.size)
      have HM3 := Lib.hid (HM.out.below k3)
      clear b3
      go_wp2_with fail
      refine (HTs.out _).mono ?_
      rintro e w4 ⟨rfl, b4⟩
      have k4 := k3.trans (b4.mono k3.size)
      have HM4 := Lib.hid (HM.out.below k4)
      clear b4
      go_wp2_with fail
      refine (HSs.out _).mono ?_
      rintro e w5 ⟨rfl, b5⟩
      have k5 := k4.trans (b5.mono k4.size)
      have HM5 := Lib.hid (HM.out.below k5)
      clear b5
      go_wp2_with fail
      refine (HI.out _ HM5.out).mono ?_
      rintro e w' ⟨rfl, rfl⟩
      go_wp2_with fail
      go_ret
      exact ⟨rfl, k5⟩
    | true =>
      obtain ⟨a, b, hza, hzb, v1, v2, v3, v4, v5⟩ := facts s hok
      have HT := Lib.hid (fun w (hm : ML w) => titleCase_i s w hm (by omega))
      have HS := Lib.hid (fun w (hm : ML w) => sentenceCase_i s w hm (by omega))
      have HTs := Lib.hid (fun w => titleCase_s s w (by omega))
      have HSs := Lib.hid (fun w => sentenceCase_s s w (by omega))
      have HI := Lib.hid (fun w (hm : ML w) => isValidT s true w hm (by omega) hok)
      have HTa := Lib.hid (fun w (hm : ML w) => titleCase_i a w hm (by omega))
      have HSb := Lib.hid (fun w (hm : ML w) => sentenceCase_i b w hm (by omega))
      have HSa := Lib.hid (fun w (hm : ML w) => sentenceCase_i a w hm (by omega))
      rw [v1] at HT HTs
      rw [v2] at HS HSs
      rw [v3] at HTa
      rw [v4] at HSb
      rw [v5] at HSa
      clear hok v1 v2 v3 v4 v5
      go_wp2_with fail
      refine (HT.out _ HM1.out).mono ?_
      rintro e w2 ⟨rfl, b2⟩
      have k2 := k1.trans (b2.mono k1.size)
      have HM2 := Lib.hid (HM.out.below k2)
      clear b2
      go_wp2_with fail
      refine (HS.out _ HM2.out).mono ?_
      rintro e w3 ⟨rfl, b3⟩
      have k3 := k2.trans (b3.mono k2.size)
      have HM3 := Lib.hid (HM.out.below k3)
      clear b3
      go_wp2_with fail
      refine (HTs.out _).mono ?_
      rintro e w4 ⟨rfl, b4⟩
      have k4 := k3.trans (b4.mono k3.size)
      have HM4 := Lib.hid (HM.out.below k4)
      clear b4
      go_wp2_with fail
      refine (HSs.out _).mono ?_
      rintro e w5 ⟨rfl, b5⟩
      have k5 := k4.trans (b5.mono k4.size)
      have HM5 := Lib.hid (HM.out.below k5)
      clear b5
      go_wp2_with fail
      refine (HI.out _ HM5.out).mono ?_
      rintro e w' ⟨rfl, rfl⟩
      go_wp2_with fail
      refine (HTa.out _ HM5.out).mono ?_
      rintro e w6 ⟨rfl, b6⟩
      have k6 := k5.trans (b6.mono k5.size)
      have HM6 := Lib.hid (HM.out.below k6)
      clear b6
      go_wp2_with fail
      refine (HSb.out _ HM6.out).mono ?_
      rintro e w7 ⟨rfl, b7⟩
      have k7 := k6.trans (b7.mono k6.size)
      have HM7 := Lib.hid (HM.out.below k7)
      clear b7
      go_wp2_with fail
      refine (HSa.out _ HM7.out).mono ?_
      rintro e w8 ⟨rfl, b8⟩
      have k8 := k7.trans (b8.mono k7.size)
      clear b8
      go_wp2_with fail
      go_ret
      exact ⟨rfl, k8⟩

set_option maxRecDepth 100000 in
theorem lifted (os : Os) (started : os.Started) (H : Type) (enc : TypeId × Value → H) :
    ReturnsInHanded {} Tryz.checked os 3 .any (fun w args => (Rows.fnTitleCasesSpec.pre enc Tryz.prog Tryz.f3 Rows.fnTitleCasesRow.domain false w args ∧ laidMetH Tryz.prog Rows.fnTitleCasesRow.laid w) ∧ sizedMet enc Tryz.prog Tryz.f3 (OpenSpec.ofChange Rows.fnTitleCasesSpec) false w args)
      (Rows.fnTitleCasesSpec.post enc Tryz.prog Tryz.f3 false true false false) := by
  refine change_and_shaped (C := Tryz.checked) (X := fun w _ => laidMetH Tryz.prog Rows.fnTitleCasesRow.laid w) (fun _ _ _ hh h => h.of_heap hh) own started (by kernel_rfl) Tryz.func3
    (ChangeSpec.witness_shaped (enc := enc) (C := Tryz.checked) (os := os) (X := fun w _ => laidMetH Tryz.prog Rows.fnTitleCasesRow.laid w) false (World.laidAll Tryz.prog os Rows.fnTitleCasesRow.laid) #[.slice none 0 0] 8 (World.laidAll_os _ _ _)
      (World.shaped_of_ZipB (by kernel_rfl) (by kernel_rfl)) (by kernel_rfl) (by kernel_rfl) (by kernel_rfl)
      (by rw [MakeChecks.laidMetH_plain _ _ _ (by kernel_rfl)]; exact laidMet_laidAll _ (by kernel_rfl) (by kernel_rfl))) ?_
  intro W base args ds gs before hval0 hW hL hsh
  have hval : ∀ (j : Nat) t v, Tryz.f3.params[j]? = some t → args[j]? = some v → Value.okWide Tryz.prog W .any base t v := hval0
  have hW' := hW
  obtain ⟨p, q, hA0, hV, rfl, hfz, hnd⟩ := hW
  have hA : DataW.TrodAll enc Tryz.prog W 0 (fun _ => true) true Tryz.f3.params.toList args.toList ds p := hA0
  rw [Tryz.params3] at hA hval
  obtain ⟨v0, vs0, d0, ds0, p0, q0, hargs, rfl, rfl, h0, r0⟩ := trodAll_cons hA
  obtain ⟨rfl, rfl, rfl⟩ := trodAll_nil r0
  obtain rfl : args = #[v0] := by cases args; simp_all
  obtain ⟨rfl, rfl⟩ := trodVars_none hV
  have k0 := h0
  have lt0 : ∀ x ∈ p0, x.block < W.heap.size := by obtain ⟨m, hm⟩ := k0; exact DataW.trod_lt m _ _ _ hm
  obtain ⟨A0, n0, c0, rfl, rd0, ap0⟩ := open_bytes (hval 0 22 v0 rfl rfl) h0
  clear hA0 hval0
  refine (walk A0 n0 c0 W rd0 ap0 hsh).mono fun e W' ⟨he, bel⟩ => ?_
  subst he
  exact ⟨_, rfl, _, _, _, [], _, [], hW', trodAll_mk1 (shut_bool Tryz.underlying4 _), (trodAll_cons_mk (Below.trod laidOut (by kernel_rfl) (of_decide_eq_true (by kernel_rfl)) k0 bel lt0) trodAll_mk0), rfl, bel.frame _, fun h => by cases h⟩

theorem over : Rows.fnTitleCasesRow.holds Tryz.pinned (OpenSpec.ofChange Rows.fnTitleCasesSpec) :=
  OpenClaim.holds_of_wide 3 Tryz.f3 rfl rfl rfl rfl rfl rfl rfl ⟨rfl, rfl, rfl, rfl, rfl⟩ rfl rfl rfl rfl rfl (by kernel_rfl) Tryz.func3 (by kernel_rfl)
    (of_decide_eq_true (by kernel_rfl)) (by unfold Func.isWrapper; first | (rw [if_pos (by decide +kernel)]; kernel_rfl) | (rw [if_neg (by decide +kernel)]; exact ⟨rfl, rfl⟩))
    (fun os started H enc _ => lifted os started H enc)

theorem plain (f : FuncId) (fn : Func) (hf : Tryz.pinned.checked.prog.funcNamed "loop.example/g00896/laws.FnTitleCases" = some f) (hfn : Tryz.pinned.checked.prog.funcs[f]? = some fn) :
    false = Tryz.pinned.checked.prog.looks [] ∧ ∀ (j : Nat) t, fn.params[j]? = some t → Tryz.pinned.checked.prog.wantsStandIn t = false := by
  obtain rfl : f = 3 := Option.some.inj ((show Tryz.prog.funcNamed "loop.example/g00896/laws.FnTitleCases" = some 3 by kernel_rfl).symm.trans hf) |>.symm
  obtain rfl : fn = Tryz.f3 := (Option.some.inj (Tryz.func3.symm.trans hfn)).symm
  refine ⟨by kernel_rfl, fun j t ht => ?_⟩
  rw [Tryz.params3] at ht
  obtain rfl : t = 22 := by simpa using Array.mem_of_getElem? ht
  exact (show Tryz.prog.wantsStandIn 22 = false by kernel_rfl)

theorem card : Rows.FnTitleCasesCardSaid :=
  Claim7.holds_tied_plain_at .later [] _ _ _ _ over (fun _ h => by cases h) (by kernel_rfl) (fun _ h => by cases h) fnTitleCases_row_tie rfl ⟨rfl, rfl⟩ (by kernel_rfl) rfl plain (by kernel_rfl)
#print axioms card
end Go.Proofs.YtobaapabkckblaaGreatDoor.fnTitleCases
