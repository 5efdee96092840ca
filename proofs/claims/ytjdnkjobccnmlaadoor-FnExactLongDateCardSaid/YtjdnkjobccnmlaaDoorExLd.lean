/-
  Proved: for every date the law FnExactLongDate returns true: LongDate answers as its model; the argument reads as before. The library's tables and the names of the months lie as the text and the pinned constants lay them (the card ties them). No further condition.
-/
import Derived.Test.YtjdnkjobccnmlaaDoorRows
import Derived.Test.YtjdnkjobccnmlaaDoorLdi
import Derived.Test.YtjdnkjobccnmlaaDoorOpenD
import Derived.Test.YtjdnkjobccnmlaaDoorLaid
import Derived.WalkKit
import Derived.ProofKit
import Derived.OpenShut
import Derived.ShutString
import Derived.ChangeOld
import Derived.Below
import Derived.OpenVars
import Derived.ChangeVars
import Derived.Lib.SmallJoins
import Derived.Test.YtjdnkjobccnmlaaDoorCards
import Derived.Test.YtjdnkjobccnmlaaDoorTie
import Derived.LaidMore
import Derived.Lay
import Derived.SevenTiedAt
import Derived.Stop.Joined
namespace Go.Proofs.YtjdnkjobccnmlaaDoor.fnExactLongDate
open Go.ChangeShapes Go.WideShapes Go.ChangeAt Go.RowKit
open Go.ChangeMaps (open_string shut_string)
open DtPl Dt OpenD Ld Ldi LdPl LaidS Num Pl
set_option linter.unusedVariables false
set_option linter.unusedSimpArgs false

theorem gMon : Tryd.prog.globalNamed "loop.example/g00896/impl.monthNames" = some 1 := by kernel_rfl
theorem gMonT : (Tryd.prog.globals[1]?).map (·.type) = some 126 := by kernel_rfl
set_option maxHeartbeats 1000000 in
theorem walk (y m d : Int) (c : Bool) (w : World) (ht : Tab w) (hmn : StrTab 1 (mons.drop 1) w) :
    Calls Tryd.prog 4 #[dtV y m d c] w fun e w' => e = .returned (.bool true) ∧ Below w.heap.size w w' := by
  have HB := Lib.hid (box_below w (.cells #[.int .i64 y, .int .i64 m, .int .i64 d, .bool c] 28))
  have HD := Lib.hid (D4.new w y m d c 28)
  have HT := Lib.hid ht
  have HMn := Lib.hid hmn
  clear ht hmn
  generalize hr : okB y m d c = r
  generalize hs : (if r = true then ba (ltext y.toNat m.toNat d.toNat c) else ⟨#[]⟩) = s
  have HR := Lib.hid hr
  have HS := Lib.hid hs
  clear hr hs
  go_enter Tryd.func4, Tryd.ntmps4
  go_wp2_with fail
  refine (toDate y m d c _).mono ?_
  rintro e w1 ⟨rfl, b1⟩
  have k1 := HB.out.trans (b1.mono HB.out.size)
  have D1 := Lib.hid (HD.out.below b1)
  clear b1 HD
  go_wp2_with fail
  refine (specLong y m d c r s _ HR.out HS.out).mono ?_
  rintro e w2 ⟨rfl, b2⟩
  have k2 := k1.trans (b2.mono k1.size)
  have D2 := Lib.hid (D1.out.below b2)
  clear b2 D1 k1
  obtain ⟨hlt, hc0, hc1, hc2, hc3⟩ := D2.out
  go_wp2_with fail
  refine (toDate y m d c _).mono ?_
  rintro e w3 ⟨rfl, b3⟩
  have k3 := k2.trans (b3.mono k2.size)
  have HT3 := Lib.hid (HT.out.below k3)
  clear b3 hlt hc0 hc1 hc2 hc3 D2 k2
  go_wp2_with fail
  refine (implLong y m d c r s _ HR.out HS.out HT3.out (HMn.out.below k3)).mono ?_
  rintro e w4 ⟨rfl, b4⟩
  have k4 := k3.trans (b4.mono k3.size)
  clear b4 k3
  go_wp2_with fail
  go_ret
  exact ⟨rfl, k4⟩

set_option maxRecDepth 100000 in
theorem lifted (os : Os) (started : os.Started) (H : Type) (enc : TypeId × Value → H) :
    ReturnsInHanded {} Tryd.checked os 4 .any (fun w args => (Rows.fnExactLongDateSpec.pre enc Tryd.prog Tryd.f4 Rows.fnExactLongDateRow.domain false w args ∧ laidMetH Tryd.prog Rows.fnExactLongDateRow.laid w) ∧ sizedMet enc Tryd.prog Tryd.f4 (OpenSpec.ofChange Rows.fnExactLongDateSpec) false w args)
      (Rows.fnExactLongDateSpec.post enc Tryd.prog Tryd.f4 false true false false) := by
  refine returnsInHanded_of_change_and (C := Tryd.checked) (X := fun w _ => laidMetH Tryd.prog Rows.fnExactLongDateRow.laid w) (fun _ _ _ hh h => h.of_heap hh) own started (by kernel_rfl) Tryd.func4
    (ChangeSpec.witness_shaped (enc := enc) (C := Tryd.checked) (os := os) (X := fun w _ => laidMetH Tryd.prog Rows.fnExactLongDateRow.laid w) false (World.laidAll Tryd.prog os Rows.fnExactLongDateRow.laid) #[.agg #[.int .i64 0, .int .i64 0, .int .i64 0, .bool false]] 8 (World.laidAll_os _ _ _)
      (World.shaped_of_ZipB (by kernel_rfl) (by kernel_rfl)) (by kernel_rfl) (by kernel_rfl) (by kernel_rfl)
      (by rw [MakeChecks.laidMetH_plain _ _ _ (by kernel_rfl)]; exact laidMet_laidAll _ (by kernel_rfl) (by kernel_rfl))) ?_
  intro W base args ds gs before hval0 hW hcnd _ hL _
  rw [MakeChecks.laidMetH_plain _ _ _ (by kernel_rfl)] at hL
  have hval : ∀ (j : Nat) t v, Tryd.f4.params[j]? = some t → args[j]? = some v → Value.okWide Tryd.prog W .any base t v := hval0
  have hW' := hW
  obtain ⟨p, q, hA0, hV, rfl, hfz, hnd⟩ := hW
  have hA : DataW.TrodAll enc Tryd.prog W 0 (fun _ => true) true Tryd.f4.params.toList args.toList ds p := hA0
  rw [Tryd.params4] at hA hval
  obtain ⟨v0, vs0, d0, ds0, p0, q0, hargs, rfl, rfl, h0, r0⟩ := trodAll_cons hA
  obtain ⟨rfl, rfl, rfl⟩ := trodAll_nil r0
  obtain rfl : args = #[v0] := by cases args; simp_all
  obtain ⟨_, _, _, _, _, _, rfl, _⟩ := trodVars_one hV
  have k0 := h0
  have lt0 : ∀ x ∈ p0, x.block < W.heap.size := by obtain ⟨m, hm⟩ := k0; exact DataW.trod_lt m _ _ _ hm
  obtain ⟨ya0, ma0, da0, ca0, rfl⟩ := open_date (hval 0 28 v0 rfl rfl) h0
  clear hA0 hval0
  refine (walk ya0 ma0 da0 ca0 W  (Laid.tab_of (r := [("loop.example/g00896/impl.monthNames", Rows.laid_loop_example_g00896_impl_monthNames)]) hL) (strTab_of_head gMon gMonT Tryd.underlying126 Tryd.underlying9 (by kernel_rfl) (by decide) hL.tail.tail.tail)).mono fun e W' ⟨he, bel⟩ => ?_
  subst he
  exact ⟨_, rfl, _, _, _, [], _, q, hW', trodAll_mk1 (shut_bool Tryd.underlying4 _), (trodAll_cons_mk (Below.trod laidOut (by kernel_rfl) (of_decide_eq_true (by kernel_rfl)) k0 bel lt0) trodAll_mk0), bel.trodVars laidOut (by kernel_rfl) hV, bel.frame _, fun h => by cases h⟩

theorem over : Rows.fnExactLongDateRow.holds Tryd.pinned (OpenSpec.ofChange Rows.fnExactLongDateSpec) :=
  OpenClaim.holds_of_wide 4 Tryd.f4 rfl rfl rfl rfl rfl rfl rfl ⟨rfl, rfl, rfl, rfl, rfl⟩ rfl rfl rfl rfl rfl (by kernel_rfl) Tryd.func4 (by kernel_rfl)
    (of_decide_eq_true (by kernel_rfl)) (by unfold Func.isWrapper; first | (rw [if_pos (by decide +kernel)]; kernel_rfl) | (rw [if_neg (by decide +kernel)]; exact ⟨rfl, rfl⟩))
    (fun os started H enc _ => lifted os started H enc)

theorem plain (f : FuncId) (fn : Func) (hf : Tryd.pinned.checked.prog.funcNamed "loop.example/g00896/laws.FnExactLongDate" = some f) (hfn : Tryd.pinned.checked.prog.funcs[f]? = some fn) :
    true = Tryd.pinned.checked.prog.looks [] ∧ ∀ (j : Nat) t, fn.params[j]? = some t → Tryd.pinned.checked.prog.wantsStandIn t = false := by
  obtain rfl : f = 4 := Option.some.inj ((show Tryd.prog.funcNamed "loop.example/g00896/laws.FnExactLongDate" = some 4 by kernel_rfl).symm.trans hf) |>.symm
  obtain rfl : fn = Tryd.f4 := (Option.some.inj (Tryd.func4.symm.trans hfn)).symm
  refine ⟨by kernel_rfl, fun j t ht => ?_⟩
  rw [Tryd.params4] at ht
  obtain rfl : t = 28 := by simpa using Array.mem_of_getElem? ht
  exact (show Tryd.prog.wantsStandIn 28 = false by kernel_rfl)

theorem card : Rows.FnExactLongDateCardSaid :=
  Claim7.holds_tied_plain_at .later [] _ _ _ _ over (fun _ h => by cases h) (by kernel_rfl) (fun _ h => by cases h) fnExactLongDate_row_tie rfl ⟨rfl, rfl⟩ (by kernel_rfl) rfl plain (by kernel_rfl)
#print axioms card
end Go.Proofs.YtjdnkjobccnmlaaDoor.fnExactLongDate
