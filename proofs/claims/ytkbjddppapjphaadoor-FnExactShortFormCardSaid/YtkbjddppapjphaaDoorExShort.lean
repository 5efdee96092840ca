/-
  Proved: for every name the law FnExactShortForm returns true: ShortForm answers as its model and writes into no argument; the argument reads as before. The library's tables that its row lists lie as the text and the pinned constants lay them (the card ties them; the call reads none of them). No further condition.
-/
import Derived.Test.YtkbjddppapjphaaDoorRows
import Derived.Test.YtkbjddppapjphaaDoorShort
import Derived.Test.YtkbjddppapjphaaDoorOpenN
import Derived.WalkKit
import Derived.ProofKit
import Derived.OpenShut
import Derived.ShutString
import Derived.SliceStrings
import Derived.ChangeOld
import Derived.Below
import Derived.Lib.SmallJoins
import Derived.Test.YtkbjddppapjphaaDoorCards
import Derived.Test.YtkbjddppapjphaaDoorTie
import Derived.LaidMore
import Derived.Lay
import Derived.SevenTiedAt
import Derived.Stop.Joined
import Derived.Deep.RegionHeld3
namespace Go.Proofs.YtkbjddppapjphaaDoor.fnExactShortForm
open Go.ChangeShapes Go.WideShapes Go.ChangeAt Go.RowKit
open Go.ChangeMaps (open_string shut_string)
open Strs Help Name NGood OpenN Forms Ini
set_option linter.unusedVariables false

set_option maxHeartbeats 2000000 in
theorem walk (A : Option Addr) (n c : Nat) (xs : List ByteArray) (p f s : ByteArray) (w : World) (hr : Rdn w A n xs) (hm : n ≤ maxLen) (hx : ∀ x ∈ xs, x.size ≤ maxLen) (hp : p.size ≤ maxLen) (hf : f.size ≤ maxLen) (hs : s.size ≤ maxLen) :
    Calls Tryd.prog 8 #[nmV (.slice A n c) p f s] w fun e w' => e = .returned (.bool true) ∧ Below w.heap.size w w' := by
  have HB0 := Lib.hid ((Below.refl _ w).alloc (Nat.le_refl _) (.cells #[.slice A n c, .string p, .string f, .string s] 53))
  have HR0 := Lib.hid (hr.below HB0.out)
  have HN := Lib.hid hr.2.2
  have HSz := Lib.hid (szName_any A c n xs p f s 1048576 _ HR0.out.1 (fun hp => HR0.out.2.1 (by rw [← HN.out]; exact hp)) hr.2.2 hm hx hp hf hs (Nat.le_refl _))
  have HC0 := Lib.hid (C4.new w (.slice A n c) p f s 53)
  clear hr hx
  have HE := Lib.hid (show szN 1048576 xs p f s = if xs.length + lens xs + p.size + f.size + s.size ≤ 1048576 then (1048576 : Int) - xs.length - lens xs - p.size - f.size - s.size else -1 from rfl)
  by_cases hfit : xs.length + lens xs + p.size + f.size + s.size ≤ 1048576
  · rw [HE.out, if_pos hfit] at HSz
    rw [HN.out] at hfit HSz
    have hle : n ≤ 1048576 := by omega
    have hpl : p.size ≤ 1048576 := by omega
    have hfl : f.size ≤ 1048576 := by omega
    have hsl : s.size ≤ 1048576 := by omega
    have HXl : Hid (∀ x ∈ xs, x.size ≤ 1048576) := Lib.hid (fun x hx => by have := mem_lens hx; omega)
    clear HE
    obtain ⟨tv, rv, hv⟩ := txV_form (shortL xs p f s) (okN xs p f s)
    have HV := Lib.hid hv
    clear hv
    go_enter Tryd.func8, Tryd.ntmps8
    go_wp2_with fail
    refine HSz.out.mono ?_
    rintro e w1 ⟨rfl, b1⟩
    have k1 := HB0.out.trans (b1.mono HB0.out.size)
    have HR1 := Lib.hid (HR0.out.below b1)
    have HC1 := Lib.hid (HC0.out.below b1)
    obtain ⟨hlb, ha0, ha1, ha2, ha3⟩ := HC1.out
    clear b1 HSz HR0 HC0
    go_wp2_with fail
    refine (toName_any A c n xs p f s _ HR1.out.1 HR1.out.2.1 HN.out hle).mono ?_
    rintro e w2 ⟨A2, c2, rfl, o2, b2⟩
    have HR2 := Lib.hid (Rdn.own o2)
    clear o2
    go_wp2_with fail
    refine (specShortForm A2 c2 n xs p f s _ HR2.out hfit).mono ?_
    rintro e w3 ⟨rfl, b3⟩
    rw [HV.out]
    have k13 := b2.trans (b3.mono b2.size)
    have k3 := k1.trans (k13.mono k1.size)
    have HR3 := Lib.hid (HR1.out.below k13)
    have HC3 := Lib.hid (HC1.out.below k13)
    clear hlb ha0 ha1 ha2 ha3 b2 b3 k1 HR1 HC1 HR2
    obtain ⟨hlb, ha0, ha1, ha2, ha3⟩ := HC3.out
    clear k13
    go_wp2_with fail
    refine (toName_any A c n xs p f s _ HR3.out.1 HR3.out.2.1 HN.out hle).mono ?_
    rintro e w4 ⟨A4, c4, rfl, o4, b4⟩
    have b5 := (Below.refl _ w4).alloc (Nat.le_refl _) (.cells #[.slice A4 n c4, .string p, .string f, .string s] 34)
    have b45 := b4.trans (b5.mono b4.size)
    have HR5 := Lib.hid ((Rdn.own o4).below b5)
    have HC5 := Lib.hid (HC3.out.below b45)
    have HRa := Lib.hid (HR3.out.below b45)
    have HX5 := Lib.hid (C4.new w4 (.slice A4 n c4) p f s 34)
    have k5 := k3.trans (b45.mono k3.size)
    clear hlb ha0 ha1 ha2 ha3 b4 b5 b45 k3 HR3 HC3 o4
    go_wp2_with fail
    refine (implShortForm A4 c4 n xs p f s _ HR5.out hfit).mono ?_
    rintro e w6 ⟨rfl, b6⟩
    rw [HV.out]
    have k6 := k5.trans (b6.mono k5.size)
    have HR6 := Lib.hid (HR5.out.below b6)
    have HC6 := Lib.hid (HC5.out.below b6)
    have HRa6 := Lib.hid (HRa.out.below b6)
    have HX6 := Lib.hid (HX5.out.below b6)
    clear k5 HR5 HC5 HRa HX5 b6
    generalize w4.heap.size = bx at *
    have HS : Hid (∀ w', Kept w6 w' → ((w'.cell? ⟨bx, 0, none⟩ = some (.slice A4 n c4) ∧ w'.cell? ⟨bx, 1, none⟩ = some (.string p) ∧ w'.cell? ⟨bx, 2, none⟩ = some (.string f) ∧ w'.cell? ⟨bx, 3, none⟩ = some (.string s)) ∧ (w'.cell? ⟨w.heap.size, 0, none⟩ = some (.slice A n c) ∧ w'.cell? ⟨w.heap.size, 1, none⟩ = some (.string p) ∧ w'.cell? ⟨w.heap.size, 2, none⟩ = some (.string f) ∧ w'.cell? ⟨w.heap.size, 3, none⟩ = some (.string s)) ∧ Kept w6 w')) := Lib.hid (fun w' h => ⟨(HX6.out.below h).2, (HC6.out.below h).2, h⟩)
    have HK0 := Lib.hid (Kept.drew w6)
    go_wp2_with fail
    go_region_held3 (fun w' => (w'.cell? ⟨bx, 0, none⟩ = some (.slice A4 n c4) ∧ w'.cell? ⟨bx, 1, none⟩ = some (.string p) ∧ w'.cell? ⟨bx, 2, none⟩ = some (.string f) ∧ w'.cell? ⟨bx, 3, none⟩ = some (.string s)) ∧ (w'.cell? ⟨w.heap.size, 0, none⟩ = some (.slice A n c) ∧ w'.cell? ⟨w.heap.size, 1, none⟩ = some (.string p) ∧ w'.cell? ⟨w.heap.size, 2, none⟩ = some (.string f) ∧ w'.cell? ⟨w.heap.size, 3, none⟩ = some (.string s)) ∧ Kept w6 w')
      (first | exact HS.out _ HK0.out | exact HS.out _ (by assumption))
      (first
        | (go_at_call 45; refine (toName_any A c n xs p f s _ (HRa6.out.below HK0.out).1 (HRa6.out.below HK0.out).2.1 HN.out hle).mono ?_; rintro e w7 ⟨A7, c7, rfl, o7, b7⟩; have hk7 : Kept w6 w7 := Kept.next HK0.out b7; have HR7 := Lib.hid (Rdn.own o7); clear o7)
        | (go_at_call 47; refine (eqName_same A4 A7 c4 c7 n xs p f s _ (HR6.out.below hk7).1 (HR6.out.below hk7).2.1 HR7.out.1 HR7.out.2.1 HN.out (by omega)).mono ?_; rintro e w8 ⟨rfl, b8⟩; have hk8 : Kept w6 w8 := Kept.next hk7 b8))
    go_wp2_with fail
    go_ret
    exact ⟨rfl, k6.trans (Below.mono hk8 k6.size)⟩
  · rw [HE.out, if_neg hfit] at HSz
    go_enter Tryd.func8, Tryd.ntmps8
    go_wp2_with fail
    refine HSz.out.mono ?_
    rintro e w1 ⟨rfl, b1⟩
    go_wp2_with fail
    go_ret
    exact ⟨rfl, HB0.out.trans (b1.mono HB0.out.size)⟩

set_option maxRecDepth 100000 in
theorem lifted (os : Os) (started : os.Started) (H : Type) (enc : TypeId × Value → H) :
    ReturnsInHanded {} Tryd.checked os 8 .any (fun w args => (Rows.fnExactShortFormSpec.pre enc Tryd.prog Tryd.f8 Rows.fnExactShortFormRow.domain false w args ∧ laidMetH Tryd.prog Rows.fnExactShortFormRow.laid w) ∧ sizedMet enc Tryd.prog Tryd.f8 (OpenSpec.ofChange Rows.fnExactShortFormSpec) false w args)
      (Rows.fnExactShortFormSpec.post enc Tryd.prog Tryd.f8 false true false false) := by
  refine returnsInHanded_of_change_and (C := Tryd.checked) (X := fun w _ => laidMetH Tryd.prog Rows.fnExactShortFormRow.laid w) (fun _ _ _ hh h => h.of_heap hh) own started (by kernel_rfl) Tryd.func8
    (ChangeSpec.witness_shaped (enc := enc) (C := Tryd.checked) (os := os) (X := fun w _ => laidMetH Tryd.prog Rows.fnExactShortFormRow.laid w) false (World.laidAll Tryd.prog os Rows.fnExactShortFormRow.laid) #[.agg #[.slice none 0 0, .string ByteArray.empty, .string ByteArray.empty, .string ByteArray.empty]] 8 (World.laidAll_os _ _ _)
      (World.shaped_of_ZipB (by kernel_rfl) (by kernel_rfl)) (by kernel_rfl) (by kernel_rfl) (by kernel_rfl)
      (by rw [MakeChecks.laidMetH_plain _ _ _ (by kernel_rfl)]; exact laidMet_laidAll _ (by kernel_rfl) (by kernel_rfl))) ?_
  intro W base args ds gs before hval0 hW hcnd _ hL _
  have hval : ∀ (j : Nat) t v, Tryd.f8.params[j]? = some t → args[j]? = some v → Value.okWide Tryd.prog W .any base t v := hval0
  have hW' := hW
  obtain ⟨p, q, hA0, hV, rfl, hfz, hnd⟩ := hW
  have hA : DataW.TrodAll enc Tryd.prog W 0 (fun _ => true) true Tryd.f8.params.toList args.toList ds p := hA0
  rw [Tryd.params8] at hA hval
  obtain ⟨v0, vs0, d0, ds0, p0, q0, hargs, rfl, rfl, h0, r0⟩ := trodAll_cons hA
  obtain ⟨rfl, rfl, rfl⟩ := trodAll_nil r0
  obtain rfl : args = #[v0] := by cases args; simp_all
  obtain ⟨rfl, rfl⟩ := trodVars_none hV
  have k0 := h0
  have lt0 : ∀ x ∈ p0, x.block < W.heap.size := by obtain ⟨m, hm⟩ := k0; exact DataW.trod_lt m _ _ _ hm
  obtain ⟨A, n, c, xs, pa, fa, sa, rfl, hr, hm, hx, hp, hf, hs⟩ := open_name (hval 0 53 v0 rfl rfl) h0
  clear hA0 hval0
  refine (walk A n c xs pa fa sa W hr hm hx hp hf hs).mono fun e W' ⟨he, bel⟩ => ?_
  subst he
  exact ⟨_, rfl, _, _, _, [], _, [], hW', trodAll_mk1 (shut_bool Tryd.underlying4 _), (trodAll_cons_mk (Below.trod laidOut (by kernel_rfl) (of_decide_eq_true (by kernel_rfl)) k0 bel lt0) trodAll_mk0), rfl, bel.frame _, fun h => by cases h⟩

theorem over : Rows.fnExactShortFormRow.holds Tryd.pinned (OpenSpec.ofChange Rows.fnExactShortFormSpec) :=
  OpenClaim.holds_of_wide 8 Tryd.f8 rfl rfl rfl rfl rfl rfl rfl ⟨rfl, rfl, rfl, rfl, rfl⟩ rfl rfl rfl rfl rfl (by kernel_rfl) Tryd.func8 (by kernel_rfl)
    (of_decide_eq_true (by kernel_rfl)) (by unfold Func.isWrapper; first | (rw [if_pos (by decide +kernel)]; kernel_rfl) | (rw [if_neg (by decide +kernel)]; exact ⟨rfl, rfl⟩))
    (fun os started H enc _ => lifted os started H enc)

theorem plain (f : FuncId) (fn : Func) (hf : Tryd.pinned.checked.prog.funcNamed "loop.example/g00896/laws.FnExactShortForm" = some f) (hfn : Tryd.pinned.checked.prog.funcs[f]? = some fn) :
    true = Tryd.pinned.checked.prog.looks [] ∧ ∀ (j : Nat) t, fn.params[j]? = some t → Tryd.pinned.checked.prog.wantsStandIn t = false := by
  obtain rfl : f = 8 := Option.some.inj ((show Tryd.prog.funcNamed "loop.example/g00896/laws.FnExactShortForm" = some 8 by kernel_rfl).symm.trans hf) |>.symm
  obtain rfl : fn = Tryd.f8 := (Option.some.inj (Tryd.func8.symm.trans hfn)).symm
  refine ⟨by kernel_rfl, fun j t ht => ?_⟩
  rw [Tryd.params8] at ht
  obtain rfl : t = 53 := by simpa using Array.mem_of_getElem? ht
  exact (show Tryd.prog.wantsStandIn 53 = false by kernel_rfl)

theorem card : Rows.FnExactShortFormCardSaid :=
  Claim7.holds_tied_plain_at .later [] _ _ _ _ over (fun _ h => by cases h) (by kernel_rfl) (fun _ h => by cases h) fnExactShortForm_row_tie rfl ⟨rfl, rfl⟩ (by kernel_rfl) rfl plain (by kernel_rfl)
#print axioms card
end Go.Proofs.YtkbjddppapjphaaDoor.fnExactShortForm
