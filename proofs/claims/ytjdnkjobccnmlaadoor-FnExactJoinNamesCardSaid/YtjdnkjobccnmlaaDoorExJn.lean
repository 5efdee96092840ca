/-
  Proved: for every list of names and every limit the law FnExactJoinNames returns true: JoinNames answers as its model and writes into no argument; the arguments read as before. The listed variables lie as the pinned constants lay them (the card ties them). No further condition.
-/
import Derived.Test.YtjdnkjobccnmlaaDoorRows
import Derived.Test.YtjdnkjobccnmlaaDoorJn2
import Derived.Test.YtjdnkjobccnmlaaDoorOpenNs
import Derived.WalkKit
import Derived.ProofKit
import Derived.OpenShut
import Derived.ShutString
import Derived.ChangeOld
import Derived.Below
import Derived.Lib.SmallJoins
import Derived.Test.YtjdnkjobccnmlaaDoorCards
import Derived.Test.YtjdnkjobccnmlaaDoorTie
import Derived.LaidMore
import Derived.Lay
import Derived.SevenTiedAt
import Derived.Stop.Joined
namespace Go.Proofs.YtjdnkjobccnmlaaDoor.fnExactJoinNames
open Go.ChangeShapes Go.WideShapes Go.ChangeAt Go.RowKit
open Go.ChangeMaps (open_string shut_string)
open Strs Help Name NGood OpenN Nms Jn
set_option linter.unusedVariables false
set_option linter.unusedSimpArgs false

set_option maxHeartbeats 4000000 in
theorem walk (A : Option Addr) (N c : Nat) (L : List Nm) (z : Int) (w : World) (hr : RdN0 w A L) (hn : L.length = N) (hm : N ≤ maxLen) (hx : ∀ x ∈ L, x.Lim) :
    Calls Tryd.prog 7 #[.slice A N c, .int .i64 z] w fun e w' => e = .returned (.bool true) ∧ Below w.heap.size w w' := by
  have HS := Lib.hid (szNameS_any A c N L 1048576 w hr hn hm hx (Nat.le_refl _))
  have HR := Lib.hid hr
  have HN := Lib.hid hn
  by_cases hfit : N + szL L ≤ 1048576
  · obtain ⟨t, ht⟩ : ∃ t : Nat, szNs 1048576 L = (t : Int) := ⟨1048576 - (N + szL L), by unfold szNs; rw [hn, if_pos hfit]; omega⟩
    rw [ht] at HS
    have hN : N ≤ 1048576 := by omega
    have HZ : Hid (∀ x ∈ L, x.sz ≤ 1048576) := Lib.hid (fun x hx => by have := szL_mem hx; omega)
    have HLn : Hid (∀ x ∈ L, x.n ≤ 1048576) := Lib.hid (fun x hx => by
      have h1 := HZ.out x hx
      obtain ⟨k, hk, rfl⟩ := List.getElem_of_mem hx
      have h2 := (hr k _ (List.getElem?_eq_getElem hk)).1.2.2
      unfold Nm.sz at h1
      omega)
    obtain ⟨sv, rv, hv⟩ := jnV_form L z
    have HV := Lib.hid hv
    clear hr hn hx hfit ht hv hm
    go_enter Tryd.func7, Tryd.ntmps7
    go_wp2_with fail
    refine HS.out.mono ?_
    rintro e w1 ⟨rfl, b1⟩
    have k1 := b1
    clear b1
    go_wp2_with fail
    refine (toNameS_any A c N L _ (HR.out.below k1) HN.out hN HLn.out).mono ?_
    rintro e w2 ⟨A2, M2, rfl, R2, K2, n2, b2⟩
    have k2 := k1.trans (b2.mono k1.size)
    have HJ2 := Lib.hid (specJoin A2 N N z M2 w2 R2 ((len_of_key K2).trans HN.out) hN (sz_key K2 HZ.out))
    rw [jnV_key K2, HV.out] at HJ2
    clear b2 R2 K2 n2 k1
    go_wp2_with fail
    refine HJ2.out.mono ?_
    rintro e w3 ⟨rfl, b3⟩
    have k3 := k2.trans (b3.mono k2.size)
    clear b3 HJ2 k2
    go_wp2_with fail
    refine (toNameS_any A c N L _ (HR.out.below k3) HN.out hN HLn.out).mono ?_
    rintro e w4 ⟨A4, M4, rfl, R4, K4, n4, b4⟩
    have k4 := k3.trans (b4.mono k3.size)
    have HJ4 := Lib.hid (implJoin A4 N N z M4 w4 R4 ((len_of_key K4).trans HN.out) hN (sz_key K4 HZ.out))
    rw [jnV_key K4, HV.out] at HJ4
    have HR4 := Lib.hid R4
    have HK4 := Lib.hid K4
    have Hn4 := Lib.hid n4
    clear b4 R4 K4 n4 k3
    go_wp2_with fail
    refine HJ4.out.mono ?_
    rintro e w5 ⟨rfl, b5⟩
    have k5 := k4.trans (b5.mono k4.size)
    have HR5 := Lib.hid (HR4.out.below b5)
    clear b5 HJ4 k4 HR4
    go_wp2_with fail
    refine (toNameS_any A c N L _ (HR.out.below k5) HN.out hN HLn.out).mono ?_
    rintro e w6 ⟨A6, M6, rfl, R6, K6, n6, b6⟩
    have k6 := k5.trans (b6.mono k5.size)
    have HE := Lib.hid (eqNameS_same A4 A6 N N N M4 M6 w6 (HR5.out.below b6) R6 ((len_of_key HK4.out).trans HN.out) (HK4.out.trans K6.symm) hN Hn4.out)
    clear b6 R6 K6 n6 k5
    go_wp2_with fail
    refine HE.out.mono ?_
    rintro e w7 ⟨rfl, b7⟩
    have k7 := k6.trans (b7.mono k6.size)
    clear b7 k6
    go_wp2_with fail
    go_ret
    exact ⟨rfl, k7⟩
  · have ht : szNs 1048576 L = -1 := by unfold szNs; rw [hn, if_neg hfit]
    rw [ht] at HS
    clear hr hn hx hfit ht hm
    go_enter Tryd.func7, Tryd.ntmps7
    go_wp2_with fail
    refine HS.out.mono ?_
    rintro e w1 ⟨rfl, b1⟩
    go_wp2_with fail
    go_ret
    exact ⟨rfl, b1⟩

set_option maxRecDepth 100000 in
set_option maxHeartbeats 2000000 in
theorem lifted (os : Os) (started : os.Started) (H : Type) (enc : TypeId × Value → H) :
    ReturnsInHanded {} Tryd.checked os 7 .any (fun w args => (Rows.fnExactJoinNamesSpec.pre enc Tryd.prog Tryd.f7 Rows.fnExactJoinNamesRow.domain false w args ∧ laidMetH Tryd.prog Rows.fnExactJoinNamesRow.laid w) ∧ sizedMet enc Tryd.prog Tryd.f7 (OpenSpec.ofChange Rows.fnExactJoinNamesSpec) false w args)
      (Rows.fnExactJoinNamesSpec.post enc Tryd.prog Tryd.f7 false true false false) := by
  refine returnsInHanded_of_change_and (C := Tryd.checked) (X := fun w _ => laidMetH Tryd.prog Rows.fnExactJoinNamesRow.laid w) (fun _ _ _ hh h => h.of_heap hh) own started (by kernel_rfl) Tryd.func7
    (ChangeSpec.witness_shaped (enc := enc) (C := Tryd.checked) (os := os) (X := fun w _ => laidMetH Tryd.prog Rows.fnExactJoinNamesRow.laid w) false (World.laidAll Tryd.prog os Rows.fnExactJoinNamesRow.laid) #[.slice none 0 0, .int .i64 0] 8 (World.laidAll_os _ _ _)
      (World.shaped_of_ZipB (by kernel_rfl) (by kernel_rfl)) (by kernel_rfl) (by kernel_rfl) (by kernel_rfl)
      (by rw [MakeChecks.laidMetH_plain _ _ _ (by kernel_rfl)]; exact laidMet_laidAll _ (by kernel_rfl) (by kernel_rfl))) ?_
  intro W base args ds gs before hval0 hW hcnd _ hL _
  have hval : ∀ (j : Nat) t v, Tryd.f7.params[j]? = some t → args[j]? = some v → Value.okWide Tryd.prog W .any base t v := hval0
  have hW' := hW
  obtain ⟨p, q, hA0, hV, rfl, hfz, hnd⟩ := hW
  have hA : DataW.TrodAll enc Tryd.prog W 0 (fun _ => true) true Tryd.f7.params.toList args.toList ds p := hA0
  rw [Tryd.params7] at hA hval
  obtain ⟨v0, vs0, d0, ds0, p0, q0, hargs, rfl, rfl, h0, r0⟩ := trodAll_cons hA
  obtain ⟨v1, vs1, d1, ds1, p1, q1, rfl, rfl, rfl, h1, r1⟩ := trodAll_cons r0
  obtain ⟨rfl, rfl, rfl⟩ := trodAll_nil r1
  obtain rfl : args = #[v0, v1] := by cases args; simp_all
  obtain ⟨rfl, rfl⟩ := trodVars_none hV
  have k0 := h0
  have lt0 : ∀ x ∈ p0, x.block < W.heap.size := by obtain ⟨m, hm⟩ := k0; exact DataW.trod_lt m _ _ _ hm
  have k1 := h1
  have lt1 : ∀ x ∈ p1, x.block < W.heap.size := by obtain ⟨m, hm⟩ := k1; exact DataW.trod_lt m _ _ _ hm
  obtain ⟨A0, N0, c0, L0, rfl, hr0, hn0, hm0, hx0, _⟩ := open_namesW (hval 0 55 v0 rfl rfl) h0
  obtain ⟨z1, rfl, _, _, _⟩ := open_int Tryd.underlying3 (hval 1 3 v1 rfl rfl) h1
  clear hA0 hval0
  refine (walk A0 N0 c0 L0 z1 W hr0 hn0 hm0 hx0 ).mono fun e W' ⟨he, bel⟩ => ?_
  subst he
  exact ⟨_, rfl, _, _, _, [], _, [], hW', trodAll_mk1 (shut_bool Tryd.underlying4 _), (trodAll_cons_mk (Below.trod laidOut (by kernel_rfl) (of_decide_eq_true (by kernel_rfl)) k0 bel lt0) (trodAll_cons_mk (Below.trod laidOut (by kernel_rfl) (of_decide_eq_true (by kernel_rfl)) k1 bel lt1) trodAll_mk0)), rfl, bel.frame _, fun h => by cases h⟩

theorem over : Rows.fnExactJoinNamesRow.holds Tryd.pinned (OpenSpec.ofChange Rows.fnExactJoinNamesSpec) :=
  OpenClaim.holds_of_wide 7 Tryd.f7 rfl rfl rfl rfl rfl rfl rfl ⟨rfl, rfl, rfl, rfl, rfl⟩ rfl rfl rfl rfl rfl (by kernel_rfl) Tryd.func7 (by kernel_rfl)
    (of_decide_eq_true (by kernel_rfl)) (by unfold Func.isWrapper; first | (rw [if_pos (by decide +kernel)]; kernel_rfl) | (rw [if_neg (by decide +kernel)]; exact ⟨rfl, rfl⟩))
    (fun os started H enc _ => lifted os started H enc)

theorem plain (f : FuncId) (fn : Func) (hf : Tryd.pinned.checked.prog.funcNamed "loop.example/g00896/laws.FnExactJoinNames" = some f) (hfn : Tryd.pinned.checked.prog.funcs[f]? = some fn) :
    true = Tryd.pinned.checked.prog.looks [] ∧ ∀ (j : Nat) t, fn.params[j]? = some t → Tryd.pinned.checked.prog.wantsStandIn t = false := by
  obtain rfl : f = 7 := Option.some.inj ((show Tryd.prog.funcNamed "loop.example/g00896/laws.FnExactJoinNames" = some 7 by kernel_rfl).symm.trans hf) |>.symm
  obtain rfl : fn = Tryd.f7 := (Option.some.inj (Tryd.func7.symm.trans hfn)).symm
  refine ⟨by kernel_rfl, fun j t ht => ?_⟩
  rw [Tryd.params7] at ht
  have hm : t = 55 ∨ t = 3 := by have := Array.mem_of_getElem? ht; simp at this; omega
  rcases hm with rfl | rfl
  · exact (show Tryd.prog.wantsStandIn 55 = false by kernel_rfl)
  · exact (show Tryd.prog.wantsStandIn 3 = false by kernel_rfl)

theorem card : Rows.FnExactJoinNamesCardSaid :=
  Claim7.holds_tied_plain_at .later [] _ _ _ _ over (fun _ h => by cases h) (by kernel_rfl) (fun _ h => by cases h) fnExactJoinNames_row_tie rfl ⟨rfl, rfl⟩ (by kernel_rfl) rfl plain (by kernel_rfl)
#print axioms card
end Go.Proofs.YtjdnkjobccnmlaaDoor.fnExactJoinNames
