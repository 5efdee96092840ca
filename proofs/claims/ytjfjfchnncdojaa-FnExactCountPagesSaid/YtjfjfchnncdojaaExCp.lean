/-
  Proved: for every list of ranges the law FnExactCountPages returns true: CountPages answers as its model and writes into no argument; the argument reads as before. No further condition.
-/
import Derived.Test.YtjfjfchnncdojaaRows
import Derived.Test.YtjfjfchnncdojaaPgM4
import Derived.WalkKit
import Derived.ProofKit
import Derived.OpenShut
import Derived.ShutString
import Derived.ChangeOld
import Derived.Below
import Derived.Lib.SmallJoins
namespace Go.Proofs.Ytjfjfchnncdojaa.fnExactCountPages
open Go.ChangeShapes Go.WideShapes Go.ChangeAt Go.RowKit
open Go.ChangeMaps (open_string shut_string)
open PgPl Pg PgMe PgM
set_option linter.unusedVariables false
set_option linter.unusedSimpArgs false

set_option maxHeartbeats 1000000 in
theorem walk (A : Option Addr) (N c : Nat) (L : List Pr) (w : World) (hr : RdP w A L) (hn : L.length = N) (hm : N ≤ maxLen) (hx : ∀ x ∈ L, x.l.size ≤ maxLen) :
    Calls Try.prog 4 #[.slice A N c] w fun e w' => e = .returned (.bool true) ∧ Below w.heap.size w w' := by
  have HS := Lib.hid (szRanges A c N L 1048576 w hr hn hm hx (Nat.le_refl _))
  have HR := Lib.hid hr
  have HN := Lib.hid hn
  skip
  skip
  by_cases hfit : N + szL L ≤ 1048576
  · obtain ⟨t, ht⟩ : ∃ t : Nat, szPs 1048576 L = (t : Int) := ⟨1048576 - (N + szL L), by unfold szPs; rw [hn, if_pos hfit]; omega⟩
    rw [ht] at HS
    have hN : N ≤ 1048576 := by omega
    obtain ⟨z, hz⟩ : ∃ z, okL L = z := ⟨_, rfl⟩
    have HZ := Lib.hid hz
    obtain ⟨r, hv⟩ : ∃ r, ctn z L = r := ⟨_, rfl⟩
    have HV := Lib.hid hv
    clear hz hv
    clear ht hr hn hm hx hfit
    go_enter Try.func4, Try.ntmps4
    go_wp2_with fail
    refine HS.out.mono ?_
    rintro e w1 ⟨rfl, k1⟩
    go_wp2_with fail
    refine (toRanges A c N L _ (HR.out.below k1) HN.out hN).mono ?_
    rintro e w2 ⟨rfl, o2, b2⟩
    have R2 := Lib.hid (own_rd o2)
    have k2 := k1.trans (b2.mono k1.size)
    clear o2 b2 k1
    go_wp2_with fail
    refine (counts_s _ _ N L z r _ R2.out HN.out hN HZ.out HV.out).mono ?_
    rintro e w3 ⟨rfl, b3⟩
    have k3 := k2.trans (b3.mono k2.size)
    clear b3 k2 R2
    go_wp2_with fail
    refine (toRanges A c N L _ (HR.out.below k3) HN.out hN).mono ?_
    rintro e w4 ⟨rfl, o4, b4⟩
    have R4 := Lib.hid (own_rd o4)
    have k4 := k3.trans (b4.mono k3.size)
    clear o4 b4 k3
    go_wp2_with fail
    refine (counts_i _ _ N L z r _ R4.out HN.out hN HZ.out HV.out).mono ?_
    rintro e w5 ⟨rfl, b5⟩
    have R5 := Lib.hid (R4.out.below b5)
    have k5 := k4.trans (b5.mono k4.size)
    clear b5 k4 R4
    go_wp2_with fail
    refine (toRanges A c N L _ (HR.out.below k5) HN.out hN).mono ?_
    rintro e w6 ⟨rfl, o6, b6⟩
    have R6 := Lib.hid (own_rd o6)
    have R7 := Lib.hid (R5.out.below b6)
    have k6 := k5.trans (b6.mono k5.size)
    clear o6 b6 k5 R5
    go_wp2_with fail
    refine (eqRanges _ _ _ _ N L _ R7.out R6.out HN.out hN).mono ?_
    rintro e w7 ⟨rfl, b7⟩
    have k7 := k6.trans (b7.mono k6.size)
    clear b7 k6
    go_wp2_with fail
    go_ret
    exact ⟨rfl, k7⟩
  · have ht : szPs 1048576 L = -1 := by unfold szPs; rw [hn, if_neg hfit]
    rw [ht] at HS
    clear ht hr hn hm hx hfit
    go_enter Try.func4, Try.ntmps4
    go_wp2_with fail
    refine HS.out.mono ?_
    rintro e w1 ⟨rfl, k1⟩
    go_wp2_with fail
    go_ret
    exact ⟨rfl, k1⟩

set_option maxRecDepth 100000 in
theorem lifted (os : Os) (started : os.Started) (H : Type) (enc : TypeId × Value → H) :
    ReturnsInHanded {} Try.checked os 4 .any (Rows.fnExactCountPagesSpec.pre6 enc Try.prog Try.f4 Rows.fnExactCountPagesRow.domain false) (Rows.fnExactCountPagesSpec.post enc Try.prog Try.f4 false true false false) := by
  refine returnsInHanded_of_change (C := Try.checked) own started (by kernel_rfl) Try.func4
    (ChangeSpec.witness6 (enc := enc) (C := Try.checked) false ⟨#[], #[.slice none 0 0], []⟩ 8 (by kernel_rfl) (by kernel_rfl) (by kernel_rfl) (by kernel_rfl)) ?_
  intro W base args ds gs before hval0 hW hcnd _
  have hval : ∀ (j : Nat) t v, Try.f4.params[j]? = some t → args[j]? = some v → Value.okWide Try.prog W .any base t v := hval0
  have hW' := hW
  obtain ⟨p, q, hA0, hV, rfl, hfz, hnd⟩ := hW
  have hA : DataW.TrodAll enc Try.prog W 0 (fun _ => true) true Try.f4.params.toList args.toList ds p := hA0
  rw [Try.params4] at hA hval
  obtain ⟨v0, vs0, d0, ds0, p0, q0, hargs, rfl, rfl, h0, r0⟩ := trodAll_cons hA
  obtain ⟨rfl, rfl, rfl⟩ := trodAll_nil r0
  obtain rfl : args = #[v0] := by cases args; simp_all
  obtain ⟨rfl, rfl⟩ := trodVars_none hV
  have k0 := h0
  have lt0 : ∀ x ∈ p0, x.block < W.heap.size := by obtain ⟨m, hm⟩ := k0; exact DataW.trod_lt m _ _ _ hm
  obtain ⟨A0, N0, c0, L0, rfl, hr0, hn0, hm0, hx0, _⟩ := open_pages (hval 0 22 v0 rfl rfl) h0
  clear hA0 hval0
  refine (walk A0 N0 c0 L0 W hr0 hn0 hm0 hx0 ).mono fun e W' ⟨he, bel⟩ => ?_
  subst he
  exact ⟨_, rfl, _, _, _, [], _, [], hW', trodAll_mk1 (shut_bool Try.underlying4 _), (trodAll_cons_mk (Below.trod laidOut (by kernel_rfl) (of_decide_eq_true (by kernel_rfl)) k0 bel lt0) trodAll_mk0), rfl, bel.frame _, fun h => by cases h⟩

theorem closed : joinedFacts Try.pinned.checked.prog 4 Try.f4 Rows.fnExactCountPagesSpec Rows.fnExactCountPagesRow = true := by kernel_rfl
theorem over : Rows.fnExactCountPagesRow.holds Try.pinned (OpenSpec.ofChange Rows.fnExactCountPagesSpec) :=
  OpenClaim.holds_of_wide 4 Try.f4 rfl rfl rfl rfl rfl rfl rfl ⟨rfl, rfl, rfl, rfl, rfl⟩ rfl rfl rfl rfl rfl (by kernel_rfl) Try.func4 closed
    (of_decide_eq_true (by kernel_rfl)) (by unfold Func.isWrapper; first | (rw [if_pos (by decide +kernel)]; kernel_rfl) | (rw [if_neg (by decide +kernel)]; exact ⟨rfl, rfl⟩))
    (fun os started H enc _ => lifted os started H enc)

theorem proved : Rows.FnExactCountPagesSaid :=
  over
#print axioms proved
end Go.Proofs.Ytjfjfchnncdojaa.fnExactCountPages
