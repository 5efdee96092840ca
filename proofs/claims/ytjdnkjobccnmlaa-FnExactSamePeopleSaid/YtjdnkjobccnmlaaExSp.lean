/-
  Proved: for all pairs of lists of names the law FnExactSamePeople returns true: SamePeople answers as its model and writes into no argument; the arguments read as before. No further condition.
-/
import Derived.Test.YtjdnkjobccnmlaaRows
import Derived.Test.YtjdnkjobccnmlaaPe
import Derived.Test.YtjdnkjobccnmlaaOpenNs
import Derived.WalkKit
import Derived.ProofKit
import Derived.OpenShut
import Derived.ShutString
import Derived.ChangeOld
import Derived.Below
import Derived.Lib.SmallJoins
namespace Go.Proofs.Ytjdnkjobccnmlaa.fnExactSamePeople
open Go.ChangeShapes Go.WideShapes Go.ChangeAt Go.RowKit
open Go.ChangeMaps (open_string shut_string)
open Strs Help Name NGood OpenN Nms Jn Pe
set_option linter.unusedVariables false
set_option linter.unusedSimpArgs false

/-- what a list within the measure brings -/
theorem fit {w : World} {A : Option Addr} {L : List Nm} {N t : Nat} (hr : RdN0 w A L) (hn : L.length = N) (ht : t ≤ 1048576) (hfit : N + szL L ≤ t) : N ≤ 1048576 ∧ (∀ x ∈ L, x.sz ≤ 1048576) ∧ (∀ x ∈ L, x.n ≤ 1048576) := by
  have hz : ∀ x ∈ L, x.sz ≤ 1048576 := fun x hx => by have := szL_mem hx; omega
  refine ⟨by omega, hz, fun x hx => ?_⟩
  have h1 := hz x hx
  obtain ⟨k, hk, rfl⟩ := List.getElem_of_mem hx
  have h2 := (hr k _ (List.getElem?_eq_getElem hk)).1.2.2
  unfold Nm.sz at h1
  omega
set_option maxHeartbeats 4000000 in
theorem walk (A : Option Addr) (N c : Nat) (L : List Nm) (B : Option Addr) (N' d : Nat) (M : List Nm) (w : World) (hr : RdN0 w A L) (hn : L.length = N) (hm : N ≤ maxLen) (hx : ∀ x ∈ L, x.Lim) (hr' : RdN0 w B M) (hn' : M.length = N') (hm' : N' ≤ maxLen) (hx' : ∀ x ∈ M, x.Lim) :
    Calls Try.prog 3 #[.slice A N c, .slice B N' d] w fun e w' => e = .returned (.bool true) ∧ Below w.heap.size w w' := by
  have HS := Lib.hid (szNameS_any A c N L 1048576 w hr hn hm hx (Nat.le_refl _))
  have HR := Lib.hid hr
  have HN := Lib.hid hn
  have HR' := Lib.hid hr'
  have HN' := Lib.hid hn'
  by_cases hfit : N + szL L ≤ 1048576
  · obtain ⟨t, ht, htl⟩ : ∃ t : Nat, szNs 1048576 L = (t : Int) ∧ t ≤ 1048576 := ⟨1048576 - (N + szL L), by unfold szNs; rw [hn, if_pos hfit]; omega, by omega⟩
    rw [ht] at HS
    obtain ⟨hN, hz, hl⟩ := fit hr hn (Nat.le_refl _) hfit
    have HZ := Lib.hid hz
    have HLn := Lib.hid hl
    have HS2 := Lib.hid (fun w' (hk : Below w.heap.size w w') => szNameS_any B d N' M t w' (hr'.below hk) hn' hm' hx' htl)
    by_cases hfit' : N' + szL M ≤ t
    · obtain ⟨t', ht'⟩ : ∃ t' : Nat, szNs t M = (t' : Int) := ⟨t - (N' + szL M), by unfold szNs; rw [hn', if_pos hfit']; omega⟩
      rw [ht'] at HS2
      obtain ⟨hN', hz', hl'⟩ := fit hr' hn' htl hfit'
      have HZ' := Lib.hid hz'
      have HLn' := Lib.hid hl'
      obtain ⟨sv, rv, hv⟩ := spV_form L M
      have HV := Lib.hid hv
      clear hr hn hx hfit ht hv hm hr' hn' hx' hfit' ht' hm' htl hz hl hz' hl'
      go_enter Try.func3, Try.ntmps3
      go_wp2_with fail
      refine HS.out.mono ?_
      rintro e w1 ⟨rfl, k1⟩
      go_wp2_with fail
      refine (HS2.out _ k1).mono ?_
      rintro e w2 ⟨rfl, b2⟩
      have k2 := k1.trans (b2.mono k1.size)
      clear b2 k1
      go_wp2_with fail
      refine (toNameS_any A c N L _ (HR.out.below k2) HN.out hN HLn.out).mono ?_
      rintro e w3 ⟨A3, M3, rfl, R3, K3, n3, b3⟩
      have k3 := k2.trans (b3.mono k2.size)
      have HR3 := Lib.hid R3
      clear b3 k2 R3
      go_wp2_with fail
      refine (toNameS_any B d N' M _ (HR'.out.below k3) HN'.out hN' HLn'.out).mono ?_
      rintro e w4 ⟨A4, M4, rfl, R4, K4, n4, b4⟩
      have k4 := k3.trans (b4.mono k3.size)
      have HJ := Lib.hid (specPeople A3 A4 N N' N N' M3 M4 w4 (HR3.out.below b4) R4 ((len_of_key K3).trans HN.out) ((len_of_key K4).trans HN'.out) hN hN' (sz_key K3 HZ.out) (sz_key K4 HZ'.out))
      rw [spV_key K3 K4, HV.out] at HJ
      clear b4 R4 K3 K4 n3 n4 k3 HR3
      go_wp2_with fail
      refine HJ.out.mono ?_
      rintro e w5 ⟨rfl, b5⟩
      have k5 := k4.trans (b5.mono k4.size)
      clear b5 HJ k4
      go_wp2_with fail
      refine (toNameS_any A c N L _ (HR.out.below k5) HN.out hN HLn.out).mono ?_
      rintro e w6 ⟨A6, M6, rfl, R6, K6, n6, b6⟩
      have k6 := k5.trans (b6.mono k5.size)
      have HR6 := Lib.hid R6
      have HK6 := Lib.hid K6
      have Hn6 := Lib.hid n6
      clear b6 k5 R6 K6 n6
      go_wp2_with fail
      refine (toNameS_any B d N' M _ (HR'.out.below k6) HN'.out hN' HLn'.out).mono ?_
      rintro e w7 ⟨A7, M7, rfl, R7, K7, n7, b7⟩
      have k7 := k6.trans (b7.mono k6.size)
      have HR7 := Lib.hid R7
      have HR67 := Lib.hid (HR6.out.below b7)
      have HK7 := Lib.hid K7
      have Hn7 := Lib.hid n7
      have HJ := Lib.hid (implPeople A6 A7 N N' N N' M6 M7 w7 HR67.out R7 ((len_of_key HK6.out).trans HN.out) ((len_of_key K7).trans HN'.out) hN hN' (sz_key HK6.out HZ.out) (sz_key K7 HZ'.out))
      rw [spV_key HK6.out K7, HV.out] at HJ
      clear b7 k6 R7 K7 n7 HR6
      go_wp2_with fail
      refine HJ.out.mono ?_
      rintro e w8 ⟨rfl, b8⟩
      have k8 := k7.trans (b8.mono k7.size)
      have HR68 := Lib.hid (HR67.out.below b8)
      have HR78 := Lib.hid (HR7.out.below b8)
      clear b8 k7 HJ HR67 HR7
      go_wp2_with fail
      refine (toNameS_any A c N L _ (HR.out.below k8) HN.out hN HLn.out).mono ?_
      rintro e w9 ⟨A9, M9, rfl, R9, K9, n9, b9⟩
      have k9 := k8.trans (b9.mono k8.size)
      have HE := Lib.hid (eqNameS_same A6 A9 N N N M6 M9 w9 (HR68.out.below b9) R9 ((len_of_key HK6.out).trans HN.out) (HK6.out.trans K9.symm) hN Hn6.out)
      have HR79 := Lib.hid (HR78.out.below b9)
      clear b9 R9 K9 n9 k8 HR68 HR78
      go_wp2_with fail
      refine HE.out.mono ?_
      rintro e w10 ⟨rfl, b10⟩
      have k10 := k9.trans (b10.mono k9.size)
      have HR710 := Lib.hid (HR79.out.below b10)
      clear b10 k9 HE HR79
      go_wp2_with fail
      refine (toNameS_any B d N' M _ (HR'.out.below k10) HN'.out hN' HLn'.out).mono ?_
      rintro e w11 ⟨A11, M11, rfl, R11, K11, n11, b11⟩
      have k11 := k10.trans (b11.mono k10.size)
      have HE := Lib.hid (eqNameS_same A7 A11 N' N' N' M7 M11 w11 (HR710.out.below b11) R11 ((len_of_key HK7.out).trans HN'.out) (HK7.out.trans K11.symm) hN' Hn7.out)
      clear b11 R11 K11 n11 k10
      go_wp2_with fail
      refine HE.out.mono ?_
      rintro e w12 ⟨rfl, b12⟩
      have k12 := k11.trans (b12.mono k11.size)
      clear b12 k11
      go_wp2_with fail
      go_ret
      exact ⟨rfl, k12⟩
    · have ht' : szNs t M = -1 := by unfold szNs; rw [hn', if_neg hfit']
      rw [ht'] at HS2
      clear hr hn hx hfit ht hm hr' hn' hx' hfit' ht' hm' htl hz hl
      go_enter Try.func3, Try.ntmps3
      go_wp2_with fail
      refine HS.out.mono ?_
      rintro e w1 ⟨rfl, k1⟩
      go_wp2_with fail
      refine (HS2.out _ k1).mono ?_
      rintro e w2 ⟨rfl, b2⟩
      have k2 := k1.trans (b2.mono k1.size)
      go_wp2_with fail
      go_ret
      exact ⟨rfl, k2⟩
  · have ht : szNs 1048576 L = -1 := by unfold szNs; rw [hn, if_neg hfit]
    rw [ht] at HS
    clear hr hn hx hfit ht hm hr' hn' hx' hm'
    go_enter Try.func3, Try.ntmps3
    go_wp2_with fail
    refine HS.out.mono ?_
    rintro e w1 ⟨rfl, b1⟩
    go_wp2_with fail
    go_ret
    exact ⟨rfl, b1⟩

set_option maxRecDepth 100000 in
set_option maxHeartbeats 2000000 in
theorem lifted (os : Os) (started : os.Started) (H : Type) (enc : TypeId × Value → H) :
    ReturnsInHanded {} Try.checked os 3 .any (Rows.fnExactSamePeopleSpec.pre6 enc Try.prog Try.f3 Rows.fnExactSamePeopleRow.domain false) (Rows.fnExactSamePeopleSpec.post enc Try.prog Try.f3 false true false false) := by
  refine returnsInHanded_of_change (C := Try.checked) own started (by kernel_rfl) Try.func3
    (ChangeSpec.witness6 (enc := enc) (C := Try.checked) false ⟨#[], #[.slice none 0 0, .slice none 0 0], []⟩ 8 (by kernel_rfl) (by kernel_rfl) (by kernel_rfl) (by kernel_rfl)) ?_
  intro W base args ds gs before hval0 hW hcnd _
  have hval : ∀ (j : Nat) t v, Try.f3.params[j]? = some t → args[j]? = some v → Value.okWide Try.prog W .any base t v := hval0
  have hW' := hW
  obtain ⟨p, q, hA0, hV, rfl, hfz, hnd⟩ := hW
  have hA : DataW.TrodAll enc Try.prog W 0 (fun _ => true) true Try.f3.params.toList args.toList ds p := hA0
  rw [Try.params3] at hA hval
  obtain ⟨v0, vs0, d0, ds0, p0, q0, hargs, rfl, rfl, h0, r0⟩ := trodAll_cons hA
  obtain ⟨v1, vs1, d1, ds1, p1, q1, rfl, rfl, rfl, h1, r1⟩ := trodAll_cons r0
  obtain ⟨rfl, rfl, rfl⟩ := trodAll_nil r1
  obtain rfl : args = #[v0, v1] := by cases args; simp_all
  obtain ⟨rfl, rfl⟩ := trodVars_none hV
  have k0 := h0
  have lt0 : ∀ x ∈ p0, x.block < W.heap.size := by obtain ⟨m, hm⟩ := k0; exact DataW.trod_lt m _ _ _ hm
  have k1 := h1
  have lt1 : ∀ x ∈ p1, x.block < W.heap.size := by obtain ⟨m, hm⟩ := k1; exact DataW.trod_lt m _ _ _ hm
  obtain ⟨A0, N0, c0, L0, rfl, hr0, hn0, hm0, hx0, _⟩ := open_namesW (hval 0 22 v0 rfl rfl) h0
  obtain ⟨A1, N1, c1, L1, rfl, hr1, hn1, hm1, hx1, _⟩ := open_namesW (hval 1 22 v1 rfl rfl) h1
  clear hA0 hval0
  refine (walk A0 N0 c0 L0 A1 N1 c1 L1 W hr0 hn0 hm0 hx0 hr1 hn1 hm1 hx1 ).mono fun e W' ⟨he, bel⟩ => ?_
  subst he
  exact ⟨_, rfl, _, _, _, [], _, [], hW', trodAll_mk1 (shut_bool Try.underlying4 _), (trodAll_cons_mk (Below.trod laidOut (by kernel_rfl) (of_decide_eq_true (by kernel_rfl)) k0 bel lt0) (trodAll_cons_mk (Below.trod laidOut (by kernel_rfl) (of_decide_eq_true (by kernel_rfl)) k1 bel lt1) trodAll_mk0)), rfl, bel.frame _, fun h => by cases h⟩

theorem over : Rows.fnExactSamePeopleRow.holds Try.pinned (OpenSpec.ofChange Rows.fnExactSamePeopleSpec) :=
  OpenClaim.holds_of_wide 3 Try.f3 rfl rfl rfl rfl rfl rfl rfl ⟨rfl, rfl, rfl, rfl, rfl⟩ rfl rfl rfl rfl rfl (by kernel_rfl) Try.func3 (by kernel_rfl)
    (of_decide_eq_true (by kernel_rfl)) (by unfold Func.isWrapper; first | (rw [if_pos (by decide +kernel)]; kernel_rfl) | (rw [if_neg (by decide +kernel)]; exact ⟨rfl, rfl⟩))
    (fun os started H enc _ => lifted os started H enc)

theorem proved : Rows.FnExactSamePeopleSaid :=
  over
#print axioms proved
end Go.Proofs.Ytjdnkjobccnmlaa.fnExactSamePeople
