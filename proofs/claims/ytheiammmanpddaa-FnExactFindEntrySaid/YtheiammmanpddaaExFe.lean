/-
  Proved: for every library and key the law FnExactFindEntry returns true: FindEntry answers as its model and writes into no argument; the arguments read as before. No further condition.
-/
import Derived.Test.YtheiammmanpddaaRows
import Derived.Test.YtheiammmanpddaaFe
import Derived.Test.YtheiammmanpddaaLbz
import Derived.Test.YtheiammmanpddaaOpenL
import Derived.Deep.RegionHeld3
import Derived.Deep.DeepCutAuto
import Derived.WalkKit
import Derived.ProofKit
import Derived.OpenShut
import Derived.ShutString
import Derived.ChangeOld
import Derived.Below
import Derived.Lib.SmallJoins
namespace Go.Proofs.Ytheiammmanpddaa.fnExactFindEntry
open Go.ChangeShapes Go.WideShapes Go.ChangeAt Go.RowKit
open Go.ChangeMaps (open_string shut_string)
open Strs Help Name NGood OpenN Nms Jn Ens Lbs OpenE
set_option linter.unusedVariables false
set_option linter.unusedSimpArgs false

theorem feV_k {L M : List En} (t : ByteArray) (h : L.map En.key4 = M.map En.key4) : feV L t = feV M t := by
  unfold feV
  rw [okLib_k h, fnd_k t 0 h]
theorem feV_two (L : List En) (t : ByteArray) : ∃ (z : Int) (b : Bool), feV L t = .tuple #[.int .i64 z, .bool b] := by
  unfold feV
  split <;> exact ⟨_, _, rfl⟩
set_option maxRecDepth 100000 in
set_option maxHeartbeats 8000000 in
theorem walk (A : Option Addr) (N c : Nat) (L : List En) (s : ByteArray) (w : World) (hr : RdE w A L) (hn : L.length = N) (hm : N ≤ maxLen) (hx : ∀ x ∈ L, x.Lim) (hs : s.size ≤ maxLen) :
    Calls Try.prog 3 #[.agg #[.slice A N c], .string s] w fun e w' => e = .returned (.bool true) ∧ Below w.heap.size w w' := by
  have HB := Lib.hid ((Below.refl _ w).alloc (Nat.le_refl _) (.cells #[.slice A N c] 24))
  have hc0 := (box1 w (.slice A N c) 24).1
  have hs0 : w.heap.size < (w.alloc (.cells #[.slice A N c] 24)).heap.size := by simp
  have HR := Lib.hid hr
  have HN := Lib.hid hn
  have HS := Lib.hid (szLib_any A c N L 1048576 _ (hr.below HB.out) hn hm hx (Nat.le_refl _))
  unfold maxLen at hs
  by_cases hsl : s.size ≤ 1048576
  · by_cases hfit : L.length + szEs L ≤ 1048576
    · obtain ⟨t, ht⟩ : ∃ t : Nat, szEl 1048576 L = (t : Int) := ⟨1048576 - L.length - szEs L, by unfold szEl; rw [if_pos hfit]; omega⟩
      rw [ht] at HS
      have hN : N ≤ 1048576 := by omega
      have HZ := Lib.hid (fun x (hx : x ∈ L) => (by have := szEs_mem hx; omega : x.sz ≤ 1048576))
      have HSm := Lib.hid (sm_of hr (fun x hx => HZ.out x hx))
      obtain ⟨z, b, hres⟩ := feV_two L s
      have HRes := Lib.hid hres
      clear hr hn hx hfit ht hres hm
      go_enter Try.func3, Try.ntmps3
      go_wp2_with fail
      generalize w.alloc (.cells #[.slice A N c] 24) = w0 at HB HS hc0 hs0 ⊢
      refine HS.out.mono ?_
      rintro e w1 ⟨rfl, b1⟩
      have k1 := HB.out.trans (b1.mono HB.out.size)
      have c1 := (b1.cell (p := ⟨w.heap.size, 0, none⟩) hs0).trans hc0
      have s1 := Nat.lt_of_lt_of_le hs0 b1.size
      clear b1 HS hc0 hs0
      go_wp2_with fail
      refine (toLib_far A c N L _ (HR.out.below k1) HN.out hN HSm.out).mono ?_
      rintro e w2 ⟨g2, M2, rfl, _, F2, K2, _, b2⟩
      have k2 := k1.trans (b2.mono k1.size)
      have c2 := (b2.cell (p := ⟨w.heap.size, 0, none⟩) s1).trans c1
      have s2 := Nat.lt_of_lt_of_le s1 b2.size
      have HV := Lib.hid (specFind (some ⟨g2, 0, none⟩) N N M2 s w2 F2.1 ((len_of_key4 K2).trans HN.out) hN (sz_of F2.1 HR.out K2 HZ.out))
      rw [feV_k s K2, HRes.out] at HV
      clear b2 F2 K2 k1 c1 s1
      go_wp2_with fail
      refine HV.out.mono ?_
      rintro e w3 ⟨rfl, b3⟩
      have k3 := k2.trans (b3.mono k2.size)
      have c3 := (b3.cell (p := ⟨w.heap.size, 0, none⟩) s2).trans c2
      have s3 := Nat.lt_of_lt_of_le s2 b3.size
      clear b3 k2 c2 s2 HV
      go_wp2_with fail
      refine (toLib_far A c N L _ (HR.out.below k3) HN.out hN HSm.out).mono ?_
      rintro e w4 ⟨g4, M4, rfl, _, F4, K4, m4, b4⟩
      have k4 := k3.trans (b4.mono k3.size)
      have B5 := (Below.refl _ w4).alloc (Nat.le_refl _) (.cells #[.slice (some ⟨g4, 0, none⟩) N N] 30)
      have k5 := k4.trans (B5.mono k4.size)
      have c5 := ((b4.trans (B5.mono b4.size)).cell (p := ⟨w.heap.size, 0, none⟩) s3).trans c3
      have s5 := Nat.lt_of_lt_of_le s3 (b4.trans (B5.mono b4.size)).size
      have x5 := (box1 w4 (.slice (some ⟨g4, 0, none⟩) N N) 30).1
      have y5 : w4.heap.size < (w4.alloc (.cells #[.slice (some ⟨g4, 0, none⟩) N N] 30)).heap.size := by simp
      have R5 := Lib.hid (F4.1.below B5)
      have HK4 := Lib.hid K4
      have Hm4 := Lib.hid m4
      have HV := Lib.hid (implFind (some ⟨g4, 0, none⟩) N N M4 s _ R5.out ((len_of_key4 K4).trans HN.out) hN (sz_of R5.out HR.out K4 HZ.out))
      rw [feV_k s K4, HRes.out] at HV
      clear b4 F4 K4 m4 k3 c3 s3 k4 B5
      go_upto_region 9 with fail
      generalize hW : w4.alloc _ = w5 at k5 c5 s5 x5 y5 R5 HV ⊢
      clear hW
      generalize w4.heap.size = bx at *
      go_wp2_with fail
      refine HV.out.mono ?_
      rintro e w8 ⟨rfl, b8⟩
      have k8 := k5.trans (b8.mono k5.size)
      have c8 := (b8.cell (p := ⟨w.heap.size, 0, none⟩) s5).trans c5
      have x8 := (b8.cell (p := ⟨bx, 0, none⟩) y5).trans x5
      have s8 := Nat.lt_of_lt_of_le s5 b8.size
      have y8 := Nat.lt_of_lt_of_le y5 b8.size
      have R8 := Lib.hid (R5.out.below b8)
      clear b8 k5 c5 s5 x5 y5 R5 HV
      have HSt : Hid (∀ W, Kept w8 W → (W.cell? ⟨bx, 0, none⟩ = some (.slice (some ⟨g4, 0, none⟩) N N) ∧ W.cell? ⟨w.heap.size, 0, none⟩ = some (.slice A N c) ∧ Kept w8 W)) := Lib.hid (fun W h => ⟨(h.cell (p := ⟨bx, 0, none⟩) y8).trans x8, (h.cell (p := ⟨w.heap.size, 0, none⟩) s8).trans c8, h⟩)
      have HK0 := Lib.hid (Kept.drew w8)
      go_wp2_with fail
      go_region_held3 (fun W => W.cell? ⟨bx, 0, none⟩ = some (.slice (some ⟨g4, 0, none⟩) N N) ∧ W.cell? ⟨w.heap.size, 0, none⟩ = some (.slice A N c) ∧ Kept w8 W)
        (first | exact HSt.out _ HK0.out | exact HSt.out _ (by assumption))
        (first
          | (go_at_call 13; refine (eqLib_same (some ⟨g4, 0, none⟩) (some ⟨g6, 0, none⟩) N N N M4 M6 _ (R8.out.below hk6) F6.1 ((len_of_key4 HK4.out).trans HN.out) (HK4.out.trans K6.symm) hN Hm4.out).mono ?_; rintro e w7 ⟨rfl, b7⟩; have hk7 : Kept w8 w7 := Kept.next hk6 b7)
          | (go_at_call 11; refine (toLib_far A c N L _ ((HR.out.below k8).below HK0.out) HN.out hN HSm.out).mono ?_; rintro e w6 ⟨g6, M6, rfl, _, F6, K6, _, b6⟩; have hk6 : Kept w8 w6 := Kept.next HK0.out b6))
      go_wp2_with fail
      go_ret
      exact ⟨rfl, k8.trans (Below.mono hk7 k8.size)⟩
    · have ht : szEl 1048576 L = -1 := by unfold szEl; rw [if_neg hfit]
      rw [ht] at HS
      clear hr hn hx hfit ht hc0
      go_enter Try.func3, Try.ntmps3
      go_wp2_with fail
      refine HS.out.mono ?_
      rintro e w1 ⟨rfl, b1⟩
      go_wp2_with fail
      go_ret
      exact ⟨rfl, HB.out.trans (b1.mono HB.out.size)⟩
  · go_enter Try.func3, Try.ntmps3
    go_wp2_with fail
    go_ret
    exact ⟨rfl, HB.out⟩

set_option maxRecDepth 100000 in
theorem lifted (os : Os) (started : os.Started) (H : Type) (enc : TypeId × Value → H) :
    ReturnsInHanded {} Try.checked os 3 .any (Rows.fnExactFindEntrySpec.pre6 enc Try.prog Try.f3 Rows.fnExactFindEntryRow.domain false) (Rows.fnExactFindEntrySpec.post enc Try.prog Try.f3 false true false false) := by
  refine returnsInHanded_of_change (C := Try.checked) own started (by kernel_rfl) Try.func3
    (ChangeSpec.witness6 (enc := enc) (C := Try.checked) false ⟨#[], #[.agg #[.slice none 0 0], .string ByteArray.empty], []⟩ 8 (by kernel_rfl) (by kernel_rfl) (by kernel_rfl) (by kernel_rfl)) ?_
  intro W base args ds gs before hval0 hW hcnd _
  have hval : ∀ (j : Nat) t v, Try.f3.params[j]? = some t → args[j]? = some v → Value.okWide Try.prog W .any base t v := hval0
  have hW' := hW
  obtain ⟨p, q, hA0, hV, rfl, hfz, hnd⟩ := hW
  have hA : DataW.TrodAll enc Try.prog W 0 (fun _ => true) true Try.f3.params.toList args.toList ds p := hA0
  rw [Try.params3] at hA hval
  obtain ⟨v0, vs0, d0, ds0, p0, q0, hargs, rfl, rfl, h0, r0⟩ := trodAll_cons hA
  obtain ⟨v1, vs1, d1, ds1, p1, q1, rfl, rfl, rfl, h1, r1⟩ := trodAll_cons r0
  obtain ⟨rfl, rfl, rfl⟩ := trodAll_nil r1
  obtain rfl : args = #[v0, v1] := by cases args; simp_all
  obtain ⟨rfl, rfl⟩ := trodVars_none hV
  have k0 := h0
  have lt0 : ∀ x ∈ p0, x.block < W.heap.size := by obtain ⟨m, hm⟩ := k0; exact DataW.trod_lt m _ _ _ hm
  have k1 := h1
  have lt1 : ∀ x ∈ p1, x.block < W.heap.size := by obtain ⟨m, hm⟩ := k1; exact DataW.trod_lt m _ _ _ hm
  obtain ⟨A0, N0, c0, L0, rfl, hr0, hn0, hm0, hx0, _⟩ := open_lib (hval 0 24 v0 rfl rfl) h0
  obtain ⟨s1, rfl, _, _, hs1⟩ := open_string Try.underlying9 (hval 1 9 v1 rfl rfl) h1
  clear hA0 hval0
  refine (walk A0 N0 c0 L0 s1 W hr0 hn0 hm0 hx0 hs1 ).mono fun e W' ⟨he, bel⟩ => ?_
  subst he
  exact ⟨_, rfl, _, _, _, [], _, [], hW', trodAll_mk1 (shut_bool Try.underlying4 _), (trodAll_cons_mk (Below.trod laidOut (by kernel_rfl) (of_decide_eq_true (by kernel_rfl)) k0 bel lt0) (trodAll_cons_mk (Below.trod laidOut (by kernel_rfl) (of_decide_eq_true (by kernel_rfl)) k1 bel lt1) trodAll_mk0)), rfl, bel.frame _, fun h => by cases h⟩

theorem over : Rows.fnExactFindEntryRow.holds Try.pinned (OpenSpec.ofChange Rows.fnExactFindEntrySpec) :=
  OpenClaim.holds_of_wide 3 Try.f3 rfl rfl rfl rfl rfl rfl rfl ⟨rfl, rfl, rfl, rfl, rfl⟩ rfl rfl rfl rfl rfl (by kernel_rfl) Try.func3 (by kernel_rfl)
    (of_decide_eq_true (by kernel_rfl)) (by unfold Func.isWrapper; first | (rw [if_pos (by decide +kernel)]; kernel_rfl) | (rw [if_neg (by decide +kernel)]; exact ⟨rfl, rfl⟩))
    (fun os started H enc _ => lifted os started H enc)

theorem proved : Rows.FnExactFindEntrySaid :=
  over
#print axioms proved
end Go.Proofs.Ytheiammmanpddaa.fnExactFindEntry
