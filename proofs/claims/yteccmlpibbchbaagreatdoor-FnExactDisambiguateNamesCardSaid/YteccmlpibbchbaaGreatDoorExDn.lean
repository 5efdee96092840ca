/-
  Proved: for every library and limit the law FnExactDisambiguateNames returns true: DisambiguateNames answers as its model, writes into no argument and owns its answer; the arguments read as before. The library's tables and the names of the months lie as the program's text and the pinned constants lay them (the card ties them). No further condition.
-/
import Derived.Test.YteccmlpibbchbaaGreatDoorRows
import Derived.Test.YteccmlpibbchbaaGreatDoorGTe
import Derived.Test.YteccmlpibbchbaaGreatDoorGTm
import Derived.Test.YteccmlpibbchbaaGreatDoorHeld
import Derived.Test.YteccmlpibbchbaaGreatDoorGOp
import Derived.Test.YteccmlpibbchbaaGreatDoorGLb
import Derived.Test.YteccmlpibbchbaaGreatDoorGLs
import Derived.Deep.RegionHeld3
import Derived.Deep.DeepCutAuto
import Derived.WalkKit
import Derived.ProofKit
import Derived.OpenShut
import Derived.ShutString
import Derived.ChangeOld
import Derived.Below
import Derived.OpenVars
import Derived.ChangeVars
import Derived.Lib.SmallJoins
import Derived.Test.YteccmlpibbchbaaGreatDoorCards
import Derived.Test.YteccmlpibbchbaaGreatDoorTie
import Derived.LaidMore
import Derived.Lay
import Derived.SevenTiedAt
import Derived.Stop.Joined
namespace Go.Proofs.YteccmlpibbchbaaGreatDoor.fnExactDisambiguateNames
open Go.ChangeShapes Go.WideShapes Go.ChangeAt Go.RowKit
open Go.ChangeMaps (open_string shut_string)
open Strs Help Name NGood OpenN Nms Jn Ens Lbs OpenE Kpz Lab Lbr La Tdn Cit LaidS Rdf LdPl
open Num (Tab Tab.below)
open Tms (own_tm markLib_tm)
set_option linter.unusedVariables false
set_option linter.unusedSimpArgs false

theorem gMon : Tryz.prog.globalNamed "loop.example/g00896/impl.monthNames" = some 0 := by kernel_rfl
theorem gMonT : (Tryz.prog.globals[0]?).map (·.type) = some 152 := by kernel_rfl
set_option maxRecDepth 100000 in
set_option maxHeartbeats 16000000 in
theorem walk (A : Option Addr) (N c : Nat) (L : List En) (z : Int) (w : World) (hr : RdE w A L) (hn : L.length = N) (hm : N ≤ maxLen) (hx : ∀ x ∈ L, x.Lim) (ht : Tab w) (hmn : Mon w) :
    Calls Tryz.prog 4 #[.agg #[.slice A N c], .int .i64 z] w fun e w' => e = .returned (.bool true) ∧ Below w.heap.size w w' := by
  have HB : Hid (Kp w (w.alloc (.cells #[.slice A N c] 24))) := Lib.hid (kal (kre _) _)
  have hc0 := (box1 w (.slice A N c) 24).1
  have hs0 : w.heap.size < (w.alloc (.cells #[.slice A N c] 24)).heap.size := by simp
  have HS := Lib.hid (szLib_any A c N L 1048576 _ (hr.below HB.out) hn hm hx (Nat.le_refl _))
  by_cases hfit : L.length + szEs L ≤ 1048576
  · obtain ⟨t, htt⟩ : ∃ t : Nat, szEl 1048576 L = (t : Int) := ⟨1048576 - L.length - szEs L, by unfold szEl; rw [if_pos hfit]; omega⟩
    rw [htt] at HS
    have hN : N ≤ 1048576 := by omega
    have hZ : ∀ x ∈ L, x.sz ≤ 1048576 := fun x (hx : x ∈ L) => by have := szEs_mem hx; omega
    have hSm := sm_of hr (fun x hx => hZ x hx)
    obtain ⟨r0, hr0⟩ : ∃ r, asked L z = r := ⟨_, rfl⟩
    obtain ⟨t0, ht0⟩ : ∃ t, dnT L z = t := ⟨_, rfl⟩
    have hXl : t0.length ≤ 1048576 := by rw [← ht0]; have := dnT_len L z; omega
    have hX8 : 1 + 4 * t0.length ≤ 4194304 := by rw [← ht0]; exact dnT_len4 L z
    have hlen : ∀ M : List En, M.map En.key4 = L.map En.key4 → M.length = N := fun M hk => (len_of_key4 hk).trans hn
    have HT := Lib.hid (fun (W : World) (k : Kp w W) => toLib_far A c N L W (hr.below k) hn hN hSm)
    have HSp : Hid (∀ (B : Option Addr) (d : Nat) (W : World) (M : List En), RdE W B M → M.map En.key4 = L.map En.key4 → Calls Tryz.prog 18 #[.agg #[.slice B N d], .int .i64 z] W fun e w' => ∃ v, e = .returned (.tuple #[v, .bool r0]) ∧ w'.ownsRow W.heap.size 53 4 v t0.length (lcells t0) ∧ Kp W w') := Lib.hid (fun B d W M h hk => by
      have h9 := dn_sp B d N M z W h (hlen M hk) hN (sz_of h hr hk hZ)
      unfold DnP at h9
      rw [dnT_k h hr hk z, asked_k z hk, ht0, hr0] at h9
      exact h9)
    have HIm : Hid (∀ (B : Option Addr) (d : Nat) (W : World) (M : List En), RdE W B M → M.map En.key4 = L.map En.key4 → Cap M → Tab W ∧ Mon W → Calls Tryz.prog 19 #[.agg #[.slice B N d], .int .i64 z] W fun e w' => ∃ v, e = .returned (.tuple #[v, .bool r0]) ∧ w'.ownsRow W.heap.size 53 4 v t0.length (lcells t0) ∧ Kp W w') := Lib.hid (fun B d W M h hk hcp hT => by
      have h9 := dn_im B d N M z W h (hlen M hk) hN (sz_of h hr hk hZ) hcp hT.1 hT.2
      unfold DnP at h9
      rw [dnT_k h hr hk z, asked_k z hk, ht0, hr0] at h9
      exact h9)
    have HQ := Lib.hid (fun (g g' : Nat) (W : World) (M M' : List En) (h : RdE W (some ⟨g, 0, none⟩) M) (h' : RdE W (some ⟨g', 0, none⟩) M') (hk : M.map En.key4 = L.map En.key4) (hk' : M'.map En.key4 = L.map En.key4) (hsm : ∀ x ∈ M, x.Sm) => eqLib_same (some ⟨g, 0, none⟩) (some ⟨g', 0, none⟩) N N N M M' W h h' (hlen M hk) (hk.trans hk'.symm) hN hsm)
    have HM : Hid (∀ (b0 b1 g : Nat) (W W0 : World) (M : List En), Tms.Es b0 b1 W (some ⟨g, 0, none⟩) (wds M) → RdE W0 (some ⟨g, 0, none⟩) M → M.map En.key4 = L.map En.key4 → ∃ q : Nat, q ≤ 1073741824 ∧ Calls Tryz.prog 14 #[.agg #[.slice (some ⟨g, 0, none⟩) N N], .int .i64 1] W fun e w' => e = .returned (.int .i64 (q : Int)) ∧ Tms.Tm b0 b1 W w') := Lib.hid (fun b0 b1 g W W0 M hE hR hk => by
      have h1 := wds_cnt hR
      have h2 := hlen M hk
      have h3 := szEs_kk hR hr hk
      exact ⟨_, (by omega : 1 + Tms.cntL (wds M) ≤ 1073741824), markLib_tm b0 b1 (some ⟨g, 0, none⟩) N N 1 _ (wds M) W hE (by rw [wds_len]; exact h2) (by omega) (by omega) rfl⟩)
    have HTb := Lib.hid (fun (W : World) (k : Kp w W) => (⟨ht.below k, hmn.below k⟩ : Tab W ∧ Mon W))
    clear hr hn hx hfit htt hm ht hmn hZ hSm hr0 ht0 hlen
    go_enter Tryz.func4, Tryz.ntmps4
    go_wp2_with fail
    generalize w.alloc (.cells #[.slice A N c] 24) = w0 at HB HS hc0 hs0 ⊢
    have HC : Hid (∀ W, Kp w0 W → W.cell? ⟨w.heap.size, 0, none⟩ = some (.slice A N c)) := Lib.hid (fun W h => (h.cell (p := ⟨w.heap.size, 0, none⟩) hs0).trans hc0)
    clear hc0 hs0
    refine HS.out.mono ?_
    rintro e w1 ⟨rfl, k1⟩
    have c1 := HC.out _ k1
    clear HS
    go_wp2_with fail
    refine (HT.out w1 (ktr HB.out k1)).mono ?_
    rintro e w2 ⟨g2, M2, rfl, -, F2, K2, -, b2⟩
    have k2 := ktr k1 b2
    have HV := Lib.hid (HSp.out (some ⟨g2, 0, none⟩) N w2 M2 F2.1 K2)
    clear b2 F2 K2 k1 c1 HSp
    go_wp2_with fail
    refine HV.out.mono ?_
    rintro e w3 ⟨v0, rfl, o0, b3⟩
    have k3 := ktr k2 b3
    have c3 := HC.out _ k3
    have lo0 := o0.lt
    clear b3 k2 HV
    go_wp2_with fail
    refine (HT.out w3 (ktr HB.out k3)).mono ?_
    rintro e w4 ⟨g4, M4, rfl, hg4, F4, K4, m4, b4⟩
    have k4 := ktr k3 b4
    have o04 := own_kp o0 b4
    have HE4 := Lib.hid (fr_es (b0 := w3.heap.size) (b1 := w4.heap.size) F4 (Nat.le_of_lt hg4) (Nat.le_refl _))
    have HF4 := Lib.hid F4
    have HK4 := Lib.hid K4
    have Hm4 := Lib.hid m4
    have hs34 : w3.heap.size ≤ w4.heap.size := ksz b4
    have B5 : Kp w4 (w4.alloc (.cells #[.slice (some ⟨g4, 0, none⟩) N N] 33)) := kal (kre _) _
    have x5 := (box1 w4 (.slice (some ⟨g4, 0, none⟩) N N) 33).1
    have y5 : w4.heap.size < (w4.alloc (.cells #[.slice (some ⟨g4, 0, none⟩) N N] 33)).heap.size := by simp
    have k5 := ktr k4 B5
    have o05 := own_kp o04 B5
    clear b4 F4 K4 m4 k4 o0 o04 hg4
    go_upto_region 7 with fail
    generalize hW : w4.alloc _ = w5 at k5 x5 y5 o05 B5 ⊢
    clear hW
    have HX : Hid (∀ W, Kp w5 W → W.cell? ⟨w4.heap.size, 0, none⟩ = some (.slice (some ⟨g4, 0, none⟩) N N)) := Lib.hid (fun W h => (h.cell (p := ⟨w4.heap.size, 0, none⟩) y5).trans x5)
    have HV := Lib.hid (HIm.out (some ⟨g4, 0, none⟩) N w5 M4 (HF4.out.below B5).1 HK4.out (cap_of HF4.out) (HTb.out w5 (ktr HB.out k5)))
    have hs45 : w4.heap.size ≤ w5.heap.size := Nat.le_of_lt y5
    have H45 := Lib.hid B5
    clear y5 B5
    go_wp2_with fail
    refine HV.out.mono ?_
    rintro e w8 ⟨v1, rfl, o1, b8⟩
    have k8 := ktr k5 b8
    have lo1 := o1.lt
    have o08 := own_kp o05 b8
    have oap := own_apart o05 o1
    clear k5 x5 HV o05 c3
    go_wp2_with fail
    refine (eqLabs_own o1 o08 hXl).mono ?_
    rintro e w9 ⟨rfl, n1⟩
    have o19 := own_kp o1 n1
    have o09 := own_kp o08 n1
    have k9 := ktr k8 n1
    have b9 := ktr b8 n1
    clear n1
    have c9 := HC.out _ k9
    have x9 := HX.out _ b9
    clear o1 o08 k8 b8
    have HSt : Hid (∀ W, Kept w9 W → (W.cell? ⟨w4.heap.size, 0, none⟩ = some (.slice (some ⟨g4, 0, none⟩) N N) ∧ W.cell? ⟨w.heap.size, 0, none⟩ = some (.slice A N c) ∧ Kept w9 W)) := Lib.hid (fun W h => ⟨HX.out _ (ktr b9 h), HC.out _ (ktr k9 h), h⟩)
    have HK0 := Lib.hid (Kept.drew w9)
    go_wp2_with fail
    go_region_held3 (fun W => W.cell? ⟨w4.heap.size, 0, none⟩ = some (.slice (some ⟨g4, 0, none⟩) N N) ∧ W.cell? ⟨w.heap.size, 0, none⟩ = some (.slice A N c) ∧ Kept w9 W)
      (first | exact HSt.out _ HK0.out | exact HSt.out _ (by assumption))
      (first
        | (go_at_call 12; refine (HQ.out g4 g6 _ M4 M6 (HF4.out.below (ktr H45.out (ktr b9 hk6))).1 F6.1 HK4.out K6 Hm4.out).mono ?_; rintro e w7 ⟨rfl, b7⟩; have hk7 : Kept w9 w7 := Kept.next hk6 b7)
        | (go_at_call 8; refine (HT.out _ (ktr HB.out (ktr k9 HK0.out))).mono ?_; rintro e w6 ⟨g6, M6, rfl, _, F6, K6, _, b6⟩; have hk6 : Kept w9 w6 := Kept.next HK0.out b6))
    have k7 : Kp w0 w7 := ktr k9 hk7
    have b5 : Kp w5 w7 := ktr b9 hk7
    have o17 := own_kp o19 hk7
    have o07 := own_kp o09 hk7
    have x7 := HX.out _ b5
    have k47 := ktr H45.out b5
    obtain ⟨q, hq, hCM⟩ := HM.out w3.heap.size w4.heap.size g4 w7 w4 M4 (HE4.out.tm (Tms.Tm.of_below k47)) HF4.out.1 HK4.out
    have HCM := Lib.hid hCM
    have hqd : decide ((q : Int) < 0) = false := decide_eq_false (by omega)
    (try clear hHeld)
    clear HSt HK0 c9 x9 o19 o09 k9 b9 hCM
    go_wp2_with fail
    refine HCM.out.mono ?_
    rintro e wm ⟨rfl, tm⟩
    have o1m := own_tm o17 tm (fun k hk => .inr (Nat.le_trans hs45 (lo1 k hk).1))
    have o0m := own_tm o07 tm (fun k hk => .inl (lo0 k hk).2)
    have km : Kp w0 wm := Below.trans k7 (tm.below (ksz k3) (ksz k7))
    clear o17 o07 tm x7 HCM k7 k47 b5
    go_wp2_with fail
    refine (eqLabs_own o1m o0m hXl).mono ?_
    rintro e wn ⟨rfl, n2⟩
    have o1n := own_kp o1m n2
    have o0n := own_kp o0m n2
    have kn := ktr km n2
    clear o1m o0m km n2
    go_wp2_with fail
    have hX4 : 1 + 4 * t0.length ≤ 4194304 := hX8
    refine (mark_own _ _ t0 1 _ _ o1n (by decide) hX4).mono ?_
    rintro e w10 ⟨rfl, o1k, g10⟩
    have o0k := o0n.kept g10 oap
    have k10 : Kp w0 w10 := kgr kn g10 (fun k hk => by have := (lo1 k hk).1; have := ksz k3; omega)
    clear o1n o0n g10 kn
    go_wp2_with fail
    refine (held_own o1k (by decide) hX4).mono ?_
    rintro e w11 ⟨rfl, b11⟩
    have o1l := own_kp o1k b11
    have o0l := own_kp o0k b11
    have k11 := ktr k10 b11
    have c11 := HC.out _ k11
    clear o1k o0k b11 k10
    have hpos : ¬ ((1 + 4 * t0.length : Nat) : Int) < 0 := by omega
    have hpos' : decide (((1 + 4 * t0.length : Nat) : Int) < 0) = false := decide_eq_false hpos
    go_wp2_with fail
    refine (HT.out w11 (ktr HB.out k11)).mono ?_
    rintro e w12 ⟨g12, M12, rfl, -, F12, K12, -, b12⟩
    have k12 := ktr k11 b12
    have o1p := own_kp o1l b12
    have o0p := own_kp o0l b12
    have HV := Lib.hid (HIm.out (some ⟨g12, 0, none⟩) N w12 M12 F12.1 K12 (cap_of F12) (HTb.out w12 (ktr HB.out k12)))
    clear b12 k11 o1l o0l F12 K12
    go_wp2_with fail
    refine HV.out.mono ?_
    rintro e w13 ⟨v2, rfl, o2, b13⟩
    have o1q := own_kp o1p b13
    have o0q := own_kp o0p b13
    have k13 := ktr k12 b13
    clear o1p o0p b13 k12 HV
    go_wp2_with fail
    refine (eqLabs_own o2 o0q hXl).mono ?_
    rintro e w14 ⟨rfl, n3⟩
    have o1r := own_kp o1q n3
    have kr := ktr k13 n3
    clear o1q o0q o2 k13 n3
    go_wp2_with fail
    refine (held_own o1r (by decide) hX4).mono ?_
    rintro e w15 ⟨rfl, b15⟩
    have k15 := ktr HB.out (ktr kr b15)
    go_wp2_with fail
    go_ret
    exact ⟨rfl, k15⟩
  · have htt : szEl 1048576 L = -1 := by unfold szEl; rw [if_neg hfit]
    rw [htt] at HS
    clear hr hn hx hfit htt hc0
    go_enter Tryz.func4, Tryz.ntmps4
    go_wp2_with fail
    refine HS.out.mono ?_
    rintro e w1 ⟨rfl, b1⟩
    go_wp2_with fail
    go_ret
    exact ⟨rfl, ktr HB.out b1⟩


set_option maxRecDepth 100000 in
theorem lifted (os : Os) (started : os.Started) (H : Type) (enc : TypeId × Value → H) :
    ReturnsInHanded {} Tryz.checked os 4 .any (fun w args => (Rows.fnExactDisambiguateNamesSpec.pre enc Tryz.prog Tryz.f4 Rows.fnExactDisambiguateNamesRow.domain false w args ∧ laidMetH Tryz.prog Rows.fnExactDisambiguateNamesRow.laid w) ∧ sizedMet enc Tryz.prog Tryz.f4 (OpenSpec.ofChange Rows.fnExactDisambiguateNamesSpec) false w args)
      (Rows.fnExactDisambiguateNamesSpec.post enc Tryz.prog Tryz.f4 false true false false) := by
  refine returnsInHanded_of_change_and (C := Tryz.checked) (X := fun w _ => laidMetH Tryz.prog Rows.fnExactDisambiguateNamesRow.laid w) (fun _ _ _ hh h => h.of_heap hh) own started (by kernel_rfl) Tryz.func4
    (ChangeSpec.witness_shaped (enc := enc) (C := Tryz.checked) (os := os) (X := fun w _ => laidMetH Tryz.prog Rows.fnExactDisambiguateNamesRow.laid w) false (World.laidAll Tryz.prog os Rows.fnExactDisambiguateNamesRow.laid) #[.agg #[.slice none 0 0], .int .i64 0] 8 (World.laidAll_os _ _ _)
      (World.shaped_of_ZipB (by kernel_rfl) (by kernel_rfl)) (by kernel_rfl) (by kernel_rfl) (by kernel_rfl)
      (by rw [MakeChecks.laidMetH_plain _ _ _ (by kernel_rfl)]; exact laidMet_laidAll _ (by kernel_rfl) (by kernel_rfl))) ?_
  intro W base args ds gs before hval0 hW hcnd _ hL _
  rw [MakeChecks.laidMetH_plain _ _ _ (by kernel_rfl)] at hL
  have hval : ∀ (j : Nat) t v, Tryz.f4.params[j]? = some t → args[j]? = some v → Value.okWide Tryz.prog W .any base t v := hval0
  have hW' := hW
  obtain ⟨p, q, hA0, hV, rfl, hfz, hnd⟩ := hW
  have hA : DataW.TrodAll enc Tryz.prog W 0 (fun _ => true) true Tryz.f4.params.toList args.toList ds p := hA0
  rw [Tryz.params4] at hA hval
  obtain ⟨v0, vs0, d0, ds0, p0, q0, hargs, rfl, rfl, h0, r0⟩ := trodAll_cons hA
  obtain ⟨v1, vs1, d1, ds1, p1, q1, rfl, rfl, rfl, h1, r1⟩ := trodAll_cons r0
  obtain ⟨rfl, rfl, rfl⟩ := trodAll_nil r1
  obtain rfl : args = #[v0, v1] := by cases args; simp_all
  obtain ⟨_, _, _, _, _, _, rfl, _⟩ := trodVars_one hV
  have k0 := h0
  have lt0 : ∀ x ∈ p0, x.block < W.heap.size := by obtain ⟨m, hm⟩ := k0; exact DataW.trod_lt m _ _ _ hm
  have k1 := h1
  have lt1 : ∀ x ∈ p1, x.block < W.heap.size := by obtain ⟨m, hm⟩ := k1; exact DataW.trod_lt m _ _ _ hm
  obtain ⟨A0, N0, c0, L0, rfl, hr0, hn0, hm0, hx0, _⟩ := open_lib (hval 0 24 v0 rfl rfl) h0
  obtain ⟨z1, rfl, _, _, _⟩ := open_int Tryz.underlying3 (hval 1 3 v1 rfl rfl) h1
  clear hA0 hval0
  refine (walk A0 N0 c0 L0 z1 W hr0 hn0 hm0 hx0 (Laid.tab_of hL) (strTab_of_head gMon gMonT Tryz.underlying152 Tryz.underlying9 (by kernel_rfl) (by decide) hL.tail.tail.tail.tail)).mono fun e W' ⟨he, bel⟩ => ?_
  subst he
  exact ⟨_, rfl, _, _, _, [], _, q, hW', trodAll_mk1 (shut_bool Tryz.underlying4 _), (trodAll_cons_mk (Below.trod laidOut (by kernel_rfl) (of_decide_eq_true (by kernel_rfl)) k0 bel lt0) (trodAll_cons_mk (Below.trod laidOut (by kernel_rfl) (of_decide_eq_true (by kernel_rfl)) k1 bel lt1) trodAll_mk0)), bel.trodVars laidOut (by kernel_rfl) hV, bel.frame _, fun h => by cases h⟩

theorem closed : joinedFacts Tryz.pinned.checked.prog 4 Tryz.f4 Rows.fnExactDisambiguateNamesSpec Rows.fnExactDisambiguateNamesRow = true := by kernel_rfl
theorem over : Rows.fnExactDisambiguateNamesRow.holds Tryz.pinned (OpenSpec.ofChange Rows.fnExactDisambiguateNamesSpec) :=
  OpenClaim.holds_of_wide 4 Tryz.f4 rfl rfl rfl rfl rfl rfl rfl ⟨rfl, rfl, rfl, rfl, rfl⟩ rfl rfl rfl rfl rfl (by kernel_rfl) Tryz.func4 closed
    (of_decide_eq_true (by kernel_rfl)) (by unfold Func.isWrapper; first | (rw [if_pos (by decide +kernel)]; kernel_rfl) | (rw [if_neg (by decide +kernel)]; exact ⟨rfl, rfl⟩))
    (fun os started H enc _ => lifted os started H enc)

theorem plain (f : FuncId) (fn : Func) (hf : Tryz.pinned.checked.prog.funcNamed "loop.example/g00896/laws.FnExactDisambiguateNames" = some f) (hfn : Tryz.pinned.checked.prog.funcs[f]? = some fn) :
    false = Tryz.pinned.checked.prog.looks [] ∧ ∀ (j : Nat) t, fn.params[j]? = some t → Tryz.pinned.checked.prog.wantsStandIn t = false := by
  obtain rfl : f = 4 := Option.some.inj ((show Tryz.prog.funcNamed "loop.example/g00896/laws.FnExactDisambiguateNames" = some 4 by kernel_rfl).symm.trans hf) |>.symm
  obtain rfl : fn = Tryz.f4 := (Option.some.inj (Tryz.func4.symm.trans hfn)).symm
  refine ⟨by kernel_rfl, fun j t ht => ?_⟩
  rw [Tryz.params4] at ht
  have hm : t = 3 ∨ t = 24 := by have h9 := Array.mem_of_getElem? ht; simp at h9; first | omega | (rcases h9 with h9 | h9 <;> first | exact .inl h9 | exact .inr h9 ; done) | (rcases h9 with h9 | h9 | h9 <;> first | exact .inl h9 | exact .inr (.inl h9) | exact .inr (.inr h9))
  rcases hm with rfl | rfl
  · exact (show Tryz.prog.wantsStandIn 3 = false by kernel_rfl)
  · exact (show Tryz.prog.wantsStandIn 24 = false by kernel_rfl)

theorem card : Rows.FnExactDisambiguateNamesCardSaid :=
  Claim7.holds_tied_plain_at .later [] _ _ _ _ over (fun _ h => by cases h) (by kernel_rfl) (fun _ h => by cases h) fnExactDisambiguateNames_row_tie rfl ⟨rfl, rfl⟩ (by kernel_rfl) rfl plain (by kernel_rfl)
#print axioms card
end Go.Proofs.YteccmlpibbchbaaGreatDoor.fnExactDisambiguateNames
