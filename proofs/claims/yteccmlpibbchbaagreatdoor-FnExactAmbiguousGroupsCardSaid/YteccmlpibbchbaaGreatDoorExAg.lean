/-
  Proved: for every library and list of labels the law FnExactAmbiguousGroups returns true: AmbiguousGroups answers as its model, writes into no argument and owns its answer; the arguments read as before. The library's tables and the names of the months lie as the program's text and the pinned constants lay them (the card ties them). No further condition.
-/
import Derived.Test.YteccmlpibbchbaaGreatDoorRows
import Derived.Test.YteccmlpibbchbaaGreatDoorGAh
import Derived.Test.YteccmlpibbchbaaGreatDoorGTm
import Derived.Test.YteccmlpibbchbaaGreatDoorHeld
import Derived.Test.YteccmlpibbchbaaGreatDoorGOp
import Derived.Test.YteccmlpibbchbaaGreatDoorGLb
import Derived.Test.YteccmlpibbchbaaGreatDoorGLs
import Derived.Deep.RegionHeld3
import Derived.Deep.DeepCutAuto
import Derived.WalkKit
import Derived.ProofKit
import Derived.OpenShut
import Derived.ShutString
import Derived.ChangeOld
import Derived.Below
import Derived.OpenVars
import Derived.ChangeVars
import Derived.Lib.SmallJoins
import Derived.Test.YteccmlpibbchbaaGreatDoorCards
import Derived.Test.YteccmlpibbchbaaGreatDoorTie
import Derived.LaidMore
import Derived.Lay
import Derived.SevenTiedAt
import Derived.Stop.Joined
namespace Go.Proofs.YteccmlpibbchbaaGreatDoor.fnExactAmbiguousGroups
open Go.ChangeShapes Go.WideShapes Go.ChangeAt Go.RowKit
open Go.ChangeMaps (open_string shut_string)
open Strs Help Name NGood OpenN Nms Jn Ens Lbs OpenE Kpz Lab Lbr La Tdn Cit LaidS Rdf LdPl
open Num (Tab Tab.below)
open Tms (own_tm markLib_tm)
set_option linter.unusedVariables false
set_option linter.unusedSimpArgs false

theorem gMon : Tryz.prog.globalNamed "loop.example/g00896/impl.monthNames" = some 0 := by kernel_rfl
theorem gMonT : (Tryz.prog.globals[0]?).map (·.type) = some 152 := by kernel_rfl
theorem cnt2_le8 {C : List (List ByteArray)} (h : ∀ x ∈ C, x.length ≤ 8) : cnt2 C ≤ 8 * C.length := by
  unfold cnt2
  induction C with
  | nil => simp
  | cons x r ih =>
    have h1 := h x (List.mem_cons_self ..)
    have h2 := ih (fun y hy => h y (List.mem_cons_of_mem _ hy))
    simp only [List.map_cons, List.sum_cons, List.length_cons]
    omega
set_option maxRecDepth 100000 in
set_option maxHeartbeats 16000000 in
theorem walk (A : Option Addr) (N c : Nat) (L : List En) (B : Option Addr) (M c' : Nat) (S : List Lb4) (w : World) (hr : RdE w A L) (hn : L.length = N) (hm : N ≤ maxLen) (hx : ∀ x ∈ L, x.Lim) (hrS : RdL w B S) (hnS : S.length = M) (hmS : M ≤ maxLen) (hxS : ∀ x ∈ S, x.k.size ≤ maxLen) (ht : Tab w) (hmn : Mon w) :
    Calls Tryz.prog 3 #[.agg #[.slice A N c], .slice B M c'] w fun e w' => e = .returned (.bool true) ∧ Below w.heap.size w w' := by
  have HB : Hid (Kp w (w.alloc (.cells #[.slice A N c] 24))) := Lib.hid (kal (kre _) _)
  have hc0 := (box1 w (.slice A N c) 24).1
  have hs0 : w.heap.size < (w.alloc (.cells #[.slice A N c] 24)).heap.size := by simp
  have HS := Lib.hid (szLib_any A c N L 1048576 _ (hr.below HB.out) hn hm hx (Nat.le_refl _))
  by_cases hfit : L.length + szEs L ≤ 1048576
  · obtain ⟨t, htt, htl⟩ : ∃ t : Nat, szEl 1048576 L = (t : Int) ∧ t ≤ 1048576 := ⟨1048576 - L.length - szEs L, by unfold szEl; rw [if_pos hfit]; omega, by omega⟩
    rw [htt] at HS
    have HSL := Lib.hid (fun (W : World) (k : Kp w W) => szLabs B c' M S t W (hrS.below k) hnS hmS hxS htl)
    have hN : N ≤ 1048576 := by omega
    have hZ : ∀ x ∈ L, x.sz ≤ 1048576 := fun x (hx : x ∈ L) => by have := szEs_mem hx; omega
    have hSm := sm_of hr (fun x hx => hZ x hx)
    by_cases hfit2 : S.length + lkS S ≤ t
    · obtain ⟨t2, htt2⟩ : ∃ t2 : Nat, szLs t S = (t2 : Int) := ⟨t - S.length - lkS S, by unfold szLs; rw [if_pos hfit2]; omega⟩
      rw [htt2] at HSL
      have hM : M ≤ 1048576 := by omega
      obtain ⟨r0, hr0⟩ : ∃ r, okAg L S = r := ⟨_, rfl⟩
      obtain ⟨t0, ht0⟩ : ∃ t, agT L S = t := ⟨_, rfl⟩
      have hXl0 : t0.length ≤ 8 := by rw [← ht0]; exact (agT_len L S).1
      have hXl : t0.length ≤ 1048576 := by omega
      have hXx : ∀ x ∈ t0, x.length ≤ 1048576 := by rw [← ht0]; exact fun x hx => by have := (agT_len L S).2 x hx; omega
      have hX8 : 1 + cnt2 t0 ≤ 4194304 := by have := cnt2_le8 (C := t0) (by rw [← ht0]; exact (agT_len L S).2); omega
      have hlen : ∀ M : List En, M.map En.key4 = L.map En.key4 → M.length = N := fun M hk => (len_of_key4 hk).trans hn
      have HT := Lib.hid (fun (W : World) (k : Kp w W) => toLib_far A c N L W (hr.below k) hn hN hSm)
      have HTL := Lib.hid (fun (W : World) (k : Kp w W) => toLabs B c' M S W (hrS.below k) hnS hM)
      have HSp : Hid (∀ (B : Option Addr) (d : Nat) (W : World) (Q : List En) (g d' : Nat), RdE W B Q → Q.map En.key4 = L.map En.key4 → RdL W (some ⟨g, 0, none⟩) S → Calls Tryz.prog 7 #[.agg #[.slice B N d], .slice (some ⟨g, 0, none⟩) M d'] W fun e w' => ∃ v, e = .returned (.tuple #[v, .bool r0]) ∧ Gs w' W.heap.size v t0 ∧ Kp W w') := Lib.hid (fun B d W Q g d' h hk hS => by
        have h9 := ag_sp B d N Q (some ⟨g, 0, none⟩) d' M S W h (hlen Q hk) hN (sz_of h hr hk hZ) hS hnS hM
        unfold AgP at h9
        rw [(agT_k h hr hk S).1, (agT_k h hr hk S).2, ht0, hr0] at h9
        exact h9)
      have HIm : Hid (∀ (B : Option Addr) (d : Nat) (W : World) (Q : List En) (g d' : Nat), RdE W B Q → Q.map En.key4 = L.map En.key4 → RdL W (some ⟨g, 0, none⟩) S → Cap Q → Tab W ∧ Mon W → Calls Tryz.prog 10 #[.agg #[.slice B N d], .slice (some ⟨g, 0, none⟩) M d'] W fun e w' => ∃ v, e = .returned (.tuple #[v, .bool r0]) ∧ Gs w' W.heap.size v t0 ∧ Kp W w') := Lib.hid (fun B d W Q g d' h hk hS hcp hT => by
        have h9 := ag_im B d N Q (some ⟨g, 0, none⟩) d' M S W h (hlen Q hk) hN (sz_of h hr hk hZ) hS hnS hM hcp hT.1 hT.2
        unfold AgP at h9
        rw [(agT_k h hr hk S).1, (agT_k h hr hk S).2, ht0, hr0] at h9
        exact h9)
      have HQ := Lib.hid (fun (g g' : Nat) (W : World) (M M' : List En) (h : RdE W (some ⟨g, 0, none⟩) M) (h' : RdE W (some ⟨g', 0, none⟩) M') (hk : M.map En.key4 = L.map En.key4) (hk' : M'.map En.key4 = L.map En.key4) (hsm : ∀ x ∈ M, x.Sm) => eqLib_same (some ⟨g, 0, none⟩) (some ⟨g', 0, none⟩) N N N M M' W h h' (hlen M hk) (hk.trans hk'.symm) hN hsm)
      have HM : Hid (∀ (b0 b1 g : Nat) (W W0 : World) (Q : List En), Tms.Es b0 b1 W (some ⟨g, 0, none⟩) (wds Q) → RdE W0 (some ⟨g, 0, none⟩) Q → Q.map En.key4 = L.map En.key4 → ∃ q : Nat, (0 < q ∧ q + 4 * M ≤ 1073741820) ∧ Calls Tryz.prog 14 #[.agg #[.slice (some ⟨g, 0, none⟩) N N], .int .i64 1] W fun e w' => e = .returned (.int .i64 (q : Int)) ∧ Tms.Tm b0 b1 W w') := Lib.hid (fun b0 b1 g W W0 Q hE hR hk => by
        have h1 := wds_cnt hR
        have h2 := hlen Q hk
        have h3 := szEs_kk hR hr hk
        exact ⟨1 + Tms.cntL (wds Q), ⟨by omega, by omega⟩, markLib_tm b0 b1 (some ⟨g, 0, none⟩) N N 1 _ (wds Q) W hE (by rw [wds_len]; exact h2) (by omega) (by omega) rfl⟩)
      have HTb := Lib.hid (fun (W : World) (k : Kp w W) => (⟨ht.below k, hmn.below k⟩ : Tab W ∧ Mon W))
      clear hr hn hx hfit htt hm ht hmn hZ hSm hr0 ht0 hlen hrS hnS hmS hxS hfit2 htt2 htl
      go_enter Tryz.func3, Tryz.ntmps3
      go_wp2_with fail
      generalize w.alloc (.cells #[.slice A N c] 24) = w0 at HB HS hc0 hs0 ⊢
      have HC : Hid (∀ W, Kp w0 W → W.cell? ⟨w.heap.size, 0, none⟩ = some (.slice A N c)) := Lib.hid (fun W h => (h.cell (p := ⟨w.heap.size, 0, none⟩) hs0).trans hc0)
      clear hc0 hs0
      refine HS.out.mono ?_
      rintro e w1 ⟨rfl, k1⟩
      clear HS
      go_wp2_with fail
      refine (HSL.out w1 (ktr HB.out k1)).mono ?_
      rintro e w1 ⟨rfl, k1b⟩
      have k1 := ktr k1 k1b
      have c1 := HC.out _ k1
      clear HSL k1b
      go_wp2_with fail
      refine (HT.out w1 (ktr HB.out k1)).mono ?_
      rintro e w2 ⟨g2, M2, rfl, -, F2, K2, -, b2⟩
      have k2 := ktr k1 b2
      have HF2 := Lib.hid F2.1
      have HK2 := Lib.hid K2
      clear b2 F2 K2 k1 c1
      go_wp2_with fail
      refine (HTL.out w2 (ktr HB.out k2)).mono ?_
      rintro e w2b ⟨rfl, oS, b2b⟩
      have k2b := ktr k2 b2b
      have HV := Lib.hid (HSp.out (some ⟨g2, 0, none⟩) N w2b M2 w2.heap.size M (HF2.out.below b2b) HK2.out (own_rd oS))
      clear HSp HF2 HK2 oS b2b k2
      go_wp2_with fail
      refine HV.out.mono ?_
      rintro e w3 ⟨v0, rfl, o0, b3⟩
      have k3 := ktr k2b b3
      have c3 := HC.out _ k3
      have HG0 := Lib.hid o0.gr
      clear b3 k2b HV o0
      go_wp2_with fail
      refine (HT.out w3 (ktr HB.out k3)).mono ?_
      rintro e w4 ⟨g4, M4, rfl, hg4, F4, K4, m4, b4⟩
      have k4 := ktr k3 b4
      have HG04 := Lib.hid (HG0.out.kp b4)
      have HE4 := Lib.hid (fr_es (b0 := w3.heap.size) (b1 := w4.heap.size) F4 (Nat.le_of_lt hg4) (Nat.le_refl _))
      have HF4 := Lib.hid F4
      have HK4 := Lib.hid K4
      have Hm4 := Lib.hid m4
      have hs34 : w3.heap.size ≤ w4.heap.size := ksz b4
      have B5 : Kp w4 (w4.alloc (.cells #[.slice (some ⟨g4, 0, none⟩) N N] 33)) := kal (kre _) _
      have x5 := (box1 w4 (.slice (some ⟨g4, 0, none⟩) N N) 33).1
      have y5 : w4.heap.size < (w4.alloc (.cells #[.slice (some ⟨g4, 0, none⟩) N N] 33)).heap.size := by simp
      have k5 := ktr k4 B5
      clear b4 F4 K4 m4 k4 hg4 HG0
      go_upto_region 10 with fail
      generalize hW : w4.alloc _ = w5 at k5 x5 y5 B5 ⊢
      clear hW
      have HX : Hid (∀ W, Kp w5 W → W.cell? ⟨w4.heap.size, 0, none⟩ = some (.slice (some ⟨g4, 0, none⟩) N N)) := Lib.hid (fun W h => (h.cell (p := ⟨w4.heap.size, 0, none⟩) y5).trans x5)
      have HG05 := Lib.hid (HG04.out.kp B5)
      have hs45 : w4.heap.size ≤ w5.heap.size := Nat.le_of_lt y5
      have H45 := Lib.hid B5
      clear y5 B5 x5 HG04
      go_wp2_with fail
      refine (HTL.out w5 (ktr HB.out k5)).mono ?_
      rintro e w6 ⟨rfl, oX, b6⟩
      have k6 := ktr k5 b6
      have HG06 := Lib.hid (HG05.out.kp b6)
      have H56 := Lib.hid b6
      have x6 := HX.out _ b6
      have hs56 : w5.heap.size < w6.heap.size := (oX.lt w5.heap.size rfl).2
      have HV := Lib.hid (HIm.out (some ⟨g4, 0, none⟩) N w6 M4 w5.heap.size M (HF4.out.below (ktr H45.out b6)).1 HK4.out (own_rd oX) (cap_of HF4.out) (HTb.out w6 (ktr HB.out k6)))
      have HOX := Lib.hid oX
      clear oX b6 k5 HG05 c3
      go_wp2_with fail
      refine HV.out.mono ?_
      rintro e w8 ⟨v1, rfl, o1, b8⟩
      have k8 := ktr k6 b8
      have HG1 := Lib.hid o1.gr
      have HG08 := Lib.hid (HG06.out.kp b8)
      have HOX8 := Lib.hid (own_kp HOX.out b8)
      have hs68 := ksz b8
      have H58 := Lib.hid (ktr H56.out b8)
      clear o1 k6 HV b8 HG06 HOX x6 H56
      go_wp2_with fail
      refine (eqSS HG1.out.gs HG08.out.gs hXl hXx).mono ?_
      rintro e w9 ⟨rfl, n1⟩
      have HG19 := Lib.hid (HG1.out.kp n1)
      have HG09 := Lib.hid (HG08.out.kp n1)
      have HOX9 := Lib.hid (own_kp HOX8.out n1)
      have k9 := ktr k8 n1
      have z89 := ksz n1
      have b9 := ktr H58.out n1
      have c9 := HC.out _ k9
      have x9 := HX.out _ b9
      clear n1 k8 HG1 HG08 HOX8 H58
      have HSt : Hid (∀ W, Kept w9 W → (W.cell? ⟨w4.heap.size, 0, none⟩ = some (.slice (some ⟨g4, 0, none⟩) N N) ∧ W.cell? ⟨w.heap.size, 0, none⟩ = some (.slice A N c) ∧ Kept w9 W)) := Lib.hid (fun W h => ⟨HX.out _ (ktr b9 h), HC.out _ (ktr k9 h), h⟩)
      have HK0 := Lib.hid (Kept.drew w9)
      go_wp2_with fail
      go_region_held3 (fun W => W.cell? ⟨w4.heap.size, 0, none⟩ = some (.slice (some ⟨g4, 0, none⟩) N N) ∧ W.cell? ⟨w.heap.size, 0, none⟩ = some (.slice A N c) ∧ Kept w9 W)
        (first | exact HSt.out _ HK0.out | exact HSt.out _ (by assumption))
        (first
          | (go_at_call 12; refine (HQ.out g4 g6 _ M4 M6 (HF4.out.below (ktr H45.out (ktr b9 hk6))).1 F6.1 HK4.out K6 Hm4.out).mono ?_; rintro e w7 ⟨rfl, b7⟩; have hk7 : Kept w9 w7 := Kept.next hk6 b7)
          | (go_at_call 8; refine (HT.out _ (ktr HB.out (ktr k9 HK0.out))).mono ?_; rintro e w6' ⟨g6, M6, rfl, _, F6, K6, _, b6⟩; have hk6 : Kept w9 w6' := Kept.next HK0.out b6))
      have k7 : Kp w0 w7 := ktr k9 hk7
      have b57 : Kp w5 w7 := ktr b9 hk7
      have z97 := ksz hk7
      have HG17 := Lib.hid (HG19.out.kp hk7)
      have HG07 := Lib.hid (HG09.out.kp hk7)
      have HOX7 := Lib.hid (own_kp HOX9.out hk7)
      (try clear hHeld)
      clear HSt HK0 c9 x9 k9 b9 HG19 HG09 HOX9
      go_wp2_with fail
      refine (HTL.out w7 (ktr HB.out k7)).mono ?_
      rintro e wa ⟨rfl, oC, ba⟩
      have HG1a := Lib.hid (HG17.out.kp ba)
      have HG0a := Lib.hid (HG07.out.kp ba)
      have oXa := own_kp HOX7.out ba
      have ka := ktr k7 ba
      have z7a := ksz ba
      have b5a := ktr b57 ba
      clear HG17 HG07 HOX7 k7 b57 ba
      go_wp2_with fail
      refine (eqLabs_own oXa oC hM).mono ?_
      rintro e wb ⟨rfl, nb⟩
      have HG1b := Lib.hid (HG1a.out.kp nb)
      have HG0b := Lib.hid (HG0a.out.kp nb)
      have oXb := own_kp oXa nb
      have kb := ktr ka nb
      have zab := ksz nb
      have b5b := ktr b5a nb
      have xb := HX.out _ b5b
      have k4b := ktr H45.out b5b
      have hszb := ksz b5b
      have h6b : w6.heap.size ≤ wb.heap.size := by omega
      clear HG1a HG0a oXa oC ka b5a nb
      obtain ⟨q, ⟨hq0, hq⟩, hCM⟩ := HM.out w3.heap.size w4.heap.size g4 wb w4 M4 (HE4.out.tm (Tms.Tm.of_below k4b)) HF4.out.1 HK4.out
      have HCM := Lib.hid hCM
      have HOXb := Lib.hid oXb
      clear hCM oXb
      go_wp2_with fail
      refine HCM.out.mono ?_
      rintro e wm ⟨rfl, tm⟩
      have oXm := own_tm HOXb.out tm (fun k hk => .inr (by have h9 : w5.heap.size = k := Option.some.inj hk; omega))
      have HG1m := Lib.hid (HG1b.out.tm tm (.inr (by omega)))
      have HG0m := Lib.hid (HG0b.out.tm tm (.inl (Nat.le_refl _)))
      have km : Kp w0 wm := Below.trans kb (tm.below (ksz k3) (ksz kb))
      have hszm : w5.heap.size ≤ wm.heap.size := Nat.le_trans hszb tm.size
      have h6m : w6.heap.size ≤ wm.heap.size := Nat.le_trans h6b tm.size
      clear HG1b HG0b HOXb tm kb HCM k4b xb b5b
      have HMk := Lib.hid (mark_big _ _ S q M _ oXm hq0 hq)
      clear oXm
      go_wp2_with fail
      refine HMk.out.mono ?_
      rintro e wk ⟨rfl, oXk, gk⟩
      have HG1k := Lib.hid (HG1m.out.far gk (.inl hs56))
      have HG0k := Lib.hid (HG0m.out.far gk (.inr (Nat.le_trans hs34 hs45)))
      have kk : Kp w0 wk := kgr km gk (fun k hk => by have h9 : w5.heap.size = k := Option.some.inj hk; have := ksz k3; omega)
      have hszk : w5.heap.size ≤ wk.heap.size := Nat.le_trans hszm gk.size
      have gksz := gk.size
      have hqp : ¬ ((q + 4 * M : Nat) : Int) < 0 := by omega
      have hqp' : decide (((q + 4 * M : Nat) : Int) < 0) = false := decide_eq_false hqp
      clear HG1m HG0m km gk oXk HMk
      have h6k : w6.heap.size ≤ wk.heap.size := Nat.le_trans h6m gksz
      go_wp2_with fail
      refine (eqSS HG1k.out.gs HG0k.out.gs hXl hXx).mono ?_
      rintro e wn ⟨rfl, n2⟩
      have HG1n := Lib.hid (HG1k.out.kp n2)
      have HG0n := Lib.hid (HG0k.out.kp n2)
      have kn := ktr kk n2
      have h6n : w6.heap.size ≤ wn.heap.size := Nat.le_trans h6k (ksz n2)
      clear HG1k HG0k kk n2
      go_wp2_with fail
      refine (markSS _ _ t0 1 t0.length _ HG1n.out.gs rfl hXl (by decide) hX8 h6n).mono ?_
      rintro e w10 ⟨rfl, o1k, b10⟩
      have HG0p := Lib.hid (HG0n.out.below b10 (by omega))
      have HO1k := Lib.hid o1k
      have k10 : Kp w0 w10 := Below.trans kn (b10.mono (by have := ksz k3; omega))
      clear HG1n HG0n kn b10 o1k
      go_wp2_with fail
      refine (heldSS _ _ t0 1 t0.length _ HO1k.out rfl hXl (by decide) hX8).mono ?_
      rintro e w11 ⟨rfl, b11⟩
      have HO1l := Lib.hid (HO1k.out.kp b11)
      have HG0l := Lib.hid (HG0p.out.kp b11)
      have k11 := ktr k10 b11
      have c11 := HC.out _ k11
      clear HO1k HG0p b11 k10
      have hpos : ¬ ((1 + cnt2 t0 : Nat) : Int) < 0 := by omega
      have hpos' : decide (((1 + cnt2 t0 : Nat) : Int) < 0) = false := decide_eq_false hpos
      go_wp2_with fail
      refine (HT.out w11 (ktr HB.out k11)).mono ?_
      rintro e w12 ⟨g12, M12, rfl, -, F12, K12, -, b12⟩
      have k12 := ktr k11 b12
      have HO1p := Lib.hid (HO1l.out.kp b12)
      have HG0q := Lib.hid (HG0l.out.kp b12)
      have HF12 := Lib.hid F12
      have HK12 := Lib.hid K12
      clear b12 k11 HO1l HG0l F12 K12
      go_wp2_with fail
      refine (HTL.out w12 (ktr HB.out k12)).mono ?_
      rintro e w12b ⟨rfl, oS2, b12b⟩
      have k12b := ktr k12 b12b
      have HO1r := Lib.hid (HO1p.out.kp b12b)
      have HG0r := Lib.hid (HG0q.out.kp b12b)
      have HV := Lib.hid (HIm.out (some ⟨g12, 0, none⟩) N w12b M12 w12.heap.size M (HF12.out.below b12b).1 HK12.out (own_rd oS2) (cap_of HF12.out) (HTb.out w12b (ktr HB.out k12b)))
      clear b12b HO1p HG0q k12 oS2
      go_wp2_with fail
      refine HV.out.mono ?_
      rintro e w13 ⟨v2, rfl, o2, b13⟩
      have HO1s := Lib.hid (HO1r.out.kp b13)
      have HG0s := Lib.hid (HG0r.out.kp b13)
      have HO2 := Lib.hid o2
      have k13 := ktr k12b b13
      clear HO1r HG0r b13 k12b HV o2
      go_wp2_with fail
      refine (eqSS HO2.out HG0s.out.gs hXl hXx).mono ?_
      rintro e w14 ⟨rfl, n3⟩
      have HO1t := Lib.hid (HO1s.out.kp n3)
      have kr := ktr k13 n3
      clear HO1s HG0s HO2 k13 n3
      go_wp2_with fail
      refine (heldSS _ _ t0 1 t0.length _ HO1t.out rfl hXl (by decide) hX8).mono ?_
      rintro e w15 ⟨rfl, b15⟩
      have k15 := ktr HB.out (ktr kr b15)
      go_wp2_with fail
      go_ret
      exact ⟨rfl, k15⟩
    · have htt2 : szLs t S = -1 := by unfold szLs; rw [if_neg hfit2]
      rw [htt2] at HSL
      clear hr hn hx hfit htt hc0 hrS hnS hmS hxS hfit2 htt2 hSm hZ
      go_enter Tryz.func3, Tryz.ntmps3
      go_wp2_with fail
      refine HS.out.mono ?_
      rintro e w1 ⟨rfl, b1⟩
      have k1 := ktr HB.out b1
      go_wp2_with fail
      refine (HSL.out _ k1).mono ?_
      rintro e w2 ⟨rfl, b2⟩
      go_wp2_with fail
      go_ret
      exact ⟨rfl, ktr k1 b2⟩
  · have htt : szEl 1048576 L = -1 := by unfold szEl; rw [if_neg hfit]
    rw [htt] at HS
    clear hr hn hx hfit htt hc0 hrS hnS hmS hxS
    go_enter Tryz.func3, Tryz.ntmps3
    go_wp2_with fail
    refine HS.out.mono ?_
    rintro e w1 ⟨rfl, b1⟩
    go_wp2_with fail
    go_ret
    exact ⟨rfl, ktr HB.out b1⟩

set_option maxRecDepth 100000 in
theorem lifted (os : Os) (started : os.Started) (H : Type) (enc : TypeId × Value → H) :
    ReturnsInHanded {} Tryz.checked os 3 .any (fun w args => (Rows.fnExactAmbiguousGroupsSpec.pre enc Tryz.prog Tryz.f3 Rows.fnExactAmbiguousGroupsRow.domain false w args ∧ laidMetH Tryz.prog Rows.fnExactAmbiguousGroupsRow.laid w) ∧ sizedMet enc Tryz.prog Tryz.f3 (OpenSpec.ofChange Rows.fnExactAmbiguousGroupsSpec) false w args)
      (Rows.fnExactAmbiguousGroupsSpec.post enc Tryz.prog Tryz.f3 false true false false) := by
  refine returnsInHanded_of_change_and (C := Tryz.checked) (X := fun w _ => laidMetH Tryz.prog Rows.fnExactAmbiguousGroupsRow.laid w) (fun _ _ _ hh h => h.of_heap hh) own started (by kernel_rfl) Tryz.func3
    (ChangeSpec.witness_shaped (enc := enc) (C := Tryz.checked) (os := os) (X := fun w _ => laidMetH Tryz.prog Rows.fnExactAmbiguousGroupsRow.laid w) false (World.laidAll Tryz.prog os Rows.fnExactAmbiguousGroupsRow.laid) #[.agg #[.slice none 0 0], .slice none 0 0] 8 (World.laidAll_os _ _ _)
      (World.shaped_of_ZipB (by kernel_rfl) (by kernel_rfl)) (by kernel_rfl) (by kernel_rfl) (by kernel_rfl)
      (by rw [MakeChecks.laidMetH_plain _ _ _ (by kernel_rfl)]; exact laidMet_laidAll _ (by kernel_rfl) (by kernel_rfl))) ?_
  intro W base args ds gs before hval0 hW hcnd _ hL _
  rw [MakeChecks.laidMetH_plain _ _ _ (by kernel_rfl)] at hL
  have hval : ∀ (j : Nat) t v, Tryz.f3.params[j]? = some t → args[j]? = some v → Value.okWide Tryz.prog W .any base t v := hval0
  have hW' := hW
  obtain ⟨p, q, hA0, hV, rfl, hfz, hnd⟩ := hW
  have hA : DataW.TrodAll enc Tryz.prog W 0 (fun _ => true) true Tryz.f3.params.toList args.toList ds p := hA0
  rw [Tryz.params3] at hA hval
  obtain ⟨v0, vs0, d0, ds0, p0, q0, hargs, rfl, rfl, h0, r0⟩ := trodAll_cons hA
  obtain ⟨v1, vs1, d1, ds1, p1, q1, rfl, rfl, rfl, h1, r1⟩ := trodAll_cons r0
  obtain ⟨rfl, rfl, rfl⟩ := trodAll_nil r1
  obtain rfl : args = #[v0, v1] := by cases args; simp_all
  obtain ⟨_, _, _, _, _, _, rfl, _⟩ := trodVars_one hV
  have k0 := h0
  have lt0 : ∀ x ∈ p0, x.block < W.heap.size := by obtain ⟨m, hm⟩ := k0; exact DataW.trod_lt m _ _ _ hm
  have k1 := h1
  have lt1 : ∀ x ∈ p1, x.block < W.heap.size := by obtain ⟨m, hm⟩ := k1; exact DataW.trod_lt m _ _ _ hm
  obtain ⟨A0, N0, c0, L0, rfl, hr0, hn0, hm0, hx0, _⟩ := open_lib (hval 0 24 v0 rfl rfl) h0
  obtain ⟨A1, N1, c1, L1, rfl, hr1, hn1, hm1, hx1, _⟩ := open_labels (hval 1 25 v1 rfl rfl) h1
  clear hA0 hval0
  refine (walk A0 N0 c0 L0 A1 N1 c1 L1 W hr0 hn0 hm0 hx0 hr1 hn1 hm1 hx1 (Laid.tab_of hL) (strTab_of_head gMon gMonT Tryz.underlying152 Tryz.underlying9 (by kernel_rfl) (by decide) hL.tail.tail.tail.tail)).mono fun e W' ⟨he, bel⟩ => ?_
  subst he
  exact ⟨_, rfl, _, _, _, [], _, q, hW', trodAll_mk1 (shut_bool Tryz.underlying4 _), (trodAll_cons_mk (Below.trod laidOut (by kernel_rfl) (of_decide_eq_true (by kernel_rfl)) k0 bel lt0) (trodAll_cons_mk (Below.trod laidOut (by kernel_rfl) (of_decide_eq_true (by kernel_rfl)) k1 bel lt1) trodAll_mk0)), bel.trodVars laidOut (by kernel_rfl) hV, bel.frame _, fun h => by cases h⟩

theorem closed : joinedFacts Tryz.pinned.checked.prog 3 Tryz.f3 Rows.fnExactAmbiguousGroupsSpec Rows.fnExactAmbiguousGroupsRow = true := by kernel_rfl
theorem over : Rows.fnExactAmbiguousGroupsRow.holds Tryz.pinned (OpenSpec.ofChange Rows.fnExactAmbiguousGroupsSpec) :=
  OpenClaim.holds_of_wide 3 Tryz.f3 rfl rfl rfl rfl rfl rfl rfl ⟨rfl, rfl, rfl, rfl, rfl⟩ rfl rfl rfl rfl rfl (by kernel_rfl) Tryz.func3 closed
    (of_decide_eq_true (by kernel_rfl)) (by unfold Func.isWrapper; first | (rw [if_pos (by decide +kernel)]; kernel_rfl) | (rw [if_neg (by decide +kernel)]; exact ⟨rfl, rfl⟩))
    (fun os started H enc _ => lifted os started H enc)

theorem plain (f : FuncId) (fn : Func) (hf : Tryz.pinned.checked.prog.funcNamed "loop.example/g00896/laws.FnExactAmbiguousGroups" = some f) (hfn : Tryz.pinned.checked.prog.funcs[f]? = some fn) :
    false = Tryz.pinned.checked.prog.looks [] ∧ ∀ (j : Nat) t, fn.params[j]? = some t → Tryz.pinned.checked.prog.wantsStandIn t = false := by
  obtain rfl : f = 3 := Option.some.inj ((show Tryz.prog.funcNamed "loop.example/g00896/laws.FnExactAmbiguousGroups" = some 3 by kernel_rfl).symm.trans hf) |>.symm
  obtain rfl : fn = Tryz.f3 := (Option.some.inj (Tryz.func3.symm.trans hfn)).symm
  refine ⟨by kernel_rfl, fun j t ht => ?_⟩
  rw [Tryz.params3] at ht
  have hm : t = 25 ∨ t = 24 := by have h9 := Array.mem_of_getElem? ht; simp at h9; first | omega | (rcases h9 with h9 | h9 <;> first | exact .inl h9 | exact .inr h9 ; done) | (rcases h9 with h9 | h9 | h9 <;> first | exact .inl h9 | exact .inr (.inl h9) | exact .inr (.inr h9))
  rcases hm with rfl | rfl
  · exact (show Tryz.prog.wantsStandIn 25 = false by kernel_rfl)
  · exact (show Tryz.prog.wantsStandIn 24 = false by kernel_rfl)

theorem card : Rows.FnExactAmbiguousGroupsCardSaid :=
  Claim7.holds_tied_plain_at .later [] _ _ _ _ over (fun _ h => by cases h) (by kernel_rfl) (fun _ h => by cases h) fnExactAmbiguousGroups_row_tie rfl ⟨rfl, rfl⟩ (by kernel_rfl) rfl plain (by kernel_rfl)
#print axioms card
end Go.Proofs.YteccmlpibbchbaaGreatDoor.fnExactAmbiguousGroups
