/-
  Proved: for every library and label the law FnExactCitationText returns true: CitationText answers as its model and writes into no argument; the arguments read as before. The library's tables and the names of the months lie as the program's text and the pinned constants lay them (the card ties them). No further condition.
-/
import Derived.Test.YtkkfllhdkaceoaaGreatDoorRows
import Derived.Test.YtkkfllhdkaceoaaGreatDoorGCt
import Derived.Test.YtkkfllhdkaceoaaGreatDoorGLb
import Derived.Test.YtkkfllhdkaceoaaGreatDoorGOp
import Derived.Test.YtkkfllhdkaceoaaGreatDoorNfC
import Derived.Test.YtkkfllhdkaceoaaGreatDoorLaid
import Derived.Deep.RegionHeld3
import Derived.Deep.DeepCutAuto
import Derived.WalkKit
import Derived.ProofKit
import Derived.OpenShut
import Derived.ShutString
import Derived.ChangeOld
import Derived.Below
import Derived.OpenVars
import Derived.ChangeVars
import Derived.Lib.SmallJoins
import Derived.Test.YtkkfllhdkaceoaaGreatDoorCards
import Derived.Test.YtkkfllhdkaceoaaGreatDoorTie
import Derived.LaidMore
import Derived.Lay
import Derived.SevenTiedAt
import Derived.Stop.Joined
namespace Go.Proofs.YtkkfllhdkaceoaaGreatDoor.fnExactCitationText
open Go.ChangeShapes Go.WideShapes Go.ChangeAt Go.RowKit
open Go.ChangeMaps (open_string shut_string)
open Strs Help Name NGood OpenN Nms Jn Ens Lbs OpenE Kpz Lab Cit LaidS Rdf LdPl
open Num (Tab Tab.below)
set_option linter.unusedVariables false
set_option linter.unusedSimpArgs false

theorem gMon : Tryz.prog.globalNamed "loop.example/g00896/impl.monthNames" = some 1 := by kernel_rfl
theorem gMonT : (Tryz.prog.globals[1]?).map (·.type) = some 121 := by kernel_rfl
set_option maxRecDepth 100000 in
set_option maxHeartbeats 16000000 in
theorem walk (A : Option Addr) (N c : Nat) (L : List En) (k : ByteArray) (a b d : Int) (w : World) (hr : RdE w A L) (hn : L.length = N) (hm : N ≤ maxLen) (hx : ∀ x ∈ L, x.Lim) (hs : k.size ≤ maxLen) (ht : Tab w) (hmn : Mon w) :
    Calls Tryz.prog 3 #[.agg #[.slice A N c], lbV k a b d] w fun e w' => e = .returned (.bool true) ∧ Below w.heap.size w w' := by
  have HB : Hid (Kp w ((w.alloc (.cells #[.slice A N c] 24)).alloc (.cells #[.string k, .int .i64 a, .int .i64 b, .int .i64 d] 26))) := Lib.hid (kal (kal (kre _) _) _)
  obtain ⟨_, hc0, hq0, hq1, hq2, hq3, hs1⟩ := boxes2 w (.slice A N c) k a b d 24 26
  have HS := Lib.hid (szLib_any A c N L 1048576 _ (hr.below HB.out) hn hm hx (Nat.le_refl _))
  by_cases hfit : L.length + szEs L ≤ 1048576
  · obtain ⟨t, htt⟩ : ∃ t : Nat, szEl 1048576 L = (t : Int) := ⟨1048576 - L.length - szEs L, by unfold szEl; rw [if_pos hfit]; omega⟩
    have htl : t ≤ 1048576 := by unfold szEl at htt; rw [if_pos hfit] at htt; omega
    rw [htt] at HS
    have hN : N ≤ 1048576 := by omega
    have hZ : ∀ x ∈ L, x.sz ≤ 1048576 := fun x (hx : x ∈ L) => by have := szEs_mem hx; omega
    have hSm := sm_of hr (fun x hx => hZ x hx)
    have HSz := Lib.hid (fun w => szLab k a b d t w hs htl)
    have hlen : ∀ M : List En, M.map En.key4 = L.map En.key4 → M.length = N := fun M hk => (len_of_key4 hk).trans hn
    have HT := Lib.hid (fun (W : World) (k : Kp w W) => toLib_far A c N L W (hr.below k) hn hN hSm)
    have HTl := Lib.hid (fun (W : World) => toLab k a b d W)
    obtain ⟨r0, hr0⟩ : ∃ r, okLab L k a b d = r := ⟨_, rfl⟩
    obtain ⟨t0, ht0⟩ : ∃ r, ctT L k a b d = r := ⟨_, rfl⟩
    have HTb := Lib.hid (fun (W : World) (k : Kp w W) => (⟨ht.below k, hmn.below k⟩ : Tab W ∧ Mon W))
    have HSp : Hid (∀ (g : Nat) (M : List En) (W : World), RdE W (some ⟨g, 0, none⟩) M → M.map En.key4 = L.map En.key4 → Calls Tryz.prog 6 #[.agg #[.slice (some ⟨g, 0, none⟩) N N], lbV k a b d] W fun e w' => e = .returned (.tuple #[.string t0, .bool r0]) ∧ Below W.heap.size W w') := Lib.hid (fun g M W h hk => by
      have h9 := cite_s (some ⟨g, 0, none⟩) N N M k a b d W h (hlen M hk) hN (sz_of h hr hk hZ)
      rw [ctT_k h hr hk, okLab_k hk, ht0, hr0] at h9
      exact h9)
    have HIm : Hid (∀ (g : Nat) (M : List En) (W : World), RdE W (some ⟨g, 0, none⟩) M → M.map En.key4 = L.map En.key4 → Cap M → Tab W ∧ Mon W → Calls Tryz.prog 9 #[.agg #[.slice (some ⟨g, 0, none⟩) N N], lbV k a b d] W fun e w' => e = .returned (.tuple #[.string t0, .bool r0]) ∧ Below W.heap.size W w') := Lib.hid (fun g M W h hk hcp hT => by
      have h9 := cite_i (some ⟨g, 0, none⟩) N N M k a b d W h (hlen M hk) hN (sz_of h hr hk hZ) hcp hT.1 hT.2
      rw [ctT_k h hr hk, okLab_k hk, ht0, hr0] at h9
      exact h9)
    have HQ := Lib.hid (fun (g g' : Nat) (W : World) (M M' : List En) (h : RdE W (some ⟨g, 0, none⟩) M) (h' : RdE W (some ⟨g', 0, none⟩) M') (hk : M.map En.key4 = L.map En.key4) (hk' : M'.map En.key4 = L.map En.key4) (hsm : ∀ x ∈ M, x.Sm) => eqLib_same (some ⟨g, 0, none⟩) (some ⟨g', 0, none⟩) N N N M M' W h h' (hlen M hk) (hk.trans hk'.symm) hN hsm)
    by_cases hks : k.size ≤ t
    · rw [if_pos hks] at HSz
      obtain ⟨t2, ht2⟩ : ∃ t2 : Nat, (t : Int) - k.size = (t2 : Int) := ⟨t - k.size, by omega⟩
      rw [ht2] at HSz
      clear hr hn hx hfit htt hm hZ hSm hlen ht2 hks hs htl hr0 ht0 ht hmn
      go_enter Tryz.func3, Tryz.ntmps3
      go_wp2_with fail
      generalize (w.alloc (.cells #[.slice A N c] 24)).alloc _ = w0 at HB HS hc0 hq0 hq1 hq2 hq3 hs1 ⊢
      have HC : Hid (∀ W, Kp w0 W → W.cell? ⟨w.heap.size, 0, none⟩ = some (.slice A N c) ∧ W.cell? ⟨w.heap.size + 1, 0, none⟩ = some (.string k) ∧ W.cell? ⟨w.heap.size + 1, 1, none⟩ = some (.int .i64 a) ∧ W.cell? ⟨w.heap.size + 1, 2, none⟩ = some (.int .i64 b) ∧ W.cell? ⟨w.heap.size + 1, 3, none⟩ = some (.int .i64 d)) := Lib.hid (fun W h => ⟨(h.cell (p := ⟨w.heap.size, 0, none⟩) (by show w.heap.size < _; omega)).trans hc0, (h.cell (p := ⟨w.heap.size + 1, 0, none⟩) hs1).trans hq0, (h.cell (p := ⟨w.heap.size + 1, 1, none⟩) hs1).trans hq1, (h.cell (p := ⟨w.heap.size + 1, 2, none⟩) hs1).trans hq2, (h.cell (p := ⟨w.heap.size + 1, 3, none⟩) hs1).trans hq3⟩)
      clear hc0 hq0 hq1 hq2 hq3 hs1
      refine HS.out.mono ?_
      rintro e w1 ⟨rfl, k1⟩
      obtain ⟨c1, q0, q1, q2, q3⟩ := HC.out _ k1
      clear HS
      go_wp2_with fail
      refine (HSz.out _).mono ?_
      rintro e w2 ⟨rfl, b2⟩
      have k2 : Kp w0 w2 := ktr k1 b2
      clear b2 k1 c1 q0 q1 q2 q3 HSz
      obtain ⟨c2, q0, q1, q2, q3⟩ := HC.out _ k2
      have HSt : Hid (∀ W, Kept w2 W → (W.cell? ⟨w.heap.size, 0, none⟩ = some (.slice A N c) ∧ W.cell? ⟨w.heap.size + 1, 0, none⟩ = some (.string k) ∧ W.cell? ⟨w.heap.size + 1, 1, none⟩ = some (.int .i64 a) ∧ W.cell? ⟨w.heap.size + 1, 2, none⟩ = some (.int .i64 b) ∧ W.cell? ⟨w.heap.size + 1, 3, none⟩ = some (.int .i64 d) ∧ Kept w2 W)) := Lib.hid (fun W h => ⟨(HC.out _ (ktr k2 h)).1, (HC.out _ (ktr k2 h)).2.1, (HC.out _ (ktr k2 h)).2.2.1, (HC.out _ (ktr k2 h)).2.2.2.1, (HC.out _ (ktr k2 h)).2.2.2.2, h⟩)
      have HK0 := Lib.hid (Kept.drew w2)
      go_wp2_with fail
      go_region_held3 (fun W => W.cell? ⟨w.heap.size, 0, none⟩ = some (.slice A N c) ∧ W.cell? ⟨w.heap.size + 1, 0, none⟩ = some (.string k) ∧ W.cell? ⟨w.heap.size + 1, 1, none⟩ = some (.int .i64 a) ∧ W.cell? ⟨w.heap.size + 1, 2, none⟩ = some (.int .i64 b) ∧ W.cell? ⟨w.heap.size + 1, 3, none⟩ = some (.int .i64 d) ∧ Kept w2 W)
        (first | exact HSt.out _ HK0.out | exact HSt.out _ (by assumption))
        (first
          | (go_at_call 6; refine (HSp.out g3 M3 _ (F3.1.below b4) K3).mono ?_; rintro e w5 ⟨rfl, b5⟩; have hk5 : Kept w2 w5 := Kept.next hk4 b5)
          | (go_at_call 8; refine (HTl.out _).mono ?_; rintro e w4 ⟨rfl, b4⟩; have hk4 : Kept w2 w4 := Kept.next hk3 b4)
          | (go_at_call 7; refine (HT.out _ (ktr HB.out (ktr k2 HK0.out))).mono ?_; rintro e w3 ⟨g3, M3, rfl, _, F3, K3, _, b3⟩; have hk3 : Kept w2 w3 := Kept.next HK0.out b3))
      have k5 : Kp w0 w5 := ktr k2 hk5
      (try clear hHeld)
      clear HSt HK0 c2 q0 q1 q2 q3
      obtain ⟨c5, q0, q1, q2, q3⟩ := HC.out _ k5
      go_wp2_with fail
      refine (HT.out w5 (ktr HB.out k5)).mono ?_
      rintro e w6 ⟨g6, M6, rfl, _, F6, K6, m6, b6⟩
      have HF6 := Lib.hid F6
      have HK6 := Lib.hid K6
      have Hm6 := Lib.hid m6
      have B7 : Kp w6 (w6.alloc (.cells #[.slice (some ⟨g6, 0, none⟩) N N] 33)) := kal (kre _) _
      have x7 := (box1 w6 (.slice (some ⟨g6, 0, none⟩) N N) 33).1
      have y7 : w6.heap.size < (w6.alloc (.cells #[.slice (some ⟨g6, 0, none⟩) N N] 33)).heap.size := by simp
      have k7 := ktr (ktr k5 b6) B7
      clear b6 F6 K6 m6 c5 q0 q1 q2 q3 k5
      go_upto_region 10 with fail
      generalize hW : w6.alloc _ = w7 at k7 x7 y7 B7 ⊢
      clear hW
      have HX : Hid (∀ W, Kp w7 W → W.cell? ⟨w6.heap.size, 0, none⟩ = some (.slice (some ⟨g6, 0, none⟩) N N)) := Lib.hid (fun W h => (h.cell (p := ⟨w6.heap.size, 0, none⟩) y7).trans x7)
      have H67 := Lib.hid B7
      clear y7 B7 x7
      have HSt : Hid (∀ W, Kept w7 W → (W.cell? ⟨w6.heap.size, 0, none⟩ = some (.slice (some ⟨g6, 0, none⟩) N N) ∧ W.cell? ⟨w.heap.size + 1, 0, none⟩ = some (.string k) ∧ W.cell? ⟨w.heap.size + 1, 1, none⟩ = some (.int .i64 a) ∧ W.cell? ⟨w.heap.size + 1, 2, none⟩ = some (.int .i64 b) ∧ W.cell? ⟨w.heap.size + 1, 3, none⟩ = some (.int .i64 d) ∧ Kept w7 W)) := Lib.hid (fun W h => ⟨HX.out _ h, (HC.out _ (ktr k7 h)).2.1, (HC.out _ (ktr k7 h)).2.2.1, (HC.out _ (ktr k7 h)).2.2.2.1, (HC.out _ (ktr k7 h)).2.2.2.2, h⟩)
      have HK0 := Lib.hid (Kept.drew w7)
      go_region_held3 (fun W => W.cell? ⟨w6.heap.size, 0, none⟩ = some (.slice (some ⟨g6, 0, none⟩) N N) ∧ W.cell? ⟨w.heap.size + 1, 0, none⟩ = some (.string k) ∧ W.cell? ⟨w.heap.size + 1, 1, none⟩ = some (.int .i64 a) ∧ W.cell? ⟨w.heap.size + 1, 2, none⟩ = some (.int .i64 b) ∧ W.cell? ⟨w.heap.size + 1, 3, none⟩ = some (.int .i64 d) ∧ Kept w7 W)
        (first | exact HSt.out _ HK0.out | exact HSt.out _ (by assumption))
        (first
          | (go_at_call 9; refine (HIm.out g6 M6 _ ((HF6.out.below (ktr H67.out hk8)).1) HK6.out (cap_of HF6.out) (HTb.out _ (ktr HB.out (ktr k7 hk8)))).mono ?_; rintro e w9 ⟨rfl, b9⟩; have hk9 : Kept w7 w9 := Kept.next hk8 b9)
          | (go_at_call 8; refine (HTl.out _).mono ?_; rintro e w8 ⟨rfl, b8⟩; have hk8 : Kept w7 w8 := Kept.next HK0.out b8))
      have k9 : Kp w0 w9 := ktr k7 hk9
      have b79 : Kp w7 w9 := hk9
      (try clear hHeld)
      clear HSt HK0 k7
      have HSt : Hid (∀ W, Kept w9 W → (W.cell? ⟨w6.heap.size, 0, none⟩ = some (.slice (some ⟨g6, 0, none⟩) N N) ∧ W.cell? ⟨w.heap.size, 0, none⟩ = some (.slice A N c) ∧ Kept w9 W)) := Lib.hid (fun W h => ⟨HX.out _ (ktr b79 h), (HC.out _ (ktr k9 h)).1, h⟩)
      have HK0 := Lib.hid (Kept.drew w9)
      go_wp2_with fail
      go_region_held3 (fun W => W.cell? ⟨w6.heap.size, 0, none⟩ = some (.slice (some ⟨g6, 0, none⟩) N N) ∧ W.cell? ⟨w.heap.size, 0, none⟩ = some (.slice A N c) ∧ Kept w9 W)
        (first | exact HSt.out _ HK0.out | exact HSt.out _ (by assumption))
        (first
          | (go_at_call 10; refine (HQ.out g6 g10 _ M6 M10 (HF6.out.below (ktr H67.out (ktr b79 hk10))).1 F10.1 HK6.out K10 Hm6.out).mono ?_; rintro e w11 ⟨rfl, b11⟩; have hk11 : Kept w9 w11 := Kept.next hk10 b11)
          | (go_at_call 7; refine (HT.out _ (ktr HB.out (ktr k9 HK0.out))).mono ?_; rintro e w10 ⟨g10, M10, rfl, _, F10, K10, _, b10⟩; have hk10 : Kept w9 w10 := Kept.next HK0.out b10))
      go_wp2_with fail
      go_ret
      exact ⟨rfl, ktr HB.out (ktr k9 hk11)⟩
    · rw [if_neg hks] at HSz
      clear hr hn hx hfit htt hm hZ hSm hlen hks hs htl hr0 ht0 ht hmn
      go_enter Tryz.func3, Tryz.ntmps3
      go_wp2_with fail
      generalize (w.alloc (.cells #[.slice A N c] 24)).alloc _ = w0 at HB HS hc0 hq0 hq1 hq2 hq3 hs1 ⊢
      refine HS.out.mono ?_
      rintro e w1 ⟨rfl, k1⟩
      have q0 := (k1.cell (p := ⟨w.heap.size + 1, 0, none⟩) hs1).trans hq0
      have q1 := (k1.cell (p := ⟨w.heap.size + 1, 1, none⟩) hs1).trans hq1
      have q2 := (k1.cell (p := ⟨w.heap.size + 1, 2, none⟩) hs1).trans hq2
      have q3 := (k1.cell (p := ⟨w.heap.size + 1, 3, none⟩) hs1).trans hq3
      clear HS hc0 hq0 hq1 hq2 hq3 hs1
      go_wp2_with fail
      refine (HSz.out _).mono ?_
      rintro e w2 ⟨rfl, b2⟩
      go_wp2_with fail
      go_ret
      exact ⟨rfl, ktr HB.out (ktr k1 b2)⟩
  · have htt : szEl 1048576 L = -1 := by unfold szEl; rw [if_neg hfit]
    rw [htt] at HS
    clear hr hn hx hfit htt hc0 hq0 hq1 hq2 hq3 hs1
    go_enter Tryz.func3, Tryz.ntmps3
    go_wp2_with fail
    refine HS.out.mono ?_
    rintro e w1 ⟨rfl, b1⟩
    go_wp2_with fail
    go_ret
    exact ⟨rfl, ktr HB.out b1⟩


set_option maxRecDepth 100000 in
theorem lifted (os : Os) (started : os.Started) (H : Type) (enc : TypeId × Value → H) :
    ReturnsInHanded {} Tryz.checked os 3 .any (fun w args => (Rows.fnExactCitationTextSpec.pre enc Tryz.prog Tryz.f3 Rows.fnExactCitationTextRow.domain false w args ∧ laidMetH Tryz.prog Rows.fnExactCitationTextRow.laid w) ∧ sizedMet enc Tryz.prog Tryz.f3 (OpenSpec.ofChange Rows.fnExactCitationTextSpec) false w args)
      (Rows.fnExactCitationTextSpec.post enc Tryz.prog Tryz.f3 false true false false) := by
  refine returnsInHanded_of_change_and (C := Tryz.checked) (X := fun w _ => laidMetH Tryz.prog Rows.fnExactCitationTextRow.laid w) (fun _ _ _ hh h => h.of_heap hh) own started (by kernel_rfl) Tryz.func3
    (ChangeSpec.witness_shaped (enc := enc) (C := Tryz.checked) (os := os) (X := fun w _ => laidMetH Tryz.prog Rows.fnExactCitationTextRow.laid w) false (World.laidAll Tryz.prog os Rows.fnExactCitationTextRow.laid) #[.agg #[.slice none 0 0], .agg #[.string ByteArray.empty, .int .i64 0, .int .i64 0, .int .i64 0]] 8 (World.laidAll_os _ _ _)
      (World.shaped_of_ZipB (by kernel_rfl) (by kernel_rfl)) (by kernel_rfl) (by kernel_rfl) (by kernel_rfl)
      (by rw [MakeChecks.laidMetH_plain _ _ _ (by kernel_rfl)]; exact laidMet_laidAll _ (by kernel_rfl) (by kernel_rfl))) ?_
  intro W base args ds gs before hval0 hW hcnd _ hL _
  rw [MakeChecks.laidMetH_plain _ _ _ (by kernel_rfl)] at hL
  have hval : ∀ (j : Nat) t v, Tryz.f3.params[j]? = some t → args[j]? = some v → Value.okWide Tryz.prog W .any base t v := hval0
  have hW' := hW
  obtain ⟨p, q, hA0, hV, rfl, hfz, hnd⟩ := hW
  have hA : DataW.TrodAll enc Tryz.prog W 0 (fun _ => true) true Tryz.f3.params.toList args.toList ds p := hA0
  rw [Tryz.params3] at hA hval
  obtain ⟨v0, vs0, d0, ds0, p0, q0, hargs, rfl, rfl, h0, r0⟩ := trodAll_cons hA
  obtain ⟨v1, vs1, d1, ds1, p1, q1, rfl, rfl, rfl, h1, r1⟩ := trodAll_cons r0
  obtain ⟨rfl, rfl, rfl⟩ := trodAll_nil r1
  obtain rfl : args = #[v0, v1] := by cases args; simp_all
  obtain ⟨_, _, _, _, _, _, rfl, _⟩ := trodVars_one hV
  have k0 := h0
  have lt0 : ∀ x ∈ p0, x.block < W.heap.size := by obtain ⟨m, hm⟩ := k0; exact DataW.trod_lt m _ _ _ hm
  have k1 := h1
  have lt1 : ∀ x ∈ p1, x.block < W.heap.size := by obtain ⟨m, hm⟩ := k1; exact DataW.trod_lt m _ _ _ hm
  obtain ⟨A0, N0, c0, L0, rfl, hr0, hn0, hm0, hx0, _⟩ := open_lib (hval 0 24 v0 rfl rfl) h0
  obtain ⟨lk1, la1, lb1, le1, rfl, hs1⟩ := open_label (hval 1 26 v1 rfl rfl) h1
  clear hA0 hval0
  refine (walk A0 N0 c0 L0 lk1 la1 lb1 le1 W hr0 hn0 hm0 hx0 hs1 (Laid.tab_of hL) (strTab_of_head gMon gMonT Tryz.underlying121 Tryz.underlying9 (by kernel_rfl) (by decide) hL.tail.tail.tail.tail)).mono fun e W' ⟨he, bel⟩ => ?_
  subst he
  exact ⟨_, rfl, _, _, _, [], _, q, hW', trodAll_mk1 (shut_bool Tryz.underlying4 _), (trodAll_cons_mk (Below.trod laidOut (by kernel_rfl) (of_decide_eq_true (by kernel_rfl)) k0 bel lt0) (trodAll_cons_mk (Below.trod laidOut (by kernel_rfl) (of_decide_eq_true (by kernel_rfl)) k1 bel lt1) trodAll_mk0)), bel.trodVars laidOut (by kernel_rfl) hV, bel.frame _, fun h => by cases h⟩

theorem closed : joinedFacts Tryz.pinned.checked.prog 3 Tryz.f3 Rows.fnExactCitationTextSpec Rows.fnExactCitationTextRow = true := by kernel_rfl
theorem over : Rows.fnExactCitationTextRow.holds Tryz.pinned (OpenSpec.ofChange Rows.fnExactCitationTextSpec) :=
  OpenClaim.holds_of_wide 3 Tryz.f3 rfl rfl rfl rfl rfl rfl rfl ⟨rfl, rfl, rfl, rfl, rfl⟩ rfl rfl rfl rfl rfl (by kernel_rfl) Tryz.func3 closed
    (of_decide_eq_true (by kernel_rfl)) (by unfold Func.isWrapper; first | (rw [if_pos (by decide +kernel)]; kernel_rfl) | (rw [if_neg (by decide +kernel)]; exact ⟨rfl, rfl⟩))
    (fun os started H enc _ => lifted os started H enc)

theorem plain (f : FuncId) (fn : Func) (hf : Tryz.pinned.checked.prog.funcNamed "loop.example/g00896/laws.FnExactCitationText" = some f) (hfn : Tryz.pinned.checked.prog.funcs[f]? = some fn) :
    false = Tryz.pinned.checked.prog.looks [] ∧ ∀ (j : Nat) t, fn.params[j]? = some t → Tryz.pinned.checked.prog.wantsStandIn t = false := by
  obtain rfl : f = 3 := Option.some.inj ((show Tryz.prog.funcNamed "loop.example/g00896/laws.FnExactCitationText" = some 3 by kernel_rfl).symm.trans hf) |>.symm
  obtain rfl : fn = Tryz.f3 := (Option.some.inj (Tryz.func3.symm.trans hfn)).symm
  refine ⟨by kernel_rfl, fun j t ht => ?_⟩
  rw [Tryz.params3] at ht
  have hm : t = 26 ∨ t = 24 := by have h9 := Array.mem_of_getElem? ht; simp at h9; first | omega | (rcases h9 with h9 | h9 <;> first | exact .inl h9 | exact .inr h9 ; done) | (rcases h9 with h9 | h9 | h9 <;> first | exact .inl h9 | exact .inr (.inl h9) | exact .inr (.inr h9))
  rcases hm with rfl | rfl
  · exact (show Tryz.prog.wantsStandIn 26 = false by kernel_rfl)
  · exact (show Tryz.prog.wantsStandIn 24 = false by kernel_rfl)

theorem card : Rows.FnExactCitationTextCardSaid :=
  Claim7.holds_tied_plain_at .later [] _ _ _ _ over (fun _ h => by cases h) (by kernel_rfl) (fun _ h => by cases h) fnExactCitationText_row_tie rfl ⟨rfl, rfl⟩ (by kernel_rfl) rfl plain (by kernel_rfl)
#print axioms card
end Go.Proofs.YtkkfllhdkaceoaaGreatDoor.fnExactCitationText
