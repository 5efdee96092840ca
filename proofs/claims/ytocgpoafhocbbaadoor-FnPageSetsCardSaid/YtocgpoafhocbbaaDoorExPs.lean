/-
  Proved: for every code of bytes the law FnPageSets returns true; the argument reads as before. The library's tables lie as the program's text and the pinned constants lay them (the card ties them). No further condition.
-/
import Derived.Test.YtocgpoafhocbbaaDoorRows
import Derived.Test.YtocgpoafhocbbaaDoorPgSf
import Derived.Test.YtocgpoafhocbbaaDoorPgDt
import Derived.Test.YtocgpoafhocbbaaDoorPgLo
import Derived.Test.YtocgpoafhocbbaaDoorLaid
import Derived.Test.YtocgpoafhocbbaaDoorOpenB
import Derived.Deep.RegionHeld3
import Derived.WalkKit
import Derived.ProofKit
import Derived.OpenShut
import Derived.ShutString
import Derived.ChangeOld
import Derived.Below
import Derived.Lib.SmallJoins
import Derived.Test.YtocgpoafhocbbaaDoorCards
import Derived.Test.YtocgpoafhocbbaaDoorTie
import Derived.LaidMore
import Derived.Lay
import Derived.SevenTiedAt
import Derived.Stop.Joined
namespace Go.Proofs.YtocgpoafhocbbaaDoor.fnPageSets
open Go.ChangeShapes Go.WideShapes Go.ChangeAt Go.RowKit
open Go.ChangeMaps (open_string shut_string)
open Pl PgPl PgHit Pg PgM PgDr PgLo PgSf Cur Draw0 OpenB
open Num (Tab Tab.below)
open Laid (tab_of)
set_option linter.unusedVariables false
set_option linter.unusedSimpArgs false

theorem own : ownKnob Tryd.prog.godebug = none := by kernel_rfl
theorem laidOut : laidOutB Tryd.prog = true := by kernel_rfl
theorem rBig_any (A : Option Addr) (n c : Nat) (w : World) (r : Bool) (hr : decide (65536 < (n : Int)) = r) : Calls Tryd.prog 4 #[.slice A n c] w fun e w' => e = .returned (.bool r) ∧ w = w' := by
  subst hr
  go_enter Tryd.func4, Tryd.ntmps4
  go_wp2
  go_ret
  exact ⟨rfl, rfl⟩
set_option maxRecDepth 100000 in
set_option maxHeartbeats 8000000 in
theorem walk (A : Option Addr) (n c : Nat) (w : World) (hr : RdB w A n) (ha : Apart A n w.heap.size) (ht : Tab w) :
    Calls Tryd.prog 3 #[.slice A n c] w fun e w' => e = .returned (.bool true) ∧ Below w.heap.size w w' := by
  have HR := Lib.hid hr
  have HA := Lib.hid ha
  have HT := Lib.hid ht
  have HRd := Lib.hid (fun w' (hb : Below w.heap.size w w') => rdb_below hr ha hb)
  have HAp := Lib.hid (fun w' (hb : Below w.heap.size w w') => (fun h a e => Nat.lt_of_lt_of_le (ha h a e) hb.size : Apart A n w'.heap.size))
  clear hr ha ht
  by_cases hbig : 65536 < n
  · go_enter Tryd.func3, Tryd.ntmps3
    go_wp2_with fail
    refine (rBig_any A n c _ true (by simp; omega)).mono ?_
    rintro e w' ⟨rfl, rfl⟩
    go_wp2_with fail
    go_ret
    exact ⟨rfl, Below.refl _ _⟩
  · go_enter Tryd.func3, Tryd.ntmps3
    go_wp2_with fail
    refine (rBig_any A n c _ false (by simp; omega)).mono ?_
    rintro e w' ⟨rfl, rfl⟩
    go_wp2_with fail
    refine (drawMerge_any A n c _ (by omega) HR.out HA.out).mono ?_
    rintro e w1 ⟨Ap, N, cp, L, rfl, hN, h9, hR, b1⟩
    have K1 := Lib.hid b1
    have HL := Lib.hid (fun w' (b : Below w1.heap.size w1 w') => hR.below b)
    have HN := Lib.hid hN
    obtain ⟨z, M, cL, hz, hM, hc, hf⟩ := set_vals L
    have HI := Lib.hid (fun w' (b : Below w1.heap.size w1 w') => merges_i Ap cp N L z M w' (HL.out _ b) HN.out (by omega) hz hM)
    have HSm := Lib.hid (fun w' (b : Below w1.heap.size w1 w') => merges_s Ap cp N L z M w' (HL.out _ b) HN.out (by omega) hz hM)
    have HCt := Lib.hid (fun w' (b : Below w1.heap.size w1 w') => counts_i Ap cp N L z cL w' (HL.out _ b) HN.out (by omega) hz hc)
    have HF := Lib.hid hf
    have hM8 : z = false → M = [] := fun e => by rw [← hM, e]; rfl
    clear b1 hN hR hz hM hc hf HR HA
    go_wp2_with fail
    refine (HI.out _ (Below.refl _ _)).mono ?_
    rintro e w2 ⟨v, rfl, ho, b2⟩
    obtain ⟨Am, cm, rfl, -, hrm, -⟩ := own_rdp ho
    have HM := Lib.hid (fun w' (b : Below w2.heap.size w2 w') => hrm.below b)
    clear ho hrm
    go_wp2_with fail
    refine (HSm.out _ b2).mono ?_
    rintro e w3 ⟨v, rfl, ho, b3⟩
    obtain ⟨Aw, cw, rfl, -, hrw, -⟩ := own_rdp ho
    have HW := Lib.hid (fun w' (b : Below w3.heap.size w3 w') => hrw.below b)
    have k3 := b2.trans (b3.mono b2.size)
    have HE := Lib.hid (fun w' (b : Below w3.heap.size w3 w') (h8 : M.length ≤ 1048576) => same_any Am Aw cm cw M.length M w' (HM.out _ (b3.trans (b.mono b3.size))) (HW.out _ b) rfl h8)
    clear ho hrw HI HSm
    cases z with
    | false =>
      have e := hM8 rfl
      subst e
      clear hM8
      go_wp2_with fail
      refine (HE.out _ (Below.refl _ _) (Nat.zero_le _)).mono ?_
      rintro e w4 ⟨rfl, b4⟩
      go_wp2_with fail
      refine (HE.out _ b4 (Nat.zero_le _)).mono ?_
      rintro e w5 ⟨rfl, b5⟩
      have k5 := K1.out.trans ((k3.trans ((b4.trans (b5.mono b4.size)).mono k3.size)).mono K1.out.size)
      clear b4 b5 k3 HE
      go_wp2_with fail
      go_ret
      exact ⟨rfl, k5⟩
    | true =>
      clear hM8
      obtain ⟨f1, f2, f3, f4, f5⟩ := HF.out rfl
      have HF5 := Lib.hid f5
      have HI2 := Lib.hid (fun w' (b : Below w2.heap.size w2 w') => merges_i Am cm M.length M true M w' (HM.out _ b) rfl (by omega) f1 f2)
      have HC2 := Lib.hid (fun w' (b : Below w2.heap.size w2 w') => counts_i Am cm M.length M true cL w' (HM.out _ b) rfl (by omega) f1 f3)
      have hcc : (cL == cL) = true := by simp
      have hcc2 : (cL != cL) = false := by simp
      clear f1 f2 f3 f5 HF
      go_wp2_with fail
      refine (HE.out _ (Below.refl _ _) (by omega)).mono ?_
      rintro e w4 ⟨rfl, b4⟩
      have k4 := b3.trans (b4.mono b3.size)
      clear HE HW b4 b3 k3
      go_wp2_with fail
      refine (HCt.out _ (b2.trans (k4.mono b2.size))).mono ?_
      rintro e w5 ⟨rfl, b5⟩
      have k5 := k4.trans (b5.mono k4.size)
      clear b5 k4 HCt
      go_wp2_with fail
      refine (HC2.out _ k5).mono ?_
      rintro e w6 ⟨rfl, b6⟩
      have k6 := k5.trans (b6.mono k5.size)
      clear b6 k5 HC2
      go_wp2_with fail
      refine (HI2.out _ k6).mono ?_
      rintro e w7 ⟨v, rfl, ho, b7⟩
      obtain ⟨Aa, ca, rfl, -, hra, -⟩ := own_rdp ho
      have k7 := k6.trans (b7.mono k6.size)
      have HE2 := Lib.hid (same_any Aa Am ca cm M.length M w7 hra (HM.out _ k7) rfl (by omega))
      clear b7 k6 HI2 ho hra
      go_wp2_with fail
      refine HE2.out.mono ?_
      rintro e w8 ⟨rfl, b8⟩
      have k8 := k7.trans (b8.mono k7.size)
      clear b8 k7 HE2
      go_wp2_with fail
      go_loopw [14] (fun i wr => ∃ k : Nat, k ≤ N ∧ i = .int .i64 k ∧ Below w2.heap.size w2 wr) (fun i _ => N - (intOf i).toNat)
      case atStart => exact ⟨0, Nat.zero_le _, rfl, k8⟩
      case round =>
        clear k8
        obtain ⟨k, hk, rfl, hb⟩ := hrel
        by_cases hlt : k < N
        · have hkx : k < L.length := by rw [HN.out]; exact hlt
          obtain ⟨x, hx⟩ : ∃ x, L[k]? = some x := ⟨_, List.getElem?_eq_getElem hkx⟩
          obtain ⟨g1, g2⟩ := HF5.out k x hx
          obtain ⟨l, f, t⟩ := x
          dsimp only at g1 g2
          have HG1 := Lib.hid g1
          have HG2 := Lib.hid g2
          have hb1 := b2.trans (hb.mono b2.size)
          clear g1 g2 hkx
          obtain ⟨g, o, rfl, hg, c0, c1, c2⟩ := (HL.out _ hb1) k ⟨l, f, t⟩ hx
          dsimp only at c0 c1 c2
          have HS : Hid (∀ w', Kp wr w' → ((w'.cell? ⟨g, o + k * 3, none⟩ = some (.string l) ∧ w'.cell? ⟨g, o + k * 3 + 1, none⟩ = some (.int .i64 f)) ∧ Kp wr w')) := Lib.hid (fun w' h => ⟨⟨(h.cell (p := ⟨g, o + k * 3, none⟩) hg).trans c0, (h.cell (p := ⟨g, o + k * 3 + 1, none⟩) hg).trans c1⟩, h⟩)
          have HK0 := Lib.hid (Kp.drew wr)
          have HD := Lib.hid ((HM.out _ hb).below HK0.out)
          clear c0 c1 c2
          go_wp2_with fail
          go_region_held3 (fun w' => (w'.cell? ⟨g, o + k * 3, none⟩ = some (.string l) ∧ w'.cell? ⟨g, o + k * 3 + 1, none⟩ = some (.int .i64 f)) ∧ Kp wr w')
            (first | exact HS.out _ HK0.out | exact HS.out _ (by assumption))
            (first
              | (go_at_call 10; refine (has_i Am cm M.length M l f true true _ HD.out rfl (by omega) HG1.out.1 HG1.out.2).mono ?_; rintro e v1 ⟨rfl, b1⟩; have hk1 : Kp wr v1 := Kp.next HK0.out b1))
          have hbv : Below w2.heap.size w2 v1 := hb.trans (Below.mono hk1 hb.size)
          have hbv1 := b2.trans (hbv.mono b2.size)
          clear HS HK0 HD b1
          (try clear hHeld)
          obtain ⟨g', o', hgo, hg', c0, c1, c2⟩ := (HL.out _ hbv1) k ⟨l, f, t⟩ hx
          cases hgo
          dsimp only at c0 c1 c2
          have HS : Hid (∀ w', Kp v1 w' → ((w'.cell? ⟨g, o + k * 3, none⟩ = some (.string l) ∧ w'.cell? ⟨g, o + k * 3 + 2, none⟩ = some (.int .i64 t)) ∧ Kp v1 w')) := Lib.hid (fun w' h => ⟨⟨(h.cell (p := ⟨g, o + k * 3, none⟩) hg').trans c0, (h.cell (p := ⟨g, o + k * 3 + 2, none⟩) hg').trans c2⟩, h⟩)
          have HK0 := Lib.hid (Kp.drew v1)
          have HD := Lib.hid ((HM.out _ hbv).below HK0.out)
          clear c0 c1 c2 hk1
          go_wp2_with fail
          go_region_held3 (fun w' => (w'.cell? ⟨g, o + k * 3, none⟩ = some (.string l) ∧ w'.cell? ⟨g, o + k * 3 + 2, none⟩ = some (.int .i64 t)) ∧ Kp v1 w')
            (first | exact HS.out _ HK0.out | exact HS.out _ (by assumption))
            (first
              | (go_at_call 10; refine (has_i Am cm M.length M l t true true _ HD.out rfl (by omega) HG2.out.1 HG2.out.2).mono ?_; rintro e v2 ⟨rfl, b1⟩; have hk1 : Kp v1 v2 := Kp.next HK0.out b1))
          have hbz : Below w2.heap.size w2 v2 := hbv.trans (Below.mono hk1 hbv.size)
          clear HS HK0 HD b1 hk1
          (try clear hHeld)
          go_wp2_with fail
          go_roundw
          case rel => exact ⟨k + 1, by omega, by go_num, hbz⟩
          case measure => simp [intOf]; omega
        · have hb1 := K1.out.trans ((b2.trans (hb.mono b2.size)).mono K1.out.size)
          have HDl := Lib.hid (drawLocator_any A n c wr (by omega) (HRd.out _ hb1) (HAp.out _ hb1))
          go_wp2_with fail
          refine HDl.out.mono ?_
          rintro e v1 ⟨s, Aq, Nq, cq, Lq, rfl, hnq, h9q, hrq, c1⟩
          have d1 := hb1.trans (c1.mono hb1.size)
          obtain ⟨zq, hzq⟩ : ∃ zq, locZ s Lq = zq := ⟨_, rfl⟩
          obtain ⟨q, hq⟩ : ∃ q, locS zq s Lq = q := ⟨_, rfl⟩
          have HQI := Lib.hid (fun w' (b : Below v1.heap.size v1 w') => loc_i s Aq cq Nq Lq zq q w' (hrq.below b) hnq (by omega) (HT.out.below (d1.trans (b.mono d1.size))) hzq hq)
          have HQS := Lib.hid (fun w' (b : Below v1.heap.size v1 w') => loc_s s Aq cq Nq Lq zq q w' (hrq.below b) hnq (by omega) hzq hq)
          have hqq : (q.toList == q.toList) = true := by simp
          have hzz : (zq == zq) = true := by simp
          clear hb hb1 HDl hzq hq hnq hrq c1
          go_wp2_with fail
          refine (HQI.out _ (Below.refl _ _)).mono ?_
          rintro e v2 ⟨rfl, c2⟩
          go_wp2_with fail
          refine (HQS.out _ c2).mono ?_
          rintro e v3 ⟨rfl, c3⟩
          have d3 := d1.trans ((c2.trans (c3.mono c2.size)).mono d1.size)
          clear c2 c3 d1 HQI HQS
          go_wp2_with fail
          go_ret
          exact ⟨rfl, d3⟩

set_option maxRecDepth 100000 in
theorem lifted (os : Os) (started : os.Started) (H : Type) (enc : TypeId × Value → H) :
    ReturnsInHanded {} Tryd.checked os 3 .any (fun w args => (Rows.fnPageSetsSpec.pre enc Tryd.prog Tryd.f3 Rows.fnPageSetsRow.domain false w args ∧ laidMetH Tryd.prog Rows.fnPageSetsRow.laid w) ∧ sizedMet enc Tryd.prog Tryd.f3 (OpenSpec.ofChange Rows.fnPageSetsSpec) false w args)
      (Rows.fnPageSetsSpec.post enc Tryd.prog Tryd.f3 false true false false) := by
  refine returnsInHanded_of_change_and (C := Tryd.checked) (X := fun w _ => laidMetH Tryd.prog Rows.fnPageSetsRow.laid w) (fun _ _ _ hh h => h.of_heap hh) own started (by kernel_rfl) Tryd.func3
    (ChangeSpec.witness_shaped (enc := enc) (C := Tryd.checked) (os := os) (X := fun w _ => laidMetH Tryd.prog Rows.fnPageSetsRow.laid w) false (World.laidAll Tryd.prog os Rows.fnPageSetsRow.laid) #[.slice none 0 0] 8 (World.laidAll_os _ _ _)
      (World.shaped_of_ZipB (by kernel_rfl) (by kernel_rfl)) (by kernel_rfl) (by kernel_rfl) (by kernel_rfl)
      (by rw [MakeChecks.laidMetH_plain _ _ _ (by kernel_rfl)]; exact laidMet_laidAll _ (by kernel_rfl) (by kernel_rfl))) ?_
  intro W base args ds gs before hval0 hW hcnd _ hL _
  rw [MakeChecks.laidMetH_plain _ _ _ (by kernel_rfl)] at hL
  have hval : ∀ (j : Nat) t v, Tryd.f3.params[j]? = some t → args[j]? = some v → Value.okWide Tryd.prog W .any base t v := hval0
  have hW' := hW
  obtain ⟨p, q, hA0, hV, rfl, hfz, hnd⟩ := hW
  have hA : DataW.TrodAll enc Tryd.prog W 0 (fun _ => true) true Tryd.f3.params.toList args.toList ds p := hA0
  rw [Tryd.params3] at hA hval
  obtain ⟨v0, vs0, d0, ds0, p0, q0, hargs, rfl, rfl, h0, r0⟩ := trodAll_cons hA
  obtain ⟨rfl, rfl, rfl⟩ := trodAll_nil r0
  obtain rfl : args = #[v0] := by cases args; simp_all
  obtain ⟨rfl, rfl⟩ := trodVars_none hV
  have k0 := h0
  have lt0 : ∀ x ∈ p0, x.block < W.heap.size := by obtain ⟨m, hm⟩ := k0; exact DataW.trod_lt m _ _ _ hm
  obtain ⟨A0, n0, c0, rfl, rd0, ap0⟩ := open_bytes (hval 0 22 v0 rfl rfl) h0
  clear hA0 hval0
  refine (walk A0 n0 c0 W rd0 ap0 (tab_of hL) ).mono fun e W' ⟨he, bel⟩ => ?_
  subst he
  exact ⟨_, rfl, _, _, _, [], _, [], hW', trodAll_mk1 (shut_bool Tryd.underlying4 _), (trodAll_cons_mk (Below.trod laidOut (by kernel_rfl) (of_decide_eq_true (by kernel_rfl)) k0 bel lt0) trodAll_mk0), rfl, bel.frame _, fun h => by cases h⟩

theorem closed : joinedFacts Tryd.pinned.checked.prog 3 Tryd.f3 Rows.fnPageSetsSpec Rows.fnPageSetsRow = true := by kernel_rfl
theorem over : Rows.fnPageSetsRow.holds Tryd.pinned (OpenSpec.ofChange Rows.fnPageSetsSpec) :=
  OpenClaim.holds_of_wide 3 Tryd.f3 rfl rfl rfl rfl rfl rfl rfl ⟨rfl, rfl, rfl, rfl, rfl⟩ rfl rfl rfl rfl rfl (by kernel_rfl) Tryd.func3 closed
    (of_decide_eq_true (by kernel_rfl)) (by unfold Func.isWrapper; first | (rw [if_pos (by decide +kernel)]; kernel_rfl) | (rw [if_neg (by decide +kernel)]; exact ⟨rfl, rfl⟩))
    (fun os started H enc _ => lifted os started H enc)

theorem plain (f : FuncId) (fn : Func) (hf : Tryd.pinned.checked.prog.funcNamed "loop.example/g00896/laws.FnPageSets" = some f) (hfn : Tryd.pinned.checked.prog.funcs[f]? = some fn) :
    false = Tryd.pinned.checked.prog.looks [] ∧ ∀ (j : Nat) t, fn.params[j]? = some t → Tryd.pinned.checked.prog.wantsStandIn t = false := by
  obtain rfl : f = 3 := Option.some.inj ((show Tryd.prog.funcNamed "loop.example/g00896/laws.FnPageSets" = some 3 by kernel_rfl).symm.trans hf) |>.symm
  obtain rfl : fn = Tryd.f3 := (Option.some.inj (Tryd.func3.symm.trans hfn)).symm
  refine ⟨by kernel_rfl, fun j t ht => ?_⟩
  rw [Tryd.params3] at ht
  obtain rfl : t = 22 := by simpa using Array.mem_of_getElem? ht
  exact (show Tryd.prog.wantsStandIn 22 = false by kernel_rfl)

theorem card : Rows.FnPageSetsCardSaid :=
  Claim7.holds_tied_plain_at .later [] _ _ _ _ over (fun _ h => by cases h) (by kernel_rfl) (fun _ h => by cases h) fnPageSets_row_tie rfl ⟨rfl, rfl⟩ (by kernel_rfl) rfl plain (by kernel_rfl)
#print axioms card
end Go.Proofs.YtocgpoafhocbbaaDoor.fnPageSets
