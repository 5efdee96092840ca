/-
  Proved: for every code of bytes the law FnDateForms returns true; the argument reads as before. The library's tables and its errors lie as the program's text and the pinned constants lay them (the card ties them). No further condition.
-/
import Derived.Test.YtlhkfhgnlopejaaDoorRows
import Derived.Test.YtlhkfhgnlopejaaDoorDfV
import Derived.Test.YtlhkfhgnlopejaaDoorDt2v
import Derived.Test.YtlhkfhgnlopejaaDoorLaid5
import Derived.Test.YtlhkfhgnlopejaaDoorOpenB
import Derived.WalkKit
import Derived.ProofKit
import Derived.OpenShut
import Derived.ShutString
import Derived.ChangeOld
import Derived.Below
import Derived.IntWalk
import Derived.Lib.SmallJoins
import Derived.Test.YtlhkfhgnlopejaaDoorCards
import Derived.Test.YtlhkfhgnlopejaaDoorTie
import Derived.LaidMore
import Derived.Lay
import Derived.SevenTiedAt
import Derived.Stop.Joined
namespace Go.Proofs.YtlhkfhgnlopejaaDoor.fnDateForms
open Go.ChangeShapes Go.WideShapes Go.ChangeAt Go.RowKit
open Go.ChangeMaps (open_string shut_string)
open Pl DtPl Dt DtTx Num Cur Draw0 DtD DfV OpenB
set_option linter.unusedVariables false
set_option linter.unusedSimpArgs false

theorem own : ownKnob Tryd.prog.godebug = none := by kernel_rfl
theorem laidOut : laidOutB Tryd.prog = true := by kernel_rfl
set_option maxRecDepth 100000 in
set_option maxHeartbeats 16000000 in
theorem walk (A : Option Addr) (n c : Nat) (w : World) (hr : RdB w A n) (ha : Apart A n w.heap.size) (ht : Tab w) (he : Read.Errs w) :
    Calls Tryd.prog 3 #[.slice A n c] w fun e w' => e = .returned (.bool true) ∧ Below w.heap.size w w' := by
  have HR := Lib.hid hr
  have HA := Lib.hid ha
  have HT := Lib.hid ht
  have HEr := Lib.hid he
  clear hr ha ht he
  by_cases hbig : 65536 < n
  · go_enter Tryd.func3, Tryd.ntmps3
    go_wp2_with fail
    refine (vBig_any A n c _ true (by simp; omega)).mono ?_
    rintro e w' ⟨rfl, rfl⟩
    go_wp2_with fail
    go_ret
    exact ⟨rfl, Below.refl _ _⟩
  · have hn : n ≤ 65536 := by omega
    clear hbig
    go_enter Tryd.func3, Tryd.ntmps3
    go_wp2_with fail
    refine (vBig_any A n c _ false (by simp; omega)).mono ?_
    rintro e w' ⟨rfl, rfl⟩
    have HDp := Lib.hid (fun w' (h : Below w.heap.size w w') => drawParse A n c w' hn (rdb_below HR.out HA.out h) (fun hp a ha => Nat.lt_of_lt_of_le (HA.out hp a ha) h.size))
    have HDc := Lib.hid (fun w' (h : Below w.heap.size w w') => drawCompare A n c w' hn (rdb_below HR.out HA.out h) (fun hp a ha => Nat.lt_of_lt_of_le (HA.out hp a ha) h.size))
    have HPd := Lib.hid (fun (t : ByteArray) w' (h : Below w.heap.size w w') (hz : t.size ≤ 100) => Pd.implParse t w' (by omega) (HT.out.below h) (HEr.out.below h))
    have HTb := Lib.hid (fun w' (h : Below w.heap.size w w') => HT.out.below h)
    go_wp2_with fail
    refine (drawFormat A n c _ hn HR.out HA.out).mono ?_
    rintro e w1 ⟨y, m, d, ci, rfl, k1⟩
    obtain ⟨s, r, hro, hsz, hF, hs1⟩ := fmt_at y m d ci
    have HF := Lib.hid hF
    have HV := Lib.hid (fun w' => sValid y m d ci r w' hro)
    have HS1 := Lib.hid hs1
    have HRo := Lib.hid hro
    obtain ⟨self, ly, lm, ld, lc, hy, hm, hd, hc, four, inside, five, order, six, v1, v2, v3, v4, v5, v6⟩ := bd_vals y m d ci r hro
    have HV1 := Lib.hid v1
    have HV2 := Lib.hid v2
    have HV3 := Lib.hid v3
    have HV4 := Lib.hid v4
    have HV5 := Lib.hid v5
    have HV6 := Lib.hid v6
    clear HR HA HT HEr hF hs1 hro v1 v2 v3 v4 v5 v6
    have hk1 := box_below w1 (.cells #[.int .i64 y, .int .i64 m, .int .i64 d, .bool ci] 25)
    have k2 := k1.trans (hk1.mono k1.size)
    have HN := Lib.hid (D4.new w1 y m d ci 25)
    clear hk1 k1
    go_wp2_with fail
    refine (HF.out _ (HTb.out _ k2)).mono ?_
    rintro e w2 ⟨rfl, b2⟩
    have k3 := k2.trans (b2.mono k2.size)
    have HN2 := Lib.hid (HN.out.below b2)
    clear b2 k2 HN
    go_wp2_with fail
    refine (HPd.out s _ k3 hsz).mono ?_
    rintro e w3 ⟨v, hv, rfl, b3⟩
    obtain ⟨y2, m2, d2, c2, r2, rfl, hv1, -⟩ := ans_at hv
    have k4 := k3.trans (b3.mono k3.size)
    have HN3 := Lib.hid (HN2.out.below b3)
    have HP := Lib.hid (fun h => hv1 y m d ci (HRo.out.trans h) (HS1.out h))
    clear b3 k3 HN2 hv hv1 HS1 HRo
    have hk4 := box_below w3 (.cells #[.int .i64 y2, .int .i64 m2, .int .i64 d2, .bool c2] 25)
    have k5 := k4.trans (hk4.mono k4.size)
    have HQ := Lib.hid (D4.new w3 y2 m2 d2 c2 25)
    have HN4 := Lib.hid (HN3.out.below hk4)
    clear hk4 k4 HN3
    go_upto_region 6 with fail
    generalize hW : w3.alloc _ = w4 at HQ HN4 k5 ⊢
    clear hW
    generalize w1.heap.size = bn at *
    generalize w3.heap.size = bq at *
    go_cut [59] (fun s59 wx => s59 = .bool false ∧ Hid (Below w4.heap.size w4 wx))
    case first =>
      obtain ⟨al, a0, a1, a2, a3⟩ := HN4.out
      go_wp2_with fail
      clear al a0 a1 a2 a3
      refine (HV.out _).mono ?_
      rintro e w5 ⟨rfl, b4⟩
      obtain ⟨al, a0, a1, a2, a3⟩ := HN4.out.below b4
      obtain ⟨bl, q0, q1, q2, q3⟩ := HQ.out.below b4
      have HB4 := Lib.hid b4
      clear b4 HV1 HV2 HV3 HV4 HV5 HV6 HDp HDc HPd HTb HN4 HQ HF HV
      cases r with
      | false =>
        clear HP
        go_wp2_with fail
        go_meet
        exact ⟨rfl, HB4⟩
      | true =>
        obtain ⟨rfl, rfl, rfl, rfl, rfl⟩ := HP.out rfl
        clear HP
        go_wp2_with fail
        go_meet
        exact ⟨rfl, HB4⟩
    case rest =>
      obtain ⟨rfl, HB4⟩ := hcut
      have k6 := k5.trans (HB4.out.mono k5.size)
      have HN5 := Lib.hid (HN4.out.below HB4.out)
      clear HB4 k5 HN4 HQ HF HV hsz HP
      go_wp2_with fail
      refine (HDp.out _ k6).mono ?_
      rintro e w5 ⟨t, rfl, htz, b5⟩
      have k7 := k6.trans (b5.mono k6.size)
      have HN6 := Lib.hid (HN5.out.below b5)
      clear b5 k6 HN5 HDp
      go_wp2_with fail
      refine (HPd.out t _ k7 htz).mono ?_
      rintro e w6 ⟨v, hv, rfl, b6⟩
      obtain ⟨y3, m3, d3, c3, r3, rfl, -, hv2⟩ := ans_at hv
      have k8 := k7.trans (b6.mono k7.size)
      have HN7 := Lib.hid (HN6.out.below b6)
      obtain ⟨t2, r9, hr9, -, hF9, ht2⟩ := fmt_at y3 m3 d3 c3
      have H2 : Hid (r3 = true → t2 = t ∧ r9 = true) := Lib.hid (fun h => by
      obtain ⟨g1, g2⟩ := hv2 h
      have g3 := hr9.symm.trans g1
      exact ⟨(ht2 g3).trans g2.symm, g3⟩)
      have hk6 := box_below w6 (.cells #[.int .i64 y3, .int .i64 m3, .int .i64 d3, .bool c3] 25)
      have HF9 := Lib.hid (hF9 _ (HTb.out _ (k8.trans (hk6.mono k8.size))))
      have k9 := k8.trans (hk6.mono k8.size)
      have HN8 := Lib.hid (HN7.out.below hk6)
      have htt : (t.toList == t.toList) = true := by simp
      have htt' : (t.toList != t.toList) = false := by simp
      clear b6 k7 k8 HN6 HN7 hk6 hv hv2 hF9 hr9 ht2 htz HPd HTb
      go_wp2_with fail
      refine HF9.out.mono ?_
      rintro e w7 ⟨rfl, b7⟩
      have k10 := k9.trans (b7.mono k9.size)
      have HN9 := Lib.hid (HN8.out.below b7)
      clear b7 k9 HN8 HF9
      go_upto_region 11 with fail
      go_cut [81] (fun s81 wx => s81 = .bool false ∧ wx = w7)
      case first =>
        clear HV1 HV2 HV3 HV4 HV5 HV6 HDc HN9
        cases r3
        all_goals
          first | (obtain ⟨rfl, rfl⟩ := H2.out rfl) | skip
          go_wp2_with fail
          go_meet
          exact ⟨rfl, rfl⟩
      case rest =>
        obtain ⟨rfl, hwc⟩ := hcut
        rw [hwc]
        clear hwc H2
        go_wp2_with fail
        refine (HDc.out _ k10).mono ?_
        rintro e w8 ⟨ya, ma, da, ca, yb, mb, db, cb, rfl, b8⟩
        have k11 := k10.trans (b8.mono k10.size)
        have HN10 := Lib.hid (HN9.out.below b8)
        clear b8 k10 HN9 HDc htt htt'
        obtain ⟨x, g, hu1, hu2, hu3, hng, hgz⟩ := cmp_vals ya ma da ca yb mb db cb
        have HU1 := Lib.hid hu1
        have HU2 := Lib.hid hu2
        have HU3 := Lib.hid hu3
        have B8 := box2 w8 (.cells #[.int .i64 ya, .int .i64 ma, .int .i64 da, .bool ca] 25) (.cells #[.int .i64 yb, .int .i64 mb, .int .i64 db, .bool cb] 25)
        have T8 := Lib.hid (two_new w8 ya ma da ca yb mb db cb)
        have HN11 := Lib.hid (HN10.out.below B8)
        have k12 := k11.trans (B8.mono k11.size)
        clear B8 k11 HN10 hu1 hu2 hu3
        obtain ⟨⟨ll, l0, l1, l2, l3⟩, ⟨jl, j0, j1, j2, j3⟩⟩ := T8.out
        go_wp2_with fail
        clear ll l0 l1 l2 l3 jl j0 j1 j2 j3
        refine (HU1.out _).mono ?_
        rintro e w9 ⟨rfl, b9⟩
        have k13 := k12.trans (b9.mono k12.size)
        have HN12 := Lib.hid (HN11.out.below b9)
        have T9 := Lib.hid (And.intro (T8.out.1.below b9) (T8.out.2.below b9))
        clear b9 k12 HN11 T8 HU1
        obtain ⟨⟨ll, l0, l1, l2, l3⟩, ⟨jl, j0, j1, j2, j3⟩⟩ := T9.out
        go_wp2_with fail
        clear ll l0 l1 l2 l3 jl j0 j1 j2 j3
        refine (HU2.out _).mono ?_
        rintro e w10 ⟨rfl, b10⟩
        have k14 := k13.trans (b10.mono k13.size)
        have HN13 := Lib.hid (HN12.out.below b10)
        have T10 := Lib.hid (And.intro (T9.out.1.below b10) (T9.out.2.below b10))
        clear b10 k13 HN12 T9 HU2
        obtain ⟨⟨ll, l0, l1, l2, l3⟩, ⟨jl, j0, j1, j2, j3⟩⟩ := T10.out
        go_wp2_with fail
        clear ll l0 l1 l2 l3 jl j0 j1 j2 j3
        refine (HU3.out _).mono ?_
        rintro e w11 ⟨rfl, b11⟩
        have k9 := k14.trans (b11.mono k14.size)
        have HN9 := Lib.hid (HN13.out.below b11)
        have T11 := Lib.hid (And.intro (T10.out.1.below b11) (T10.out.2.below b11))
        clear b11 k14 HN13 T10 HU3
        have hxx : (x != x) = false := by simp
        have hgg : (g != g) = false := by simp
        have hmm : ((-x) != (-x)) = false := by simp
        go_upto_region 17 with fail
        go_cut [134] (fun s134 wx => s134 = .bool false ∧ wx = w11)
        case first =>
          obtain ⟨⟨ll, l0, l1, l2, l3⟩, ⟨jl, j0, j1, j2, j3⟩⟩ := T11.out
          clear HV1 HV2 HV3 HV4 HV5 HV6 HN9
          rcases parts g x ya ma da ca yb mb db cb hgz with rfl | ⟨rfl, rfl, rfl, rfl, rfl, rfl⟩ | ⟨rfl, hx0, hx1, hne⟩
          · clear hgz
            go_wp2_with fail
            go_meet
            exact ⟨rfl, rfl⟩
          · clear hgz
            go_wp2_with fail
            go_meet
            exact ⟨rfl, rfl⟩
          · clear hgz
            rcases hne with hq | ⟨rfl, hq⟩ | ⟨rfl, rfl, hq⟩ | ⟨rfl, rfl, rfl, hq⟩
            all_goals
              go_wp2_with fail
              go_meet
              exact ⟨rfl, rfl⟩
        case rest =>
          obtain ⟨rfl, hwc⟩ := hcut
          rw [hwc]
          clear hwc T11 hgz hng hxx hgg hmm
          obtain ⟨al, a0, a1, a2, a3⟩ := HN9.out
          go_wp2_with fail
          clear al a0 a1 a2 a3
          refine (HV1.out _).mono ?_
          rintro e w20 ⟨rfl, b20⟩
          have k20 := k9.trans (b20.mono k9.size)
          have HN20 := Lib.hid (HN9.out.below b20)
          clear b20 k9 HN9 HV1
          obtain ⟨al, a0, a1, a2, a3⟩ := HN20.out
          go_wp2_with fail
          clear al a0 a1 a2 a3
          refine (HV2.out _).mono ?_
          rintro e w21 ⟨rfl, b21⟩
          have k21 := k20.trans (b21.mono k20.size)
          have HN21 := Lib.hid (HN20.out.below b21)
          clear b21 k20 HN20 HV2
          have B21 := box2 w21 (.cells #[.int .i64 ly, .int .i64 lm, .int .i64 ld, .bool lc] 25) (.cells #[.int .i64 hy, .int .i64 hm, .int .i64 hd, .bool hc] 25)
          have T21 := Lib.hid (two_new w21 ly lm ld lc hy hm hd hc)
          have HN22 := Lib.hid (HN21.out.below B21)
          have k22 := k21.trans (B21.mono k21.size)
          clear B21 k21 HN21
          obtain ⟨al, a0, a1, a2, a3⟩ := HN22.out
          obtain ⟨⟨ll, l0, l1, l2, l3⟩, ⟨jl, j0, j1, j2, j3⟩⟩ := T21.out
          go_wp2_with fail
          clear al a0 a1 a2 a3 ll l0 l1 l2 l3 jl j0 j1 j2 j3
          refine (HV3.out _).mono ?_
          rintro e w23 ⟨rfl, b23⟩
          have k23 := k22.trans (b23.mono k22.size)
          have T23 := Lib.hid (And.intro (T21.out.1.below b23) (T21.out.2.below b23))
          clear b23 k22 HN22 T21 HV3
          obtain ⟨⟨ll, l0, l1, l2, l3⟩, ⟨jl, j0, j1, j2, j3⟩⟩ := T23.out
          go_wp2_with fail
          clear ll l0 l1 l2 l3 jl j0 j1 j2 j3 T23
          refine (HV4.out _).mono ?_
          rintro e w24 ⟨rfl, b24⟩
          have k24 := k23.trans (b24.mono k23.size)
          clear b24 k23 HV4
          cases r with
          | false =>
            clear HV5
            cases four with
            | false =>
              go_wp2_with fail
              go_ret
              exact ⟨rfl, k24⟩
            | true =>
              obtain ⟨rfl, rfl, rfl, ho⟩ := HV6.out rfl
              have ho' : decide (order ≤ 0) = true := decide_eq_true ho
              clear ho
              go_wp2_with fail
              go_ret
              exact ⟨rfl, k24⟩
          | true =>
            obtain rfl := HV5.out rfl
            cases four with
            | false =>
              go_wp2_with fail
              go_ret
              exact ⟨rfl, k24⟩
            | true =>
              obtain ⟨rfl, rfl, rfl, ho⟩ := HV6.out rfl
              have ho' : decide (order ≤ 0) = true := decide_eq_true ho
              clear ho
              go_wp2_with fail
              go_ret
              exact ⟨rfl, k24⟩

set_option maxRecDepth 100000 in
theorem lifted (os : Os) (started : os.Started) (H : Type) (enc : TypeId × Value → H) :
    ReturnsInHanded {} Tryd.checked os 3 .any (fun w args => (Rows.fnDateFormsSpec.pre enc Tryd.prog Tryd.f3 Rows.fnDateFormsRow.domain false w args ∧ laidMetH Tryd.prog Rows.fnDateFormsRow.laid w) ∧ sizedMet enc Tryd.prog Tryd.f3 (OpenSpec.ofChange Rows.fnDateFormsSpec) false w args)
      (Rows.fnDateFormsSpec.post enc Tryd.prog Tryd.f3 false true false false) := by
  refine returnsInHanded_of_change_and (C := Tryd.checked) (X := fun w _ => laidMetH Tryd.prog Rows.fnDateFormsRow.laid w) (fun _ _ _ hh h => h.of_heap hh) own started (by kernel_rfl) Tryd.func3
    (ChangeSpec.witness_shaped (enc := enc) (C := Tryd.checked) (os := os) (X := fun w _ => laidMetH Tryd.prog Rows.fnDateFormsRow.laid w) false (World.laidAll Tryd.prog os Rows.fnDateFormsRow.laid) #[.slice none 0 0] 8 (World.laidAll_os _ _ _)
      (World.shaped_of_ZipB (by kernel_rfl) (by kernel_rfl)) (by kernel_rfl) (by kernel_rfl) (by kernel_rfl)
      (by rw [MakeChecks.laidMetH_plain _ _ _ (by kernel_rfl)]; exact laidMet_laidAll _ (by kernel_rfl) (by kernel_rfl))) ?_
  intro W base args ds gs before hval0 hW hcnd _ hL _
  rw [MakeChecks.laidMetH_plain _ _ _ (by kernel_rfl)] at hL
  have hval : ∀ (j : Nat) t v, Tryd.f3.params[j]? = some t → args[j]? = some v → Value.okWide Tryd.prog W .any base t v := hval0
  have hW' := hW
  obtain ⟨p, q, hA0, hV, rfl, hfz, hnd⟩ := hW
  have hA : DataW.TrodAll enc Tryd.prog W 0 (fun _ => true) true Tryd.f3.params.toList args.toList ds p := hA0
  rw [Tryd.params3] at hA hval
  obtain ⟨v0, vs0, d0, ds0, p0, q0, hargs, rfl, rfl, h0, r0⟩ := trodAll_cons hA
  obtain ⟨rfl, rfl, rfl⟩ := trodAll_nil r0
  obtain rfl : args = #[v0] := by cases args; simp_all
  obtain ⟨rfl, rfl⟩ := trodVars_none hV
  have k0 := h0
  have lt0 : ∀ x ∈ p0, x.block < W.heap.size := by obtain ⟨m, hm⟩ := k0; exact DataW.trod_lt m _ _ _ hm
  obtain ⟨A0, n0, c0, rfl, rd0, ap0⟩ := open_bytes (hval 0 22 v0 rfl rfl) h0
  clear hA0 hval0
  refine (walk A0 n0 c0 W rd0 ap0 (Laid.tab5 hL) (Laid.errs_of hL)).mono fun e W' ⟨he, bel⟩ => ?_
  subst he
  exact ⟨_, rfl, _, _, _, [], _, [], hW', trodAll_mk1 (shut_bool Tryd.underlying4 _), (trodAll_cons_mk (Below.trod laidOut (by kernel_rfl) (of_decide_eq_true (by kernel_rfl)) k0 bel lt0) trodAll_mk0), rfl, bel.frame _, fun h => by cases h⟩

theorem closed : joinedFacts Tryd.pinned.checked.prog 3 Tryd.f3 Rows.fnDateFormsSpec Rows.fnDateFormsRow = true := by kernel_rfl
theorem over : Rows.fnDateFormsRow.holds Tryd.pinned (OpenSpec.ofChange Rows.fnDateFormsSpec) :=
  OpenClaim.holds_of_wide 3 Tryd.f3 rfl rfl rfl rfl rfl rfl rfl ⟨rfl, rfl, rfl, rfl, rfl⟩ rfl rfl rfl rfl rfl (by kernel_rfl) Tryd.func3 closed
    (of_decide_eq_true (by kernel_rfl)) (by unfold Func.isWrapper; first | (rw [if_pos (by decide +kernel)]; kernel_rfl) | (rw [if_neg (by decide +kernel)]; exact ⟨rfl, rfl⟩))
    (fun os started H enc _ => lifted os started H enc)

theorem plain (f : FuncId) (fn : Func) (hf : Tryd.pinned.checked.prog.funcNamed "loop.example/g00896/laws.FnDateForms" = some f) (hfn : Tryd.pinned.checked.prog.funcs[f]? = some fn) :
    true = Tryd.pinned.checked.prog.looks [] ∧ ∀ (j : Nat) t, fn.params[j]? = some t → Tryd.pinned.checked.prog.wantsStandIn t = false := by
  obtain rfl : f = 3 := Option.some.inj ((show Tryd.prog.funcNamed "loop.example/g00896/laws.FnDateForms" = some 3 by kernel_rfl).symm.trans hf) |>.symm
  obtain rfl : fn = Tryd.f3 := (Option.some.inj (Tryd.func3.symm.trans hfn)).symm
  refine ⟨by kernel_rfl, fun j t ht => ?_⟩
  rw [Tryd.params3] at ht
  obtain rfl : t = 22 := by simpa using Array.mem_of_getElem? ht
  exact (show Tryd.prog.wantsStandIn 22 = false by kernel_rfl)

theorem card : Rows.FnDateFormsCardSaid :=
  Claim7.holds_tied_plain_at .later [] _ _ _ _ over (fun _ h => by cases h) (by kernel_rfl) (fun _ h => by cases h) fnDateForms_row_tie rfl ⟨rfl, rfl⟩ (by kernel_rfl) rfl plain (by kernel_rfl)
#print axioms card
end Go.Proofs.YtlhkfhgnlopejaaDoor.fnDateForms
