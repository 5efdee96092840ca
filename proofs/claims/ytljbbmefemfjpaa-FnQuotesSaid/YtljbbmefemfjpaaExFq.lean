/-
  Proved: for every code of bytes the law FnQuotes returns true; the argument reads as before. No further condition.
-/
import Derived.Test.YtljbbmefemfjpaaRows
import Derived.Test.YtljbbmefemfjpaaQtF
import Derived.Test.YtljbbmefemfjpaaGAu
import Derived.Test.YtljbbmefemfjpaaSpQ
import Derived.Test.YtljbbmefemfjpaaGDs
import Derived.Test.YtljbbmefemfjpaaQtDr
import Derived.Test.YtljbbmefemfjpaaOpenB
import Derived.WalkKit
import Derived.ProofKit
import Derived.OpenShut
import Derived.ShutString
import Derived.ChangeOld
import Derived.Below
import Derived.Lib.SmallJoins
namespace Go.Proofs.Ytljbbmefemfjpaa.fnQuotes
open Go.ChangeShapes Go.WideShapes Go.ChangeAt Go.RowKit
open Go.ChangeMaps (open_string shut_string)
open Pl Cur Draw0 QtDr OpenB
set_option linter.unusedVariables false
set_option linter.unusedSimpArgs false

theorem own : ownKnob Try.prog.godebug = none := by kernel_rfl
theorem laidOut : laidOutB Try.prog = true := by kernel_rfl
open QtPl QtQ QtZ QtG QtH QtK QtL QtE QtN QtF QtA QtU in
theorem cell' {w : World} {base c n : Nat} {A : Option Addr} {F : List Nat} {C : List (List Int)} (hn : F.length = n) (h : LL w base (.slice A n c) F C) {k f : Nat} (hf : F[k]? = some f) : ∃ g, A = some ⟨g, 0, none⟩ ∧ g < w.heap.size ∧ w.cell? ⟨g, k, none⟩ = some (.slice (some ⟨f, 0, none⟩) 2 2) := by
  subst hn; exact h.cell hf
theorem own_form {w : World} {base : Nat} {e : TypeId} {size n : Nat} {v : Value} {xs : List Value} (h : w.ownsRow base e size v n xs) : ∃ A c, v = .slice A n c := by
  rcases h.2 with ⟨h0, h1⟩ | ⟨g, cap, cur, h0, _⟩
  · exact ⟨none, 0, by rw [h0, h1]⟩
  · exact ⟨_, _, h0⟩
open QtPl QtB QtQ QtZ QtG QtH QtK QtL QtE QtN QtF QtA QtU SpPl Sp SpDs in
set_option maxRecDepth 100000 in
set_option maxHeartbeats 8000000 in
theorem walk (A : Option Addr) (n c : Nat) (w : World) (hr : RdB w A n) (ha : Apart A n w.heap.size) :
    Calls Try.prog 3 #[.slice A n c] w fun e w' => e = .returned (.bool true) ∧ Below w.heap.size w w' := by
  have HRd := Lib.hid (fun w' (hb : Below w.heap.size w w') => rdb_below hr ha hb)
  have HAp := Lib.hid (fun w' (hb : Below w.heap.size w w') => (fun h a e => Nat.lt_of_lt_of_le (ha h a e) hb.size : Apart A n w'.heap.size))
  clear hr ha
  by_cases hbig : 65536 < n
  · go_enter Try.func3, Try.ntmps3
    go_wp2_with fail
    refine (rBig_any A n c _ true (by simp; omega)).mono ?_
    rintro e w' ⟨rfl, rfl⟩
    go_wp2_with fail
    go_ret
    exact ⟨rfl, Below.refl _ _⟩
  · go_enter Try.func3, Try.ntmps3
    go_wp2_with fail
    refine (rBig_any A n c _ false (by simp; omega)).mono ?_
    rintro e w' ⟨rfl, rfl⟩
    go_wp2_with fail
    refine (drawQuote_any A n c _ (by omega) (HRd.out _ (Below.refl _ _)) (HAp.out _ (Below.refl _ _))).mono ?_
    rintro e w1 ⟨s, hs, rfl, b1⟩
    have K1 := Lib.hid b1
    clear b1
    obtain ⟨q1, a1, b1, z, d, hz, v1, v2, v3, v4, v5, v6⟩ := q_vals s
    have CQi := Lib.hid (fun w => quote_i s w (by omega))
    have CQs := Lib.hid (fun w => quoteT_s s w (by omega))
    have CAi := Lib.hid (fun w => alter_i s w (by omega))
    have CAs := Lib.hid (fun w => alter_s s w (by omega))
    have CD := Lib.hid (fun w => qdep_i s w (by omega))
    have CP := Lib.hid (fun w => pairs_i s w (by omega))
    have CUi := Lib.hid (fun w => unpaired_i s w (by omega))
    have CUs := Lib.hid (fun w => unpaired_s s w (by omega))
    unfold PmPost at CP
    unfold UmPost at CUi CUs
    rw [v1] at CQi CQs
    rw [v2] at CAi CAs
    rw [v3] at CD
    rw [hz] at CP CUi CUs
    obtain ⟨M, hM⟩ : ∃ M, toI (umV s) = M := ⟨_, rfl⟩
    obtain ⟨nU, hnU⟩ : ∃ nU, (umV s).length = nU := ⟨_, rfl⟩
    have hMl : M.length = nU := by rw [← hM, toI_len, hnU]
    have hU8 := um_len s
    rw [hnU] at hU8
    rw [hM, hnU] at CUi CUs
    obtain ⟨C, hC⟩ : ∃ C, pmV s = C := ⟨_, rfl⟩
    have hP8 := pm_len s
    rw [hC] at CP v4 v5 v6 hP8
    obtain ⟨NP, hNP⟩ : ∃ NP, C.length = NP := ⟨_, rfl⟩
    rw [hNP] at v4 v5 hP8
    obtain ⟨e0, he0⟩ : ∃ e0 : Bool, ((d : Int) == 0) = e0 := ⟨_, rfl⟩
    have he1 : ((NP : Int) == 0) = e0 := by rw [← he0, Bool.eq_iff_iff]; simp only [beq_iff_eq]; omega
    have hd1 : decide ((NP : Int) < (d : Int)) = false := by simp; omega
    have hd2 : decide (NP < d) = false := by simp; omega
    have V6 := Lib.hid v6
    have HMl := Lib.hid hMl
    have HNP := Lib.hid hNP
    clear v1 v2 v3 v4 v5 v6 hz hM hnU hMl hC
    go_wp2_with fail
    refine (CQi.out _).mono ?_
    rintro e w2 ⟨rfl, b2⟩
    have K2 := Lib.hid (K1.out.trans (b2.mono K1.out.size))
    clear b2
    go_wp2_with fail
    refine (CQs.out _).mono ?_
    rintro e w3 ⟨rfl, b3⟩
    have K3 := Lib.hid (K2.out.trans (b3.mono K2.out.size))
    clear b3
    go_wp2_with fail
    refine (CAi.out _).mono ?_
    rintro e w4 ⟨rfl, b4⟩
    have K4 := Lib.hid (K3.out.trans (b4.mono K3.out.size))
    clear b4
    go_wp2_with fail
    refine (CAs.out _).mono ?_
    rintro e w5 ⟨rfl, b5⟩
    have K5 := Lib.hid (K4.out.trans (b5.mono K4.out.size))
    clear b5
    go_wp2_with fail
    refine (CP.out _).mono ?_
    rintro e w6 ⟨v6, F, rfl, hL6, b6⟩
    have K6 := Lib.hid (K5.out.trans (Below.mono b6 K5.out.size))
    obtain ⟨Ap, cp, hv6⟩ := hL6.form
    have hF : F.length = NP := by rw [hL6.len]; exact HNP.out
    rw [hF] at hv6
    subst hv6
    have HL6 := Lib.hid hL6
    have HF := Lib.hid hF
    clear hL6 hF b6
    go_wp2_with fail
    refine (CUi.out _).mono ?_
    rintro e w7 ⟨v7, rfl, o7, b7⟩
    have K7 := Lib.hid (K6.out.trans (Below.mono b7 K6.out.size))
    obtain ⟨AU, cU, rfl⟩ := own_form o7
    have HU := Lib.hid o7
    have B7 := Lib.hid b7
    clear o7 b7
    have HL7 := Lib.hid (HL6.out.kp B7.out)
    go_wp2_with fail
    refine (CD.out _).mono ?_
    rintro e w8 ⟨rfl, b8⟩
    have K8 := Lib.hid (K7.out.trans (b8.mono K7.out.size))
    have HU8 := Lib.hid (own_kp HU.out b8)
    have HL8 := Lib.hid (HL7.out.kp b8)
    clear b8
    go_wp2_with fail
    refine (CUs.out _).mono ?_
    rintro e w9 ⟨v9, rfl, o9, b9⟩
    have K9 := Lib.hid (K8.out.trans (Below.mono b9 K8.out.size))
    obtain ⟨AW, cW, rfl⟩ := own_form o9
    have HW := Lib.hid o9
    have B9 := Lib.hid b9
    clear o9 b9
    have HU9 := Lib.hid (own_kp HU8.out B9.out)
    have HL9 := Lib.hid (HL8.out.kp B9.out)
    go_wp2_with fail
    refine (sameI AU AW cU cW nU M w9 (own_rmo HU9.out) (own_rmo HW.out) HMl.out (by omega)).mono ?_
    rintro e w10 ⟨rfl, b10⟩
    have K10 := Lib.hid (K9.out.trans (b10.mono K9.out.size))
    have HL := Lib.hid (HL9.out.kp b10)
    clear b10 HU HU8 HU9 HW HL6 HL7 HL8 HL9 CQi CQs CAi CAs CP CUi CUs CD B7 B9
    clear K1 K2 K3 K4 K5 K6 K7 K8 K9
    go_wp2_with fail
    go_loopw [20] (fun vi wr => ∃ k : Nat, k ≤ NP ∧ vi = .int .i64 k ∧ QtB.Kp w10 wr) (fun vi _ => NP - (intOf vi).toNat)
    case atStart => exact ⟨0, Nat.zero_le _, rfl, kre _⟩
    case round =>
      obtain ⟨k, hk, rfl, hb⟩ := hrel
      by_cases hlt : k < NP
      · obtain ⟨f, hf⟩ : ∃ f, F[k]? = some f := ⟨_, List.getElem?_eq_getElem (by rw [HF.out]; exact hlt)⟩
        obtain ⟨x, hx⟩ : ∃ x, C[k]? = some x := ⟨_, List.getElem?_eq_getElem (by rw [HNP.out]; exact hlt)⟩
        obtain ⟨a, b, rfl, hab, hbs, hby⟩ := V6.out k x hx
        obtain ⟨g, rfl, hg, c0⟩ := cell' HF.out (HL.out.kp hb) hf
        obtain ⟨_, r0⟩ := (HL.out.kp hb).inn k _ _ hf hx
        obtain ⟨g0, hg0, _, c1⟩ := own_rm r0 0 (a : Int) rfl
        obtain ⟨g1, hg1, _, c2⟩ := own_rm r0 1 (b : Int) rfl
        obtain rfl : f = g0 := by cases hg0; rfl
        obtain rfl : f = g1 := by cases hg1; rfl
        have has : a < s.size := by omega
        have hab1 : decide ((b : Int) ≤ (a : Int)) = false := by simp; omega
        have hab2 : decide (b ≤ a) = false := by simp; omega
        rw [bt_eq has, bt_eq hbs] at hby
        have hby1 : ((s[a].toNat : Int) == (s[b].toNat : Int)) = true := by rw [hby]; simp
        have hby2 : (s[a].toNat == s[b].toNat) = true := by rw [hby]; simp
        have hby3 : s[a].toNat = s[b].toNat := by rw [hby]
        clear r0 hg0 hg1
        go_wp2_with fail
        go_quiet (fail)
        go_wp2_with fail
        go_roundw
        case rel => exact ⟨k + 1, by omega, by go_num, by first | exact hb | exact kdn hb _⟩
        case measure => (simp [intOf] <;> omega)
      · obtain rfl : k = NP := by omega
        have K11 : Hid (Below w.heap.size w wr) := Lib.hid (K10.out.trans (Below.mono hb K10.out.size))
        clear hb HL HF HNP V6 HMl K10 hlt hk
        go_wp2_with fail
        refine (drawUnquote_any A n c _ (by omega) (HRd.out _ K11.out) (HAp.out _ K11.out)).mono ?_
        rintro e w12 ⟨t, ht, rfl, b12⟩
        have K12 := Lib.hid (K11.out.trans (b12.mono K11.out.size))
        clear b12
        obtain ⟨u, bt9, hu1, hu2, hu3⟩ := t_vals t
        have CI := Lib.hid (fun w => unquote_i t w (by omega))
        have CS := Lib.hid (fun w => unquote_s t w (by omega))
        have CQ := Lib.hid (fun w => quote_i u w (by omega))
        rw [hu1] at CI CS
        have HU3 := Lib.hid hu3
        clear hu1 hu3
        go_wp2_with fail
        refine (CI.out _).mono ?_
        rintro e w13 ⟨rfl, b13⟩
        have K13 := Lib.hid (K12.out.trans (b13.mono K12.out.size))
        clear b13
        go_wp2_with fail
        refine (CS.out _).mono ?_
        rintro e w14 ⟨rfl, b14⟩
        have K14 := Lib.hid (K13.out.trans (b14.mono K13.out.size))
        clear b14
        cases bt9 with
        | false =>
          go_wp2_with fail
          refine (drawQuoteSpans_any A n c _ (by omega) (HRd.out _ K14.out) (HAp.out _ K14.out)).mono ?_
          rintro e w16 ⟨As, N, cs, L, rfl, hL, hN, hnn, hsz, hG, b16⟩
          have K16 := Lib.hid (K14.out.trans (b16.mono K14.out.size))
          have HO : Hid (w16.ownsRow _ 70 3 (.slice As N cs) N (pcells L)) := Lib.hid (by have h' := hG.out; unfold SpL at h'; rw [hL] at h'; exact h')
          obtain ⟨gs, rfl⟩ : ∃ gs, As = some ⟨gs, 0, none⟩ := by
            rcases HO.out.2 with ⟨h0, _⟩ | ⟨g, cap, cur, h0, _⟩
            · cases h0; exact absurd rfl hnn.out
            · cases h0; exact ⟨g, rfl⟩
          have HI := Lib.hid (SpQ.qspans_i gs cs N L w16 (own_rd HO.out) (HO.out.lt gs rfl).2 hL (by omega) (by omega))
          have HS := Lib.hid (fun w' (b : Below w16.heap.size w16 w') => SpQ.qspans_s (some ⟨gs, 0, none⟩) cs N L w' ((own_rd HO.out).below b) hL (by omega) (by omega))
          unfold SpQ.QsPost at HI HS
          obtain ⟨zq, hzq⟩ : ∃ zq, SpQ.qz L = zq := ⟨_, rfl⟩
          have hq82 := SpQ.qR_len L
          obtain ⟨R, hR⟩ : ∃ R, SpQ.qR L = R := ⟨_, rfl⟩
          rw [hzq, hR] at HI HS
          rw [hR] at hq82
          obtain ⟨nR, hnR⟩ : ∃ nR, R.length = nR := ⟨_, rfl⟩
          have HnR := Lib.hid hnR
          rw [hnR] at HI HS hq82
          clear b16 hG hnn hL hzq hR hnR
          go_wp2_with fail
          refine HI.out.mono ?_
          rintro e w17 ⟨v17, rfl, o17, b17⟩
          have K17 := Lib.hid (K16.out.trans (b17.mono K16.out.size))
          obtain ⟨A17, c17, rfl⟩ := own_form o17
          have HO17 := Lib.hid o17
          have HS1 := Lib.hid (HS.out _ b17)
          clear o17 b17 HI HS HO
          go_wp2_with fail
          refine HS1.out.mono ?_
          rintro e w18 ⟨v18, rfl, o18, b18⟩
          have K18 := Lib.hid (K17.out.trans (b18.mono K17.out.size))
          obtain ⟨A18, c18, rfl⟩ := own_form o18
          have HE := Lib.hid (sameS A17 A18 c17 c18 nR R w18 ((own_rd HO17.out).below b18) (own_rd o18) HnR.out (by omega))
          clear o18 b18 HS1 HO17
          go_wp2_with fail
          refine HE.out.mono ?_
          rintro e w19 ⟨rfl, b19⟩
          have K19 := Lib.hid (K18.out.trans (b19.mono K18.out.size))
          clear b19
          go_wp2_with fail
          go_ret
          exact ⟨rfl, K19.out⟩
        | true =>
          have CQ2 := CQ
          rw [HU3.out rfl] at CQ2
          go_wp2_with fail
          refine (CQ2.out _).mono ?_
          rintro e w15 ⟨rfl, b15⟩
          have K15 := Lib.hid (K14.out.trans (b15.mono K14.out.size))
          clear b15
          go_wp2_with fail
          refine (drawQuoteSpans_any A n c _ (by omega) (HRd.out _ K15.out) (HAp.out _ K15.out)).mono ?_
          rintro e w16 ⟨As, N, cs, L, rfl, hL, hN, hnn, hsz, hG, b16⟩
          have K16 := Lib.hid (K15.out.trans (b16.mono K15.out.size))
          have HO : Hid (w16.ownsRow _ 70 3 (.slice As N cs) N (pcells L)) := Lib.hid (by have h' := hG.out; unfold SpL at h'; rw [hL] at h'; exact h')
          obtain ⟨gs, rfl⟩ : ∃ gs, As = some ⟨gs, 0, none⟩ := by
            rcases HO.out.2 with ⟨h0, _⟩ | ⟨g, cap, cur, h0, _⟩
            · cases h0; exact absurd rfl hnn.out
            · cases h0; exact ⟨g, rfl⟩
          have HI := Lib.hid (SpQ.qspans_i gs cs N L w16 (own_rd HO.out) (HO.out.lt gs rfl).2 hL (by omega) (by omega))
          have HS := Lib.hid (fun w' (b : Below w16.heap.size w16 w') => SpQ.qspans_s (some ⟨gs, 0, none⟩) cs N L w' ((own_rd HO.out).below b) hL (by omega) (by omega))
          unfold SpQ.QsPost at HI HS
          obtain ⟨zq, hzq⟩ : ∃ zq, SpQ.qz L = zq := ⟨_, rfl⟩
          have hq82 := SpQ.qR_len L
          obtain ⟨R, hR⟩ : ∃ R, SpQ.qR L = R := ⟨_, rfl⟩
          rw [hzq, hR] at HI HS
          rw [hR] at hq82
          obtain ⟨nR, hnR⟩ : ∃ nR, R.length = nR := ⟨_, rfl⟩
          have HnR := Lib.hid hnR
          rw [hnR] at HI HS hq82
          clear b16 hG hnn hL hzq hR hnR
          go_wp2_with fail
          refine HI.out.mono ?_
          rintro e w17 ⟨v17, rfl, o17, b17⟩
          have K17 := Lib.hid (K16.out.trans (b17.mono K16.out.size))
          obtain ⟨A17, c17, rfl⟩ := own_form o17
          have HO17 := Lib.hid o17
          have HS1 := Lib.hid (HS.out _ b17)
          clear o17 b17 HI HS HO
          go_wp2_with fail
          refine HS1.out.mono ?_
          rintro e w18 ⟨v18, rfl, o18, b18⟩
          have K18 := Lib.hid (K17.out.trans (b18.mono K17.out.size))
          obtain ⟨A18, c18, rfl⟩ := own_form o18
          have HE := Lib.hid (sameS A17 A18 c17 c18 nR R w18 ((own_rd HO17.out).below b18) (own_rd o18) HnR.out (by omega))
          clear o18 b18 HS1 HO17
          go_wp2_with fail
          refine HE.out.mono ?_
          rintro e w19 ⟨rfl, b19⟩
          have K19 := Lib.hid (K18.out.trans (b19.mono K18.out.size))
          clear b19
          go_wp2_with fail
          go_ret
          exact ⟨rfl, K19.out⟩

set_option maxRecDepth 100000 in
theorem lifted (os : Os) (started : os.Started) (H : Type) (enc : TypeId × Value → H) :
    ReturnsInHanded {} Try.checked os 3 .any (Rows.fnQuotesSpec.pre6 enc Try.prog Try.f3 Rows.fnQuotesRow.domain false) (Rows.fnQuotesSpec.post enc Try.prog Try.f3 false true false false) := by
  refine returnsInHanded_of_change (C := Try.checked) own started (by kernel_rfl) Try.func3
    (ChangeSpec.witness6 (enc := enc) (C := Try.checked) false ⟨#[], #[.slice none 0 0], []⟩ 8 (by kernel_rfl) (by kernel_rfl) (by kernel_rfl) (by kernel_rfl)) ?_
  intro W base args ds gs before hval0 hW hcnd _
  have hval : ∀ (j : Nat) t v, Try.f3.params[j]? = some t → args[j]? = some v → Value.okWide Try.prog W .any base t v := hval0
  have hW' := hW
  obtain ⟨p, q, hA0, hV, rfl, hfz, hnd⟩ := hW
  have hA : DataW.TrodAll enc Try.prog W 0 (fun _ => true) true Try.f3.params.toList args.toList ds p := hA0
  rw [Try.params3] at hA hval
  obtain ⟨v0, vs0, d0, ds0, p0, q0, hargs, rfl, rfl, h0, r0⟩ := trodAll_cons hA
  obtain ⟨rfl, rfl, rfl⟩ := trodAll_nil r0
  obtain rfl : args = #[v0] := by cases args; simp_all
  obtain ⟨rfl, rfl⟩ := trodVars_none hV
  have k0 := h0
  have lt0 : ∀ x ∈ p0, x.block < W.heap.size := by obtain ⟨m, hm⟩ := k0; exact DataW.trod_lt m _ _ _ hm
  obtain ⟨A0, n0, c0, rfl, rd0, ap0⟩ := open_bytes (hval 0 22 v0 rfl rfl) h0
  clear hA0 hval0
  refine (walk A0 n0 c0 W rd0 ap0 ).mono fun e W' ⟨he, bel⟩ => ?_
  subst he
  exact ⟨_, rfl, _, _, _, [], _, [], hW', trodAll_mk1 (shut_bool Try.underlying4 _), (trodAll_cons_mk (Below.trod laidOut (by kernel_rfl) (of_decide_eq_true (by kernel_rfl)) k0 bel lt0) trodAll_mk0), rfl, bel.frame _, fun h => by cases h⟩

theorem closed : joinedFacts Try.pinned.checked.prog 3 Try.f3 Rows.fnQuotesSpec Rows.fnQuotesRow = true := by kernel_rfl
theorem over : Rows.fnQuotesRow.holds Try.pinned (OpenSpec.ofChange Rows.fnQuotesSpec) :=
  OpenClaim.holds_of_wide 3 Try.f3 rfl rfl rfl rfl rfl rfl rfl ⟨rfl, rfl, rfl, rfl, rfl⟩ rfl rfl rfl rfl rfl (by kernel_rfl) Try.func3 closed
    (of_decide_eq_true (by kernel_rfl)) (by unfold Func.isWrapper; first | (rw [if_pos (by decide +kernel)]; kernel_rfl) | (rw [if_neg (by decide +kernel)]; exact ⟨rfl, rfl⟩))
    (fun os started H enc _ => lifted os started H enc)

theorem proved : Rows.FnQuotesSaid :=
  over
#print axioms proved
end Go.Proofs.Ytljbbmefemfjpaa.fnQuotes
