/-
  Proved: for every code of bytes the law FnNameLists returns true; the argument reads as before. The listed variables lie as the pinned constants lay them (the card ties them). No further condition.
-/
import Derived.Test.YtdjkgkfgnmcldaaDoorRows
import Derived.Test.YtdjkgkfgnmcldaaDoorNlF
import Derived.Test.YtdjkgkfgnmcldaaDoorAmong
import Derived.Test.YtdjkgkfgnmcldaaDoorAndSh
import Derived.Test.YtdjkgkfgnmcldaaDoorOpenB
import Derived.WalkKit
import Derived.ProofKit
import Derived.OpenShut
import Derived.ShutString
import Derived.ChangeOld
import Derived.Below
import Derived.Lib.SmallJoins
import Derived.Test.YtdjkgkfgnmcldaaDoorCards
import Derived.Test.YtdjkgkfgnmcldaaDoorTie
import Derived.LaidMore
import Derived.Lay
import Derived.SevenTiedAt
import Derived.Stop.Joined
namespace Go.Proofs.YtdjkgkfgnmcldaaDoor.fnNameLists
open Go.ChangeShapes Go.WideShapes Go.ChangeAt Go.RowKit
open Go.ChangeMaps (open_string shut_string)
open Pl Strs Help Name Nms Jn Pe Cur Draw0 StN Among NlF OpenB
set_option linter.unusedVariables false
set_option linter.unusedSimpArgs false

theorem own : ownKnob Tryd.prog.godebug = none := by kernel_rfl
theorem laidOut : laidOutB Tryd.prog = true := by kernel_rfl
theorem ne_em {u : ByteArray} (h : ¬ u = ⟨#[]⟩) : (u.toList == []) = false ∧ u.toList.isEmpty = false := by
  have hn : u.data.toList ≠ [] := fun e => h (ByteArray.ext (Array.toList_inj.1 e))
  rw [Lib.toList_data]
  cases hu : u.data.toList with
  | nil => exact absurd hu hn
  | cons a r => exact ⟨rfl, rfl⟩
set_option maxHeartbeats 4000000 in
theorem walk (A : Option Addr) (n c : Nat) (w : World) (hr : RdB w A n) (ha : Apart A n w.heap.size) :
    Calls Tryd.prog 3 #[.slice A n c] w fun e w' => e = .returned (.bool true) ∧ Below w.heap.size w w' := by
  have HR := Lib.hid hr
  have HA := Lib.hid ha
  have HRd := Lib.hid (fun w' (hb : Below w.heap.size w w') => rdb_below hr ha hb)
  have HAp := Lib.hid (fun w' (hb : Below w.heap.size w w') => (fun h a e => Nat.lt_of_lt_of_le (ha h a e) hb.size : Apart A n w'.heap.size))
  clear hr ha
  by_cases hbig : 65536 < n
  · go_enter Tryd.func3, Tryd.ntmps3
    go_wp2_with fail
    refine (vBig_any A n c _ true (by simp; omega)).mono ?_
    rintro e w' ⟨rfl, rfl⟩
    go_wp2_with fail
    go_ret
    exact ⟨rfl, Below.refl _ _⟩
  · go_enter Tryd.func3, Tryd.ntmps3
    go_wp2_with fail
    refine (vBig_any A n c _ false (by simp; omega)).mono ?_
    rintro e w' ⟨rfl, rfl⟩
    go_wp2_with fail
    refine (drawJoin_any A n c _ (by omega) HR.out HA.out).mono ?_
    rintro e w1 ⟨Av, nL, cv, L, z, rfl, hnL, hG, hL, hX, hz0, hz5, b1⟩
    have K1 := Lib.hid b1
    have HL := Lib.hid (rd_of hG)
    have HZ := Lib.hid (sz_sm hX)
    have HN := Lib.hid hnL
    have HDS := Lib.hid (fun w' (b : Below w.heap.size w w') => drawSame_any A n c w' (by omega) (HRd.out w' b) (HAp.out w' b))
    obtain ⟨s, r, al, ra, hv, hv4, hf⟩ := jn_vals L z
    have HI := Lib.hid (fun w' (b : Below w1.heap.size w1 w') => implJoin Av cv nL z L w' (HL.out.below b) HN.out.symm (by omega) HZ.out)
    have HS := Lib.hid (fun w' (b : Below w1.heap.size w1 w') => specJoin Av cv nL z L w' (HL.out.below b) HN.out.symm (by omega) HZ.out)
    have HI4 := Lib.hid (fun w' (b : Below w1.heap.size w1 w') => implJoin Av cv nL 4 L w' (HL.out.below b) HN.out.symm (by omega) HZ.out)
    rw [hv] at HI HS
    rw [hv4] at HI4
    rw [← hnL] at hf
    have HF := Lib.hid hf
    clear hv hv4 hf b1 hG hX hnL HR HA HRd HAp HL HZ HN
    go_wp2_with fail
    refine (HI.out _ (Below.refl _ _)).mono ?_
    rintro e w2 ⟨rfl, b2⟩
    go_wp2_with fail
    refine (HS.out _ b2).mono ?_
    rintro e w3 ⟨rfl, b3⟩
    have k3 := b2.trans (b3.mono b2.size)
    have hss : (s.toList == s.toList) = true := by simp
    have hss2 : (s.toList != s.toList) = false := by simp
    clear b2 b3 HI HS
    go_wp2_with fail
    refine (HDS.out _ (K1.out.trans (k3.mono K1.out.size))).mono ?_
    rintro e w4 ⟨Aa, na, ca, La, Ab, nb, cb, Lb, rfl, hna, hnb, hGa, hGb, ha5, hb5, hXa, hXb, b4⟩
    have k4 := k3.trans (b4.mono k3.size)
    have HLa := Lib.hid (rd_of hGa)
    have HLb := Lib.hid (rd_of hGb)
    have HZa := Lib.hid (sz_sm hXa)
    have HZb := Lib.hid (sz_sm hXb)
    have HNa := Lib.hid hna
    have HNb := Lib.hid hnb
    obtain ⟨p, q, hsp, hpl⟩ := sp_vals La Lb
    have HPI := Lib.hid (fun w' (b : Below w4.heap.size w4 w') => implPeople Aa Ab ca cb na nb La Lb w' (HLa.out.below b) (HLb.out.below b) HNa.out.symm HNb.out.symm (by omega) (by omega) HZa.out HZb.out)
    have HPS := Lib.hid (fun w' (b : Below w4.heap.size w4 w') => specPeople Aa Ab ca cb na nb La Lb w' (HLa.out.below b) (HLb.out.below b) HNa.out.symm HNb.out.symm (by omega) (by omega) HZa.out HZb.out)
    rw [hsp] at HPI HPS
    rw [← hna, ← hnb] at hpl
    have HPl := Lib.hid hpl
    clear hsp hpl hGa hGb hXa hXb hna hnb b4 HDS HLa HLb HZa HZb HNa HNb k3
    go_wp2_with fail
    refine (HPI.out _ (Below.refl _ _)).mono ?_
    rintro e w5 ⟨rfl, b5⟩
    go_wp2_with fail
    refine (HPS.out _ b5).mono ?_
    rintro e w6 ⟨rfl, b6⟩
    have k6 := k4.trans ((b5.trans (b6.mono b5.size)).mono k4.size)
    clear b5 b6 HPI HPS k4
    have hpp : (p == p) = true := by simp
    have hqq : (q == q) = true := by simp
    cases p with
    | false =>
      have HI5 := HI4.out w6 k6
      go_wp2_with fail
      refine HI5.mono ?_
      rintro e w7 ⟨rfl, b7⟩
      have K7 := Lib.hid (K1.out.trans ((k6.trans (b7.mono k6.size)).mono K1.out.size))
      clear b7 HI5
      cases r with
      | false =>
        go_wp2_with fail
        go_ret
        exact ⟨rfl, K7.out⟩
      | true =>
        obtain ⟨rfl, f1, f2, f3⟩ := HF.out rfl
        by_cases h0 : nL = 0
        · obtain rfl := f3 h0
          subst h0
          have hz : (0 : Int) ≤ z := hz0
          obtain rfl := f1 (by omega)
          go_wp2_with fail
          go_ret
          exact ⟨rfl, K7.out⟩
        · obtain ⟨e1, e2⟩ := ne_em (f2 (by omega))
          have hp0 : (0 : Int) < (nL : Int) := by omega
          have hp1 : decide (0 < nL) = true := decide_eq_true (by omega)
          by_cases hlz : z < (nL : Int)
          · clear f1 f2 f3
            go_wp2_with fail
            go_ret
            exact ⟨rfl, K7.out⟩
          · obtain rfl := f1 (by omega)
            clear f1 f2 f3
            go_wp2_with fail
            go_ret
            exact ⟨rfl, K7.out⟩
    | true =>
      have hne : na = nb := HPl.out rfl
      subst hne
      have HI5 := HI4.out w6 k6
      go_wp2_with fail
      refine HI5.mono ?_
      rintro e w7 ⟨rfl, b7⟩
      have K7 := Lib.hid (K1.out.trans ((k6.trans (b7.mono k6.size)).mono K1.out.size))
      clear b7 HI5
      cases r with
      | false =>
        go_wp2_with fail
        go_ret
        exact ⟨rfl, K7.out⟩
      | true =>
        obtain ⟨rfl, f1, f2, f3⟩ := HF.out rfl
        by_cases h0 : nL = 0
        · obtain rfl := f3 h0
          subst h0
          have hz : (0 : Int) ≤ z := hz0
          obtain rfl := f1 (by omega)
          go_wp2_with fail
          go_ret
          exact ⟨rfl, K7.out⟩
        · obtain ⟨e1, e2⟩ := ne_em (f2 (by omega))
          have hp0 : (0 : Int) < (nL : Int) := by omega
          have hp1 : decide (0 < nL) = true := decide_eq_true (by omega)
          by_cases hlz : z < (nL : Int)
          · clear f1 f2 f3
            go_wp2_with fail
            go_ret
            exact ⟨rfl, K7.out⟩
          · obtain rfl := f1 (by omega)
            clear f1 f2 f3
            go_wp2_with fail
            go_ret
            exact ⟨rfl, K7.out⟩

set_option maxRecDepth 100000 in
theorem lifted (os : Os) (started : os.Started) (H : Type) (enc : TypeId × Value → H) :
    ReturnsInHanded {} Tryd.checked os 3 .any (fun w args => (Rows.fnNameListsSpec.pre enc Tryd.prog Tryd.f3 Rows.fnNameListsRow.domain false w args ∧ laidMetH Tryd.prog Rows.fnNameListsRow.laid w) ∧ sizedMet enc Tryd.prog Tryd.f3 (OpenSpec.ofChange Rows.fnNameListsSpec) false w args)
      (Rows.fnNameListsSpec.post enc Tryd.prog Tryd.f3 false true false false) := by
  refine returnsInHanded_of_change_and (C := Tryd.checked) (X := fun w _ => laidMetH Tryd.prog Rows.fnNameListsRow.laid w) (fun _ _ _ hh h => h.of_heap hh) own started (by kernel_rfl) Tryd.func3
    (ChangeSpec.witness_shaped (enc := enc) (C := Tryd.checked) (os := os) (X := fun w _ => laidMetH Tryd.prog Rows.fnNameListsRow.laid w) false (World.laidAll Tryd.prog os Rows.fnNameListsRow.laid) #[.slice none 0 0] 8 (World.laidAll_os _ _ _)
      (World.shaped_of_ZipB (by kernel_rfl) (by kernel_rfl)) (by kernel_rfl) (by kernel_rfl) (by kernel_rfl)
      (by rw [MakeChecks.laidMetH_plain _ _ _ (by kernel_rfl)]; exact laidMet_laidAll _ (by kernel_rfl) (by kernel_rfl))) ?_
  intro W base args ds gs before hval0 hW hcnd _ hL _
  have hval : ∀ (j : Nat) t v, Tryd.f3.params[j]? = some t → args[j]? = some v → Value.okWide Tryd.prog W .any base t v := hval0
  have hW' := hW
  obtain ⟨p, q, hA0, hV, rfl, hfz, hnd⟩ := hW
  have hA : DataW.TrodAll enc Tryd.prog W 0 (fun _ => true) true Tryd.f3.params.toList args.toList ds p := hA0
  rw [Tryd.params3] at hA hval
  obtain ⟨v0, vs0, d0, ds0, p0, q0, hargs, rfl, rfl, h0, r0⟩ := trodAll_cons hA
  obtain ⟨rfl, rfl, rfl⟩ := trodAll_nil r0
  obtain rfl : args = #[v0] := by cases args; simp_all
  obtain ⟨rfl, rfl⟩ := trodVars_none hV
  have k0 := h0
  have lt0 : ∀ x ∈ p0, x.block < W.heap.size := by obtain ⟨m, hm⟩ := k0; exact DataW.trod_lt m _ _ _ hm
  obtain ⟨A0, n0, c0, rfl, rd0, ap0⟩ := open_bytes (hval 0 22 v0 rfl rfl) h0
  clear hA0 hval0
  refine (walk A0 n0 c0 W rd0 ap0 ).mono fun e W' ⟨he, bel⟩ => ?_
  subst he
  exact ⟨_, rfl, _, _, _, [], _, [], hW', trodAll_mk1 (shut_bool Tryd.underlying4 _), (trodAll_cons_mk (Below.trod laidOut (by kernel_rfl) (of_decide_eq_true (by kernel_rfl)) k0 bel lt0) trodAll_mk0), rfl, bel.frame _, fun h => by cases h⟩

theorem closed : joinedFacts Tryd.pinned.checked.prog 3 Tryd.f3 Rows.fnNameListsSpec Rows.fnNameListsRow = true := by kernel_rfl
theorem over : Rows.fnNameListsRow.holds Tryd.pinned (OpenSpec.ofChange Rows.fnNameListsSpec) :=
  OpenClaim.holds_of_wide 3 Tryd.f3 rfl rfl rfl rfl rfl rfl rfl ⟨rfl, rfl, rfl, rfl, rfl⟩ rfl rfl rfl rfl rfl (by kernel_rfl) Tryd.func3 closed
    (of_decide_eq_true (by kernel_rfl)) (by unfold Func.isWrapper; first | (rw [if_pos (by decide +kernel)]; kernel_rfl) | (rw [if_neg (by decide +kernel)]; exact ⟨rfl, rfl⟩))
    (fun os started H enc _ => lifted os started H enc)

theorem plain (f : FuncId) (fn : Func) (hf : Tryd.pinned.checked.prog.funcNamed "loop.example/g00896/laws.FnNameLists" = some f) (hfn : Tryd.pinned.checked.prog.funcs[f]? = some fn) :
    false = Tryd.pinned.checked.prog.looks [] ∧ ∀ (j : Nat) t, fn.params[j]? = some t → Tryd.pinned.checked.prog.wantsStandIn t = false := by
  obtain rfl : f = 3 := Option.some.inj ((show Tryd.prog.funcNamed "loop.example/g00896/laws.FnNameLists" = some 3 by kernel_rfl).symm.trans hf) |>.symm
  obtain rfl : fn = Tryd.f3 := (Option.some.inj (Tryd.func3.symm.trans hfn)).symm
  refine ⟨by kernel_rfl, fun j t ht => ?_⟩
  rw [Tryd.params3] at ht
  obtain rfl : t = 22 := by simpa using Array.mem_of_getElem? ht
  exact (show Tryd.prog.wantsStandIn 22 = false by kernel_rfl)

theorem card : Rows.FnNameListsCardSaid :=
  Claim7.holds_tied_plain_at .later [] _ _ _ _ over (fun _ h => by cases h) (by kernel_rfl) (fun _ h => by cases h) fnNameLists_row_tie rfl ⟨rfl, rfl⟩ (by kernel_rfl) rfl plain (by kernel_rfl)
#print axioms card
end Go.Proofs.YtdjkgkfgnmcldaaDoor.fnNameLists
