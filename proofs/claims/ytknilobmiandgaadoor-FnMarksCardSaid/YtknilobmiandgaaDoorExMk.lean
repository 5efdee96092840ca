/-
  Proved: for every code of bytes the law FnMarks returns true; the argument reads as before. The listed tables lie as the program's text and the pinned constants lay them (the card ties them). No further condition.
-/
import Derived.Test.YtknilobmiandgaaDoorRows
import Derived.Test.YtknilobmiandgaaDoorMqF
import Derived.Test.YtknilobmiandgaaDoorMqT
import Derived.Test.YtknilobmiandgaaDoorDm
import Derived.Test.YtknilobmiandgaaDoorOpenB
import Derived.WalkKit
import Derived.OpenVars
import Derived.ChangeVars
import Derived.ProofKit
import Derived.OpenShut
import Derived.ShutString
import Derived.ChangeOld
import Derived.Below
import Derived.Lib.SmallJoins
import Derived.Test.YtknilobmiandgaaDoorCards
import Derived.Test.YtknilobmiandgaaDoorTie
import Derived.LaidMore
import Derived.Lay
import Derived.SevenTiedAt
import Derived.Stop.Joined
namespace Go.Proofs.YtknilobmiandgaaDoor.fnMarks
open Go.ChangeShapes Go.WideShapes Go.ChangeAt Go.RowKit
open Go.ChangeMaps (open_string shut_string)
open Pl Mq MqPl Cur Draw0 Dm OpenB
set_option linter.unusedVariables false
set_option linter.unusedSimpArgs false

theorem own : ownKnob Tryd.prog.godebug = none := by kernel_rfl
theorem laidOut : laidOutB Tryd.prog = true := by kernel_rfl
theorem be_same {w : World} {P : Program} {f : FuncId} {args : Array Value} {v : Value} (h : Calls P f args w fun e w' => e = .returned v ∧ w = w') : Calls P f args w fun e w' => e = .returned v ∧ Below w.heap.size w w' := below_of h
set_option maxRecDepth 100000 in
set_option maxHeartbeats 8000000 in
theorem walk (A : Option Addr) (n c : Nat) (w : World) (hr : RdB w A n) (ha : Apart A n w.heap.size) (ht : MarkTab w) :
    Calls Tryd.prog 3 #[.slice A n c] w fun e w' => e = .returned (.bool true) ∧ Below w.heap.size w w' := by
  have HR := Lib.hid hr
  have HA := Lib.hid ha
  have HT := Lib.hid ht
  clear hr ha ht
  by_cases hbig : 65536 < n
  · go_enter Tryd.func3, Tryd.ntmps3
    go_wp2_with fail
    refine (rBig_any A n c _ true (by simp; omega)).mono ?_
    rintro e w' ⟨rfl, rfl⟩
    go_wp2_with fail
    go_ret
    exact ⟨rfl, Below.refl _ _⟩
  · go_enter Tryd.func3, Tryd.ntmps3
    go_wp2_with fail
    refine (rBig_any A n c _ false (by simp; omega)).mono ?_
    rintro e w' ⟨rfl, rfl⟩
    go_wp2_with fail
    refine (drawClean_any A n c _ (by omega) HR.out HA.out).mono ?_
    rintro e w1 ⟨s, hs, rfl, b1⟩
    have K1 := Lib.hid b1
    clear b1
    have CI := Lib.hid (fun w (hm : MarkTab w) => cleans_i s w hm (by omega))
    have CS := Lib.hid (fun w => cleans_s s w (by omega))
    rcases marks_vals s hs with hv | ⟨c2, t, q, n2, m2, k2, j2, v1, v2, v3, v4, v5, v6, v7, hcs, hts, hkn, hmn, hqs⟩
    · rw [hv] at CI CS
      clear hv
      go_wp2_with fail
      refine (CI.out _ (HT.out.below K1.out)).mono ?_
      rintro e w2 ⟨rfl, b2⟩
      have K2 := Lib.hid (K1.out.trans (b2.mono K1.out.size))
      clear b2
      go_wp2_with fail
      refine (CS.out _).mono ?_
      rintro e w3 ⟨rfl, b3⟩
      have K3 := Lib.hid (K2.out.trans (b3.mono K2.out.size))
      clear b3
      go_wp2_with fail
      go_ret
      exact ⟨rfl, K3.out⟩
    · have II := Lib.hid (fun w (hm : MarkTab w) => isClean_i c2 w hm (by omega))
      have SI := Lib.hid (fun w => strips_i s w (by omega))
      have ST := Lib.hid (fun w => strips_i t w (by omega))
      have NI := Lib.hid (fun w => be_same (counts_i s w (by omega)))
      have NC := Lib.hid (fun w => be_same (counts_i c2 w (by omega)))
      have NS := Lib.hid (fun w => be_same (counts_s s w (by omega)))
      have MI := Lib.hid (fun w => be_same (moves_i s w (by omega)))
      have MS := Lib.hid (fun w => moves_s s w (by omega))
      rw [v1] at CI CS
      rw [v2] at II
      rw [v3] at SI
      rw [v4] at ST
      rw [v5] at NI NS
      rw [v6] at NC
      rw [v7] at MI MS
      have d1 : decide ((s.size : Int) < (c2.size : Int)) = false := by simp; omega
      have d2 : decide ((n2 : Int) < (k2 : Int)) = false := by simp; omega
      have d3 : decide ((n2 : Int) < (m2 : Int)) = false := by simp; omega
      have d4 : ((q.size : Int) == (s.size : Int)) = true := by rw [hqs]; simp
      have d1' : decide (s.size < c2.size) = false := by simp; omega
      have d2' : decide (n2 < k2) = false := by simp; omega
      have d3' : decide (n2 < m2) = false := by simp; omega
      clear v1 v2 v3 v4 v5 v6 v7 hcs hts hkn hmn hqs
      go_wp2_with fail
      refine (CI.out _ (HT.out.below K1.out)).mono ?_
      rintro e w2 ⟨rfl, b2⟩
      have K2 := Lib.hid (K1.out.trans (b2.mono K1.out.size))
      clear b2
      go_wp2_with fail
      refine (CS.out _).mono ?_
      rintro e w3 ⟨rfl, b3⟩
      have K3 := Lib.hid (K2.out.trans (b3.mono K2.out.size))
      clear b3
      go_wp2_with fail
      refine (II.out _ (HT.out.below K3.out)).mono ?_
      rintro e w4 ⟨rfl, b4⟩
      have K4 := Lib.hid (K3.out.trans (b4.mono K3.out.size))
      clear b4
      go_wp2_with fail
      refine (SI.out _).mono ?_
      rintro e w5 ⟨rfl, b5⟩
      have K5 := Lib.hid (K4.out.trans (b5.mono K4.out.size))
      clear b5
      go_wp2_with fail
      refine (ST.out _).mono ?_
      rintro e w6 ⟨rfl, b6⟩
      have K6 := Lib.hid (K5.out.trans (b6.mono K5.out.size))
      clear b6
      go_wp2_with fail
      refine (NI.out _).mono ?_
      rintro e w7 ⟨rfl, b7⟩
      have K7 := Lib.hid (K6.out.trans (b7.mono K6.out.size))
      clear b7
      go_wp2_with fail
      refine (NC.out _).mono ?_
      rintro e w8 ⟨rfl, b8⟩
      have K8 := Lib.hid (K7.out.trans (b8.mono K7.out.size))
      clear b8
      go_wp2_with fail
      refine (NS.out _).mono ?_
      rintro e w9 ⟨rfl, b9⟩
      have K9 := Lib.hid (K8.out.trans (b9.mono K8.out.size))
      clear b9
      go_wp2_with fail
      refine (MI.out _).mono ?_
      rintro e w10 ⟨rfl, b10⟩
      have K10 := Lib.hid (K9.out.trans (b10.mono K9.out.size))
      clear b10
      go_wp2_with fail
      refine (MS.out _).mono ?_
      rintro e w11 ⟨rfl, b11⟩
      have K11 := Lib.hid (K10.out.trans (b11.mono K10.out.size))
      clear b11
      go_wp2_with fail
      go_ret
      exact ⟨rfl, K11.out⟩

set_option maxRecDepth 100000 in
theorem lifted (os : Os) (started : os.Started) (H : Type) (enc : TypeId × Value → H) :
    ReturnsInHanded {} Tryd.checked os 3 .any (fun w args => (Rows.fnMarksSpec.pre enc Tryd.prog Tryd.f3 Rows.fnMarksRow.domain false w args ∧ laidMetH Tryd.prog Rows.fnMarksRow.laid w) ∧ sizedMet enc Tryd.prog Tryd.f3 (OpenSpec.ofChange Rows.fnMarksSpec) false w args)
      (Rows.fnMarksSpec.post enc Tryd.prog Tryd.f3 false true false false) := by
  refine returnsInHanded_of_change_and (C := Tryd.checked) (X := fun w _ => laidMetH Tryd.prog Rows.fnMarksRow.laid w) (fun _ _ _ hh h => h.of_heap hh) own started (by kernel_rfl) Tryd.func3
    (ChangeSpec.witness_shaped (enc := enc) (C := Tryd.checked) (os := os) (X := fun w _ => laidMetH Tryd.prog Rows.fnMarksRow.laid w) false (World.laidAll Tryd.prog os Rows.fnMarksRow.laid) #[.slice none 0 0] 8 (World.laidAll_os _ _ _)
      (World.shaped_of_ZipB (by kernel_rfl) (by kernel_rfl)) (by kernel_rfl) (by kernel_rfl) (by kernel_rfl)
      (by rw [MakeChecks.laidMetH_plain _ _ _ (by kernel_rfl)]; exact laidMet_laidAll _ (by kernel_rfl) (by kernel_rfl))) ?_
  intro W base args ds gs before hval0 hW hcnd _ hL _
  rw [MakeChecks.laidMetH_plain _ _ _ (by kernel_rfl)] at hL
  have hval : ∀ (j : Nat) t v, Tryd.f3.params[j]? = some t → args[j]? = some v → Value.okWide Tryd.prog W .any base t v := hval0
  have hW' := hW
  obtain ⟨p, q, hA0, hV, rfl, hfz, hnd⟩ := hW
  have hA : DataW.TrodAll enc Tryd.prog W 0 (fun _ => true) true Tryd.f3.params.toList args.toList ds p := hA0
  rw [Tryd.params3] at hA hval
  obtain ⟨v0, vs0, d0, ds0, p0, q0, hargs, rfl, rfl, h0, r0⟩ := trodAll_cons hA
  obtain ⟨rfl, rfl, rfl⟩ := trodAll_nil r0
  obtain rfl : args = #[v0] := by cases args; simp_all
  obtain ⟨_, _, _, _, _, _, rfl, _⟩ := trodVars_one hV
  have k0 := h0
  have lt0 : ∀ x ∈ p0, x.block < W.heap.size := by obtain ⟨m, hm⟩ := k0; exact DataW.trod_lt m _ _ _ hm
  obtain ⟨A0, n0, c0, rfl, rd0, ap0⟩ := open_bytes (hval 0 22 v0 rfl rfl) h0
  clear hA0 hval0
  refine (walk A0 n0 c0 W rd0 ap0 (markTab_of_head hL.tail) ).mono fun e W' ⟨he, bel⟩ => ?_
  subst he
  exact ⟨_, rfl, _, _, _, [], _, q, hW', trodAll_mk1 (shut_bool Tryd.underlying4 _), (trodAll_cons_mk (Below.trod laidOut (by kernel_rfl) (of_decide_eq_true (by kernel_rfl)) k0 bel lt0) trodAll_mk0), bel.trodVars laidOut (by kernel_rfl) hV, bel.frame _, fun h => by cases h⟩

theorem closed : joinedFacts Tryd.pinned.checked.prog 3 Tryd.f3 Rows.fnMarksSpec Rows.fnMarksRow = true := by kernel_rfl
theorem over : Rows.fnMarksRow.holds Tryd.pinned (OpenSpec.ofChange Rows.fnMarksSpec) :=
  OpenClaim.holds_of_wide 3 Tryd.f3 rfl rfl rfl rfl rfl rfl rfl ⟨rfl, rfl, rfl, rfl, rfl⟩ rfl rfl rfl rfl rfl (by kernel_rfl) Tryd.func3 closed
    (of_decide_eq_true (by kernel_rfl)) (by unfold Func.isWrapper; first | (rw [if_pos (by decide +kernel)]; kernel_rfl) | (rw [if_neg (by decide +kernel)]; exact ⟨rfl, rfl⟩))
    (fun os started H enc _ => lifted os started H enc)

theorem plain (f : FuncId) (fn : Func) (hf : Tryd.pinned.checked.prog.funcNamed "loop.example/g00896/laws.FnMarks" = some f) (hfn : Tryd.pinned.checked.prog.funcs[f]? = some fn) :
    false = Tryd.pinned.checked.prog.looks [] ∧ ∀ (j : Nat) t, fn.params[j]? = some t → Tryd.pinned.checked.prog.wantsStandIn t = false := by
  obtain rfl : f = 3 := Option.some.inj ((show Tryd.prog.funcNamed "loop.example/g00896/laws.FnMarks" = some 3 by kernel_rfl).symm.trans hf) |>.symm
  obtain rfl : fn = Tryd.f3 := (Option.some.inj (Tryd.func3.symm.trans hfn)).symm
  refine ⟨by kernel_rfl, fun j t ht => ?_⟩
  rw [Tryd.params3] at ht
  obtain rfl : t = 22 := by simpa using Array.mem_of_getElem? ht
  exact (show Tryd.prog.wantsStandIn 22 = false by kernel_rfl)

theorem card : Rows.FnMarksCardSaid :=
  Claim7.holds_tied_plain_at .later [] _ _ _ _ over (fun _ h => by cases h) (by kernel_rfl) (fun _ h => by cases h) fnMarks_row_tie rfl ⟨rfl, rfl⟩ (by kernel_rfl) rfl plain (by kernel_rfl)
#print axioms card
end Go.Proofs.YtknilobmiandgaaDoor.fnMarks
