/-
  Proved: for every code of bytes the law FnCollation returns true; the argument reads as before. The library's tables and its error lie as the program's text and the pinned constants lay them (the card ties them). No further condition.
-/
import Derived.Test.YthacdkbjefpoaaaDoorRows
import Derived.Test.YthacdkbjefpoaaaDoorFdPl
import Derived.Test.YthacdkbjefpoaaaDoorDf
import Derived.Test.YthacdkbjefpoaaaDoorOpenB
import Derived.WalkKit
import Derived.ProofKit
import Derived.OpenShut
import Derived.ShutString
import Derived.ChangeOld
import Derived.Below
import Derived.Lib.SmallJoins
import Derived.Test.YthacdkbjefpoaaaDoorCards
import Derived.Test.YthacdkbjefpoaaaDoorTie
import Derived.LaidMore
import Derived.Lay
import Derived.SevenTiedAt
import Derived.Stop.Joined
namespace Go.Proofs.YthacdkbjefpoaaaDoor.fnCollation
open Go.ChangeShapes Go.WideShapes Go.ChangeAt Go.RowKit
open Go.ChangeMaps (open_string shut_string)
open Pl FoPl NcPl Cmp Or2 Fo Nc FdPl Cur Draw0 Df OpenB
set_option linter.unusedVariables false
set_option linter.unusedSimpArgs false

theorem own : ownKnob Tryd.prog.godebug = none := by kernel_rfl
theorem laidOut : laidOutB Tryd.prog = true := by kernel_rfl
theorem fold_vals (s : ByteArray) (h : s.size ≤ 20) : ∃ f : ByteArray, f.size ≤ 20 ∧ foV s = .tuple #[.string f, .bool true] ∧ foV f = .tuple #[.string f, .bool true] := by
  have hl := fT_len s.data.toList
  rw [len_size] at hl
  refine ⟨ba (fT s.data.toList), by rw [ba_size]; omega, ?_, ?_⟩
  · unfold foV; rw [if_pos (by omega)]
  · unfold foV; rw [if_pos (by rw [ba_size]; omega), toList_ba, fT_again]
theorem neg_wrap {x : Int} (h : -1 ≤ x ∧ x ≤ 1) : IntKind.i64.wrap (-x) = -x := by
  rcases (show x = -1 ∨ x = 0 ∨ x = 1 by omega) with rfl | rfl | rfl <;> rfl
theorem zero_eq {x : Int} {a b : ByteArray} (h : (x = 0) = (a = b)) : (x == 0) = (a.toList == b.toList) := by
  rw [Bool.eq_iff_iff, beq_iff_eq, beq_iff_eq, Lib.toList_data, Lib.toList_data, h]
  exact ⟨fun e => by rw [e], fun e => ByteArray.ext (Array.toList_inj.1 e)⟩
theorem col_vals (a b : ByteArray) (ha : a.size ≤ 20) (hb : b.size ≤ 20) : ∃ x : Int, coV a b = .tuple #[.int .i64 x, .bool true] ∧ coV b a = .tuple #[.int .i64 (-x), .bool true] ∧ IntKind.i64.wrap (-x) = -x ∧ (x == 0) = (a.toList == b.toList) := by
  refine ⟨colV a b, ?_, ?_, neg_wrap (col_bd a b), zero_eq (col_zero a b)⟩
  · unfold coV; rw [if_pos ⟨by omega, by omega⟩]
  · unfold coV; rw [if_pos ⟨by omega, by omega⟩, col_neg]
theorem nat_vals (a b : ByteArray) : ∃ (x : Int) (r : Bool), ncV a b = .tuple #[.int .i64 x, .bool r] ∧ ncV b a = .tuple #[.int .i64 (-x), .bool r] ∧ IntKind.i64.wrap (-x) = -x ∧ (r = true → (x == 0) = (a.toList == b.toList)) := by
  by_cases h : a.size ≤ 40 ∧ b.size ≤ 40
  · refine ⟨natV a b, true, ?_, ?_, neg_wrap (nat_bd a b), fun _ => zero_eq (nat_zero a b)⟩
    · unfold ncV; rw [if_pos h]; rfl
    · unfold ncV; rw [if_pos ⟨h.2, h.1⟩]; rw [← nat_neg]; rfl
  · refine ⟨0, false, ?_, ?_, rfl, fun e => by cases e⟩
    · unfold ncV; rw [if_neg h]
    · unfold ncV; rw [if_neg (fun e => h ⟨e.2, e.1⟩)]; rfl
set_option maxRecDepth 100000 in
set_option maxHeartbeats 8000000 in
theorem walk (A : Option Addr) (n c : Nat) (w : World) (hr : RdB w A n) (ha : Apart A n w.heap.size) :
    Calls Tryd.prog 3 #[.slice A n c] w fun e w' => e = .returned (.bool true) ∧ Below w.heap.size w w' := by
  have HR := Lib.hid hr
  have HA := Lib.hid ha
  clear hr ha
  by_cases hbig : 65536 < n
  · go_enter Tryd.func3, Tryd.ntmps3
    go_wp2_with fail
    refine (vBig_any A n c _ true (by simp; omega)).mono ?_
    rintro e w' ⟨rfl, rfl⟩
    go_wp2_with fail
    go_ret
    exact ⟨rfl, Below.refl _ _⟩
  · go_enter Tryd.func3, Tryd.ntmps3
    go_wp2_with fail
    refine (vBig_any A n c _ false (by simp; omega)).mono ?_
    rintro e w' ⟨rfl, rfl⟩
    go_wp2_with fail
    refine (drawFold_any A n c _ (by omega) HR.out HA.out).mono ?_
    rintro e w1 ⟨s, hs, rfl, b1⟩
    have k1 := b1
    obtain ⟨f, hf, v1, v2⟩ := fold_vals s hs
    have HF := Lib.hid (fun w => foldText_i s w (by omega))
    have HG := Lib.hid (fun w => foldText_i f w (by omega))
    have HS := Lib.hid (fun w => foldText_s s w (by omega))
    rw [v1] at HF HS
    rw [v2] at HG
    clear v1 v2 b1
    go_wp2_with fail
    refine (HF.out _).mono ?_
    rintro e w2 ⟨rfl, b2⟩
    have k2 := k1.trans (b2.mono k1.size)
    clear b2
    go_wp2_with fail
    refine (HG.out _).mono ?_
    rintro e w3 ⟨rfl, b3⟩
    have k3 := k2.trans (b3.mono k2.size)
    clear b3
    go_wp2_with fail
    refine (HS.out _).mono ?_
    rintro e w4 ⟨rfl, b4⟩
    have k4 := k3.trans (b4.mono k3.size)
    clear b4 k1 k2 k3 HF HG HS
    go_wp2_with fail
    refine (drawCollate_any A n c _ (by omega) (rdb_below HR.out HA.out k4) (fun h a e => Nat.lt_of_lt_of_le (HA.out h a e) k4.size)).mono ?_
    rintro e w5 ⟨a, b, hsa, hsb, rfl, b5⟩
    have k5 := k4.trans (b5.mono k4.size)
    clear b5 k4
    obtain ⟨x, v1, v2, hw, hz⟩ := col_vals a b hsa hsb
    have HF := Lib.hid (fun w => collateTexts_i a b w (by omega) (by omega))
    have HG := Lib.hid (fun w => collateTexts_i b a w (by omega) (by omega))
    have HS := Lib.hid (fun w => collateTexts_s a b w (by omega) (by omega))
    rw [v1] at HF HS
    rw [v2] at HG
    clear v1 v2 hsa hsb
    go_wp2_with fail
    refine (HF.out _).mono ?_
    rintro e w6 ⟨rfl, b6⟩
    have k6 := k5.trans (b6.mono k5.size)
    clear b6 k5
    go_wp2_with fail
    refine (HG.out _).mono ?_
    rintro e w7 ⟨rfl, b7⟩
    have k7 := k6.trans (b7.mono k6.size)
    clear b7 k6
    go_wp2_with fail
    refine (HS.out _).mono ?_
    rintro e w8 ⟨rfl, b8⟩
    have k8 := k7.trans (b8.mono k7.size)
    clear b8 k7 HF HG HS
    obtain ⟨p, hp⟩ : ∃ p, (a.toList == b.toList) = p := ⟨_, rfl⟩
    rw [hp] at hz
    go_wp2_with fail
    refine (drawNatural_any A n c _ (by omega) (rdb_below HR.out HA.out k8) (fun h a e => Nat.lt_of_lt_of_le (HA.out h a e) k8.size)).mono ?_
    rintro e w9 ⟨y, z, hsy, hsz, rfl, b9⟩
    have k9 := k8.trans (b9.mono k8.size)
    clear b9 k8
    obtain ⟨v, r, v1, v2, hw2, hz2⟩ := nat_vals y z
    have HF := Lib.hid (fun w => natural_i y z w (by omega) (by omega))
    have HG := Lib.hid (fun w => natural_i z y w (by omega) (by omega))
    have HS := Lib.hid (fun w => natural_s y z w (by omega) (by omega))
    rw [v1] at HF HS
    rw [v2] at HG
    clear v1 v2 hsy hsz
    go_wp2_with fail
    refine (HF.out _).mono ?_
    rintro e w10 ⟨rfl, b10⟩
    have k10 := k9.trans (b10.mono k9.size)
    clear b10 k9
    go_wp2_with fail
    refine (HG.out _).mono ?_
    rintro e w11 ⟨rfl, b11⟩
    have k11 := k10.trans (b11.mono k10.size)
    clear b11 k10
    go_wp2_with fail
    refine (HS.out _).mono ?_
    rintro e w12 ⟨rfl, b12⟩
    have k12 := k11.trans (b12.mono k11.size)
    clear b12 k11 HF HG HS
    cases r with
    | true =>
      have hz3 := hz2 rfl
      obtain ⟨q, hq⟩ : ∃ q, (y.toList == z.toList) = q := ⟨_, rfl⟩
      rw [hq] at hz3
      clear hz2
      go_wp2_with fail
      go_ret
      exact ⟨rfl, k12⟩
    | false =>
      clear hz2
      go_wp2_with fail
      go_ret
      exact ⟨rfl, k12⟩

set_option maxRecDepth 100000 in
theorem lifted (os : Os) (started : os.Started) (H : Type) (enc : TypeId × Value → H) :
    ReturnsInHanded {} Tryd.checked os 3 .any (fun w args => (Rows.fnCollationSpec.pre enc Tryd.prog Tryd.f3 Rows.fnCollationRow.domain false w args ∧ laidMetH Tryd.prog Rows.fnCollationRow.laid w) ∧ sizedMet enc Tryd.prog Tryd.f3 (OpenSpec.ofChange Rows.fnCollationSpec) false w args)
      (Rows.fnCollationSpec.post enc Tryd.prog Tryd.f3 false true false false) := by
  refine returnsInHanded_of_change_and (C := Tryd.checked) (X := fun w _ => laidMetH Tryd.prog Rows.fnCollationRow.laid w) (fun _ _ _ hh h => h.of_heap hh) own started (by kernel_rfl) Tryd.func3
    (ChangeSpec.witness_shaped (enc := enc) (C := Tryd.checked) (os := os) (X := fun w _ => laidMetH Tryd.prog Rows.fnCollationRow.laid w) false (World.laidAll Tryd.prog os Rows.fnCollationRow.laid) #[.slice none 0 0] 8 (World.laidAll_os _ _ _)
      (World.shaped_of_ZipB (by kernel_rfl) (by kernel_rfl)) (by kernel_rfl) (by kernel_rfl) (by kernel_rfl)
      (by rw [MakeChecks.laidMetH_plain _ _ _ (by kernel_rfl)]; exact laidMet_laidAll _ (by kernel_rfl) (by kernel_rfl))) ?_
  intro W base args ds gs before hval0 hW hcnd _ hL _
  have hval : ∀ (j : Nat) t v, Tryd.f3.params[j]? = some t → args[j]? = some v → Value.okWide Tryd.prog W .any base t v := hval0
  have hW' := hW
  obtain ⟨p, q, hA0, hV, rfl, hfz, hnd⟩ := hW
  have hA : DataW.TrodAll enc Tryd.prog W 0 (fun _ => true) true Tryd.f3.params.toList args.toList ds p := hA0
  rw [Tryd.params3] at hA hval
  obtain ⟨v0, vs0, d0, ds0, p0, q0, hargs, rfl, rfl, h0, r0⟩ := trodAll_cons hA
  obtain ⟨rfl, rfl, rfl⟩ := trodAll_nil r0
  obtain rfl : args = #[v0] := by cases args; simp_all
  obtain ⟨rfl, rfl⟩ := trodVars_none hV
  have k0 := h0
  have lt0 : ∀ x ∈ p0, x.block < W.heap.size := by obtain ⟨m, hm⟩ := k0; exact DataW.trod_lt m _ _ _ hm
  obtain ⟨A0, n0, c0, rfl, rd0, ap0⟩ := open_bytes (hval 0 22 v0 rfl rfl) h0
  clear hA0 hval0
  refine (walk A0 n0 c0 W rd0 ap0 ).mono fun e W' ⟨he, bel⟩ => ?_
  subst he
  exact ⟨_, rfl, _, _, _, [], _, [], hW', trodAll_mk1 (shut_bool Tryd.underlying4 _), (trodAll_cons_mk (Below.trod laidOut (by kernel_rfl) (of_decide_eq_true (by kernel_rfl)) k0 bel lt0) trodAll_mk0), rfl, bel.frame _, fun h => by cases h⟩

theorem closed : joinedFacts Tryd.pinned.checked.prog 3 Tryd.f3 Rows.fnCollationSpec Rows.fnCollationRow = true := by kernel_rfl
theorem over : Rows.fnCollationRow.holds Tryd.pinned (OpenSpec.ofChange Rows.fnCollationSpec) :=
  OpenClaim.holds_of_wide 3 Tryd.f3 rfl rfl rfl rfl rfl rfl rfl ⟨rfl, rfl, rfl, rfl, rfl⟩ rfl rfl rfl rfl rfl (by kernel_rfl) Tryd.func3 closed
    (of_decide_eq_true (by kernel_rfl)) (by unfold Func.isWrapper; first | (rw [if_pos (by decide +kernel)]; kernel_rfl) | (rw [if_neg (by decide +kernel)]; exact ⟨rfl, rfl⟩))
    (fun os started H enc _ => lifted os started H enc)

theorem plain (f : FuncId) (fn : Func) (hf : Tryd.pinned.checked.prog.funcNamed "loop.example/g00896/laws.FnCollation" = some f) (hfn : Tryd.pinned.checked.prog.funcs[f]? = some fn) :
    false = Tryd.pinned.checked.prog.looks [] ∧ ∀ (j : Nat) t, fn.params[j]? = some t → Tryd.pinned.checked.prog.wantsStandIn t = false := by
  obtain rfl : f = 3 := Option.some.inj ((show Tryd.prog.funcNamed "loop.example/g00896/laws.FnCollation" = some 3 by kernel_rfl).symm.trans hf) |>.symm
  obtain rfl : fn = Tryd.f3 := (Option.some.inj (Tryd.func3.symm.trans hfn)).symm
  refine ⟨by kernel_rfl, fun j t ht => ?_⟩
  rw [Tryd.params3] at ht
  obtain rfl : t = 22 := by simpa using Array.mem_of_getElem? ht
  exact (show Tryd.prog.wantsStandIn 22 = false by kernel_rfl)

theorem card : Rows.FnCollationCardSaid :=
  Claim7.holds_tied_plain_at .later [] _ _ _ _ over (fun _ h => by cases h) (by kernel_rfl) (fun _ h => by cases h) fnCollation_row_tie rfl ⟨rfl, rfl⟩ (by kernel_rfl) rfl plain (by kernel_rfl)
#print axioms card
end Go.Proofs.YthacdkbjefpoaaaDoor.fnCollation
