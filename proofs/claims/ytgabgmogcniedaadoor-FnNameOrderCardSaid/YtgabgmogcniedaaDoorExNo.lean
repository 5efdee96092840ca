/-
  Proved: for every code of bytes the law FnNameOrder returns true; the argument reads as before. The library's tables and its error lie as the program's text and the pinned constants lay them (the card ties them). No further condition.
-/
import Derived.Test.YtgabgmogcniedaaDoorRows
import Derived.Test.YtgabgmogcniedaaDoorDnX
import Derived.Test.YtgabgmogcniedaaDoorVn
import Derived.Test.YtgabgmogcniedaaDoorNoPl
import Derived.Test.YtgabgmogcniedaaDoorCmp4
import Derived.Test.YtgabgmogcniedaaDoorMay3
import Derived.Test.YtgabgmogcniedaaDoorOpenB
import Derived.WalkKit
import Derived.ProofKit
import Derived.OpenShut
import Derived.ShutString
import Derived.ChangeOld
import Derived.Below
import Derived.Lib.SmallJoins
import Derived.Test.YtgabgmogcniedaaDoorCards
import Derived.Test.YtgabgmogcniedaaDoorTie
import Derived.LaidMore
import Derived.Lay
import Derived.SevenTiedAt
import Derived.Stop.Joined
namespace Go.Proofs.YtgabgmogcniedaaDoor.fnNameOrder
open Go.ChangeShapes Go.WideShapes Go.ChangeAt Go.RowKit
open Go.ChangeMaps (open_string shut_string)
open Pl Strs Help Name NGood Cmp May NoPl Cur Draw0 StN Vn OpenB
set_option linter.unusedVariables false
set_option linter.unusedSimpArgs false

theorem vBig_any (A : Option Addr) (n c : Nat) (w : World) (r : Bool) (hr : decide (65536 < (n : Int)) = r) : Calls Tryd.prog 4 #[.slice A n c] w fun e w' => e = .returned (.bool r) ∧ w = w' := by
  subst hr
  go_enter Tryd.func4, Tryd.ntmps4
  go_wp2
  go_ret
  exact ⟨rfl, rfl⟩
theorem own : ownKnob Tryd.prog.godebug = none := by kernel_rfl
theorem laidOut : laidOutB Tryd.prog = true := by kernel_rfl
theorem neg_wrap {x : Int} (h : -1 ≤ x ∧ x ≤ 1) : IntKind.i64.wrap (-x) = -x := by
  rcases (show x = -1 ∨ x = 0 ∨ x = 1 by omega) with rfl | rfl | rfl <;> rfl
theorem lens_sm : ∀ (xs : List ByteArray), (∀ x ∈ xs, Sm x) → lens xs ≤ 16 * xs.length
  | [], _ => by simp [lens]
  | x :: xs, h => by
    have h1 := lens_sm xs (fun y hy => h y (List.mem_cons_of_mem _ hy))
    have h2 : x.size ≤ 16 := h x List.mem_cons_self
    have h3 : lens (x :: xs) = x.size + lens xs := by simp [lens]
    rw [h3, List.length_cons]; omega
theorem no_vals (xs : List ByteArray) (p f s : ByteArray) (ys : List ByteArray) (p2 f2 s2 : ByteArray) : ∃ (z : Int) (g m v : Bool),
    cnV (cmpM xs p f s ys p2 f2 s2) (okN xs p f s && okN ys p2 f2 s2) = .tuple #[.int .i64 z, .bool g] ∧ cnV (cmpM ys p2 f2 s2 xs p f s) (okN ys p2 f2 s2 && okN xs p f s) = .tuple #[.int .i64 (-z), .bool g] ∧ IntKind.i64.wrap (-z) = -z ∧
    mbV (mayB xs p f s ys p2 f2 s2) (okN xs p f s && okN ys p2 f2 s2) = .tuple #[.bool m, .bool g] ∧ mbV (mayB ys p2 f2 s2 xs p f s) (okN ys p2 f2 s2 && okN xs p f s) = .tuple #[.bool m, .bool g] ∧
    (decide (xs = ys) && decide (p = p2) && decide (f = f2) && decide (s = s2)) = v ∧ (g = true → (z = 0 → v = true ∧ m = true) ∧ (z ≠ 0 → v = false)) := by
  rw [Bool.and_comm (okN ys p2 f2 s2), name_neg xs p f s ys p2 f2 s2, may_comm xs p f s ys p2 f2 s2]
  rcases hg : (okN xs p f s && okN ys p2 f2 s2) with _ | _
  · exact ⟨0, false, false, _, rfl, rfl, rfl, rfl, rfl, rfl, fun e => by cases e⟩
  · have h1 : okN xs p f s = true := by
      cases h : okN xs p f s
      · rw [h] at hg; cases hg
      · rfl
    have h2 : okN ys p2 f2 s2 = true := by
      cases h : okN ys p2 f2 s2
      · rw [h, h1] at hg; cases hg
      · rfl
    have hz := name_zero (xs := xs) (p := p) (f := f) (s := s) (ys := ys) (p2 := p2) (f2 := f2) (s2 := s2) h1 h2
    refine ⟨cmpM xs p f s ys p2 f2 s2, true, mayB xs p f s ys p2 f2 s2, _, rfl, rfl, neg_wrap (name_bd xs p f s ys p2 f2 s2), rfl, rfl, rfl, fun _ => ⟨fun e => ?_, fun e => ?_⟩⟩
    · obtain ⟨rfl, rfl, rfl, rfl⟩ := hz.1 e
      exact ⟨by simp, may_self xs p f s⟩
    · cases hv : (decide (xs = ys) && decide (p = p2) && decide (f = f2) && decide (s = s2))
      · rfl
      · simp only [Bool.and_eq_true, decide_eq_true_eq] at hv
        exact absurd (hz.2 ⟨hv.1.1.1, hv.1.1.2, hv.1.2, hv.2⟩) e
set_option maxRecDepth 100000 in
set_option maxHeartbeats 8000000 in
theorem walk (A : Option Addr) (n c : Nat) (w : World) (hr : RdB w A n) (ha : Apart A n w.heap.size) :
    Calls Tryd.prog 3 #[.slice A n c] w fun e w' => e = .returned (.bool true) ∧ Below w.heap.size w w' := by
  have HR := Lib.hid hr
  have HA := Lib.hid ha
  clear hr ha
  by_cases hbig : 65536 < n
  · go_enter Tryd.func3, Tryd.ntmps3
    go_wp2_with fail
    refine (vBig_any A n c _ true (by simp; omega)).mono ?_
    rintro e w' ⟨rfl, rfl⟩
    go_wp2_with fail
    go_ret
    exact ⟨rfl, Below.refl _ _⟩
  · go_enter Tryd.func3, Tryd.ntmps3
    go_wp2_with fail
    refine (vBig_any A n c _ false (by simp; omega)).mono ?_
    rintro e w' ⟨rfl, rfl⟩
    go_wp2_with fail
    refine (drawCompare_any A n c _ (by omega) HR.out HA.out).mono ?_
    rintro e w1 ⟨Aa, ca, xs, p, f, s, Ab, cb, ys, p2, f2, s2, rfl, R1, R2, hca, hcb, hxl, hyl, hX, hY, hp, hf, hs, hp2, hf2, hs2, b1⟩
    clear HR HA
    obtain ⟨W0, hW0⟩ : ∃ W0, W0 = (w1.alloc (.cells #[.slice Aa xs.length ca, .string p, .string f, .string s] 26)).alloc (.cells #[.slice Ab ys.length cb, .string p2, .string f2, .string s2] 26) := ⟨_, rfl⟩
    have hk : Below w1.heap.size w1 W0 := by rw [hW0]; exact ((Below.refl _ w1).alloc (Nat.le_refl _) _).alloc (by simp) _
    have HB := Lib.hid (b1.trans (hk.mono b1.size))
    have HCa : C4 W0 w1.heap.size (.slice Aa xs.length ca) p f s := by rw [hW0]; exact (C4.new w1 (.slice Aa xs.length ca) p f s 26).below ((Below.refl _ _).alloc (Nat.le_refl _) _)
    have HCb : C4 W0 (w1.heap.size + 1) (.slice Ab ys.length cb) p2 f2 s2 := by
      rw [hW0]
      have := C4.new (w1.alloc (.cells #[.slice Aa xs.length ca, .string p, .string f, .string s] 26)) (.slice Ab ys.length cb) p2 f2 s2 26
      simpa using this
    have HKA := Lib.hid (fun w' (h : Below W0.heap.size W0 w') => HCa.below h)
    have HKB := Lib.hid (fun w' (h : Below W0.heap.size W0 w') => HCb.below h)
    have R1' := R1.below hk
    have R2' := R2.below hk
    have l1 : xs.length + lens xs + p.size + f.size + s.size ≤ 1048576 := by
      have := lens_sm xs hX; unfold Sm at hp hf hs; omega
    have l2 : ys.length + lens ys + p2.size + f2.size + s2.size ≤ 1048576 := by
      have := lens_sm ys hY; unfold Sm at hp2 hf2 hs2; omega
    have HI1 := Lib.hid (fun w' (h : Below W0.heap.size W0 w') => implCompare Aa Ab ca cb _ _ xs ys p f s p2 f2 s2 w' (R1'.below h) (R2'.below h) l1 l2 hca hcb)
    have HI2 := Lib.hid (fun w' (h : Below W0.heap.size W0 w') => implCompare Ab Aa cb ca _ _ ys xs p2 f2 s2 p f s w' (R2'.below h) (R1'.below h) l2 l1 hcb hca)
    have HI3 := Lib.hid (fun w' (h : Below W0.heap.size W0 w') => specCompare Aa Ab ca cb _ _ xs ys p f s p2 f2 s2 w' (R1'.below h) (R2'.below h) l1 l2)
    have HM1 := Lib.hid (fun w' (h : Below W0.heap.size W0 w') => implMayBe Aa Ab ca cb _ _ xs ys p f s p2 f2 s2 w' (R1'.below h) (R2'.below h) (by omega) (by omega) (by omega) (by omega))
    have HM2 := Lib.hid (fun w' (h : Below W0.heap.size W0 w') => implMayBe Ab Aa cb ca _ _ ys xs p2 f2 s2 p f s w' (R2'.below h) (R1'.below h) (by omega) (by omega) (by omega) (by omega))
    have HM3 := Lib.hid (fun w' (h : Below W0.heap.size W0 w') => specMayBe Aa Ab ca cb _ _ xs ys p f s p2 f2 s2 w' (R1'.below h) (R2'.below h) l1 l2)
    have HV := Lib.hid (fun w' (h : Below W0.heap.size W0 w') => vName_any Aa Ab ca cb _ _ xs ys p f s p2 f2 s2 w' (R1'.below h) (R2'.below h) (by omega) (by omega) hca hcb)
    obtain ⟨z, g, m, v, v1, v2, hw, v3, v4, v5, hgz⟩ := no_vals xs p f s ys p2 f2 s2
    rw [v1] at HI1 HI3
    rw [v2] at HI2
    rw [v3] at HM1 HM3
    rw [v4] at HM2
    rw [v5] at HV
    have HW0 := Lib.hid hW0
    clear v1 v2 v3 v4 v5 hW0 R1 R2 R1' R2' l1 l2 hX hY hp hf hs hp2 hf2 hs2 hk b1 HCa HCb
    go_wp2_with fail
    rw [← HW0.out]
    refine (HI1.out _ (Below.refl _ _)).mono ?_
    rintro e w2 ⟨rfl, k2⟩
    obtain ⟨_, a0, a1, a2, a3⟩ := HKA.out _ k2
    obtain ⟨_, q0, q1, q2, q3⟩ := HKB.out _ k2
    go_wp2_with fail
    clear a0 a1 a2 a3 q0 q1 q2 q3
    refine (HI2.out _ k2).mono ?_
    rintro e w3 ⟨rfl, b3⟩
    have k3 := k2.trans (b3.mono k2.size)
    clear b3 k2
    obtain ⟨_, a0, a1, a2, a3⟩ := HKA.out _ k3
    obtain ⟨_, q0, q1, q2, q3⟩ := HKB.out _ k3
    go_wp2_with fail
    clear a0 a1 a2 a3 q0 q1 q2 q3
    refine (HI3.out _ k3).mono ?_
    rintro e w4 ⟨rfl, b4⟩
    have k4 := k3.trans (b4.mono k3.size)
    clear b4 k3
    obtain ⟨_, a0, a1, a2, a3⟩ := HKA.out _ k4
    obtain ⟨_, q0, q1, q2, q3⟩ := HKB.out _ k4
    go_wp2_with fail
    clear a0 a1 a2 a3 q0 q1 q2 q3
    refine (HM1.out _ k4).mono ?_
    rintro e w5 ⟨rfl, b5⟩
    have k5 := k4.trans (b5.mono k4.size)
    clear b5 k4
    obtain ⟨_, a0, a1, a2, a3⟩ := HKA.out _ k5
    obtain ⟨_, q0, q1, q2, q3⟩ := HKB.out _ k5
    go_wp2_with fail
    clear a0 a1 a2 a3 q0 q1 q2 q3
    refine (HM2.out _ k5).mono ?_
    rintro e w6 ⟨rfl, b6⟩
    have k6 := k5.trans (b6.mono k5.size)
    clear b6 k5
    obtain ⟨_, a0, a1, a2, a3⟩ := HKA.out _ k6
    obtain ⟨_, q0, q1, q2, q3⟩ := HKB.out _ k6
    go_wp2_with fail
    clear a0 a1 a2 a3 q0 q1 q2 q3
    refine (HM3.out _ k6).mono ?_
    rintro e w7 ⟨rfl, b7⟩
    have k7 := k6.trans (b7.mono k6.size)
    clear b7 k6
    obtain ⟨_, a0, a1, a2, a3⟩ := HKA.out _ k7
    obtain ⟨_, q0, q1, q2, q3⟩ := HKB.out _ k7
    cases g with
    | false =>
      clear hgz
      go_wp2_with fail
      go_ret
      exact ⟨rfl, HB.out.trans (k7.mono HB.out.size)⟩
    | true =>
      obtain ⟨hg1, hg2⟩ := hgz rfl
      clear hgz
      by_cases hz : z = 0
      · obtain ⟨rfl, rfl⟩ := hg1 hz
        subst hz
        clear hg1 hg2
        go_wp2_with fail
        clear a0 a1 a2 a3 q0 q1 q2 q3
        refine (HV.out _ k7).mono ?_
        rintro e w8 ⟨rfl, b8⟩
        have k8 := k7.trans (b8.mono k7.size)
        clear b8 k7
        go_wp2_with fail
        go_ret
        exact ⟨rfl, HB.out.trans (k8.mono HB.out.size)⟩
      · obtain rfl := hg2 hz
        clear hg1 hg2
        go_wp2_with fail
        clear a0 a1 a2 a3 q0 q1 q2 q3
        refine (HV.out _ k7).mono ?_
        rintro e w8 ⟨rfl, b8⟩
        have k8 := k7.trans (b8.mono k7.size)
        clear b8 k7
        go_wp2_with fail
        go_ret
        refine ⟨?_, HB.out.trans (k8.mono HB.out.size)⟩
        have hz2 : (z == 0) = false := by simpa using hz
        show Ending.returned (.bool (!(z == 0))) = .returned (.bool true)
        rw [hz2]; rfl

set_option maxRecDepth 100000 in
theorem lifted (os : Os) (started : os.Started) (H : Type) (enc : TypeId × Value → H) :
    ReturnsInHanded {} Tryd.checked os 3 .any (fun w args => (Rows.fnNameOrderSpec.pre enc Tryd.prog Tryd.f3 Rows.fnNameOrderRow.domain false w args ∧ laidMetH Tryd.prog Rows.fnNameOrderRow.laid w) ∧ sizedMet enc Tryd.prog Tryd.f3 (OpenSpec.ofChange Rows.fnNameOrderSpec) false w args)
      (Rows.fnNameOrderSpec.post enc Tryd.prog Tryd.f3 false true false false) := by
  refine returnsInHanded_of_change_and (C := Tryd.checked) (X := fun w _ => laidMetH Tryd.prog Rows.fnNameOrderRow.laid w) (fun _ _ _ hh h => h.of_heap hh) own started (by kernel_rfl) Tryd.func3
    (ChangeSpec.witness_shaped (enc := enc) (C := Tryd.checked) (os := os) (X := fun w _ => laidMetH Tryd.prog Rows.fnNameOrderRow.laid w) false (World.laidAll Tryd.prog os Rows.fnNameOrderRow.laid) #[.slice none 0 0] 8 (World.laidAll_os _ _ _)
      (World.shaped_of_ZipB (by kernel_rfl) (by kernel_rfl)) (by kernel_rfl) (by kernel_rfl) (by kernel_rfl)
      (by rw [MakeChecks.laidMetH_plain _ _ _ (by kernel_rfl)]; exact laidMet_laidAll _ (by kernel_rfl) (by kernel_rfl))) ?_
  intro W base args ds gs before hval0 hW hcnd _ hL _
  have hval : ∀ (j : Nat) t v, Tryd.f3.params[j]? = some t → args[j]? = some v → Value.okWide Tryd.prog W .any base t v := hval0
  have hW' := hW
  obtain ⟨p, q, hA0, hV, rfl, hfz, hnd⟩ := hW
  have hA : DataW.TrodAll enc Tryd.prog W 0 (fun _ => true) true Tryd.f3.params.toList args.toList ds p := hA0
  rw [Tryd.params3] at hA hval
  obtain ⟨v0, vs0, d0, ds0, p0, q0, hargs, rfl, rfl, h0, r0⟩ := trodAll_cons hA
  obtain ⟨rfl, rfl, rfl⟩ := trodAll_nil r0
  obtain rfl : args = #[v0] := by cases args; simp_all
  obtain ⟨rfl, rfl⟩ := trodVars_none hV
  have k0 := h0
  have lt0 : ∀ x ∈ p0, x.block < W.heap.size := by obtain ⟨m, hm⟩ := k0; exact DataW.trod_lt m _ _ _ hm
  obtain ⟨A0, n0, c0, rfl, rd0, ap0⟩ := open_bytes (hval 0 22 v0 rfl rfl) h0
  clear hA0 hval0
  refine (walk A0 n0 c0 W rd0 ap0 ).mono fun e W' ⟨he, bel⟩ => ?_
  subst he
  exact ⟨_, rfl, _, _, _, [], _, [], hW', trodAll_mk1 (shut_bool Tryd.underlying4 _), (trodAll_cons_mk (Below.trod laidOut (by kernel_rfl) (of_decide_eq_true (by kernel_rfl)) k0 bel lt0) trodAll_mk0), rfl, bel.frame _, fun h => by cases h⟩

theorem closed : joinedFacts Tryd.pinned.checked.prog 3 Tryd.f3 Rows.fnNameOrderSpec Rows.fnNameOrderRow = true := by kernel_rfl
theorem over : Rows.fnNameOrderRow.holds Tryd.pinned (OpenSpec.ofChange Rows.fnNameOrderSpec) :=
  OpenClaim.holds_of_wide 3 Tryd.f3 rfl rfl rfl rfl rfl rfl rfl ⟨rfl, rfl, rfl, rfl, rfl⟩ rfl rfl rfl rfl rfl (by kernel_rfl) Tryd.func3 closed
    (of_decide_eq_true (by kernel_rfl)) (by unfold Func.isWrapper; first | (rw [if_pos (by decide +kernel)]; kernel_rfl) | (rw [if_neg (by decide +kernel)]; exact ⟨rfl, rfl⟩))
    (fun os started H enc _ => lifted os started H enc)

theorem plain (f : FuncId) (fn : Func) (hf : Tryd.pinned.checked.prog.funcNamed "loop.example/g00896/laws.FnNameOrder" = some f) (hfn : Tryd.pinned.checked.prog.funcs[f]? = some fn) :
    false = Tryd.pinned.checked.prog.looks [] ∧ ∀ (j : Nat) t, fn.params[j]? = some t → Tryd.pinned.checked.prog.wantsStandIn t = false := by
  obtain rfl : f = 3 := Option.some.inj ((show Tryd.prog.funcNamed "loop.example/g00896/laws.FnNameOrder" = some 3 by kernel_rfl).symm.trans hf) |>.symm
  obtain rfl : fn = Tryd.f3 := (Option.some.inj (Tryd.func3.symm.trans hfn)).symm
  refine ⟨by kernel_rfl, fun j t ht => ?_⟩
  rw [Tryd.params3] at ht
  obtain rfl : t = 22 := by simpa using Array.mem_of_getElem? ht
  exact (show Tryd.prog.wantsStandIn 22 = false by kernel_rfl)

theorem card : Rows.FnNameOrderCardSaid :=
  Claim7.holds_tied_plain_at .later [] _ _ _ _ over (fun _ h => by cases h) (by kernel_rfl) (fun _ h => by cases h) fnNameOrder_row_tie rfl ⟨rfl, rfl⟩ (by kernel_rfl) rfl plain (by kernel_rfl)
#print axioms card
end Go.Proofs.YtgabgmogcniedaaDoor.fnNameOrder
