/-
  Proved: for every slice of numbers the law FnExactNumbersText returns true: NumbersText answers as its model and writes into no argument; the arguments read as before. The listed table lies as the pinned constant lays it (the card ties it). No further condition.
-/
import Derived.Test.YtilaaegdkjlifaaDoorRows
import Derived.Test.YtilaaegdkjlifaaDoorNuJ
import Derived.Test.YtilaaegdkjlifaaDoorLaid
import Derived.WalkKit
import Derived.ProofKit
import Derived.OpenShut
import Derived.ShutString
import Derived.ChangeOld
import Derived.Below
import Derived.Lib.SmallJoins
import Derived.Test.YtilaaegdkjlifaaDoorCards
import Derived.Test.YtilaaegdkjlifaaDoorTie
import Derived.LaidMore
import Derived.Lay
import Derived.SevenTiedAt
import Derived.Stop.Joined
namespace Go.Proofs.YtilaaegdkjlifaaDoor.fnExactNumbersText
open Go.ChangeShapes Go.WideShapes Go.ChangeAt Go.RowKit
open Go.ChangeMaps (open_string shut_string)
open Pl NuPl Nu Kpz
open Num (Tab)
open Laid (tab_of)
set_option linter.unusedVariables false
set_option linter.unusedSimpArgs false

theorem own : ownKnob Tryd.prog.godebug = none := by kernel_rfl
theorem laidOut : laidOutB Tryd.prog = true := by kernel_rfl
set_option maxRecDepth 100000 in
set_option maxHeartbeats 8000000 in
theorem walk (A : Option Addr) (n c : Nat) (L : List Int) (w : World) (hr : RdI w A L) (hn : L.length = n) (hm : n ≤ maxLen) (ht : Tab w) :
    Calls Tryd.prog 3 #[.slice A n c] w fun e w' => e = .returned (.bool true) ∧ Below w.heap.size w w' := by
  unfold maxLen at hm
  have HR := Lib.hid hr
  by_cases hbig : 1048576 < n
  · clear hr hn
    go_enter Tryd.func3, Tryd.ntmps3
    go_wp2_with fail
    go_ret
    exact ⟨rfl, kre _⟩
  · have hn1 : n ≤ 1048576 := by omega
    have HT := Lib.hid (fun (A : Option Addr) (c : Nat) (w : World) (h : RdI w A L) => toIntS_any A c n L w h hn hn1)
    have HQ := Lib.hid (fun (A B : Option Addr) (c d : Nat) (w : World) (h : RdI w A L) (h' : RdI w B L) => eqIntS_same A B c d n L w h h' hn (by omega))
    have HCs := Lib.hid (fun (A : Option Addr) (c : Nat) (w : World) (h : RdI w A L) => ntext_s A c n L w h hn hn1)
    have HCi := Lib.hid (fun (A : Option Addr) (c : Nat) (w' : World) (h : RdI w' A L) (hk : Kp w w') => ntext_i A c n L w' h hn hn1 (ht.below hk))
    generalize goodN L = r0 at *
    generalize ntS L = t0 at *
    clear hr hn hbig ht
    go_enter Tryd.func3, Tryd.ntmps3
    go_wp2_with fail
    refine (HT.out A c w HR.out).mono ?_
    rintro e w1 ⟨v1, rfl, o1, b1⟩
    obtain ⟨A1, c1, rfl, _, r1, l1⟩ := own_rdi o1
    have k1 : Kp w w1 := b1
    clear b1 o1
    go_wp2_with fail
    refine (HCs.out A1 c1 w1 r1).mono ?_
    rintro e w2 ⟨rfl, b2⟩
    have k2 := ktr k1 b2
    have r2 := HR.out.kp k2
    clear b2 r1
    go_wp2_with fail
    refine (HT.out A c w2 r2).mono ?_
    rintro e w3 ⟨v3, rfl, o3, b3⟩
    obtain ⟨A3, c3, rfl, _, r3, l3⟩ := own_rdi o3
    have k3 := ktr k2 b3
    clear o3 b3 r2
    go_wp2_with fail
    refine (HCi.out A3 c3 w3 r3 k3).mono ?_
    rintro e w4 ⟨rfl, b4⟩
    have k4 := ktr k3 b4
    have r34 := r3.kp b4
    have r4 := HR.out.kp k4
    clear r3 b4
    go_wp2_with fail
    refine (HT.out A c w4 r4).mono ?_
    rintro e w5 ⟨v5, rfl, o5, b5⟩
    obtain ⟨A5, c5, rfl, _, r5, l5⟩ := own_rdi o5
    have k5 := ktr k4 b5
    have r35 := r34.kp b5
    clear o5 r34 r4 b5
    go_wp2_with fail
    refine (HQ.out A3 A5 c3 c5 w5 r35 r5).mono ?_
    rintro e w6 ⟨rfl, b6⟩
    have k6 := ktr k5 b6
    go_wp2_with fail
    go_ret
    exact ⟨rfl, k6⟩

set_option maxRecDepth 100000 in
theorem lifted (os : Os) (started : os.Started) (H : Type) (enc : TypeId × Value → H) :
    ReturnsInHanded {} Tryd.checked os 3 .any (fun w args => (Rows.fnExactNumbersTextSpec.pre enc Tryd.prog Tryd.f3 Rows.fnExactNumbersTextRow.domain false w args ∧ laidMetH Tryd.prog Rows.fnExactNumbersTextRow.laid w) ∧ sizedMet enc Tryd.prog Tryd.f3 (OpenSpec.ofChange Rows.fnExactNumbersTextSpec) false w args)
      (Rows.fnExactNumbersTextSpec.post enc Tryd.prog Tryd.f3 false true false false) := by
  refine returnsInHanded_of_change_and (C := Tryd.checked) (X := fun w _ => laidMetH Tryd.prog Rows.fnExactNumbersTextRow.laid w) (fun _ _ _ hh h => h.of_heap hh) own started (by kernel_rfl) Tryd.func3
    (ChangeSpec.witness_shaped (enc := enc) (C := Tryd.checked) (os := os) (X := fun w _ => laidMetH Tryd.prog Rows.fnExactNumbersTextRow.laid w) false (World.laidAll Tryd.prog os Rows.fnExactNumbersTextRow.laid) #[.slice none 0 0] 8 (World.laidAll_os _ _ _)
      (World.shaped_of_ZipB (by kernel_rfl) (by kernel_rfl)) (by kernel_rfl) (by kernel_rfl) (by kernel_rfl)
      (by rw [MakeChecks.laidMetH_plain _ _ _ (by kernel_rfl)]; exact laidMet_laidAll _ (by kernel_rfl) (by kernel_rfl))) ?_
  intro W base args ds gs before hval0 hW hcnd _ hL _
  rw [MakeChecks.laidMetH_plain _ _ _ (by kernel_rfl)] at hL
  have hval : ∀ (j : Nat) t v, Tryd.f3.params[j]? = some t → args[j]? = some v → Value.okWide Tryd.prog W .any base t v := hval0
  have hW' := hW
  obtain ⟨p, q, hA0, hV, rfl, hfz, hnd⟩ := hW
  have hA : DataW.TrodAll enc Tryd.prog W 0 (fun _ => true) true Tryd.f3.params.toList args.toList ds p := hA0
  rw [Tryd.params3] at hA hval
  obtain ⟨v0, vs0, d0, ds0, p0, q0, hargs, rfl, rfl, h0, r0⟩ := trodAll_cons hA
  obtain ⟨rfl, rfl, rfl⟩ := trodAll_nil r0
  obtain rfl : args = #[v0] := by cases args; simp_all
  obtain ⟨rfl, rfl⟩ := trodVars_none hV
  have k0 := h0
  have lt0 : ∀ x ∈ p0, x.block < W.heap.size := by obtain ⟨m, hm⟩ := k0; exact DataW.trod_lt m _ _ _ hm
  obtain ⟨A0, N0, c0, L0, rfl, hr0, hn0, hm0⟩ := open_intsW (hval 0 22 v0 rfl rfl) h0
  clear hA0 hval0
  refine (walk A0 N0 c0 L0 W hr0 hn0 hm0 (tab_of hL)).mono fun e W' ⟨he, bel⟩ => ?_
  subst he
  exact ⟨_, rfl, _, _, _, [], _, [], hW', trodAll_mk1 (shut_bool Tryd.underlying4 _), (trodAll_cons_mk (Below.trod laidOut (by kernel_rfl) (of_decide_eq_true (by kernel_rfl)) k0 bel lt0) trodAll_mk0), rfl, bel.frame _, fun h => by cases h⟩

theorem closed : joinedFacts Tryd.pinned.checked.prog 3 Tryd.f3 Rows.fnExactNumbersTextSpec Rows.fnExactNumbersTextRow = true := by kernel_rfl
theorem over : Rows.fnExactNumbersTextRow.holds Tryd.pinned (OpenSpec.ofChange Rows.fnExactNumbersTextSpec) :=
  OpenClaim.holds_of_wide 3 Tryd.f3 rfl rfl rfl rfl rfl rfl rfl ⟨rfl, rfl, rfl, rfl, rfl⟩ rfl rfl rfl rfl rfl (by kernel_rfl) Tryd.func3 closed
    (of_decide_eq_true (by kernel_rfl)) (by unfold Func.isWrapper; first | (rw [if_pos (by decide +kernel)]; kernel_rfl) | (rw [if_neg (by decide +kernel)]; exact ⟨rfl, rfl⟩))
    (fun os started H enc _ => lifted os started H enc)

theorem plain (f : FuncId) (fn : Func) (hf : Tryd.pinned.checked.prog.funcNamed "loop.example/g00896/laws.FnExactNumbersText" = some f) (hfn : Tryd.pinned.checked.prog.funcs[f]? = some fn) :
    true = Tryd.pinned.checked.prog.looks [] ∧ ∀ (j : Nat) t, fn.params[j]? = some t → Tryd.pinned.checked.prog.wantsStandIn t = false := by
  obtain rfl : f = 3 := Option.some.inj ((show Tryd.prog.funcNamed "loop.example/g00896/laws.FnExactNumbersText" = some 3 by kernel_rfl).symm.trans hf) |>.symm
  obtain rfl : fn = Tryd.f3 := (Option.some.inj (Tryd.func3.symm.trans hfn)).symm
  refine ⟨by kernel_rfl, fun j t ht => ?_⟩
  rw [Tryd.params3] at ht
  obtain rfl : t = 22 := by simpa using Array.mem_of_getElem? ht
  exact (show Tryd.prog.wantsStandIn 22 = false by kernel_rfl)

theorem card : Rows.FnExactNumbersTextCardSaid :=
  Claim7.holds_tied_plain_at .later [] _ _ _ _ over (fun _ h => by cases h) (by kernel_rfl) (fun _ h => by cases h) fnExactNumbersText_row_tie rfl ⟨rfl, rfl⟩ (by kernel_rfl) rfl plain (by kernel_rfl)
#print axioms card
end Go.Proofs.YtilaaegdkjlifaaDoor.fnExactNumbersText
