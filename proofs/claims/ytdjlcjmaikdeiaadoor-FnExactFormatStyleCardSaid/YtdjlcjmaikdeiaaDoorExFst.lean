/-
  Proved: for every style, however deep, the law FnExactFormatStyle returns true: FormatStyle answers as its model and writes into no argument; the argument reads as before. Condition: the listed tables lie as the program's text lays them.
-/
import Derived.Test.YtdjlcjmaikdeiaaDoorRows
import Derived.Test.YtdjlcjmaikdeiaaDoorNdH
import Derived.Test.YtdjlcjmaikdeiaaDoorNdO
import Derived.Test.YtdjlcjmaikdeiaaDoorNdT
import Derived.Test.YtdjlcjmaikdeiaaDoorNdFs
import Derived.WalkKit
import Derived.OpenVars
import Derived.ChangeVars
import Derived.ProofKit
import Derived.OpenShut
import Derived.ShutString
import Derived.ChangeOld
import Derived.Below
import Derived.Lib.SmallJoins
import Derived.Test.YtdjlcjmaikdeiaaDoorCards
import Derived.Test.YtdjlcjmaikdeiaaDoorTie
import Derived.LaidMore
import Derived.Lay
import Derived.SevenTiedAt
import Derived.Stop.Joined
namespace Go.Proofs.YtdjlcjmaikdeiaaDoor.fnExactFormatStyle
open Go.ChangeShapes Go.WideShapes Go.ChangeAt Go.RowKit
open Go.ChangeMaps (open_string shut_string)
open NdPl Nd
set_option linter.unusedVariables false
set_option linter.unusedSimpArgs false

set_option maxRecDepth 100000 in
set_option maxHeartbeats 2000000 in
theorem walk (nm : Int) (x : Tr) (B : Option Addr) (c d : Nat) (w : World) (hr : RdL d w B x.ps) (hm : LimL d x.ps) (ha : x.wd.size ≤ maxLen) (hb : x.tx.size ≤ maxLen) (hc : x.af.size ≤ maxLen) (hT : Tabs w) :
    Calls Tryd.prog 3 #[stV nm x.op x.wd x.tx x.af B x.ps.length c] w fun e w' => e = .returned (.bool true) ∧ Below w.heap.size w w' := by
  have HSz := Lib.hid (fun w1 (h : Below w.heap.size w w1) => szStyle d nm x B c w1 (hr.below h) hm ha hb hc)
  by_cases hfit : szT x ≤ 1048576
  · have hps : x.ps.length + szS x.ps ≤ 1048576 := by rw [szT_eq] at hfit; omega
    obtain ⟨t, ht⟩ : ∃ t : Nat, szR 1048576 (szT x) = (t : Int) := ⟨1048576 - szT x, szR_ok hfit⟩
    rw [ht] at HSz
    have HTo := Lib.hid (fun w1 (h : Below w.heap.size w w1) => toStyle d nm x B c w1 (hr.below h) hps)
    have HTb := Lib.hid (fun w1 (h : Below w.heap.size w w1) => hT.below h)
    have HS := Lib.hid (fun w1 A c' (h : RdL d w1 A x.ps) => format_s nm x A c' d w1 h hfit)
    have HI := Lib.hid (fun w1 A c' (h : RdL d w1 A x.ps) (h2 : Tabs w1) => format_i nm x A c' d w1 h hfit h2)
    have HE := Lib.hid (fun w1 A A' c1 c2 (h : RdL d w1 A x.ps) (h2 : RdL d w1 A' x.ps) => eqStyle d nm x A A' c1 c2 w1 h h2 hps)
    generalize fsB nm x = va at *
    generalize gdB nm x = vr at *
    clear hr hm ha hb hc hT hfit hps ht
    obtain ⟨op, wd, tx, af, ps⟩ := x
    simp only [Tr.op, Tr.wd, Tr.tx, Tr.af, Tr.ps] at *
    generalize ps.length = n at *
    have HB := Lib.hid (box_below w (.cells #[.int .i64 nm, .int .i64 op, .string wd, .string tx, .string af, .slice B n c] 26))
    have HX := Lib.hid (Ns.Bx.new w #[.int .i64 nm, .int .i64 op, .string wd, .string tx, .string af, .slice B n c] 26)
    go_enter Tryd.func3, Tryd.ntmps3
    go_wp2_with fail
    generalize w.alloc _ = w0 at HB HX ⊢
    refine (HSz.out _ HB.out).mono ?_
    rintro e w1 ⟨rfl, b1⟩
    have k1 := HB.out.trans (b1.mono HB.out.size)
    have HX1 := Lib.hid (HX.out.below b1)
    obtain ⟨hl0, hx⟩ := HX1.out
    have x0 := hx 0 _ rfl
    have x1 := hx 1 _ rfl
    have x2 := hx 2 _ rfl
    have x3 := hx 3 _ rfl
    have x4 := hx 4 _ rfl
    have x5 := hx 5 _ rfl
    clear b1 HX HB hx
    go_wp2_with fail
    clear x0 x1 x2 x3 x4 x5
    refine (HTo.out _ k1).mono ?_
    rintro e w2 ⟨g2, n2, F2, rfl, o2, -, -, b2⟩
    have R2 := Lib.hid o2.rd
    have HX2 := Lib.hid (HX1.out.below b2)
    have k2 := k1.trans (b2.mono k1.size)
    clear o2 b2 k1 HX1
    go_wp2_with fail
    refine (HS.out _ _ _ R2.out).mono ?_
    rintro e w3 ⟨rfl, b3⟩
    have HX3 := Lib.hid (HX2.out.below b3)
    have k3 := k2.trans (b3.mono k2.size)
    obtain ⟨hl3, hx⟩ := HX3.out
    have x0 := hx 0 _ rfl
    have x1 := hx 1 _ rfl
    have x2 := hx 2 _ rfl
    have x3 := hx 3 _ rfl
    have x4 := hx 4 _ rfl
    have x5 := hx 5 _ rfl
    clear b3 k2 R2 HX2 hx
    go_wp2_with fail
    clear x0 x1 x2 x3 x4 x5
    refine (HTo.out _ k3).mono ?_
    rintro e w4 ⟨g4, n4, F4, rfl, o4, -, -, b4⟩
    have HX4 := Lib.hid (HX3.out.below b4)
    have k4 := k3.trans (b4.mono k3.size)
    have R4 := Lib.hid (fun o => (o4.rd).below ((Below.refl _ w4).alloc (Nat.le_refl _) o))
    have K4 := Lib.hid (fun o => k4.alloc k4.size o)
    have HX4a := Lib.hid (fun o => HX4.out.below ((Below.refl _ w4).alloc (Nat.le_refl _) o))
    have HY4 := Lib.hid (Ns.Bx.new w4 #[.int .i64 nm, .int .i64 op, .string wd, .string tx, .string af, .slice (some ⟨g4, 0, none⟩) n n4] 34)
    clear o4 b4 k3 HX3 HX4
    go_wp2_with fail
    refine (HI.out _ _ _ (R4.out _) (HTb.out _ (K4.out _))).mono ?_
    rintro e w5 ⟨rfl, b5⟩
    have R5 := Lib.hid ((R4.out _).below b5)
    have HX5 := Lib.hid ((HX4a.out _).below b5)
    have HY5 := Lib.hid (HY4.out.below b5)
    have k5 := Lib.hid ((K4.out _).trans (b5.mono (K4.out _).size))
    clear b5 k4 R4 K4 HX4a HY4
    have HSt : Hid (∀ w', Kp w5 w' → ((w'.cell? ⟨w.heap.size, 0, none⟩ = some (.int .i64 nm) ∧ w'.cell? ⟨w.heap.size, 1, none⟩ = some (.int .i64 op) ∧ w'.cell? ⟨w.heap.size, 2, none⟩ = some (.string wd) ∧ w'.cell? ⟨w.heap.size, 3, none⟩ = some (.string tx) ∧ w'.cell? ⟨w.heap.size, 4, none⟩ = some (.string af) ∧ w'.cell? ⟨w.heap.size, 5, none⟩ = some (.slice B n c) ∧
        w'.cell? ⟨w4.heap.size, 0, none⟩ = some (.int .i64 nm) ∧ w'.cell? ⟨w4.heap.size, 1, none⟩ = some (.int .i64 op) ∧ w'.cell? ⟨w4.heap.size, 2, none⟩ = some (.string wd) ∧ w'.cell? ⟨w4.heap.size, 3, none⟩ = some (.string tx) ∧ w'.cell? ⟨w4.heap.size, 4, none⟩ = some (.string af) ∧ w'.cell? ⟨w4.heap.size, 5, none⟩ = some (.slice (some ⟨g4, 0, none⟩) n n4)) ∧ Kp w5 w')) := Lib.hid (fun w' h => by
      obtain ⟨_, hx⟩ := HX5.out.below h
      obtain ⟨_, hy⟩ := HY5.out.below h
      exact ⟨⟨hx 0 _ rfl, hx 1 _ rfl, hx 2 _ rfl, hx 3 _ rfl, hx 4 _ rfl, hx 5 _ rfl, hy 0 _ rfl, hy 1 _ rfl, hy 2 _ rfl, hy 3 _ rfl, hy 4 _ rfl, hy 5 _ rfl⟩, h⟩)
    have HK0 := Lib.hid (Kp.drew w5)
    have HTk := Lib.hid (fun w6 (h : Kp w5 w6) => HTo.out w6 (k5.out.trans (Below.mono h k5.out.size)))
    have R5k := Lib.hid (fun w6 (h : Kp w5 w6) => R5.out.below h)
    clear HTo HTb HS HI HX5 HY5 R5 HSz
    go_wp2_with fail
    go_region_held3 (fun w' => (w'.cell? ⟨w.heap.size, 0, none⟩ = some (.int .i64 nm) ∧ w'.cell? ⟨w.heap.size, 1, none⟩ = some (.int .i64 op) ∧ w'.cell? ⟨w.heap.size, 2, none⟩ = some (.string wd) ∧ w'.cell? ⟨w.heap.size, 3, none⟩ = some (.string tx) ∧ w'.cell? ⟨w.heap.size, 4, none⟩ = some (.string af) ∧ w'.cell? ⟨w.heap.size, 5, none⟩ = some (.slice B n c) ∧
        w'.cell? ⟨w4.heap.size, 0, none⟩ = some (.int .i64 nm) ∧ w'.cell? ⟨w4.heap.size, 1, none⟩ = some (.int .i64 op) ∧ w'.cell? ⟨w4.heap.size, 2, none⟩ = some (.string wd) ∧ w'.cell? ⟨w4.heap.size, 3, none⟩ = some (.string tx) ∧ w'.cell? ⟨w4.heap.size, 4, none⟩ = some (.string af) ∧ w'.cell? ⟨w4.heap.size, 5, none⟩ = some (.slice (some ⟨g4, 0, none⟩) n n4)) ∧ Kp w5 w')
      (first | exact HSt.out _ HK0.out | exact HSt.out _ (by assumption))
      (first
        | (go_at_call 9; with_reducible refine (HE.out _ _ _ _ _ (R5k.out _ (by first | exact HK0.out | assumption)) (by assumption)).mono ?_; rintro e w7 ⟨rfl, b7⟩; have hk7 : Kp w5 w7 := Kp.next (by assumption) b7)
        | (go_at_call 7; with_reducible refine (HTk.out _ (by first | exact HK0.out | assumption)).mono ?_; rintro e w6 ⟨g6, n6, F6, rfl, o6, -, -, b6⟩; have hk6 : Kp w5 w6 := Kp.next (by first | exact HK0.out | assumption) b6; have hrd6 := o6.rd))
    all_goals
      go_wp2_with fail
      go_ret
      exact ⟨rfl, k5.out.trans (Below.mono (show Kp w5 _ by assumption) k5.out.size)⟩
  · have ht : szR 1048576 (szT x) = -1 := szR_no hfit
    rw [ht] at HSz
    clear ht hr hm ha hb hc hfit hT
    obtain ⟨op, wd, tx, af, ps⟩ := x
    simp only [Tr.op, Tr.wd, Tr.tx, Tr.af, Tr.ps] at *
    generalize ps.length = n at *
    have HB := Lib.hid (box_below w (.cells #[.int .i64 nm, .int .i64 op, .string wd, .string tx, .string af, .slice B n c] 26))
    go_enter Tryd.func3, Tryd.ntmps3
    go_wp2_with fail
    refine (HSz.out _ HB.out).mono ?_
    rintro e w1 ⟨rfl, b1⟩
    have k1 := HB.out.trans (b1.mono HB.out.size)
    go_wp2_with fail
    go_ret
    exact ⟨rfl, k1⟩


set_option maxRecDepth 100000 in
theorem lifted (os : Os) (started : os.Started) (H : Type) (enc : TypeId × Value → H) :
    ReturnsInHanded {} Tryd.checked os 3 .any (fun w args => (Rows.fnExactFormatStyleSpec.pre enc Tryd.prog Tryd.f3 Rows.fnExactFormatStyleRow.domain false w args ∧ laidMetH Tryd.prog Rows.fnExactFormatStyleRow.laid w) ∧ sizedMet enc Tryd.prog Tryd.f3 (OpenSpec.ofChange Rows.fnExactFormatStyleSpec) false w args)
      (Rows.fnExactFormatStyleSpec.post enc Tryd.prog Tryd.f3 false true false false) := by
  refine returnsInHanded_of_change_and (C := Tryd.checked) (X := fun w _ => laidMetH Tryd.prog Rows.fnExactFormatStyleRow.laid w) (fun _ _ _ hh h => h.of_heap hh) own started (by kernel_rfl) Tryd.func3
    (ChangeSpec.witness_shaped (enc := enc) (C := Tryd.checked) (os := os) (X := fun w _ => laidMetH Tryd.prog Rows.fnExactFormatStyleRow.laid w) false (World.laidAll Tryd.prog os Rows.fnExactFormatStyleRow.laid) #[.agg #[.int .i64 0, .int .i64 0, .string ByteArray.empty, .string ByteArray.empty, .string ByteArray.empty, .slice none 0 0]] 8 (World.laidAll_os _ _ _)
      (World.shaped_of_ZipB (by kernel_rfl) (by kernel_rfl)) (by kernel_rfl) (by kernel_rfl) (by kernel_rfl)
      (by rw [MakeChecks.laidMetH_plain _ _ _ (by kernel_rfl)]; exact laidMet_laidAll _ (by kernel_rfl) (by kernel_rfl))) ?_
  intro W base args ds gs before hval0 hW hcnd _ hL _
  rw [MakeChecks.laidMetH_plain _ _ _ (by kernel_rfl)] at hL
  have hval : ∀ (j : Nat) t v, Tryd.f3.params[j]? = some t → args[j]? = some v → Value.okWide Tryd.prog W .any base t v := hval0
  have hW' := hW
  obtain ⟨p, q, hA0, hV, rfl, hfz, hnd⟩ := hW
  have hA : DataW.TrodAll enc Tryd.prog W 0 (fun _ => true) true Tryd.f3.params.toList args.toList ds p := hA0
  rw [Tryd.params3] at hA hval
  obtain ⟨v0, vs0, d0, ds0, p0, q0, hargs, rfl, rfl, h0, r0⟩ := trodAll_cons hA
  obtain ⟨rfl, rfl, rfl⟩ := trodAll_nil r0
  obtain rfl : args = #[v0] := by cases args; simp_all
  obtain ⟨_, _, _, _, _, _, _, _, _, _, _, _, rfl, _⟩ := trodVars_two hV
  have k0 := h0
  have lt0 : ∀ x ∈ p0, x.block < W.heap.size := by obtain ⟨m, hm⟩ := k0; exact DataW.trod_lt m _ _ _ hm
  obtain ⟨nm0, x0, B0, c0, dd0, rfl, hr0, hm0, ha0, hb0, hc0⟩ := open_style (hval 0 26 v0 rfl rfl) h0
  clear hA0 hval0
  refine (walk nm0 x0 B0 c0 dd0 W hr0 hm0 ha0 hb0 hc0 (tabs_of hL.tail.tail.tail)).mono fun e W' ⟨he, bel⟩ => ?_
  subst he
  exact ⟨_, rfl, _, _, _, [], _, q, hW', trodAll_mk1 (shut_bool Tryd.underlying4 _), (trodAll_cons_mk (Below.trod laidOut (by kernel_rfl) (of_decide_eq_true (by kernel_rfl)) k0 bel lt0) trodAll_mk0), bel.trodVars laidOut (by kernel_rfl) hV, bel.frame _, fun h => by cases h⟩

theorem closed : joinedFacts Tryd.pinned.checked.prog 3 Tryd.f3 Rows.fnExactFormatStyleSpec Rows.fnExactFormatStyleRow = true := by kernel_rfl
theorem over : Rows.fnExactFormatStyleRow.holds Tryd.pinned (OpenSpec.ofChange Rows.fnExactFormatStyleSpec) :=
  OpenClaim.holds_of_wide 3 Tryd.f3 rfl rfl rfl rfl rfl rfl rfl ⟨rfl, rfl, rfl, rfl, rfl⟩ rfl rfl rfl rfl rfl (by kernel_rfl) Tryd.func3 closed
    (of_decide_eq_true (by kernel_rfl)) (by unfold Func.isWrapper; first | (rw [if_pos (by decide +kernel)]; kernel_rfl) | (rw [if_neg (by decide +kernel)]; exact ⟨rfl, rfl⟩))
    (fun os started H enc _ => lifted os started H enc)

theorem plain (f : FuncId) (fn : Func) (hf : Tryd.pinned.checked.prog.funcNamed "loop.example/g00896/laws.FnExactFormatStyle" = some f) (hfn : Tryd.pinned.checked.prog.funcs[f]? = some fn) :
    false = Tryd.pinned.checked.prog.looks [] ∧ ∀ (j : Nat) t, fn.params[j]? = some t → Tryd.pinned.checked.prog.wantsStandIn t = false := by
  obtain rfl : f = 3 := Option.some.inj ((show Tryd.prog.funcNamed "loop.example/g00896/laws.FnExactFormatStyle" = some 3 by kernel_rfl).symm.trans hf) |>.symm
  obtain rfl : fn = Tryd.f3 := (Option.some.inj (Tryd.func3.symm.trans hfn)).symm
  refine ⟨by kernel_rfl, fun j t ht => ?_⟩
  rw [Tryd.params3] at ht
  obtain rfl : t = 26 := by simpa using Array.mem_of_getElem? ht
  exact (show Tryd.prog.wantsStandIn 26 = false by kernel_rfl)

theorem card : Rows.FnExactFormatStyleCardSaid :=
  Claim7.holds_tied_plain_at .later [] _ _ _ _ over (fun _ h => by cases h) (by kernel_rfl) (fun _ h => by cases h) fnExactFormatStyle_row_tie rfl ⟨rfl, rfl⟩ (by kernel_rfl) rfl plain (by kernel_rfl)
#print axioms card
end Go.Proofs.YtdjlcjmaikdeiaaDoor.fnExactFormatStyle
