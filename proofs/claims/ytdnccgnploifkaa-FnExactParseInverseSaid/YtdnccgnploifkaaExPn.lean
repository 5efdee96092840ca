/-
  Proved: for every string the law FnExactParseInverse returns true: ParseInverse answers as its model and its answer owns its memory; the argument reads as before. No further condition.
-/
import Derived.Test.YtdnccgnploifkaaRows
import Derived.Test.YtdnccgnploifkaaPsp
import Derived.Test.YtdnccgnploifkaaMarks
import Derived.HandedShaped
import Derived.WalkKit
import Derived.ProofKit
import Derived.OpenShut
import Derived.ShutString
import Derived.ChangeOld
import Derived.Below
import Derived.Lib.SmallJoins
namespace Go.Proofs.Ytdnccgnploifkaa.fnExactParseInverse
open Go.ChangeShapes Go.WideShapes Go.ChangeAt Go.RowKit
open Go.ChangeMaps (open_string shut_string)
open Pl Strs Help Name Go.Proofs.Ytdnccgnploifkaa.Pi NmPl
set_option linter.unusedVariables false
set_option linter.unusedSimpArgs false


theorem own : ownKnob Try.prog.godebug = none := by kernel_rfl
theorem laidOut : laidOutB Try.prog = true := by kernel_rfl
theorem ml_of {w : World} (h : w.ShapedOpen Try.prog) : ML w := Try.laysM145.s1_3 w h
theorem pi_len {s : ByteArray} {xs : List ByteArray} {p f u : ByteArray} {r : Bool} (h : PI s xs p f u r) : xs.length ≤ 2097152 := by
  rcases h with ⟨_, h, _⟩ | ⟨_, rfl, _⟩
  · have := (good_parts h).hn
    rw [NGood.ls_len] at this
    omega
  · simp
theorem c4_grown {w w' : World} {row : Option Nat} {b : Nat} {v : Value} {p f u : ByteArray} (h : C4 w b v p f u) (hg : w.grownBy w' row) (hne : row ≠ some b) : C4 w' b v p f u := by
  obtain ⟨h0, c0, c1, c2, c3⟩ := h
  have key : ∀ o, w'.cell? ⟨b, o, none⟩ = w.cell? ⟨b, o, none⟩ := fun o => World.cell?_of_block (a := ⟨b, o, none⟩) (hg.block b h0 (fun e => hne e.symm))
  exact ⟨Nat.lt_of_lt_of_le h0 hg.size, (key _).trans c0, (key _).trans c1, (key _).trans c2, (key _).trans c3⟩
theorem gb_of {w w' : World} (h : Below w.heap.size w w') (row : Option Nat) : w.grownBy w' row := ⟨h.os, h.tape, h.output, h.size, fun k hk _ => h.block k hk⟩
theorem eqName_own (v1 v2 : Value) (b1 b2 : Nat) (xs : List ByteArray) (p f u : ByteArray) (w : World) (h1 : w.ownsRow b1 9 1 v1 xs.length (xs.map Value.string)) (h2 : w.ownsRow b2 9 1 v2 xs.length (xs.map Value.string)) (hl : xs.length ≤ 2097152) :
    Calls Try.prog 6 #[.agg #[v1, .string p, .string f, .string u], .agg #[v2, .string p, .string f, .string u]] w fun e w' => e = .returned (.bool true) ∧ Below w.heap.size w w' := by
  obtain ⟨A, c, rfl, hn, hr, hA⟩ := own_rds h1
  obtain ⟨A2, c2, rfl, _, hr2, hA2⟩ := own_rds h2
  exact eqName_same A A2 c c2 xs.length xs p f u w hr (fun _ => hA) hr2 (fun _ => hA2) rfl hl
set_option maxHeartbeats 1000000 in
theorem markName_own (base : Nat) (v : Value) (xs : List ByteArray) (p f u : ByteArray) (w : World) (h : w.ownsRow base 9 1 v xs.length (xs.map Value.string)) (hl : xs.length ≤ 2097152) :
    Calls Try.prog 7 #[.agg #[v, .string p, .string f, .string u], .int .i64 1] w fun e w' => e = .returned (.int .i64 (1 + xs.length)) ∧ w'.ownsRow base 9 1 v xs.length ((marks 1 xs.length).map Value.string) ∧ w.grownBy w' v.ownBlock := by
  have b0 := (Below.refl _ w).alloc (Nat.le_refl _) (.cells #[v, .string p, .string f, .string u] 24)
  have HO := Lib.hid (own_below h b0)
  have HG := Lib.hid (gb_of b0 v.ownBlock)
  have HM := Lib.hid (markStringS_1 base v xs xs.length _ HO.out rfl hl)
  clear h b0
  go_enter Try.func7, Try.ntmps7
  go_wp2_with fail
  generalize w.alloc (.cells #[v, .string p, .string f, .string u] 24) = w0 at *
  refine HM.out.mono ?_
  rintro e w' ⟨rfl, o1, g1⟩
  go_wp2_with fail
  go_ret
  exact ⟨rfl, o1, HG.out.trans g1⟩
set_option maxHeartbeats 1000000 in
theorem heldName_own (base : Nat) (v : Value) (n : Nat) (p f u : ByteArray) (w : World) (h : w.ownsRow base 9 1 v n ((marks 1 n).map Value.string)) (hl : n ≤ 2097152) :
    Calls Try.prog 8 #[.agg #[v, .string p, .string f, .string u], .int .i64 1] w fun e w' => e = .returned (.int .i64 (1 + n)) ∧ Below w.heap.size w w' := by
  have b0 := (Below.refl _ w).alloc (Nat.le_refl _) (.cells #[v, .string p, .string f, .string u] 24)
  have HB := Lib.hid b0
  have HM := Lib.hid (heldStringS_1 v base n _ (own_below h b0) hl)
  have hpos : ¬ ((1 : Int) + (n : Int) < 0) := by omega
  have hpos' : decide ((1 : Int) + (n : Int) < 0) = false := decide_eq_false hpos
  clear h b0
  go_enter Try.func8, Try.ntmps8
  go_wp2_with fail
  generalize w.alloc (.cells #[v, .string p, .string f, .string u] 24) = w0 at *
  refine HM.out.mono ?_
  rintro e w' ⟨rfl, b1⟩
  go_wp2_with fail
  go_ret
  exact ⟨rfl, HB.out.trans (b1.mono HB.out.size)⟩

set_option maxHeartbeats 2000000 in
theorem walk (s : ByteArray) (w : World) (hs : s.size ≤ maxLen) (hsh : w.ShapedOpen Try.prog) :
    Calls Try.prog 3 #[.string s] w fun e w' => e = .returned (.bool true) ∧ Below w.heap.size w w' := by
  have HM := Lib.hid (ml_of hsh)
  unfold maxLen at hs
  clear hsh
  by_cases h0 : s.size ≤ 1048576
  · have HS := Lib.hid (fun w => specPi s w h0)
    have HI := Lib.hid (fun w (hm : ML w) => implPi s w hm h0)
    go_enter Try.func3, Try.ntmps3
    go_wp2_with fail
    refine (HS.out _).mono ?_
    rintro e w1 ⟨v0, xs, p, f, u, r, rfl, P0, o0, b1⟩
    have hl : xs.length ≤ 2097152 := pi_len P0
    obtain ⟨A0, a0, rfl, -, -, -⟩ := own_rds o0
    have b01 := (Below.refl _ w1).alloc (Nat.le_refl _) (.cells #[.slice A0 xs.length a0, .string p, .string f, .string u] 24)
    have X0 := C4.new w1 (.slice A0 xs.length a0) p f u 24
    have k1 := b1.trans (b01.mono b1.size)
    have o0a := own_below o0 b01
    clear HS
    go_wp2_with fail
    generalize w1.alloc (.cells #[.slice A0 xs.length a0, .string p, .string f, .string u] 24) = W1 at *
    generalize w1.heap.size = q0 at *
    refine (HI.out _ (HM.out.below k1)).mono ?_
    rintro e w2 ⟨v1, xs1, p1, f1, u1, r1, rfl, P1, o1, b2⟩
    obtain ⟨rfl, rfl, rfl, rfl, rfl⟩ := P0.uniq P1
    obtain ⟨A1, a1, rfl, -, -, -⟩ := own_rds o1
    have b02 := (Below.refl _ w2).alloc (Nat.le_refl _) (.cells #[.slice A1 xs.length a1, .string p, .string f, .string u] 24)
    have b12 := b2.trans (b02.mono b2.size)
    have X1 := Lib.hid (C4.new w2 (.slice A1 xs.length a1) p f u 24)
    have X0b := Lib.hid (X0.below b12)
    have o0b := own_below o0a b12
    have o1b := own_below o1 b02
    have k2 := k1.trans (b12.mono k1.size)
    have apt := own_apart o0a o1
    have lt1 := o1.lt
    have hq0 : q0 < W1.heap.size := X0.1
    have hz1 : W1.heap.size ≤ w2.heap.size := b2.size
    have hz0 : w.heap.size ≤ W1.heap.size := k1.size
    have hrr : (r == r) = true := by cases r <;> rfl
    have hrn : (r != r) = false := by cases r <;> rfl
    clear b1 b2 b01 b02 b12 o0 o0a o1 k1 P1 X0
    obtain ⟨l0, c0, c1, c2, c3⟩ := X0b.out
    obtain ⟨l1, d0, d1, d2, d3⟩ := X1.out
    go_wp2_with fail
    clear l0 c0 c1 c2 c3 l1 d0 d1 d2 d3
    generalize w2.alloc (.cells #[.slice A1 xs.length a1, .string p, .string f, .string u] 24) = W2 at *
    generalize w2.heap.size = q1 at *
    refine (eqName_own _ _ _ _ xs _ _ _ _ o1b o0b hl).mono ?_
    rintro e w3 ⟨rfl, b3⟩
    have o1c := own_below o1b b3
    have o0c := own_below o0b b3
    have k3 := k2.trans (b3.mono k2.size)
    replace X0b := Lib.hid (X0b.out.below b3)
    replace X1 := Lib.hid (X1.out.below b3)
    clear b3 o0b o1b k2
    obtain ⟨l0, c0, c1, c2, c3⟩ := X0b.out
    obtain ⟨l1, d0, d1, d2, d3⟩ := X1.out
    go_wp2_with fail
    clear l0 c0 c1 c2 c3 l1 d0 d1 d2 d3
    refine (markName_own _ _ xs _ _ _ _ o1c hl).mono ?_
    rintro e w4 ⟨rfl, o1m, g4⟩
    have o0d := o0c.kept g4 apt
    have k4 := k3.grown g4 k3.size (fun k hk => by have := (lt1 k hk).1; omega)
    replace X0b := Lib.hid (c4_grown X0b.out g4 (fun e => by have := (lt1 _ e).1; omega))
    replace X1 := Lib.hid (c4_grown X1.out g4 (fun e => by have := (lt1 _ e).2; omega))
    clear o1c o0c g4 k3
    obtain ⟨l0, c0, c1, c2, c3⟩ := X0b.out
    obtain ⟨l1, d0, d1, d2, d3⟩ := X1.out
    go_wp2_with fail
    clear l0 c0 c1 c2 c3 l1 d0 d1 d2 d3
    refine (heldName_own _ _ _ _ _ _ _ o1m hl).mono ?_
    rintro e w5 ⟨rfl, b5⟩
    have o1n := own_below o1m b5
    have o0e := own_below o0d b5
    have k5 := k4.trans (b5.mono k4.size)
    replace X0b := Lib.hid (X0b.out.below b5)
    replace X1 := Lib.hid (X1.out.below b5)
    have hpos : ¬ ((1 : Int) + (xs.length : Int) < 0) := by omega
    have hpos' : decide ((1 : Int) + (xs.length : Int) < 0) = false := decide_eq_false hpos
    clear o1m o0d b5 k4
    go_wp2_with fail
    refine (HI.out _ (HM.out.below k5)).mono ?_
    rintro e w6 ⟨v2, xs2, p2, f2, u2, r2, rfl, P2, o2, b6⟩
    obtain ⟨rfl, rfl, rfl, rfl, rfl⟩ := P0.uniq P2
    obtain ⟨A2, a2, rfl, -, -, -⟩ := own_rds o2
    have b03 := (Below.refl _ w6).alloc (Nat.le_refl _) (.cells #[.slice A2 xs.length a2, .string p, .string f, .string u] 24)
    have b13 := b6.trans (b03.mono b6.size)
    have X2 := Lib.hid (C4.new w6 (.slice A2 xs.length a2) p f u 24)
    replace X0b := Lib.hid (X0b.out.below b13)
    replace X1 := Lib.hid (X1.out.below b13)
    have o1q := own_below o1n b13
    have o0q := own_below o0e b13
    have o2q := own_below o2 b03
    have k6 := k5.trans (b13.mono k5.size)
    clear HI b6 b03 b13 o1n o0e o2 k5 P2
    obtain ⟨l0, c0, c1, c2, c3⟩ := X0b.out
    obtain ⟨l1, d0, d1, d2, d3⟩ := X1.out
    obtain ⟨l2, e0, e1, e2, e3⟩ := X2.out
    go_wp2_with fail
    clear l0 c0 c1 c2 c3 l1 d0 d1 d2 d3
    clear l2 e0 e1 e2 e3
    generalize w6.alloc (.cells #[.slice A2 xs.length a2, .string p, .string f, .string u] 24) = W6 at *
    generalize w6.heap.size = q2 at *
    refine (eqName_own _ _ _ _ xs _ _ _ _ o2q o0q hl).mono ?_
    rintro e w7 ⟨rfl, b7⟩
    have o1r := own_below o1q b7
    have k7 := k6.trans (b7.mono k6.size)
    replace X0b := Lib.hid (X0b.out.below b7)
    replace X1 := Lib.hid (X1.out.below b7)
    clear o1q o0q o2q b7 k6
    obtain ⟨l0, c0, c1, c2, c3⟩ := X0b.out
    obtain ⟨l1, d0, d1, d2, d3⟩ := X1.out
    go_wp2_with fail
    clear l0 c0 c1 c2 c3 l1 d0 d1 d2 d3
    refine (heldName_own _ _ _ _ _ _ _ o1r hl).mono ?_
    rintro e w8 ⟨rfl, b8⟩
    have k8 := k7.trans (b8.mono k7.size)
    go_wp2_with fail
    go_ret
    exact ⟨rfl, k8⟩
  · go_enter Try.func3, Try.ntmps3
    go_wp2_with fail
    go_ret
    exact ⟨rfl, Below.refl _ _⟩

set_option maxRecDepth 100000 in
theorem lifted (os : Os) (started : os.Started) (H : Type) (enc : TypeId × Value → H) :
    ReturnsInHanded {} Try.checked os 3 .any (Rows.fnExactParseInverseSpec.pre6 enc Try.prog Try.f3 Rows.fnExactParseInverseRow.domain false) (Rows.fnExactParseInverseSpec.post enc Try.prog Try.f3 false true false false) := by
  refine returnsInHanded_of_change_shaped (C := Try.checked) own started (by kernel_rfl) Try.func3
    (ChangeSpec.witness6 (enc := enc) (C := Try.checked) false ⟨#[], #[.string ByteArray.empty], []⟩ 8 (by kernel_rfl) (by kernel_rfl) (by kernel_rfl) (by kernel_rfl)) ?_
  intro W base args ds gs before hval0 hW hcnd _ hsh _
  have hval : ∀ (j : Nat) t v, Try.f3.params[j]? = some t → args[j]? = some v → Value.okWide Try.prog W .any base t v := hval0
  have hW' := hW
  obtain ⟨p, q, hA0, hV, rfl, hfz, hnd⟩ := hW
  have hA : DataW.TrodAll enc Try.prog W 0 (fun _ => true) true Try.f3.params.toList args.toList ds p := hA0
  rw [Try.params3] at hA hval
  obtain ⟨v0, vs0, d0, ds0, p0, q0, hargs, rfl, rfl, h0, r0⟩ := trodAll_cons hA
  obtain ⟨rfl, rfl, rfl⟩ := trodAll_nil r0
  obtain rfl : args = #[v0] := by cases args; simp_all
  obtain ⟨rfl, rfl⟩ := trodVars_none hV
  have k0 := h0
  have lt0 : ∀ x ∈ p0, x.block < W.heap.size := by obtain ⟨m, hm⟩ := k0; exact DataW.trod_lt m _ _ _ hm
  obtain ⟨s0, rfl, _, _, hs0⟩ := open_string Try.underlying9 (hval 0 9 v0 rfl rfl) h0
  clear hA0 hval0
  refine (walk s0 W hs0 hsh).mono fun e W' ⟨he, bel⟩ => ?_
  subst he
  exact ⟨_, rfl, _, _, _, [], _, [], hW', trodAll_mk1 (shut_bool Try.underlying4 _), (trodAll_cons_mk (Below.trod laidOut (by kernel_rfl) (of_decide_eq_true (by kernel_rfl)) k0 bel lt0) trodAll_mk0), rfl, bel.frame _, fun h => by cases h⟩

theorem closed : joinedFacts Try.pinned.checked.prog 3 Try.f3 Rows.fnExactParseInverseSpec Rows.fnExactParseInverseRow = true := by kernel_rfl
theorem over : Rows.fnExactParseInverseRow.holds Try.pinned (OpenSpec.ofChange Rows.fnExactParseInverseSpec) :=
  OpenClaim.holds_of_wide 3 Try.f3 rfl rfl rfl rfl rfl rfl rfl ⟨rfl, rfl, rfl, rfl, rfl⟩ rfl rfl rfl rfl rfl (by kernel_rfl) Try.func3 closed
    (of_decide_eq_true (by kernel_rfl)) (by unfold Func.isWrapper; first | (rw [if_pos (by decide +kernel)]; kernel_rfl) | (rw [if_neg (by decide +kernel)]; exact ⟨rfl, rfl⟩))
    (fun os started H enc _ => lifted os started H enc)

theorem proved : Rows.FnExactParseInverseSaid :=
  over
#print axioms proved
end Go.Proofs.Ytdnccgnploifkaa.fnExactParseInverse
