/-
  Proved: for every list of lists of strings the law FnExactFirstCited returns true: FirstCited answers as its model, writes into no argument and owns its answer; the arguments read as before. No further condition.
-/
import Derived.Test.YtioajkkkncjndaaRows
import Derived.Test.YtioajkkkncjndaaFc2
import Derived.Test.YtioajkkkncjndaaOpenSS
import Derived.WalkKit
import Derived.ProofKit
import Derived.OpenShut
import Derived.ShutString
import Derived.ChangeOld
import Derived.Below
import Derived.Lib.SmallJoins
namespace Go.Proofs.Ytioajkkkncjndaa.fnExactFirstCited
open Go.ChangeShapes Go.WideShapes Go.ChangeAt Go.RowKit
open Go.ChangeMaps (open_string shut_string)
open Ck Strs Help Sss Fc Kpz
open Tms (own_tm)
set_option linter.unusedVariables false
set_option linter.unusedSimpArgs false

theorem own : ownKnob Try.prog.godebug = none := by kernel_rfl
theorem laidOut : laidOutB Try.prog = true := by kernel_rfl
theorem lens_mem {x : ByteArray} {xs : List ByteArray} (h : x ∈ xs) : x.size ≤ lens xs := by
  obtain ⟨k, hk, e⟩ := List.getElem_of_mem h
  have h1 := lens_take_succ xs k x (by rw [List.getElem?_eq_getElem hk, e])
  have h2 := lens_take_le xs (k + 1)
  omega
set_option maxRecDepth 100000 in
set_option maxHeartbeats 8000000 in
theorem walk (A : Option Addr) (n c : Nat) (C : List (List ByteArray)) (w : World) (hr : RdA w A C) (hn : C.length = n) (hm : n ≤ maxLen) (hx : ∀ xs ∈ C, xs.length ≤ maxLen ∧ ∀ x ∈ xs, x.size ≤ maxLen) :
    Calls Try.prog 3 #[.slice A n c] w fun e w' => e = .returned (.bool true) ∧ Below w.heap.size w w' := by
  have HR := Lib.hid hr
  have HN := Lib.hid hn
  by_cases hfit : n + lensC C ≤ 1048576
  · have HS := Lib.hid (szStringSS_any A c n C 1048576 ((1048576 - n - lensC C : Nat) : Int) w hr hn hm hx (Nat.le_refl _) (by unfold szC; rw [hn, if_pos hfit]; omega))
    obtain ⟨z, hz⟩ : ∃ z, 1048576 - n - lensC C = z := ⟨_, rfl⟩
    rw [hz] at HS
    have hb1 : ∀ xs ∈ C, xs.length ≤ 1048576 := fun xs h => by have := lensC_mem h; omega
    have hb2 : ∀ xs ∈ C, xs.length ≤ 1048576 ∧ ∀ x ∈ xs, x.size ≤ 1048576 := fun xs h => ⟨hb1 xs h, fun x hx => by have := lensC_mem h; have := lens_mem hx; omega⟩
    have HB1 := Lib.hid hb1
    have HB2 := Lib.hid hb2
    have hn1 : n ≤ 1048576 := by omega
    have HT := Lib.hid (fun (A : Option Addr) (c : Nat) (w : World) (h : RdA w A C) => toStringSS_any A c n C w h hn hn1 hb1)
    have HQ := Lib.hid (fun (A B : Option Addr) (c d : Nat) (w : World) (h : RdA w A C) (h' : RdA w B C) => eqStringSS_same A B c d n C w h h' hn hn1 hb1)
    have HCs := Lib.hid (fun (A : Option Addr) (c : Nat) (w : World) (h : RdA w A C) => cited_s A c n C w h hn hn1 hb2)
    have HCi := Lib.hid (fun (b0 b1 : Nat) (A : Option Addr) (c : Nat) (w : World) (h : RdC b0 b1 w A C) => cited_i b0 b1 A c n C w h hn hn1 hb2)
    obtain ⟨q, hq⟩ : ∃ q, 1 + cntC C = q := ⟨_, rfl⟩
    have hq1 : q ≤ 1048577 := by have := cntC_lens C; omega
    have HM := Lib.hid (fun (b0 b1 : Nat) (A : Option Addr) (c : Nat) (w : World) (h : Sls b0 b1 w A C) => markStringSS_tm b0 b1 A c n 1 q C w h hn hn1 (by omega) (by omega) hq)
    obtain ⟨t0, Ht0⟩ : ∃ t, Hid (fcX C = t) := ⟨_, Lib.hid rfl⟩
    have hXl : t0.length ≤ 2097152 := by rw [← Ht0.out]; have := fcX_len C; omega
    unfold FcP at HCs HCi
    rw [Ht0.out] at HCs HCi
    generalize cOk C = r0 at *
    have hqd : decide ((q : Int) < 0) = false := decide_eq_false (by omega)
    clear hr hn hx hz hb1 hb2 hfit hq
    go_enter Try.func3, Try.ntmps3
    go_wp2_with fail
    refine HS.out.mono ?_
    rintro e w' ⟨rfl, rfl⟩
    go_wp2_with fail
    refine (HT.out A c w HR.out).mono ?_
    rintro e w1 ⟨A1, rfl, R1, b1⟩
    go_wp2_with fail
    refine (HCs.out A1 n w1 R1.rda).mono ?_
    rintro e w2 ⟨v0, rfl, o0, b2⟩
    have k2 := ktr b1 b2
    have lo0 := o0.lt
    have r2 := HR.out.kp k2
    clear b1 b2 R1
    go_wp2_with fail
    refine (HT.out A c w2 r2).mono ?_
    rintro e w3 ⟨A3, rfl, R3, b3⟩
    have k3 := ktr k2 b3
    have o03 := own_kp o0 b3
    clear r2 o0
    go_wp2_with fail
    refine (HCi.out _ _ A3 n w3 R3).mono ?_
    rintro e w4 ⟨v1, rfl, o1, b4⟩
    have k4 := ktr k3 b4
    have lo1 := o1.lt
    have o04 := own_kp o03 b4
    have oap := own_apart o03 o1
    have R4 := R3.kp b4
    clear R3 o03
    go_wp2_with fail
    refine (eqStringS_own _ _ _ _ _ t0 _ o1 o04 hXl).mono ?_
    rintro e w' ⟨rfl, n1, rfl⟩
    have o15 := own_of_drewN o1 n1
    have o05 := own_of_drewN o04 n1
    have k5 := kdn k4 n1
    have R5 := R4.kp (kdn (kre _) n1)
    have hs45 : w3.heap.size ≤ (w4.drewN n1).heap.size := ksz (kdn b4 n1)
    have hs32 : w2.heap.size ≤ w3.heap.size := ksz b3
    generalize w4.drewN n1 = w5 at *
    clear R4 o1 o04 k4 b4
    go_wp2_with fail
    refine (HT.out A c w5 (HR.out.kp k5)).mono ?_
    rintro e w6 ⟨A6, rfl, R6, b6⟩
    have k6 := ktr k5 b6
    have o16 := own_kp o15 b6
    have o06 := own_kp o05 b6
    have R56 := R5.kp b6
    clear R5 o15 o05
    go_wp2_with fail
    refine (HQ.out A3 A6 n n w6 R56.rda R6.rda).mono ?_
    rintro e w7 ⟨rfl, b7⟩
    have k7 := ktr k6 b7
    have o17 := own_kp o16 b7
    have o07 := own_kp o06 b7
    have R7 := R56.kp b7
    have hs7 : w3.heap.size ≤ w7.heap.size := Nat.le_trans hs45 (Nat.le_trans (ksz b6) (ksz b7))
    clear R56 R6 o16 o06 b7 b6
    go_wp2_with fail
    refine (HM.out _ _ A3 n w7 R7.sls).mono ?_
    rintro e wm ⟨rfl, tm⟩
    have o1m := own_tm o17 tm (fun k hk => .inr (lo1 k hk).1)
    have o0m := own_tm o07 tm (fun k hk => .inl (lo0 k hk).2)
    have km : Kp w wm := Below.trans k7 (tm.below (ksz k2) (ksz k7))
    clear o17 o07 tm R7
    go_wp2_with fail
    refine (eqStringS_own _ _ _ _ _ t0 _ o1m o0m hXl).mono ?_
    rintro e w' ⟨rfl, n2, rfl⟩
    have o1n := own_of_drewN o1m n2
    have o0n := own_of_drewN o0m n2
    have kn := kdn km n2
    generalize wm.drewN n2 = wn at *
    clear o1m o0m km
    go_wp2_with fail
    refine (markStringS_1 _ _ t0 _ _ o1n rfl hXl).mono ?_
    rintro e w10 ⟨rfl, o1k, g10⟩
    have o0k := o0n.kept g10 oap
    have k10 : Kp w w10 := kgr kn g10 (fun k hk => by have := (lo1 k hk).1; have := ksz k2; omega)
    clear o1n o0n g10 kn
    go_wp2_with fail
    refine (heldStringS_1 _ _ _ _ o1k hXl).mono ?_
    rintro e w11 ⟨rfl, b11⟩
    have o1l := own_kp o1k b11
    have o0l := own_kp o0k b11
    have k11 := ktr k10 b11
    clear o1k o0k b11 k10
    have hpos : ¬ ((1 : Int) + (t0.length : Int) < 0) := by omega
    have hpos' : decide ((1 : Int) + (t0.length : Int) < 0) = false := by simp; omega
    go_wp2_with fail
    refine (HT.out A c w11 (HR.out.kp k11)).mono ?_
    rintro e w12 ⟨A12, rfl, R12, b12⟩
    have k12 := ktr k11 b12
    have o1p := own_kp o1l b12
    have o0p := own_kp o0l b12
    clear b12 k11 o1l o0l
    go_wp2_with fail
    refine (HCi.out _ _ A12 n w12 R12).mono ?_
    rintro e w13 ⟨v2, rfl, o2, b13⟩
    have o1q := own_kp o1p b13
    have o0q := own_kp o0p b13
    have k13 := ktr k12 b13
    clear o1p o0p b13 k12 R12
    go_wp2_with fail
    refine (eqStringS_own _ _ _ _ _ t0 _ o2 o0q hXl).mono ?_
    rintro e w' ⟨rfl, n3, rfl⟩
    have o1r := own_of_drewN o1q n3
    have kr := kdn k13 n3
    generalize w13.drewN n3 = w14 at *
    clear o1q o0q o2 k13
    go_wp2_with fail
    refine (heldStringS_1 _ _ _ _ o1r hXl).mono ?_
    rintro e w15 ⟨rfl, b15⟩
    have k15 := ktr kr b15
    go_wp2_with fail
    go_ret
    exact ⟨rfl, k15⟩
  · have HS := Lib.hid (szStringSS_any A c n C 1048576 (-1) w hr hn hm hx (Nat.le_refl _) (by unfold szC; rw [hn, if_neg hfit]))
    clear hr hn hx hfit
    go_enter Try.func3, Try.ntmps3
    go_wp2_with fail
    refine HS.out.mono ?_
    rintro e w' ⟨rfl, rfl⟩
    go_wp2_with fail
    go_ret
    exact ⟨rfl, kre _⟩

set_option maxRecDepth 100000 in
theorem lifted (os : Os) (started : os.Started) (H : Type) (enc : TypeId × Value → H) :
    ReturnsInHanded {} Try.checked os 3 .any (Rows.fnExactFirstCitedSpec.pre6 enc Try.prog Try.f3 Rows.fnExactFirstCitedRow.domain false) (Rows.fnExactFirstCitedSpec.post enc Try.prog Try.f3 false true false false) := by
  refine returnsInHanded_of_change (C := Try.checked) own started (by kernel_rfl) Try.func3
    (ChangeSpec.witness6 (enc := enc) (C := Try.checked) false ⟨#[], #[.slice none 0 0], []⟩ 8 (by kernel_rfl) (by kernel_rfl) (by kernel_rfl) (by kernel_rfl)) ?_
  intro W base args ds gs before hval0 hW hcnd _
  have hval : ∀ (j : Nat) t v, Try.f3.params[j]? = some t → args[j]? = some v → Value.okWide Try.prog W .any base t v := hval0
  have hW' := hW
  obtain ⟨p, q, hA0, hV, rfl, hfz, hnd⟩ := hW
  have hA : DataW.TrodAll enc Try.prog W 0 (fun _ => true) true Try.f3.params.toList args.toList ds p := hA0
  rw [Try.params3] at hA hval
  obtain ⟨v0, vs0, d0, ds0, p0, q0, hargs, rfl, rfl, h0, r0⟩ := trodAll_cons hA
  obtain ⟨rfl, rfl, rfl⟩ := trodAll_nil r0
  obtain rfl : args = #[v0] := by cases args; simp_all
  obtain ⟨rfl, rfl⟩ := trodVars_none hV
  have k0 := h0
  have lt0 : ∀ x ∈ p0, x.block < W.heap.size := by obtain ⟨m, hm⟩ := k0; exact DataW.trod_lt m _ _ _ hm
  obtain ⟨A0, N0, c0, C0, rfl, hr0, hn0, hm0, hx0⟩ := open_ss (hval 0 22 v0 rfl rfl) h0
  clear hA0 hval0
  refine (walk A0 N0 c0 C0 W hr0 hn0 hm0 hx0 ).mono fun e W' ⟨he, bel⟩ => ?_
  subst he
  exact ⟨_, rfl, _, _, _, [], _, [], hW', trodAll_mk1 (shut_bool Try.underlying4 _), (trodAll_cons_mk (Below.trod laidOut (by kernel_rfl) (of_decide_eq_true (by kernel_rfl)) k0 bel lt0) trodAll_mk0), rfl, bel.frame _, fun h => by cases h⟩

theorem closed : joinedFacts Try.pinned.checked.prog 3 Try.f3 Rows.fnExactFirstCitedSpec Rows.fnExactFirstCitedRow = true := by kernel_rfl
theorem over : Rows.fnExactFirstCitedRow.holds Try.pinned (OpenSpec.ofChange Rows.fnExactFirstCitedSpec) :=
  OpenClaim.holds_of_wide 3 Try.f3 rfl rfl rfl rfl rfl rfl rfl ⟨rfl, rfl, rfl, rfl, rfl⟩ rfl rfl rfl rfl rfl (by kernel_rfl) Try.func3 closed
    (of_decide_eq_true (by kernel_rfl)) (by unfold Func.isWrapper; first | (rw [if_pos (by decide +kernel)]; kernel_rfl) | (rw [if_neg (by decide +kernel)]; exact ⟨rfl, rfl⟩))
    (fun os started H enc _ => lifted os started H enc)

theorem proved : Rows.FnExactFirstCitedSaid :=
  over
#print axioms proved
end Go.Proofs.Ytioajkkkncjndaa.fnExactFirstCited
