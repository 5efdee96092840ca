/-
  Proved: for every slice of strings and every string the law FnExactCitedPlace returns true: CitedPlace answers as its model and writes into no argument; the arguments read as before. No further condition.
-/
import Derived.Test.YtioajkkkncjndaaRows
import Derived.Test.YtioajkkkncjndaaCk
import Derived.Test.YtioajkkkncjndaaHelp
import Derived.SliceStrings
import Derived.WalkKit
import Derived.ProofKit
import Derived.OpenShut
import Derived.ShutString
import Derived.ChangeOld
import Derived.Below
import Derived.Lib.SmallJoins
namespace Go.Proofs.Ytioajkkkncjndaa.fnExactCitedPlace
open Go.ChangeShapes Go.WideShapes Go.ChangeAt Go.RowKit
open Go.ChangeMaps (open_string shut_string)
open Ck Strs Help
set_option linter.unusedVariables false
set_option linter.unusedSimpArgs false

theorem own : ownKnob Try.prog.godebug = none := by kernel_rfl
theorem laidOut : laidOutB Try.prog = true := by kernel_rfl
theorem lens_mem {x : ByteArray} {xs : List ByteArray} (h : x ∈ xs) : x.size ≤ lens xs := by
  obtain ⟨k, hk, e⟩ := List.getElem_of_mem h
  have h1 := lens_take_succ xs k x (by rw [List.getElem?_eq_getElem hk, e])
  have h2 := lens_take_le xs (k + 1)
  omega
set_option maxHeartbeats 1000000 in
theorem walk (A : Option Addr) (n c : Nat) (xs : List ByteArray) (sep : ByteArray) (w : World) (hr : RdS w A xs) (hA : 0 < n → ∀ a, A = some a → a.block < w.heap.size) (hn : xs.length = n) (hm : n ≤ maxLen) (hx : ∀ x ∈ xs, x.size ≤ maxLen) (hsep : sep.size ≤ maxLen) :
    Calls Try.prog 4 #[.slice A n c, .string sep] w fun e w' => e = .returned (.bool true) ∧ Below w.heap.size w w' := by
  unfold maxLen at hsep
  have HR := Lib.hid hr
  have HA := Lib.hid hA
  have HN := Lib.hid hn
  have HX := Lib.hid hx
  clear hr hA hn hx
  by_cases c0 : 1048576 < sep.size
  · go_enter Try.func4, Try.ntmps4
    go_wp2_with fail
    go_ret
    exact ⟨rfl, Below.refl _ _⟩
  · have hSz := szStringS_any A c n xs 1048576 w HR.out HN.out hm HX.out (Nat.le_refl _)
    by_cases hfit : n + lens xs ≤ 1048576
    · have e1 : szR 1048576 xs = 1048576 - n - lens xs := by unfold szR; rw [HN.out, if_pos hfit]; rfl
      rw [e1] at hSz
      clear e1
      have HSz := Lib.hid hSz
      clear hSz
      have hxs : ∀ x ∈ xs, x.size ≤ 1048576 := fun x hx => by have := lens_mem hx; omega
      have HXs := Lib.hid hxs
      clear hxs
      obtain ⟨t, r, hb⟩ := cpV_form xs sep
      have HB := Lib.hid hb
      clear hb
      go_enter Try.func4, Try.ntmps4
      go_wp2_with fail
      refine HSz.out.mono ?_
      rintro e w' ⟨rfl, rfl⟩
      go_wp2_with fail
      refine (toStringS_any A c n xs _ HR.out HA.out HN.out (by omega)).mono ?_
      rintro e w1 ⟨v1, rfl, o1, b1⟩
      obtain ⟨A1, c1, rfl, _, r1, hA1⟩ := own_rds o1
      go_wp2_with fail
      refine (place_s A1 c1 n xs sep _ r1 HN.out (by omega) HXs.out).mono ?_
      rintro e w8 ⟨rfl, hw8⟩
      subst hw8
      have b2 := Below.refl w1.heap.size w1
      rw [HB.out]
      have k2 := b1.trans (b2.mono b1.size)
      have HR2 : Hid (RdS w1 A xs) := Lib.hid (HR.out.of fun hp a ha => k2.block _ (HA.out (by rw [← HN.out]; exact hp) a ha))
      have HA2 : Hid (0 < n → ∀ a, A = some a → a.block < w1.heap.size) := Lib.hid (fun hp a ha => Nat.lt_of_lt_of_le (HA.out hp a ha) k2.size)
      go_wp2_with fail
      refine (toStringS_any A c n xs _ HR2.out HA2.out HN.out (by omega)).mono ?_
      rintro e w3 ⟨v3, rfl, o3, b3⟩
      have oc := o3
      obtain ⟨A3, c3, rfl, _, r3, hA3⟩ := own_rds o3
      have hcap := own_cap oc
      go_wp2_with fail
      refine (place_i A3 c3 n xs sep _ r3 HN.out (by omega) HXs.out).mono ?_
      rintro e w9 ⟨rfl, hw9⟩
      subst hw9
      have b4 := Below.refl w3.heap.size w3
      rw [HB.out]
      have k4 := (k2.trans (b3.mono k2.size)).trans (b4.mono (Nat.le_trans k2.size b3.size))
      have HR4 : Hid (RdS w3 A xs) := Lib.hid (HR.out.of fun hp a ha => k4.block _ (HA.out (by rw [← HN.out]; exact hp) a ha))
      have HA4 : Hid (0 < n → ∀ a, A = some a → a.block < w3.heap.size) := Lib.hid (fun hp a ha => Nat.lt_of_lt_of_le (HA.out hp a ha) k4.size)
      have o4 := own_below oc b4
      go_wp2_with fail
      refine (toStringS_any A c n xs _ HR4.out HA4.out HN.out (by omega)).mono ?_
      rintro e w5 ⟨v5, rfl, o5, b5⟩
      have o45 := own_below o4 b5
      go_wp2_with fail
      refine (eqStringS_own _ _ _ _ _ xs _ o45 o5 (by omega)).mono ?_
      rintro e w' ⟨rfl, q, rfl⟩
      go_wp2_with fail
      go_ret
      have k5 := k4.trans (b5.mono k4.size)
      exact ⟨rfl, k5.os, k5.tape, k5.output, k5.size, k5.block⟩
    · have e1 : szR 1048576 xs = -1 := by unfold szR; rw [HN.out, if_neg hfit]
      rw [e1] at hSz
      clear e1
      have HSz := Lib.hid hSz
      clear hSz
      go_enter Try.func4, Try.ntmps4
      go_wp2_with fail
      refine HSz.out.mono ?_
      rintro e w' ⟨rfl, rfl⟩
      go_wp2_with fail
      go_ret
      exact ⟨rfl, Below.refl _ _⟩

/-- what came in, as the walk wants it -/
theorem rds_of {w : World} {a : Addr} {ss : List ByteArray} (h : ∀ i, i < ss.length → w.cell? (a.add i) = some (.string (ss.getD i ByteArray.empty))) (n : Nat) : RdS w (some a) (ss.take n) := by
  intro j x hx
  have hj : j < ss.length := by
    rcases Nat.lt_or_ge j ss.length with h | h
    · exact h
    · rw [List.getElem?_eq_none (by rw [List.length_take]; omega)] at hx; cases hx
  have hx' : ss[j]? = some x := by
    rw [List.getElem?_take] at hx
    split at hx
    · exact hx
    · cases hx
  obtain ⟨b, off, spot⟩ := a
  have hspot : spot = none := by simpa [Addr.add] using World.cell?_spot (h 0 (by omega))
  subst hspot
  refine ⟨b, off, rfl, ?_⟩
  have := h j hj
  rw [Go.WideShapes.add_plain] at this
  rw [this, List.getD_eq_getElem?_getD, hx']
  rfl



set_option maxRecDepth 100000 in
theorem lifted (os : Os) (started : os.Started) (H : Type) (enc : TypeId × Value → H) :
    ReturnsInHanded {} Try.checked os 4 .any (Rows.fnExactCitedPlaceSpec.pre6 enc Try.prog Try.f4 Rows.fnExactCitedPlaceRow.domain false) (Rows.fnExactCitedPlaceSpec.post enc Try.prog Try.f4 false true false false) := by
  refine returnsInHanded_of_change (C := Try.checked) own started (by kernel_rfl) Try.func4
    (ChangeSpec.witness6 (enc := enc) (C := Try.checked) false ⟨#[], #[.slice none 0 0, .string ByteArray.empty], []⟩ 8 (by kernel_rfl) (by kernel_rfl) (by kernel_rfl) (by kernel_rfl)) ?_
  intro W base args ds gs before hval0 hW hcnd _
  have hval : ∀ (j : Nat) t v, Try.f4.params[j]? = some t → args[j]? = some v → Value.okWide Try.prog W .any base t v := hval0
  have hW' := hW
  obtain ⟨p, q, hA0, hV, rfl, hfz, hnd⟩ := hW
  have hA : DataW.TrodAll enc Try.prog W 0 (fun _ => true) true Try.f4.params.toList args.toList ds p := hA0
  rw [Try.params4] at hA hval
  obtain ⟨v0, vs0, d0, ds0, p0, q0, hargs, rfl, rfl, h0, r0⟩ := trodAll_cons hA
  obtain ⟨v1, vs1, d1, ds1, p1, q1, rfl, rfl, rfl, h1, r1⟩ := trodAll_cons r0
  obtain ⟨rfl, rfl, rfl⟩ := trodAll_nil r1
  obtain rfl : args = #[v0, v1] := by cases args; simp_all
  obtain ⟨rfl, rfl⟩ := trodVars_none hV
  have k0 := h0
  have lt0 : ∀ x ∈ p0, x.block < W.heap.size := by obtain ⟨m, hm⟩ := k0; exact DataW.trod_lt m _ _ _ hm
  have k1 := h1
  have lt1 : ∀ x ∈ p1, x.block < W.heap.size := by obtain ⟨m, hm⟩ := k1; exact DataW.trod_lt m _ _ _ hm
  obtain ⟨a0, len0, cap0, rfl⟩ := okWide_slice Try.underlying24 (hval 0 24 v0 rfl rfl)
  obtain ⟨xs0, rd0, hA0, hn0, hm0, hx0⟩ : ∃ xs, RdS W a0 xs ∧ (0 < len0 → ∀ a, a0 = some a → a.block < W.heap.size) ∧ xs.length = len0 ∧ len0 ≤ maxLen ∧ ∀ x ∈ xs, x.size ≤ maxLen := by
    obtain ⟨fuel, hf⟩ := h0
    rcases open_strings Try.underlying24 Try.underlying9 (by kernel_rfl) hf with ⟨hcs, _⟩ | ⟨x, l, c, ss, hcs, _, hl, hm, hz, _, hcell, hws⟩
    · simp [Value.cells] at hcs
      obtain ⟨rfl, rfl, rfl⟩ := hcs
      exact ⟨[], (fun j x hx => (by simp at hx)), (fun hp => (by omega)), rfl, Nat.zero_le _, (fun x hx => (by cases hx))⟩
    · simp [Value.cells] at hcs
      obtain ⟨rfl, rfl, rfl⟩ := hcs
      simp only [if_true] at hz
      refine ⟨ss.take len0, rds_of hcell _, ?_, by rw [List.length_take]; omega, by omega, fun y hy => hws y (List.mem_of_mem_take hy)⟩
      rintro hp a ha
      cases ha
      have h0c := hcell 0 (by omega)
      rcases Nat.lt_or_ge x.block W.heap.size with h | h
      · exact h
      · exfalso
        have : W.heap[x.block]? = none := Array.getElem?_eq_none h
        simp [Addr.add, World.cell?, this] at h0c
  obtain ⟨s1, rfl, _, _, hs1⟩ := open_string Try.underlying9 (hval 1 9 v1 rfl rfl) h1
  clear hA0 hval0
  refine (walk a0 len0 cap0 xs0 s1 W rd0 hA0 hn0 hm0 hx0 hs1 ).mono fun e W' ⟨he, bel⟩ => ?_
  subst he
  exact ⟨_, rfl, _, _, _, [], _, [], hW', trodAll_mk1 (shut_bool Try.underlying4 _), (trodAll_cons_mk (Below.trod laidOut (by kernel_rfl) (of_decide_eq_true (by kernel_rfl)) k0 bel lt0) (trodAll_cons_mk (Below.trod laidOut (by kernel_rfl) (of_decide_eq_true (by kernel_rfl)) k1 bel lt1) trodAll_mk0)), rfl, bel.frame _, fun h => by cases h⟩

theorem closed : joinedFacts Try.pinned.checked.prog 4 Try.f4 Rows.fnExactCitedPlaceSpec Rows.fnExactCitedPlaceRow = true := by kernel_rfl
theorem over : Rows.fnExactCitedPlaceRow.holds Try.pinned (OpenSpec.ofChange Rows.fnExactCitedPlaceSpec) :=
  OpenClaim.holds_of_wide 4 Try.f4 rfl rfl rfl rfl rfl rfl rfl ⟨rfl, rfl, rfl, rfl, rfl⟩ rfl rfl rfl rfl rfl (by kernel_rfl) Try.func4 closed
    (of_decide_eq_true (by kernel_rfl)) (by unfold Func.isWrapper; first | (rw [if_pos (by decide +kernel)]; kernel_rfl) | (rw [if_neg (by decide +kernel)]; exact ⟨rfl, rfl⟩))
    (fun os started H enc _ => lifted os started H enc)

theorem proved : Rows.FnExactCitedPlaceSaid :=
  over
#print axioms proved
end Go.Proofs.Ytioajkkkncjndaa.fnExactCitedPlace
