/-
  Several texts of one claim in one file: Lv, Lv2.
-/
import Derived.Test.YteccmlpibbchbaaGreatDoorGFe
import Derived.Test.YteccmlpibbchbaaGreatDoorL1In
import Derived.Deep.RegionHeld3
import Derived.Deep.DeepCutAuto
import Derived.ProofKit
import Derived.OpenShut
import Derived.ShutString
import Derived.ChangeOld
import Derived.Lib.SmallJoins
/-
  Labels of citations: values, validity in both.
-/
namespace Go.Proofs.YteccmlpibbchbaaGreatDoor.Lab
open Go.RowKit Pl Strs Help Name Stands SplitPl NmPl Word Part NGood Nms Jn Ens Lbs
set_option linter.unusedSimpArgs false
set_option linter.unusedVariables false

/-- a label as a value -/
abbrev lbV (k : ByteArray) (n d t : Int) : Value := .agg #[.string k, .int .i64 n, .int .i64 d, .int .i64 t]
/-- Names, Detail and Letter are in range -/
def wrt (n d t : Int) : Bool := decide (1 ≤ n ∧ n ≤ 4) && decide (1 ≤ d ∧ d ≤ 3) && decide (0 ≤ t ∧ t ≤ 26)
theorem limit_i (x : Int) (r : Bool) (w : World) (hr : decide (1 ≤ x ∧ x ≤ 4) = r) :
    Calls Tryz.prog 43 #[.int .i64 x] w fun e w' => e = .returned (.bool r) ∧ w = w' := by
  subst hr
  by_cases h1 : 1 ≤ x
  · have HE : Hid (decide (1 ≤ x ∧ x ≤ 4) = decide (x ≤ (4 : Int))) := Lib.hid (by simp [h1])
    have hd : decide ((1 : Int) ≤ x) = true := by simpa using h1
    go_enter Tryz.func43, Tryz.ntmps43
    go_wp2_with fail
    go_ret
    exact ⟨by rw [HE.out]; rfl, rfl⟩
  · have HE : Hid (decide (1 ≤ x ∧ x ≤ 4) = false) := Lib.hid (by simp [h1])
    have hd : decide ((1 : Int) ≤ x) = false := by simpa using h1
    rw [HE.out]
    clear HE
    go_enter Tryz.func43, Tryz.ntmps43
    go_wp2_with fail
    go_ret
    exact ⟨rfl, rfl⟩
set_option maxHeartbeats 2000000 in
theorem wrt_i (k : ByteArray) (n d t : Int) (r : Bool) (w : World) (hr : wrt n d t = r) :
    Calls Tryz.prog 53 #[lbV k n d t] w fun e w' => e = .returned (.bool r) ∧ Below w.heap.size w w' := by
  have HB := Lib.hid ((Below.refl _ w).alloc (Nat.le_refl _) (.cells #[.string k, .int .i64 n, .int .i64 d, .int .i64 t] 53))
  obtain ⟨r0, hr0⟩ : ∃ r, decide (1 ≤ n ∧ n ≤ 4) = r := ⟨_, rfl⟩
  have HL := Lib.hid (fun w => limit_i n r0 w hr0)
  unfold wrt at hr
  rw [hr0] at hr
  have HR := Lib.hid hr
  clear hr hr0
  obtain ⟨b1, e1⟩ : ∃ b, decide ((1 : Int) ≤ d) = b := ⟨_, rfl⟩
  obtain ⟨b2, e2⟩ : ∃ b, decide (d ≤ (3 : Int)) = b := ⟨_, rfl⟩
  obtain ⟨b3, e3⟩ : ∃ b, decide ((0 : Int) ≤ t) = b := ⟨_, rfl⟩
  obtain ⟨b4, e4⟩ : ∃ b, decide (t ≤ (26 : Int)) = b := ⟨_, rfl⟩
  have HR2 : Hid ((r0 && (b1 && b2) && (b3 && b4)) = r) := Lib.hid (by rw [← HR.out, ← e1, ← e2, ← e3, ← e4]; simp [Bool.decide_and])
  clear HR
  go_enter Tryz.func53, Tryz.ntmps53
  go_wp2_with fail
  refine (HL.out _).mono ?_
  rintro e w1 ⟨rfl, rfl⟩
  cases r0 with
  | false =>
    go_wp2_with fail
    go_ret
    exact ⟨by rw [← HR2.out]; simp, HB.out⟩
  | true =>
    cases b1 with
    | false =>
      go_wp2_with fail
      go_ret
      exact ⟨by rw [← HR2.out]; simp, HB.out⟩
    | true =>
      cases b2 with
      | false =>
        go_wp2_with fail
        go_ret
        exact ⟨by rw [← HR2.out]; simp, HB.out⟩
      | true =>
        cases b3 with
        | false =>
          go_wp2_with fail
          go_ret
          exact ⟨by rw [← HR2.out]; simp, HB.out⟩
        | true =>
          go_wp2_with fail
          go_ret
          exact ⟨by rw [← HR2.out]; first | rfl | simp [e4], HB.out⟩
/-- a label is valid for a library -/
def okLab (L : List En) (k : ByteArray) (n d t : Int) : Bool := okLib L && (decide (0 ≤ fnd L k 0) && wrt n d t)
theorem boxes2 (w : World) (v : Value) (k : ByteArray) (n d t : Int) (e e' : TypeId) : let W := (w.alloc (.cells #[v] e)).alloc (.cells #[.string k, .int .i64 n, .int .i64 d, .int .i64 t] e')
    Below w.heap.size w W ∧ W.cell? ⟨w.heap.size, 0, none⟩ = some v ∧ W.cell? ⟨w.heap.size + 1, 0, none⟩ = some (.string k) ∧ W.cell? ⟨w.heap.size + 1, 1, none⟩ = some (.int .i64 n) ∧ W.cell? ⟨w.heap.size + 1, 2, none⟩ = some (.int .i64 d) ∧ W.cell? ⟨w.heap.size + 1, 3, none⟩ = some (.int .i64 t) ∧ w.heap.size + 1 < W.heap.size := by
  refine ⟨((Below.refl _ w).alloc (Nat.le_refl _) _).alloc (by simp) _, by simp, by simp, by simp, by simp, by simp, by simp⟩
end Go.Proofs.YteccmlpibbchbaaGreatDoor.Lab
/-
  IsValidLabel of both; a label as the laws hand it over.
-/
namespace Go.Proofs.YteccmlpibbchbaaGreatDoor.Lab
open Go.ChangeShapes Go.WideShapes Go.ChangeAt Go.RowKit Go.Joins
open Pl Strs Help Name Stands SplitPl NmPl Word Part NGood Nms Jn Ens Lbs
set_option linter.unusedSimpArgs false
set_option linter.unusedVariables false

set_option maxRecDepth 100000 in
set_option maxHeartbeats 4000000 in
theorem lab_s (A : Option Addr) (c N : Nat) (L : List En) (k : ByteArray) (n d t : Int) (w : World) (h : RdE w A L) (hn : L.length = N) (hm : N ≤ 1048576) :
    Calls Tryz.prog 24 #[.agg #[.slice A N c], lbV k n d t] w fun e w' => e = .returned (.bool (decide (0 ≤ fnd L k 0) && wrt n d t)) ∧ Below w.heap.size w w' := by
  obtain ⟨b0, x0, y0, y1, y2, y3, s0⟩ := boxes2 w (.slice A N c) k n d t 33 53
  have HF := Lib.hid (l4Find_any A c N L k _ (h.below b0) hn hm)
  obtain ⟨z, hz⟩ : ∃ z, fnd L k 0 = z := ⟨_, rfl⟩
  obtain ⟨r0, e0⟩ : ∃ b, decide ((0 : Int) ≤ z) = b := ⟨_, rfl⟩
  obtain ⟨r1, e1⟩ : ∃ b, decide (1 ≤ n ∧ n ≤ 4) = b := ⟨_, rfl⟩
  obtain ⟨r2, e2⟩ : ∃ b, decide (1 ≤ d ∧ d ≤ 3) = b := ⟨_, rfl⟩
  obtain ⟨r3, e3⟩ : ∃ b, decide (0 ≤ t ∧ t ≤ 26) = b := ⟨_, rfl⟩
  have HR : Hid ((decide (0 ≤ fnd L k 0) && wrt n d t) = (r0 && (r1 && r2 && r3))) := Lib.hid (by rw [hz, e0]; unfold wrt; rw [e1, e2, e3])
  have H1 := Lib.hid (fun w => Dt.l1In_any n 1 4 r1 w e1)
  have H2 := Lib.hid (fun w => Dt.l1In_any d 1 3 r2 w e2)
  have H3 := Lib.hid (fun w => Dt.l1In_any t 0 26 r3 w e3)
  rw [HR.out]
  rw [hz] at HF
  clear h hn hz HR e1 e2 e3
  go_enter Tryz.func24, Tryz.ntmps24
  go_wp2_with fail
  generalize (w.alloc (.cells #[.slice A N c] 33)).alloc _ = w0 at b0 x0 y0 y1 y2 y3 s0 HF ⊢
  refine HF.out.mono ?_
  rintro e w1 ⟨rfl, b1⟩
  have k1 := b0.trans (b1.mono b0.size)
  have z1 := (b1.cell (p := ⟨w.heap.size + 1, 1, none⟩) s0).trans y1
  have z2 := (b1.cell (p := ⟨w.heap.size + 1, 2, none⟩) s0).trans y2
  have z3 := (b1.cell (p := ⟨w.heap.size + 1, 3, none⟩) s0).trans y3
  clear b1 x0 y0 y1 y2 y3 s0 b0 HF
  cases r0 with
  | false =>
    go_wp2_with fail
    go_ret
    exact ⟨by simp, k1⟩
  | true =>
    go_wp2_with fail
    refine (H1.out _).mono ?_
    rintro e w2 ⟨rfl, rfl⟩
    cases r1 with
    | false =>
      go_wp2_with fail
      go_ret
      exact ⟨by simp, k1⟩
    | true =>
      go_wp2_with fail
      refine (H2.out _).mono ?_
      rintro e w2 ⟨rfl, rfl⟩
      cases r2 with
      | false =>
        go_wp2_with fail
        go_ret
        exact ⟨by simp, k1⟩
      | true =>
        go_wp2_with fail
        refine (H3.out _).mono ?_
        rintro e w2 ⟨rfl, rfl⟩
        go_wp2_with fail
        go_ret
        exact ⟨by simp, k1⟩
theorem okLab_k {L M : List En} (h : L.map En.key4 = M.map En.key4) (k : ByteArray) (n d t : Int) : okLab L k n d t = okLab M k n d t := by
  unfold okLab
  rw [okLib_k h, fnd_k k 0 h]
set_option maxHeartbeats 400000 in
theorem toLab (k : ByteArray) (n d t : Int) (w : World) :
    Calls Tryz.prog 28 #[lbV k n d t] w fun e w' => e = .returned (lbV k n d t) ∧ Below w.heap.size w w' := by
  go_enter Tryz.func28, Tryz.ntmps28
  go_wp2_with fail
  exact bodyPost_ret (v := lbV k n d t) (by simp [results, Tryz.results28, go_sem]) rfl ⟨rfl, (((Below.refl _ _).alloc (Nat.le_refl _) _).alloc (by simp) _).alloc (by simp; omega) _⟩
theorem szLab (k : ByteArray) (n d t : Int) (left : Nat) (w : World) (hl : k.size ≤ maxLen) (hleft : left ≤ 1048576) :
    Calls Tryz.prog 22 #[lbV k n d t, .int .i64 left] w fun e w' => e = .returned (.int .i64 (if k.size ≤ left then (left : Int) - k.size else -1)) ∧ Below w.heap.size w w' := by
  unfold maxLen at hl
  by_cases h : k.size ≤ left
  · rw [if_pos h]
    go_enter Tryz.func22, Tryz.ntmps22
    go_wp2_with fail
    go_ret
    exact ⟨rfl, Dt.box_below _ _⟩
  · rw [if_neg h]
    go_enter Tryz.func22, Tryz.ntmps22
    go_wp2_with fail
    go_ret
    exact ⟨rfl, Dt.box_below _ _⟩
set_option maxRecDepth 100000 in
theorem open_label {H : Type} {enc : TypeId × Value → H} {W : World} {base b0 : Nat} {r : Reach} {held : Bool} {v : Value} {d : DataW H} {ps : List MemPlace} (hv : Value.okWide Tryz.prog W r b0 50 v) (h : DataW.Trod enc Tryz.prog W base (fun _ => true) held 50 v d ps) :
    ∃ k a b c, v = lbV k a b c ∧ k.size ≤ maxLen := by
  obtain ⟨v0, v1, v2, v3, y0, y1, y2, y3, n, rfl, _, _, t0, t1, t2, t3⟩ := open_agg4 Tryz.underlying50 (by kernel_rfl) (by kernel_rfl) hv h
  obtain ⟨a, ha, _, hl⟩ := DataW.trod_string Tryz.underlying9 t0
  obtain ⟨b, hb, _, _⟩ := DataW.trod_int Tryz.underlying3 t1
  obtain ⟨c, hc, _, _⟩ := DataW.trod_int Tryz.underlying3 t2
  obtain ⟨e, he, _, _⟩ := DataW.trod_int Tryz.underlying3 t3
  cases ha; cases hb; cases hc; cases he
  exact ⟨a, b, c, e, rfl, hl⟩
end Go.Proofs.YteccmlpibbchbaaGreatDoor.Lab
