/-
  Labels of citations: values, validity in both.
-/
import Derived.Test.YtkiogbbbigmgnaaGFe
import Derived.Test.YtkiogbbbigmgnaaL1In
namespace Go.Proofs.Ytkiogbbbigmgnaa.Lab
open Go.RowKit Pl Strs Help Name Stands SplitPl NmPl Word Part NGood Nms Jn Ens Lbs
set_option linter.unusedSimpArgs false
set_option linter.unusedVariables false

/-- a label as a value -/
abbrev lbV (k : ByteArray) (n d t : Int) : Value := .agg #[.string k, .int .i64 n, .int .i64 d, .int .i64 t]
/-- Names, Detail and Letter are in range -/
def wrt (n d t : Int) : Bool := decide (1 ≤ n ∧ n ≤ 4) && decide (1 ≤ d ∧ d ≤ 3) && decide (0 ≤ t ∧ t ≤ 26)
theorem limit_i (x : Int) (r : Bool) (w : World) (hr : decide (1 ≤ x ∧ x ≤ 4) = r) :
    Calls Try.prog 28 #[.int .i64 x] w fun e w' => e = .returned (.bool r) ∧ w = w' := by
  subst hr
  by_cases h1 : 1 ≤ x
  · have HE : Hid (decide (1 ≤ x ∧ x ≤ 4) = decide (x ≤ (4 : Int))) := Lib.hid (by simp [h1])
    have hd : decide ((1 : Int) ≤ x) = true := by simpa using h1
    go_enter Try.func28, Try.ntmps28
    go_wp2_with fail
    go_ret
    exact ⟨by rw [HE.out]; rfl, rfl⟩
  · have HE : Hid (decide (1 ≤ x ∧ x ≤ 4) = false) := Lib.hid (by simp [h1])
    have hd : decide ((1 : Int) ≤ x) = false := by simpa using h1
    rw [HE.out]
    clear HE
    go_enter Try.func28, Try.ntmps28
    go_wp2_with fail
    go_ret
    exact ⟨rfl, rfl⟩
set_option maxHeartbeats 2000000 in
theorem wrt_i (k : ByteArray) (n d t : Int) (r : Bool) (w : World) (hr : wrt n d t = r) :
    Calls Try.prog 24 #[lbV k n d t] w fun e w' => e = .returned (.bool r) ∧ Below w.heap.size w w' := by
  have HB := Lib.hid ((Below.refl _ w).alloc (Nat.le_refl _) (.cells #[.string k, .int .i64 n, .int .i64 d, .int .i64 t] 34))
  obtain ⟨r0, hr0⟩ : ∃ r, decide (1 ≤ n ∧ n ≤ 4) = r := ⟨_, rfl⟩
  have HL := Lib.hid (fun w => limit_i n r0 w hr0)
  unfold wrt at hr
  rw [hr0] at hr
  have HR := Lib.hid hr
  clear hr hr0
  obtain ⟨b1, e1⟩ : ∃ b, decide ((1 : Int) ≤ d) = b := ⟨_, rfl⟩
  obtain ⟨b2, e2⟩ : ∃ b, decide (d ≤ (3 : Int)) = b := ⟨_, rfl⟩
  obtain ⟨b3, e3⟩ : ∃ b, decide ((0 : Int) ≤ t) = b := ⟨_, rfl⟩
  obtain ⟨b4, e4⟩ : ∃ b, decide (t ≤ (26 : Int)) = b := ⟨_, rfl⟩
  have HR2 : Hid ((r0 && (b1 && b2) && (b3 && b4)) = r) := Lib.hid (by rw [← HR.out, ← e1, ← e2, ← e3, ← e4]; simp [Bool.decide_and])
  clear HR
  go_enter Try.func24, Try.ntmps24
  go_wp2_with fail
  refine (HL.out _).mono ?_
  rintro e w1 ⟨rfl, rfl⟩
  cases r0 with
  | false =>
    go_wp2_with fail
    go_ret
    exact ⟨by rw [← HR2.out]; simp, HB.out⟩
  | true =>
    cases b1 with
    | false =>
      go_wp2_with fail
      go_ret
      exact ⟨by rw [← HR2.out]; simp, HB.out⟩
    | true =>
      cases b2 with
      | false =>
        go_wp2_with fail
        go_ret
        exact ⟨by rw [← HR2.out]; simp, HB.out⟩
      | true =>
        cases b3 with
        | false =>
          go_wp2_with fail
          go_ret
          exact ⟨by rw [← HR2.out]; simp, HB.out⟩
        | true =>
          go_wp2_with fail
          go_ret
          exact ⟨by rw [← HR2.out]; first | rfl | simp [e4], HB.out⟩
/-- a label is valid for a library -/
def okLab (L : List En) (k : ByteArray) (n d t : Int) : Bool := okLib L && (decide (0 ≤ fnd L k 0) && wrt n d t)
theorem boxes2 (w : World) (v : Value) (k : ByteArray) (n d t : Int) (e e' : TypeId) : let W := (w.alloc (.cells #[v] e)).alloc (.cells #[.string k, .int .i64 n, .int .i64 d, .int .i64 t] e')
    Below w.heap.size w W ∧ W.cell? ⟨w.heap.size, 0, none⟩ = some v ∧ W.cell? ⟨w.heap.size + 1, 0, none⟩ = some (.string k) ∧ W.cell? ⟨w.heap.size + 1, 1, none⟩ = some (.int .i64 n) ∧ W.cell? ⟨w.heap.size + 1, 2, none⟩ = some (.int .i64 d) ∧ W.cell? ⟨w.heap.size + 1, 3, none⟩ = some (.int .i64 t) ∧ w.heap.size + 1 < W.heap.size := by
  refine ⟨((Below.refl _ w).alloc (Nat.le_refl _) _).alloc (by simp) _, by simp, by simp, by simp, by simp, by simp, by simp⟩
end Go.Proofs.Ytkiogbbbigmgnaa.Lab
