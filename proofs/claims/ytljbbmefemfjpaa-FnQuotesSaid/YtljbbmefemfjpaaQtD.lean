/-
  The depth of a pair, in the program.
-/
import Derived.Test.YtljbbmefemfjpaaQtR
import Derived.Test.YtljbbmefemfjpaaQtV

namespace Go.Proofs.Ytljbbmefemfjpaa.QtD
open Go.RowKit QtPl QtB QtIn QtC QtM QtR
set_option linter.unusedSimpArgs false
set_option linter.unusedVariables false

theorem cont_q (a b c d : Nat) (w : World) : Calls Try.prog 54 #[.agg #[.int .i64 a, .int .i64 b], .agg #[.int .i64 c, .int .i64 d]] w fun e w' => e = .returned (.bool (decide (a < c) && decide (d < b))) ∧ Below w.heap.size w w' := by
  by_cases h : a < c
  · have HE : Hid ((decide (a < c) && decide (d < b)) = decide (d < b)) := Lib.hid (by rw [decide_eq_true h]; rfl)
    go_enter Try.func54, Try.ntmps54
    go_wp2_with fail
    go_ret
    exact ⟨by rw [HE.out]; simp, ((Below.refl _ _).alloc (Nat.le_refl _) _).alloc (by simp) _⟩
  · have HE : Hid ((decide (a < c) && decide (d < b)) = false) := Lib.hid (by rw [decide_eq_false h]; rfl)
    go_enter Try.func54, Try.ntmps54
    go_wp2_with fail
    go_ret
    exact ⟨by rw [HE.out]; rfl, ((Below.refl _ _).alloc (Nat.le_refl _) _).alloc (by simp) _⟩

set_option maxHeartbeats 2000000 in
theorem depth_q (AP : Option Addr) (cP n Bq a b : Nat) (P : List (Nat × Nat)) (w : World) (h : RdQ w AP P) (hn : P.length = n) (hN : n ≤ 1048576) (hc : w.cell? ⟨Bq, 0, none⟩ = some (.slice AP n cP)) (hB : Bq < w.heap.size) :
    Calls Try.prog 33 #[.pointer (some ⟨Bq, 0, none⟩), .agg #[.int .i64 a, .int .i64 b]] w fun e w' => e = .returned (.int .i64 (dp P (a, b) : Nat)) ∧ Below w.heap.size w w' := by
  have HR := Lib.hid h
  have HN := Lib.hid hn
  have hc1 : (w.alloc (.cells #[.int .i64 (a : Int), .int .i64 (b : Int)] 56)).cell? ⟨Bq, 0, none⟩ = some (.slice AP n cP) := ((kal (kre w) (.cells #[.int .i64 (a : Int), .int .i64 (b : Int)] 56)).cell (p := ⟨Bq, 0, none⟩) hB).trans hc
  clear h hn hc
  go_enter Try.func33, Try.ntmps33
  go_wp2_with fail
  go_loopw [5, 13] (fun d i wr => ∃ k : Nat, k ≤ n ∧ i = .int .i64 k ∧ (∃ m : Nat, m ≤ 1 + k ∧ Hid (1 + ((P.take k).filter fun o => decide (o.1 < a) && decide (b < o.2)).length = m) ∧ d = .int .i64 m) ∧ (wr.cell? ⟨w.heap.size, 0, none⟩ = some (.int .i64 (a : Int)) ∧ wr.cell? ⟨w.heap.size, 1, none⟩ = some (.int .i64 (b : Int)) ∧ w.heap.size < wr.heap.size) ∧ Below w.heap.size w wr) (fun _ i _ => n - (intOf i).toNat)
  case atStart => exact ⟨0, Nat.zero_le _, rfl, ⟨1, by omega, Lib.hid rfl, rfl⟩, ⟨by simp, by simp, by simp⟩, (Below.refl _ _).alloc (Nat.le_refl _) _⟩
  case round =>
    obtain ⟨k, hk, rfl, ⟨m, hm, HM, rfl⟩, ⟨d0, d1, hs⟩, hb⟩ := hrel
    by_cases hlt : k < n
    · have hkx : k < P.length := by rw [HN.out]; exact hlt
      have hx? := List.getElem?_eq_getElem hkx
      obtain ⟨g, rfl, hg, c0, c1⟩ := (HR.out.below hb) k P[k] hx?
      have HT := Lib.hid (dp_take (x := (a, b)) hx?)
      clear hx?
      generalize P[k] = x at *
      obtain ⟨xa, xb⟩ := x
      dsimp only at c0 c1 HT
      have D0 : ∀ t, (wr.alloc (.cells #[.int .i64 (xa : Int), .int .i64 (xb : Int)] t)).cell? ⟨w.heap.size, 0, none⟩ = some (.int .i64 (a : Int)) ∧ (wr.alloc (.cells #[.int .i64 (xa : Int), .int .i64 (xb : Int)] t)).cell? ⟨w.heap.size, 1, none⟩ = some (.int .i64 (b : Int)) := fun t => ⟨((kal (kre wr) _).cell (p := ⟨w.heap.size, 0, none⟩) hs).trans d0, ((kal (kre wr) _).cell (p := ⟨w.heap.size, 1, none⟩) hs).trans d1⟩
      have hbx : Below w.heap.size w (wr.alloc (.cells #[.int .i64 (xa : Int), .int .i64 (xb : Int)] 56)) := kal hb _
      have hsx : w.heap.size < (wr.alloc (.cells #[.int .i64 (xa : Int), .int .i64 (xb : Int)] 56)).heap.size := by simp; omega
      obtain ⟨e0, e1⟩ := D0 56
      clear D0 d0 d1
      cases hz : (decide (xa < a) && decide (b < xb)) with
      | false =>
        have HM2 : Hid (1 + ((P.take (k + 1)).filter fun o => decide (o.1 < a) && decide (b < o.2)).length = m) := Lib.hid (by rw [HT.out, hz, ← HM.out]; simp)
        have HC := Lib.hid (fun w => cont_q xa xb a b w)
        rw [hz] at HC
        clear hz HT
        go_wp2_with (first | (go_at_call 54; refine (HC.out _).mono ?_; rintro e w1 ⟨rfl, b1⟩
                              have hb1 := hbx.trans (Below.mono b1 hbx.size)
                              have s1 : w.heap.size < w1.heap.size := Nat.lt_of_lt_of_le hsx b1.size
                              have u0 := (b1.cell (p := ⟨w.heap.size, 0, none⟩) hsx).trans e0
                              have u1 := (b1.cell (p := ⟨w.heap.size, 1, none⟩) hsx).trans e1
                              clear b1))
        go_roundw
        case rel => exact ⟨k + 1, by omega, by go_num, ⟨m, by omega, HM2, rfl⟩, ⟨u0, u1, s1⟩, hb1⟩
        case measure => (simp [intOf] <;> omega)
      | true =>
        have HM2 : Hid (1 + ((P.take (k + 1)).filter fun o => decide (o.1 < a) && decide (b < o.2)).length = m + 1) := Lib.hid (by rw [HT.out, hz, ← HM.out]; simp; omega)
        have HC := Lib.hid (fun w => cont_q xa xb a b w)
        rw [hz] at HC
        clear hz HT
        go_wp2_with (first | (go_at_call 54; refine (HC.out _).mono ?_; rintro e w1 ⟨rfl, b1⟩
                              have hb1 := hbx.trans (Below.mono b1 hbx.size)
                              have s1 : w.heap.size < w1.heap.size := Nat.lt_of_lt_of_le hsx b1.size
                              have u0 := (b1.cell (p := ⟨w.heap.size, 0, none⟩) hsx).trans e0
                              have u1 := (b1.cell (p := ⟨w.heap.size, 1, none⟩) hsx).trans e1
                              clear b1))
        go_roundw
        case rel => exact ⟨k + 1, by omega, by go_num, ⟨m + 1, by omega, HM2, by go_num⟩, ⟨u0, u1, s1⟩, hb1⟩
        case measure => (simp [intOf] <;> omega)
    · obtain rfl : k = n := by omega
      have HE : Hid ((dp P (a, b) : Nat) = m) := Lib.hid (by rw [← HM.out]; unfold dp; rw [List.take_of_length_le (by rw [HN.out]; exact Nat.le_refl _)])
      go_wp2_with fail
      go_ret
      exact ⟨by rw [HE.out]; rfl, hb⟩
end Go.Proofs.Ytljbbmefemfjpaa.QtD
