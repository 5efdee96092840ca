/-
  The depth of a pair, in the model; rows of numbers read.
-/
import Derived.Test.YtljbbmefemfjpaaQtS
import Derived.Test.YtljbbmefemfjpaaQtV
namespace Go.Proofs.Ytljbbmefemfjpaa.QtE
open Go.RowKit QtPl QtB QtIn QtC QtM QtR QtS
set_option linter.unusedSimpArgs false
set_option linter.unusedVariables false

/-- the slice at A holds the numbers M -/
def RdM (w : World) (A : Option Addr) (M : List Int) : Prop := ∀ j m, M[j]? = some m → ∃ g, A = some ⟨g, 0, none⟩ ∧ g < w.heap.size ∧ w.cell? ⟨g, j, none⟩ = some (.int .i64 m)
theorem RdM.kp {w w' : World} {A : Option Addr} {M : List Int} (h : RdM w A M) (hb : Kp w w') : RdM w' A M := by
  intro j m hm
  obtain ⟨g, e, hg, h0⟩ := h j m hm
  exact ⟨g, e, Nat.lt_of_lt_of_le hg (ksz hb), (hb.cell (p := ⟨g, j, none⟩) hg).trans h0⟩
theorem own_rm {w : World} {base g c n : Nat} {M : List Int} (h : w.ownsRow base 3 1 (.slice (some ⟨g, 0, none⟩) n c) n (mc M)) : RdM w (some ⟨g, 0, none⟩) M := by
  intro j m hm
  have hl := h.1
  rw [mc_len] at hl
  have hj := lt_of_some hm
  exact ⟨g, rfl, (h.lt g rfl).2, (World.ownsRow.cellAt h j (by omega)).trans (mc_at hm)⟩
theorem least_q (a b r : Int) (w : World) (h : min a b = r) :
    Calls Try.prog 32 #[.int .i64 a, .int .i64 b] w fun e w' => e = .returned (.int .i64 r) ∧ w = w' := by
  have H := Lib.hid h
  clear h
  go_enter Try.func32, Try.ntmps32
  go_wp2_with fail
  all_goals go_ret
  all_goals exact ⟨congrArg (fun z => Ending.returned (Value.int .i64 z)) (by have := H.out; omega), rfl⟩

set_option maxHeartbeats 2000000 in
theorem depth_s (A : Option Addr) (c n a : Nat) (b : Int) (M : List Int) (w : World) (h : RdM w A M) (hn : M.length = n) (hN : n ≤ 200) (hb : M[a]? = some b) :
    Calls Try.prog 31 #[.slice A n c, .int .i64 a] w fun e w' => e = .returned (.int .i64 (dm M a b : Nat)) ∧ Kp w w' := by
  have han : a < n := by rw [← hn]; exact lt_of_some hb
  have HR := Lib.hid h
  have HN := Lib.hid hn
  have HBb := Lib.hid hb
  clear h hn hb
  go_enter Try.func31, Try.ntmps31
  go_wp2_with fail
  go_loopw [5, 6] (fun d i wr => ∃ k : Nat, k ≤ a + 1 ∧ i = .int .i64 k ∧ (∃ m : Nat, m ≤ k ∧ Hid (((M.take k).filter fun m => decide (b ≤ m)).length = m) ∧ d = .int .i64 m) ∧ Kp w wr) (fun _ i _ => a + 1 - (intOf i).toNat)
  case atStart => exact ⟨0, Nat.zero_le _, rfl, ⟨0, Nat.zero_le _, Lib.hid rfl, rfl⟩, kre _⟩
  case round =>
    obtain ⟨k, hk, rfl, ⟨m, hm, HM, rfl⟩, hbl⟩ := hrel
    by_cases hlt : k ≤ a
    · have hkx : k < M.length := by rw [HN.out]; omega
      have hx? := List.getElem?_eq_getElem hkx
      obtain ⟨g, hA, hg, c0⟩ := (HR.out.kp hbl) k M[k] hx?
      obtain ⟨g', hA', hg', c1⟩ := (HR.out.kp hbl) a b HBb.out
      subst hA
      cases hA'
      have HT := Lib.hid (dm_take (b := b) hx?)
      clear hx?
      generalize M[k] = y at *
      by_cases hy : b ≤ y
      · have HM2 : Hid (((M.take (k + 1)).filter fun m => decide (b ≤ m)).length = m + 1) := Lib.hid (by rw [HT.out, if_pos hy, HM.out])
        clear HT
        go_wp2_with fail
        go_quiet (fail)
        go_wp2_with fail
        go_roundw
        case rel => exact ⟨k + 1, by omega, by go_num, ⟨m + 1, by omega, HM2, by go_num⟩, kdn hbl _⟩
        case measure => (simp [intOf] <;> omega)
      · have HM2 : Hid (((M.take (k + 1)).filter fun m => decide (b ≤ m)).length = m) := Lib.hid (by rw [HT.out, if_neg hy, HM.out]; rfl)
        clear HT
        go_wp2_with fail
        go_quiet (fail)
        go_wp2_with fail
        go_roundw
        case rel => exact ⟨k + 1, by omega, by go_num, ⟨m, by omega, HM2, rfl⟩, kdn hbl _⟩
        case measure => (simp [intOf] <;> omega)
    · obtain rfl : k = a + 1 := by omega
      have HE : Hid ((dm M a b : Nat) = m) := Lib.hid (by rw [← HM.out]; rfl)
      go_wp2_with fail
      go_ret
      exact ⟨by rw [HE.out]; rfl, hbl⟩
end Go.Proofs.Ytljbbmefemfjpaa.QtE
