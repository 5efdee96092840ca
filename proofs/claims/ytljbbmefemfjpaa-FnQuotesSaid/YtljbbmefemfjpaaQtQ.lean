/-
  Is a text a quoted text, of both.
-/
import Derived.Test.YtljbbmefemfjpaaPr
import Derived.Test.YtljbbmefemfjpaaL1In
import Derived.Test.YtljbbmefemfjpaaQtPl
namespace Go.Proofs.Ytljbbmefemfjpaa.QtQ
open Go.RowKit QtPl Pl
open Dt (l1In_any)
open Kt (pr isPrint all_at all_end)
set_option linter.unusedSimpArgs false
set_option linter.unusedVariables false

/-- is it a quoted text -/
def okQ (s : ByteArray) : Bool := decide (s.size ≤ 200) && s.data.toList.all pr
theorem okQ_size {s : ByteArray} (h : okQ s = true) : s.size ≤ 200 := by
  unfold okQ at h; rw [Bool.and_eq_true, decide_eq_true_eq] at h; exact h.1
theorem okQ_all {s : ByteArray} (h : okQ s = true) : s.data.toList.all pr = true := by
  unfold okQ at h; rw [Bool.and_eq_true] at h; exact h.2
theorem quoted_i (s : ByteArray) (z : Bool) (w : World) (hs : s.size ≤ 1048576) (hz : okQ s = z) :
    Calls Try.prog 23 #[.string s] w fun e w' => e = .returned (.bool z) ∧ w = w' := by
  unfold okQ at hz
  by_cases h : s.size ≤ 200
  · rw [decide_eq_true h, Bool.true_and] at hz
    have HP := Lib.hid (fun w => isPrint s z w hs hz)
    clear hz
    go_enter Try.func23, Try.ntmps23
    go_wp2_with (first | (go_at_call 48; refine (HP.out _).mono ?_; rintro e w' ⟨rfl, rfl⟩))
    go_ret
    exact ⟨rfl, rfl⟩
  · have HZ : Hid (z = false) := Lib.hid (by rw [← hz, decide_eq_false h]; rfl)
    clear hz
    go_enter Try.func23, Try.ntmps23
    go_wp2_with fail
    go_ret
    exact ⟨by rw [HZ.out]; rfl, rfl⟩
theorem pr_int (c : UInt8) : pr c = (decide (32 ≤ (c.toNat : Int)) && decide ((c.toNat : Int) ≤ 126)) := by
  unfold pr; rw [Bool.eq_iff_iff]; simp; omega
theorem quoted_s (s : ByteArray) (z : Bool) (w : World) (hs : s.size ≤ 1048576) (hz : okQ s = z) :
    Calls Try.prog 25 #[.string s] w fun e w' => e = .returned (.bool z) ∧ w = w' := by
  have HB : Hid (∀ w, Calls Try.prog 50 #[.string s, .int .i64 0, .int .i64 200, .int .u8 32] w fun e w' => e = .returned (.bool z) ∧ w = w') := Lib.hid (fun w => by
    have HZ := Lib.hid hz
    clear hz
    go_enter Try.func50, Try.ntmps50
    go_wp2_with fail
    go_loop [9] (fun i => ∃ k : Nat, k ≤ s.size ∧ i = .int .i64 k ∧ Hid ((s.data.toList.drop k).all pr = s.data.toList.all pr)) (fun i => s.size - (intOf i).toNat)
    case atStart => exact ⟨0, Nat.zero_le _, rfl, Lib.hid rfl⟩
    case round =>
      obtain ⟨k, hk, rfl, HD⟩ := hrel
      by_cases hlt : k < s.size
      · have HA := Lib.hid (all_at pr s k hlt)
        have hcl := s[k].toNat_lt
        by_cases h1 : 32 ≤ s[k].toNat
        · have h1' : ¬ (s[k].toNat : Int) < 32 := by omega
          by_cases h2 : s[k].toNat ≤ 126
          · have h2' : ¬ (126 : Int) < (s[k].toNat : Int) := by omega
            have HK : Hid (pr s[k] = true) := Lib.hid (by unfold pr; exact decide_eq_true ⟨h1, h2⟩)
            go_wp2_with fail
            go_round
            case rel => exact ⟨k + 1, by omega, by go_num, Lib.hid (by rw [← HD.out, HA.out, HK.out]; rfl)⟩
            case measure => (simp [intOf] <;> omega)
          · have h2' : (126 : Int) < (s[k].toNat : Int) := by omega
            have HF : Hid (z = false) := Lib.hid (by
              rw [← HZ.out]; unfold okQ; rw [← HD.out, HA.out, show pr s[k] = false from by unfold pr; exact decide_eq_false (by omega)]; simp)
            go_wp2_with fail
            go_ret
            exact ⟨by rw [HF.out]; rfl, rfl⟩
        · have h1' : (s[k].toNat : Int) < 32 := by omega
          have HF : Hid (z = false) := Lib.hid (by
            rw [← HZ.out]; unfold okQ; rw [← HD.out, HA.out, show pr s[k] = false from by unfold pr; exact decide_eq_false (by omega)]; simp)
          go_wp2_with fail
          go_ret
          exact ⟨by rw [HF.out]; rfl, rfl⟩
      · have HL := Lib.hid (fun w => l1In_any (s.size : Int) 0 200 z w (by
          rw [← HZ.out]; unfold okQ; rw [← HD.out, all_end pr s k (by omega), Bool.and_true]
          rw [Bool.eq_iff_iff]; simp; omega))
        go_wp2_with (first | (go_at_call 64; refine (HL.out _).mono ?_; rintro e w' ⟨rfl, rfl⟩))
        go_ret
        exact ⟨rfl, rfl⟩)
  clear hz
  go_enter Try.func25, Try.ntmps25
  go_wp2_with (first | (go_at_call 50; refine (HB.out _).mono ?_; rintro e w' ⟨rfl, rfl⟩))
  go_ret
  exact ⟨rfl, rfl⟩
end Go.Proofs.Ytljbbmefemfjpaa.QtQ
