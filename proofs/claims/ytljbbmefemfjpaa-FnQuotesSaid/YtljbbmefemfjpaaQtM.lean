/-
  Is a byte a mark: hasMark, hasApostrophe of the program, l12Mark of the model.
-/
import Derived.Test.YtljbbmefemfjpaaLtI
import Derived.Test.YtljbbmefemfjpaaQtPl
import Derived.Below
namespace Go.Proofs.Ytljbbmefemfjpaa.QtM
open Go.RowKit NmPl QtPl LtI
set_option linter.unusedSimpArgs false
set_option linter.unusedVariables false

theorem ret_bool {a b : Bool} (h : a = b) : Ending.returned (.bool a) = .returned (.bool b) := by rw [h]
theorem apo_0 (s : ByteArray) : apo s 0 = false := rfl
theorem apo_succ (s : ByteArray) (j : Nat) : apo s (j + 1) = (isLt (bt s j) && (decide (j + 1 + 1 < s.size) && isLt (bt s (j + 1 + 1)))) := by
  unfold apo
  rw [decide_eq_true (Nat.succ_pos j)]
  rfl
set_option maxHeartbeats 1000000 in
theorem apo_i (Bq i : Nat) (s : ByteArray) (z : Bool) (w : World) (hc : w.cell? ⟨Bq, 2, none⟩ = some (.string s)) (hs : s.size ≤ 1048576) (hi : i < s.size) (hz : apo s i = z) :
    Calls Try.prog 65 #[.pointer (some ⟨Bq, 0, none⟩), .int .i64 i] w fun e w' => e = .returned (.bool z) ∧ w = w' := by
  cases i with
  | zero =>
    rw [apo_0] at hz
    subst hz
    go_enter Try.func65, Try.ntmps65
    go_wp2_with fail
    go_ret
    exact ⟨rfl, rfl⟩
  | succ j =>
    rw [apo_succ, bt_eq (by omega)] at hz
    have hj : j < s.size := by omega
    have hw : IntKind.i64.wrap ((j : Int) + 1 + 1) = (j : Int) + 1 + 1 := by rw [IntKind.wrap_i64]; omega
    cases h1 : isLt s[j] with
    | false =>
      have HZ : Hid (z = false) := Lib.hid (by rw [← hz, h1]; rfl)
      have HC := Lib.hid (fun w => letter_i s[j] false w h1)
      clear hz h1
      go_enter Try.func65, Try.ntmps65
      go_wp2_with (go_at_call 72; refine (HC.out _).mono ?_; rintro e w' ⟨rfl, rfl⟩)
      go_ret
      exact ⟨by rw [HZ.out]; rfl, rfl⟩
    | true =>
      rw [h1] at hz
      have HC := Lib.hid (fun w => letter_i s[j] true w h1)
      clear h1
      by_cases h2 : j + 1 + 1 < s.size
      · rw [bt_eq h2, decide_eq_true h2] at hz
        have HZ : Hid (isLt s[j + 1 + 1] = z) := Lib.hid hz
        have HC2 := Lib.hid (fun w => letter_i s[j + 1 + 1] z w HZ.out)
        have h2i : (j : Int) + 1 + 1 < (s.size : Int) := by omega
        have hn2 : ((j : Int) + 1 + 1).toNat = j + 1 + 1 := by omega
        have h02 : (0 : Int) ≤ (j : Int) + 1 + 1 := by omega
        clear hz
        go_enter Try.func65, Try.ntmps65
        go_wp2_with (first | (go_at_call 72; (with_reducible refine (HC.out _).mono ?_); rintro e w' ⟨rfl, rfl⟩) | (go_at_call 72; (with_reducible refine (HC2.out _).mono ?_); rintro e w' ⟨rfl, rfl⟩))
        go_ret
        exact ⟨rfl, rfl⟩
      · have HZ : Hid (z = false) := Lib.hid (by rw [← hz, decide_eq_false h2]; rfl)
        clear hz
        have h2i : ¬ (j : Int) + 1 + 1 < (s.size : Int) := by omega
        go_enter Try.func65, Try.ntmps65
        go_wp2_with (go_at_call 72; (with_reducible refine (HC.out _).mono ?_); rintro e w' ⟨rfl, rfl⟩)
        go_ret
        exact ⟨by rw [HZ.out]; rfl, rfl⟩
set_option maxHeartbeats 1000000 in
theorem mark_i (Bq i : Nat) (s : ByteArray) (z : Bool) (w : World) (hc : w.cell? ⟨Bq, 2, none⟩ = some (.string s)) (hs : s.size ≤ 1048576) (hi : i < s.size) (hz : isMk s i = z) :
    Calls Try.prog 51 #[.pointer (some ⟨Bq, 0, none⟩), .int .i64 i] w fun e w' => e = .returned (.bool z) ∧ w = w' := by
  have HA := Lib.hid (fun r (h : apo s i = r) => apo_i Bq i s r w hc hs hi h)
  unfold isMk at hz
  rw [bt_eq hi] at hz
  have hcl := s[i].toNat_lt
  by_cases h1 : s[i] = 34
  · have hb1 : ((s[i].toNat : Int) == 34) = true := by rw [h1]; rfl
    have HZ : Hid (z = true) := Lib.hid (by rw [← hz, h1]; rfl)
    clear hz h1
    go_enter Try.func51, Try.ntmps51
    go_wp2_with fail
    go_ret
    exact ⟨by rw [HZ.out]; rfl, rfl⟩
  · have hb1 : ((s[i].toNat : Int) == 34) = false := by
      rw [beq_eq_false_iff_ne]; intro h; exact h1 (UInt8.toNat_inj.1 (by show s[i].toNat = 34; omega))
    have e1 : (s[i] == 34) = false := by rw [beq_eq_false_iff_ne]; exact h1
    rw [e1, Bool.false_or] at hz
    by_cases h2 : s[i] = 39
    · have hb2 : ((s[i].toNat : Int) == 39) = true := by rw [h2]; rfl
      obtain ⟨r, hr⟩ : ∃ r, apo s i = r := ⟨_, rfl⟩
      have HC := Lib.hid (HA.out r hr)
      have HZ : Hid (z = !r) := Lib.hid (by rw [← hz, h2, hr]; rfl)
      clear hz h1 h2 e1 hr
      go_enter Try.func51, Try.ntmps51
      go_wp2_with (go_at_call 65; refine HC.out.mono ?_; rintro e w' ⟨rfl, rfl⟩)
      go_ret
      exact ⟨by rw [HZ.out]; rfl, rfl⟩
    · have hb2 : ((s[i].toNat : Int) == 39) = false := by
        rw [beq_eq_false_iff_ne]; intro h; exact h2 (UInt8.toNat_inj.1 (by show s[i].toNat = 39; omega))
      have e2 : (s[i] == 39) = false := by rw [beq_eq_false_iff_ne]; exact h2
      have HZ : Hid (z = false) := Lib.hid (by rw [← hz, e2]; rfl)
      clear hz h1 h2 e1 e2
      go_enter Try.func51, Try.ntmps51
      go_wp2_with fail
      go_ret
      exact ⟨by rw [HZ.out]; rfl, rfl⟩

set_option maxHeartbeats 1000000 in
theorem mark_s (i : Nat) (s : ByteArray) (z : Bool) (w : World) (hs : s.size ≤ 1048576) (hi : i < s.size) (hz : isMk s i = z) :
    Calls Try.prog 34 #[.string s, .int .i64 i] w fun e w' => e = .returned (.bool z) ∧ w = w' := by
  unfold isMk at hz
  rw [bt_eq hi] at hz
  have hcl := s[i].toNat_lt
  by_cases h1 : s[i] = 34
  · have hb1 : ((s[i].toNat : Int) == 34) = true := by rw [h1]; rfl
    have HZ : Hid (z = true) := Lib.hid (by rw [← hz, h1]; rfl)
    clear hz h1
    go_enter Try.func34, Try.ntmps34
    go_wp2_with fail
    go_ret
    exact ⟨by rw [HZ.out]; rfl, rfl⟩
  have hb1 : ((s[i].toNat : Int) == 34) = false := by
    rw [beq_eq_false_iff_ne]; intro h; exact h1 (UInt8.toNat_inj.1 (by show s[i].toNat = 34; omega))
  have e1 : (s[i] == 34) = false := by rw [beq_eq_false_iff_ne]; exact h1
  rw [e1, Bool.false_or] at hz
  by_cases h2 : s[i] = 39
  · have hb2 : ((s[i].toNat : Int) == 39) = true := by rw [h2]; rfl
    have hz' : (!apo s i) = z := by rw [← hz, h2]; rfl
    clear hz h1 h2 e1
    cases i with
    | zero =>
      have HZ : Hid (z = true) := Lib.hid (by rw [← hz', apo_0]; rfl)
      clear hz'
      go_enter Try.func34, Try.ntmps34
      go_wp2_with fail
      go_ret
      exact ⟨by rw [HZ.out]; rfl, rfl⟩
    | succ j =>
      rw [apo_succ, bt_eq (by omega)] at hz'
      have hj : j < s.size := by omega
      have hi0 : ¬ ((j : Int) + 1 = 0) := by omega
      by_cases hl : j + 1 + 1 < s.size
      · rw [decide_eq_true hl, Bool.true_and, bt_eq hl] at hz'
        have hwl : IntKind.i64.wrap ((s.size : Int) - 1) = (s.size : Int) - 1 := by rw [IntKind.wrap_i64]; omega
        have hne : ¬ ((j : Int) + 1 = (s.size : Int) - 1) := by omega
        have hneb : ((j : Int) + 1 == (s.size : Int) - 1) = false := by rw [beq_eq_false_iff_ne]; omega
        cases h3 : isLt s[j] with
        | false =>
          have HZ : Hid (z = true) := Lib.hid (by rw [← hz', h3]; rfl)
          have HC := Lib.hid (fun w => letter_s s[j] false w h3)
          clear hz' h3
          go_enter Try.func34, Try.ntmps34
          go_wp2_with (first | (go_at_call 55; (with_reducible refine (HC.out _).mono ?_); rintro e w' ⟨rfl, rfl⟩))
          go_ret
          exact ⟨by rw [HZ.out]; rfl, rfl⟩
        | true =>
          rw [h3, Bool.true_and] at hz'
          have HC := Lib.hid (fun w => letter_s s[j] true w h3)
          obtain ⟨r, hr⟩ : ∃ r, isLt s[j + 1 + 1] = r := ⟨_, rfl⟩
          have HC2 := Lib.hid (fun w => letter_s s[j + 1 + 1] r w hr)
          have HZ : Hid (z = !r) := Lib.hid (by rw [← hz', hr])
          have hw : IntKind.i64.wrap ((j : Int) + 1 + 1) = (j : Int) + 1 + 1 := by rw [IntKind.wrap_i64]; omega
          have h2i : (j : Int) + 1 + 1 < (s.size : Int) := by omega
          have hn2 : ((j : Int) + 1 + 1).toNat = j + 1 + 1 := by omega
          have h02 : (0 : Int) ≤ (j : Int) + 1 + 1 := by omega
          clear hz' h3 hr
          go_enter Try.func34, Try.ntmps34
          go_wp2_with (first | (go_at_call 55; (with_reducible refine (HC.out _).mono ?_); rintro e w' ⟨rfl, rfl⟩) | (go_at_call 55; (with_reducible refine (HC2.out _).mono ?_); rintro e w' ⟨rfl, rfl⟩))
          go_ret
          exact ⟨by rw [HZ.out]; rfl, rfl⟩
      · have HZ : Hid (z = true) := Lib.hid (by rw [← hz', decide_eq_false hl]; simp)
        have hwl : IntKind.i64.wrap ((s.size : Int) - 1) = (s.size : Int) - 1 := by rw [IntKind.wrap_i64]; omega
        have hneb : ((j : Int) + 1 == (s.size : Int) - 1) = true := by rw [beq_iff_eq]; omega
        have hsz : s.size = j + 1 + 1 := by omega
        clear hz'
        go_enter Try.func34, Try.ntmps34
        go_wp2_with fail
        go_ret
        exact ⟨by rw [HZ.out]; rfl, rfl⟩
  · have hb2 : ((s[i].toNat : Int) == 39) = false := by
      rw [beq_eq_false_iff_ne]; intro h; exact h2 (UInt8.toNat_inj.1 (by show s[i].toNat = 39; omega))
    have e2 : (s[i] == 39) = false := by rw [beq_eq_false_iff_ne]; exact h2
    have HZ : Hid (z = false) := Lib.hid (by rw [← hz, e2]; rfl)
    clear hz h1 h2 e1 e2
    go_enter Try.func34, Try.ntmps34
    go_wp2_with fail
    go_ret
    exact ⟨by rw [HZ.out]; rfl, rfl⟩
end Go.Proofs.Ytljbbmefemfjpaa.QtM
