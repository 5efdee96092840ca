/-
  Contracts of the functions on letters and words of chapter 2: impl.isUpperLetter, isLowerLetter, isNameWord, isCapitalWord, isLowerWord; spec.l2Upper, l2Lower, l2Letter, l2Word.
-/
import Derived.Test.YtioajkkkncjndaaRows
import Derived.Test.YtioajkkkncjndaaPlain
import Derived.Test.YtioajkkkncjndaaNmPl
import Derived.Test.YtioajkkkncjndaaLetI
import Derived.WalkKit
import Derived.LoopTactic
import Derived.Lib.Hide
import Derived.Deep.QuietTactic
import Derived.BigQuiet
namespace Go.Proofs.Ytioajkkkncjndaa.Word
open Go.RowKit Pl NmPl

theorem lo_s (c : UInt8) (r : Bool) (w : World) (hr : isLo c = r) :
    Calls Try.prog 32 #[.int .u8 c.toNat] w fun e w' => e = .returned (.bool r) ∧ w = w' := by
  subst hr
  have HE := Lib.hid (show isLo c = decide (97 ≤ c.toNat ∧ c.toNat ≤ 122) from rfl)
  go_enter Try.func32, Try.ntmps32
  go_wp2
  all_goals
    go_ret
    exact ⟨ret_bool (by rw [HE.out, Bool.eq_iff_iff]; simp; omega), rfl⟩
theorem lt_of {c : UInt8} {a b : Bool} (h1 : isUp c = a) (h2 : isLo c = b) : isLt c = (a || b) := by simp [isLt, h1, h2]

theorem word_pos {s : ByteArray} (h : wordB s.data.toList = true) : 0 < s.size := by
  rw [← len_size]; exact List.length_pos_iff.2 (word_ne h)
theorem up0_at {s : ByteArray} (h : 0 < s.size) : up0 s.data.toList = isUp s[0] := by
  have := drop_cons s 0 h
  rw [List.drop_zero] at this
  rw [this]; rfl

/-- the bytes from k on are lower-case letters -/
theorem all_drop (s : ByteArray) (k : Nat) (h : k < s.size) : (s.data.toList.drop k).all isLo = (isLo s[k] && (s.data.toList.drop (k + 1)).all isLo) := by
  rw [drop_cons s k h]; rfl

theorem in_s (a b c : Int) (r : Bool) (w : World) (hr : decide (b ≤ a ∧ a ≤ c) = r) :
    Calls Try.prog 31 #[.int .i64 a, .int .i64 b, .int .i64 c] w fun e w' => e = .returned (.bool r) ∧ w = w' := by
  subst hr
  go_enter Try.func31, Try.ntmps31
  go_wp2
  all_goals
    go_ret
    exact ⟨ret_bool (by rw [Bool.eq_iff_iff]; simp; omega), rfl⟩

theorem word_first {s : ByteArray} (h0 : 0 < s.size) (h : isLt s[0] = false) : wordB s.data.toList = false := by
  have := drop_cons s 0 h0
  rw [List.drop_zero] at this
  unfold wordB
  rw [this, wgo_no' h]
  simp
theorem word_last {s : ByteArray} (h0 : 0 < s.size) (h : isLt (s[s.size - 1]'(by omega)) = false) : wordB s.data.toList = false := by
  obtain ⟨l, hl⟩ := last_snoc s h0
  unfold wordB
  cases hg : wgo false s.data.toList with
  | false => simp
  | true =>
    rw [hl] at hg
    have := wgo_last l false _ hg
    rw [h] at this
    cases this

end Go.Proofs.Ytioajkkkncjndaa.Word
