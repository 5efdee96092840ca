/-
  Printable strings and what stands at the ends of a string; contract of isPrintable.
-/
import Derived.Test.YteccmlpibbchbaaGreatDoorRows
import Derived.Test.YteccmlpibbchbaaGreatDoorPlain
import Derived.Test.YteccmlpibbchbaaGreatDoorGSp
import Derived.WalkKit
import Derived.LoopTactic
import Derived.Lib.Hide
import Derived.Lib.Strings
namespace Go.Proofs.YteccmlpibbchbaaGreatDoor.Kt
open Go.RowKit Pl NmPl
set_option linter.unusedSimpArgs false
set_option linter.unusedVariables false

theorem ret_bool {a b : Bool} (h : a = b) : Ending.returned (.bool a) = .returned (.bool b) := by rw [h]
theorem all_at (P : UInt8 → Bool) (s : ByteArray) (k : Nat) (h : k < s.size) : (s.data.toList.drop k).all P = (P s[k] && (s.data.toList.drop (k + 1)).all P) := by
  rw [drop_cons s k h, List.all_cons]
theorem all_end (P : UInt8 → Bool) (s : ByteArray) (k : Nat) (h : s.size ≤ k) : (s.data.toList.drop k).all P = true := by
  rw [drop_all s k h]; rfl
theorem ne_str {s : ByteArray} (h : 0 < s.size) : (s.toList == []) = false ∧ s.toList.isEmpty = false := by
  have hn : s.data.toList ≠ [] := by intro e; have := len_size s; rw [e] at this; simp at this; omega
  rw [Lib.toList_data]
  exact ⟨by rw [beq_eq_false_iff_ne]; exact hn, List.isEmpty_eq_false_iff.2 hn⟩
theorem nil_str {s : ByteArray} (h : ¬ 0 < s.size) : s = ⟨#[]⟩ := ByteArray.ext (Array.eq_empty_of_size_eq_zero (show s.data.size = 0 by have : s.data.size = s.size := rfl; omega))

def pr (c : UInt8) : Bool := decide (32 ≤ c.toNat ∧ c.toNat ≤ 126)
def edge (l : List UInt8) : Bool := !(Lib.hasPrefix l [32]) && !(Lib.hasSuffix l [32])
theorem edge_nil : edge [] = true := rfl
theorem edge_cons (c : UInt8) (l : List UInt8) (z : UInt8) (r : List UInt8) (h : c :: l = r ++ [z]) : edge (c :: l) = (!(32 == c) && !(32 == z)) := by
  unfold edge
  have h1 : Lib.hasPrefix (c :: l) [32] = ((32 : UInt8) == c) := by show ((32 : UInt8) == c && true) = _; rw [Bool.and_true]
  have h2 : Lib.hasSuffix (c :: l) [32] = ((32 : UInt8) == z) := by
    rw [h]
    show List.isPrefixOf [32] (r ++ [z]).reverse = _
    rw [List.reverse_append]
    show ((32 : UInt8) == z && true) = _
    rw [Bool.and_true]
  rw [h1, h2]
theorem edge_at (s : ByteArray) (h : 0 < s.size) : edge s.data.toList = (!((s[0].toNat : Int) == 32) && !(((s[s.size - 1]'(by omega)).toNat : Int) == 32)) := by
  obtain ⟨r, hr⟩ := last_snoc s h
  have hc := drop_cons s 0 h
  rw [List.drop_zero] at hc
  have e : ∀ c : UInt8, ((32 : UInt8) == c) = ((c.toNat : Int) == 32) := fun c => by
    rw [Bool.eq_iff_iff, beq_iff_eq, beq_iff_eq]
    constructor
    · rintro rfl; rfl
    · intro h; exact UInt8.toNat_inj.1 (show (32 : UInt8).toNat = c.toNat by have : (32 : UInt8).toNat = 32 := rfl; omega)
  rw [hc, edge_cons _ _ _ r (hc ▸ hr), e, e]

set_option maxHeartbeats 2000000 in
theorem isPrint (s : ByteArray) (r : Bool) (w : World) (hs : s.size ≤ 1048576) (hr : s.data.toList.all pr = r) : Calls Tryz.prog 96 #[.string s] w fun e w' => e = .returned (.bool r) ∧ w = w' := by
  have HR := Lib.hid hr.symm
  clear hr
  go_enter Tryz.func96, Tryz.ntmps96
  go_wp2_with fail
  go_loop [6] (fun i => ∃ k : Nat, k ≤ s.size ∧ i = .int .i64 k ∧ Hid ((s.data.toList.drop k).all pr = s.data.toList.all pr)) (fun i => s.size - (intOf i).toNat)
  case atStart => exact ⟨0, Nat.zero_le _, rfl, Lib.hid rfl⟩
  case round =>
    obtain ⟨k, hk, rfl, HD⟩ := hrel
    by_cases hlt : k < s.size
    · have HA := Lib.hid (all_at pr s k hlt)
      have hcl := s[k].toNat_lt
      by_cases h1 : 32 ≤ s[k].toNat
      · have hb1 : decide ((s[k].toNat : Int) < 32) = false := by simp; omega
        by_cases h2 : s[k].toNat ≤ 126
        · have hb2 : decide (126 < (s[k].toNat : Int)) = false := by simp; omega
          have HK : Hid (pr s[k] = true) := Lib.hid (decide_eq_true ⟨h1, h2⟩)
          clear h1 h2
          go_wp2_with fail
          go_round
          case rel => exact ⟨k + 1, by omega, by go_num, Lib.hid (by rw [← HD.out, HA.out, HK.out]; rfl)⟩
          case measure => simp [intOf]; omega
        · have hb2 : decide (126 < (s[k].toNat : Int)) = true := by simp; omega
          have HK : Hid (pr s[k] = false) := Lib.hid (decide_eq_false (fun h => h2 h.2))
          have HF : Hid (r = false) := Lib.hid (by rw [HR.out, ← HD.out, HA.out, HK.out]; rfl)
          clear h1 h2
          go_wp2_with fail
          go_ret
          exact ⟨by rw [HF.out]; rfl, rfl⟩
      · have hb1 : decide ((s[k].toNat : Int) < 32) = true := by simp; omega
        have HK : Hid (pr s[k] = false) := Lib.hid (decide_eq_false (fun h => h1 h.1))
        have HF : Hid (r = false) := Lib.hid (by rw [HR.out, ← HD.out, HA.out, HK.out]; rfl)
        clear h1
        go_wp2_with fail
        go_ret
        exact ⟨by rw [HF.out]; rfl, rfl⟩
    · have HF : Hid (r = true) := Lib.hid (by rw [HR.out, ← HD.out, all_end pr s k (by omega)])
      go_wp2_with fail
      go_ret
      exact ⟨by rw [HF.out]; rfl, rfl⟩
end Go.Proofs.YteccmlpibbchbaaGreatDoor.Kt
