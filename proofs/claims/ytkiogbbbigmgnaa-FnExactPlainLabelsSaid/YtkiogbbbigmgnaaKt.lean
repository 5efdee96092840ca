/-
  Contracts of isKey, l4Key, isPrintable, isText, l4Text: keys and texts.
-/
import Derived.Test.YtkiogbbbigmgnaaWord
import Derived.Test.YtkiogbbbigmgnaaPart
import Derived.Test.YtkiogbbbigmgnaaDt1
import Derived.Test.YtkiogbbbigmgnaaShelf
import Derived.Test.YtkiogbbbigmgnaaPr
import Derived.Test.YtkiogbbbigmgnaaKtK
import Derived.LoopTactic
namespace Go.Proofs.Ytkiogbbbigmgnaa.Kt
open Go.RowKit Pl Stands SplitPl NmPl Word
set_option linter.unusedSimpArgs false
set_option linter.unusedVariables false

/-- is it a text -/
def textB (s : ByteArray) : Bool := decide (s.size ≤ 40) && (s.data.toList.all pr && edge s.data.toList)

set_option maxHeartbeats 2000000 in
theorem isText_any (s : ByteArray) (r : Bool) (w : World) (hs : s.size ≤ 1048576) (hr : textB s = r) : Calls Try.prog 55 #[.string s] w fun e w' => e = .returned (.bool r) ∧ w' = w := by
  have HR : Hid (r = (decide (s.size ≤ 40) && (s.data.toList.all pr && edge s.data.toList))) := Lib.hid hr.symm
  clear hr
  have HP := Lib.hid (Try.strings_HasPrefix s ⟨#[32]⟩ w)
  have HX := Lib.hid (Try.strings_HasSuffix s ⟨#[32]⟩ w (by omega))
  have HE : Hid (edge s.data.toList = (!(Lib.hasPrefix s.data.toList (ByteArray.mk #[32]).data.toList) && !(Lib.hasSuffix s.data.toList (ByteArray.mk #[32]).data.toList))) := Lib.hid rfl
  generalize Lib.hasPrefix s.data.toList (ByteArray.mk #[32]).data.toList = a at *
  generalize Lib.hasSuffix s.data.toList (ByteArray.mk #[32]).data.toList = b at *
  rw [HE.out] at HR
  by_cases h40 : s.size ≤ 40
  · rw [decide_eq_true h40, Bool.true_and] at HR
    cases hp : s.data.toList.all pr with
    | false =>
      have HI := Lib.hid (isPrint s false w hs hp)
      rw [hp, Bool.false_and] at HR
      clear hp
      go_enter Try.func55, Try.ntmps55
      go_wp2_with fail
      refine HI.out.mono ?_
      rintro e w' ⟨rfl, rfl⟩
      go_wp2_with fail
      go_ret
      exact ⟨by rw [HR.out]; rfl, rfl⟩
    | true =>
      have HI := Lib.hid (isPrint s true w hs hp)
      rw [hp, Bool.true_and] at HR
      clear hp
      cases a with
      | true =>
        go_enter Try.func55, Try.ntmps55
        go_wp2_with fail
        refine HI.out.mono ?_
        rintro e w' ⟨rfl, rfl⟩
        go_wp2_with fail
        refine HP.out.mono ?_
        rintro e w' ⟨rfl, rfl⟩
        go_wp2_with fail
        go_ret
        exact ⟨by rw [HR.out]; rfl, rfl⟩
      | false =>
        go_enter Try.func55, Try.ntmps55
        go_wp2_with fail
        refine HI.out.mono ?_
        rintro e w' ⟨rfl, rfl⟩
        go_wp2_with fail
        refine HP.out.mono ?_
        rintro e w' ⟨rfl, hw⟩
        subst hw
        go_wp2_with fail
        refine HX.out.mono ?_
        rintro e w' ⟨rfl, hw⟩
        subst hw
        go_wp2_with fail
        go_ret
        exact ⟨by rw [HR.out]; rfl, rfl⟩
  · rw [decide_eq_false h40, Bool.false_and] at HR
    go_enter Try.func55, Try.ntmps55
    go_wp2_with fail
    go_ret
    exact ⟨by rw [HR.out]; rfl, rfl⟩

set_option maxHeartbeats 2000000 in
theorem l4Text_any (s : ByteArray) (r : Bool) (w : World) (hs : s.size ≤ 1048576) (hr : textB s = r) : Calls Try.prog 48 #[.string s] w fun e w' => e = .returned (.bool r) ∧ w = w' := by
  have HR : Hid (r = (decide (s.size ≤ 40) && (s.data.toList.all pr && edge s.data.toList))) := Lib.hid hr.symm
  clear hr
  by_cases h40 : s.size ≤ 40
  · rw [decide_eq_true h40, Bool.true_and] at HR
    go_enter Try.func48, Try.ntmps48
    go_wp2_with fail
    go_loop [3] (fun i => ∃ k : Nat, k ≤ s.size ∧ i = .int .i64 k ∧ Hid ((s.data.toList.drop k).all pr = s.data.toList.all pr)) (fun i => s.size - (intOf i).toNat)
    case atStart => exact ⟨0, Nat.zero_le _, rfl, Lib.hid rfl⟩
    case round =>
      obtain ⟨k, hk, rfl, HD⟩ := hrel
      by_cases hlt : k < s.size
      · have HA := Lib.hid (all_at pr s k hlt)
        have hcl := s[k].toNat_lt
        by_cases h1 : 32 ≤ s[k].toNat
        · have hb1 : decide ((s[k].toNat : Int) < 32) = false := by simp; omega
          by_cases h2 : s[k].toNat ≤ 126
          · have hb2 : decide (126 < (s[k].toNat : Int)) = false := by simp; omega
            have HK : Hid (pr s[k] = true) := Lib.hid (decide_eq_true ⟨h1, h2⟩)
            clear h1 h2
            go_wp2_with fail
            go_round
            case rel => exact ⟨k + 1, by omega, by go_num, Lib.hid (by rw [← HD.out, HA.out, HK.out]; rfl)⟩
            case measure => simp [intOf]; omega
          · have hb2 : decide (126 < (s[k].toNat : Int)) = true := by simp; omega
            have HK : Hid (pr s[k] = false) := Lib.hid (decide_eq_false (fun h => h2 h.2))
            have HF : Hid (r = false) := Lib.hid (by rw [HR.out, ← HD.out, HA.out, HK.out]; rfl)
            clear h1 h2
            go_wp2_with fail
            go_ret
            exact ⟨by rw [HF.out]; rfl, rfl⟩
        · have hb1 : decide ((s[k].toNat : Int) < 32) = true := by simp; omega
          have HK : Hid (pr s[k] = false) := Lib.hid (decide_eq_false (fun h => h1 h.1))
          have HF : Hid (r = false) := Lib.hid (by rw [HR.out, ← HD.out, HA.out, HK.out]; rfl)
          clear h1
          go_wp2_with fail
          go_ret
          exact ⟨by rw [HF.out]; rfl, rfl⟩
      · have hks : k = s.size := by omega
        rw [← HD.out, all_end pr s k (by omega), Bool.true_and] at HR
        by_cases hp : 0 < s.size
        · obtain ⟨hne1, hne2⟩ := ne_str hp
          have HE := Lib.hid (edge_at s hp)
          have hl1 : s.size - 1 < s.size := by omega
          have hli : (s.size : Int) - 1 = ((s.size - 1 : Nat) : Int) := by omega
          cases ha : ((s[0].toNat : Int) == 32) with
          | true =>
            have hb : ((s[0].toNat : Int) != 32) = false := by rw [bne, ha]; rfl
            rw [ha] at HE
            rw [HE.out] at HR
            clear ha
            go_wp2_with fail
            go_ret
            exact ⟨by rw [HR.out]; rfl, rfl⟩
          | false =>
            have hb : ((s[0].toNat : Int) != 32) = true := by rw [bne, ha]; rfl
            rw [ha] at HE
            rw [HE.out] at HR
            clear ha
            go_wp2_with fail
            go_ret
            exact ⟨ret_bool (by rw [HR.out]; rfl), rfl⟩
        · obtain rfl := nil_str hp
          clear hp
          go_wp2_with fail
          go_ret
          exact ⟨by rw [HR.out]; rfl, rfl⟩
  · rw [decide_eq_false h40, Bool.false_and] at HR
    go_enter Try.func48, Try.ntmps48
    go_wp2_with fail
    go_ret
    exact ⟨by rw [HR.out]; rfl, rfl⟩
end Go.Proofs.Ytkiogbbbigmgnaa.Kt
