/-
  Contracts of the functions on letters and words of chapter 2: impl.isUpperLetter, isLowerLetter, isNameWord, isCapitalWord, isLowerWord; spec.l2Upper, l2Lower, l2Letter, l2Word.
-/
import Derived.Test.YteccmlpibbchbaaGreatDoorRows
import Derived.Test.YteccmlpibbchbaaGreatDoorPlain
import Derived.Test.YteccmlpibbchbaaGreatDoorGSp
import Derived.Test.YteccmlpibbchbaaGreatDoorLetI
import Derived.WalkKit
import Derived.LoopTactic
import Derived.Lib.Hide
import Derived.Deep.QuietTactic
import Derived.BigQuiet
namespace Go.Proofs.YteccmlpibbchbaaGreatDoor.Word
open Go.RowKit Pl NmPl

theorem up_s (c : UInt8) (r : Bool) (w : World) (hr : isUp c = r) :
    Calls Tryz.prog 110 #[.int .u8 c.toNat] w fun e w' => e = .returned (.bool r) ∧ w = w' := by
  subst hr
  have HE := Lib.hid (show isUp c = decide (65 ≤ c.toNat ∧ c.toNat ≤ 90) from rfl)
  go_enter Tryz.func110, Tryz.ntmps110
  go_wp2
  all_goals
    go_ret
    exact ⟨ret_bool (by rw [HE.out, Bool.eq_iff_iff]; simp; omega), rfl⟩
theorem lo_s (c : UInt8) (r : Bool) (w : World) (hr : isLo c = r) :
    Calls Tryz.prog 87 #[.int .u8 c.toNat] w fun e w' => e = .returned (.bool r) ∧ w = w' := by
  subst hr
  have HE := Lib.hid (show isLo c = decide (97 ≤ c.toNat ∧ c.toNat ≤ 122) from rfl)
  go_enter Tryz.func87, Tryz.ntmps87
  go_wp2
  all_goals
    go_ret
    exact ⟨ret_bool (by rw [HE.out, Bool.eq_iff_iff]; simp; omega), rfl⟩
theorem lt_of {c : UInt8} {a b : Bool} (h1 : isUp c = a) (h2 : isLo c = b) : isLt c = (a || b) := by simp [isLt, h1, h2]

set_option maxHeartbeats 400000 in
theorem nameWord (s : ByteArray) (w : World) :
    Calls Tryz.prog 133 #[.string s] w fun e w' => e = .returned (.bool (wordB s.data.toList)) ∧ w = w' := by
  have HL := Lib.hid (len_size s)
  by_cases h0 : 12 < s.size
  · have HE : Hid (wordB s.data.toList = false) := Lib.hid (by unfold wordB; rw [HL.out, decide_eq_false (by omega)]; rfl)
    go_enter Tryz.func133, Tryz.ntmps133
    go_wp2
    go_ret
    exact ⟨by rw [HE.out]; rfl, rfl⟩
  · have HE : Hid (wordB s.data.toList = wgo false s.data.toList) := Lib.hid (by unfold wordB; rw [HL.out, decide_eq_true (by omega)]; rfl)
    go_enter Tryz.func133, Tryz.ntmps133
    go_wp2
    go_loop [3, 11] (fun a i => ∃ (k : Nat) (p : Bool), k ≤ s.size ∧ i = .int .i64 k ∧ a = .bool p ∧ Hid (wgo p (s.data.toList.drop k) = wgo false s.data.toList)) (fun _ i => s.size - (intOf i).toNat)
    case atStart => exact ⟨0, false, Nat.zero_le _, rfl, rfl, Lib.hid rfl⟩
    case round =>
      obtain ⟨k, p, hk, rfl, rfl, HG⟩ := hrel
      by_cases hlt : k < s.size
      · have HD := Lib.hid (drop_cons s k hlt)
        cases hu : isUp s[k] with
        | true =>
          have HU := Lib.hid hu
          have HT := Lib.hid (lt_of hu (rfl : isLo s[k] = _))
          clear hu
          go_wp2_with (first | (go_at_call 144; refine (up_i _ true _ HU.out).mono ?_; rintro e w' ⟨rfl, rfl⟩))
          go_round
          case rel =>
            refine ⟨k + 1, true, by omega, by go_num, rfl, Lib.hid ?_⟩
            · rw [← HG.out, HD.out, wgo_lt (by rw [HT.out]; rfl)]
          case measure => simp [intOf]; omega
        | false =>
          have HU := Lib.hid hu
          cases hl : isLo s[k] with
          | true =>
            have HLo := Lib.hid hl
            have HT := Lib.hid (lt_of hu hl)
            clear hu hl
            go_wp2_with (first | (go_at_call 144; refine (up_i _ false _ HU.out).mono ?_; rintro e w' ⟨rfl, rfl⟩) | (go_at_call 93; refine (lo_i _ true _ HLo.out).mono ?_; rintro e w' ⟨rfl, rfl⟩))
            go_round
            case rel =>
              refine ⟨k + 1, true, by omega, by go_num, rfl, Lib.hid ?_⟩
              · rw [← HG.out, HD.out, wgo_lt (by rw [HT.out]; rfl)]
            case measure => simp [intOf]; omega
          | false =>
            have HLo := Lib.hid hl
            have HT := Lib.hid (lt_of hu hl)
            clear hu hl
            cases p with
            | false =>
              have HF : Hid (wordB s.data.toList = false) := Lib.hid (by rw [HE.out, ← HG.out, HD.out, wgo_no' (by rw [HT.out]; rfl)])
              go_wp2_with (first | (go_at_call 144; refine (up_i _ false _ HU.out).mono ?_; rintro e w' ⟨rfl, rfl⟩) | (go_at_call 93; refine (lo_i _ false _ HLo.out).mono ?_; rintro e w' ⟨rfl, rfl⟩))
              go_ret
              exact ⟨by rw [HF.out]; rfl, rfl⟩
            | true =>
              by_cases h45 : s[k].toNat = 45
              · have HH : Hid (isHy s[k] = true) := Lib.hid (by simp [isHy, h45])
                have hq : ((s[k].toNat : Int) != 45) = false := by rw [bne_eq_false_iff_eq]; omega
                clear h45
                go_wp2_with (first | (go_at_call 144; refine (up_i _ false _ HU.out).mono ?_; rintro e w' ⟨rfl, rfl⟩) | (go_at_call 93; refine (lo_i _ false _ HLo.out).mono ?_; rintro e w' ⟨rfl, rfl⟩))
                go_round
                case rel =>
                  refine ⟨k + 1, false, by omega, by go_num, rfl, Lib.hid ?_⟩
                  · rw [← HG.out, HD.out, wgo_hy (by rw [HT.out]; rfl) HH.out]
                case measure => simp [intOf]; omega
              · have hq : ((s[k].toNat : Int) != 45) = true := by rw [bne_iff_ne]; omega
                by_cases h39 : s[k].toNat = 39
                · have HH : Hid (isHy s[k] = true) := Lib.hid (by simp [isHy, h39])
                  have hq2 : ((s[k].toNat : Int) != 39) = false := by rw [bne_eq_false_iff_eq]; omega
                  clear h45 h39
                  go_wp2_with (first | (go_at_call 144; refine (up_i _ false _ HU.out).mono ?_; rintro e w' ⟨rfl, rfl⟩) | (go_at_call 93; refine (lo_i _ false _ HLo.out).mono ?_; rintro e w' ⟨rfl, rfl⟩))
                  go_round
                  case rel =>
                    refine ⟨k + 1, false, by omega, by go_num, rfl, Lib.hid ?_⟩
                    · rw [← HG.out, HD.out, wgo_hy (by rw [HT.out]; rfl) HH.out]
                  case measure => simp [intOf]; omega
                · have HH : Hid (isHy s[k] = false) := Lib.hid (by simp [isHy, h45, h39])
                  have hq2 : ((s[k].toNat : Int) != 39) = true := by rw [bne_iff_ne]; omega
                  have HF : Hid (wordB s.data.toList = false) := Lib.hid (by rw [HE.out, ← HG.out, HD.out, wgo_no (by rw [HT.out]; rfl) HH.out])
                  clear h45 h39
                  go_wp2_with (first | (go_at_call 144; refine (up_i _ false _ HU.out).mono ?_; rintro e w' ⟨rfl, rfl⟩) | (go_at_call 93; refine (lo_i _ false _ HLo.out).mono ?_; rintro e w' ⟨rfl, rfl⟩))
                  go_ret
                  exact ⟨by rw [HF.out]; rfl, rfl⟩
      · have HX : Hid (wordB s.data.toList = p) := Lib.hid (by rw [HE.out, ← HG.out, drop_all s k (by omega)]; rfl)
        go_wp2
        go_ret
        exact ⟨by rw [HX.out]; rfl, rfl⟩

theorem nameWord_b (s : ByteArray) (r : Bool) (w : World) (hr : wordB s.data.toList = r) :
    Calls Tryz.prog 133 #[.string s] w fun e w' => e = .returned (.bool r) ∧ w = w' := by
  subst hr; exact nameWord s w
theorem word_pos {s : ByteArray} (h : wordB s.data.toList = true) : 0 < s.size := by
  rw [← len_size]; exact List.length_pos_iff.2 (word_ne h)
theorem up0_at {s : ByteArray} (h : 0 < s.size) : up0 s.data.toList = isUp s[0] := by
  have := drop_cons s 0 h
  rw [List.drop_zero] at this
  rw [this]; rfl

theorem capWord (s : ByteArray) (w : World) :
    Calls Tryz.prog 131 #[.string s] w fun e w' => e = .returned (.bool (capB s.data.toList)) ∧ w = w' := by
  have HC := Lib.hid (show capB s.data.toList = (wordB s.data.toList && up0 s.data.toList) from rfl)
  cases hw : wordB s.data.toList with
  | false =>
    have HW := Lib.hid hw
    clear hw
    go_enter Tryz.func131, Tryz.ntmps131
    go_wp2_with (go_at_call 133; refine (nameWord_b _ false _ HW.out).mono ?_; rintro e w' ⟨rfl, rfl⟩)
    go_ret
    exact ⟨by rw [HC.out, HW.out]; rfl, rfl⟩
  | true =>
    have HW := Lib.hid hw
    have hp := word_pos hw
    have HU := Lib.hid (up0_at hp)
    clear hw
    go_enter Tryz.func131, Tryz.ntmps131
    go_wp2_with (first | (go_at_call 133; refine (nameWord_b _ true _ HW.out).mono ?_; rintro e w' ⟨rfl, rfl⟩) | (go_at_call 144; refine (up_i _ _ _ rfl).mono ?_; rintro e w' ⟨rfl, rfl⟩))
    go_ret
    exact ⟨by rw [HC.out, HW.out, HU.out]; rfl, rfl⟩
theorem capWord_b (s : ByteArray) (r : Bool) (w : World) (hr : capB s.data.toList = r) :
    Calls Tryz.prog 131 #[.string s] w fun e w' => e = .returned (.bool r) ∧ w = w' := by
  subst hr; exact capWord s w

/-- the bytes from k on are lower-case letters -/
theorem all_drop (s : ByteArray) (k : Nat) (h : k < s.size) : (s.data.toList.drop k).all isLo = (isLo s[k] && (s.data.toList.drop (k + 1)).all isLo) := by
  rw [drop_cons s k h]; rfl

set_option maxHeartbeats 400000 in
theorem lowWord (s : ByteArray) (w : World) :
    Calls Tryz.prog 146 #[.string s] w fun e w' => e = .returned (.bool (lowB s.data.toList)) ∧ w = w' := by
  have HL := Lib.hid (len_size s)
  by_cases h00 : s.size = 0
  · have hs : s = ⟨#[]⟩ := ByteArray.ext (Array.eq_empty_of_size_eq_zero h00)
    subst hs
    clear h00 HL
    go_enter Tryz.func146, Tryz.ntmps146
    go_wp2
    go_ret
    exact ⟨rfl, rfl⟩
  · have hne : (s.toList == []) = false := by
      rw [beq_eq_false_iff_ne, Lib.toList_data]
      intro e
      have := HL.out
      rw [e] at this
      exact h00 this.symm
    have hne' : s.toList.isEmpty = false := by
      rw [Lib.toList_data, List.isEmpty_eq_false_iff]
      intro e
      have := HL.out
      rw [e] at this
      exact h00 this.symm
    by_cases h0 : 12 < s.size
    · have HE : Hid (lowB s.data.toList = false) := Lib.hid (by unfold lowB; rw [HL.out, decide_eq_false (p := s.size ≤ 12) (by omega)]; simp)
      clear h00
      go_enter Tryz.func146, Tryz.ntmps146
      go_wp2
      go_ret
      exact ⟨by rw [HE.out]; rfl, rfl⟩
    · have HE : Hid (lowB s.data.toList = s.data.toList.all isLo) := Lib.hid (by unfold lowB; rw [HL.out, decide_eq_true (p := s.size ≤ 12) (by omega), decide_eq_true (p := 0 < s.size) (by omega)]; rfl)
      clear h00
      go_enter Tryz.func146, Tryz.ntmps146
      go_wp2
      go_loop [13] (fun i => ∃ k : Nat, k ≤ s.size ∧ i = .int .i64 k ∧ Hid ((s.data.toList.drop k).all isLo = s.data.toList.all isLo)) (fun i => s.size - (intOf i).toNat)
      case atStart => exact ⟨0, Nat.zero_le _, rfl, Lib.hid rfl⟩
      case round =>
        obtain ⟨k, hk, rfl, HA⟩ := hrel
        by_cases hlt : k < s.size
        · have HD := Lib.hid (all_drop s k hlt)
          cases hl : isLo s[k] with
          | true =>
            have HLo := Lib.hid hl
            clear hl
            go_wp2_with (go_at_call 93; refine (lo_i _ true _ HLo.out).mono ?_; rintro e w' ⟨rfl, rfl⟩)
            go_round
            case rel => exact ⟨k + 1, by omega, by go_num, Lib.hid (by rw [← HA.out, HD.out, HLo.out]; rfl)⟩
            case measure => simp [intOf]; omega
          | false =>
            have HLo := Lib.hid hl
            clear hl
            have HF : Hid (lowB s.data.toList = false) := Lib.hid (by rw [HE.out, ← HA.out, HD.out, HLo.out]; rfl)
            go_wp2_with (go_at_call 93; refine (lo_i _ false _ HLo.out).mono ?_; rintro e w' ⟨rfl, rfl⟩)
            go_ret
            exact ⟨by rw [HF.out]; rfl, rfl⟩
        · have HX : Hid (lowB s.data.toList = true) := Lib.hid (by rw [HE.out, ← HA.out, drop_all s k (by omega)]; rfl)
          go_wp2
          go_ret
          exact ⟨by rw [HX.out]; rfl, rfl⟩
theorem lowWord_b (s : ByteArray) (r : Bool) (w : World) (hr : lowB s.data.toList = r) :
    Calls Tryz.prog 146 #[.string s] w fun e w' => e = .returned (.bool r) ∧ w = w' := by
  subst hr; exact lowWord s w

theorem letter_s (c : UInt8) (r : Bool) (w : World) (hr : isLt c = r) :
    Calls Tryz.prog 127 #[.int .u8 c.toNat] w fun e w' => e = .returned (.bool r) ∧ w = w' := by
  subst hr
  have HE := Lib.hid (show isLt c = (isUp c || isLo c) from rfl)
  cases hu : isUp c with
  | true =>
    have HU := Lib.hid hu
    clear hu
    go_enter Tryz.func127, Tryz.ntmps127
    go_wp2_with (go_at_call 110; refine (up_s _ true _ HU.out).mono ?_; rintro e w' ⟨rfl, rfl⟩)
    go_ret
    exact ⟨by rw [HE.out, HU.out]; rfl, rfl⟩
  | false =>
    have HU := Lib.hid hu
    clear hu
    go_enter Tryz.func127, Tryz.ntmps127
    go_wp2_with (first | (go_at_call 110; refine (up_s _ false _ HU.out).mono ?_; rintro e w' ⟨rfl, rfl⟩) | (go_at_call 87; refine (lo_s _ _ _ rfl).mono ?_; rintro e w' ⟨rfl, rfl⟩))
    go_ret
    exact ⟨by rw [HE.out, HU.out]; rfl, rfl⟩
theorem in_s (a b c : Int) (r : Bool) (w : World) (hr : decide (b ≤ a ∧ a ≤ c) = r) :
    Calls Tryz.prog 48 #[.int .i64 a, .int .i64 b, .int .i64 c] w fun e w' => e = .returned (.bool r) ∧ w = w' := by
  subst hr
  go_enter Tryz.func48, Tryz.ntmps48
  go_wp2
  all_goals
    go_ret
    exact ⟨ret_bool (by rw [Bool.eq_iff_iff]; simp; omega), rfl⟩

theorem word_first {s : ByteArray} (h0 : 0 < s.size) (h : isLt s[0] = false) : wordB s.data.toList = false := by
  have := drop_cons s 0 h0
  rw [List.drop_zero] at this
  unfold wordB
  rw [this, wgo_no' h]
  simp
theorem word_last {s : ByteArray} (h0 : 0 < s.size) (h : isLt (s[s.size - 1]'(by omega)) = false) : wordB s.data.toList = false := by
  obtain ⟨l, hl⟩ := last_snoc s h0
  unfold wordB
  cases hg : wgo false s.data.toList with
  | false => simp
  | true =>
    rw [hl] at hg
    have := wgo_last l false _ hg
    rw [h] at this
    cases this

set_option maxHeartbeats 1000000 in
theorem l2Word (s : ByteArray) (w : World) (hs : s.size ≤ 1073741824) :
    Calls Tryz.prog 109 #[.string s] w fun e w' => e = .returned (.bool (wordB s.data.toList)) ∧ w = w' := by
  have HL := Lib.hid (len_size s)
  by_cases hin : 1 ≤ s.size ∧ s.size ≤ 12
  · have HIn : Hid (decide ((1 : Int) ≤ (s.size : Int) ∧ (s.size : Int) ≤ 12) = true) := Lib.hid (decide_eq_true (by omega))
    obtain ⟨hin1, hin2⟩ := hin
    have hp : 0 < s.size := by omega
    cases h0 : isLt s[0] with
    | false =>
      have H0 := Lib.hid h0
      have HF := Lib.hid (word_first hp h0)
      clear h0
      go_enter Tryz.func109, Tryz.ntmps109
      go_wp2_with (first | (go_at_call 48; refine (in_s _ _ _ true _ HIn.out).mono ?_; rintro e w' ⟨rfl, rfl⟩) | (go_at_call 127; refine (letter_s _ false _ H0.out).mono ?_; rintro e w' ⟨rfl, rfl⟩))
      go_ret
      exact ⟨by rw [HF.out]; rfl, rfl⟩
    | true =>
      have H0 := Lib.hid h0
      clear h0
      have hlst : s.size - 1 < s.size := by omega
      cases h1 : isLt s[s.size - 1] with
      | false =>
        have H1 := Lib.hid h1
        have HF := Lib.hid (word_last hp h1)
        clear h1
        go_enter Tryz.func109, Tryz.ntmps109
        go_wp2_with fail
        refine (in_s _ _ _ true _ HIn.out).mono ?_
        rintro e w' ⟨rfl, rfl⟩
        go_wp2_with fail
        refine (letter_s _ true _ H0.out).mono ?_
        rintro e w' ⟨rfl, rfl⟩
        go_wp2_with fail
        refine (letter_s _ false _ H1.out).mono ?_
        rintro e w' ⟨rfl, rfl⟩
        go_wp2_with fail
        go_ret
        exact ⟨by rw [HF.out]; rfl, rfl⟩
      | true =>
        have H1 := Lib.hid h1
        clear h1
        have HE : Hid (wordB s.data.toList = wgo false s.data.toList) := Lib.hid (by unfold wordB; rw [HL.out, decide_eq_true (by omega)]; rfl)
        go_enter Tryz.func109, Tryz.ntmps109
        go_wp2_with fail
        refine (in_s _ _ _ true _ HIn.out).mono ?_
        rintro e w' ⟨rfl, rfl⟩
        go_wp2_with fail
        refine (letter_s _ true _ H0.out).mono ?_
        rintro e w' ⟨rfl, rfl⟩
        go_wp2_with fail
        refine (letter_s _ true _ H1.out).mono ?_
        rintro e w' ⟨rfl, rfl⟩
        go_wp2_with fail
        go_loop [3] (fun i => ∃ (k : Nat) (p : Bool), 1 ≤ k ∧ k ≤ s.size ∧ i = .int .i64 k ∧ Hid (∃ h : k - 1 < s.size, isLt s[k - 1] = p) ∧ Hid (wgo p (s.data.toList.drop k) = wgo false s.data.toList)) (fun i => s.size - (intOf i).toNat)
        case atStart =>
          refine ⟨1, true, Nat.le_refl _, hin1, rfl, Lib.hid ⟨hp, H0.out⟩, Lib.hid ?_⟩
          have := drop_cons s 0 hp
          rw [List.drop_zero] at this
          conv => rhs; rw [this, wgo_lt H0.out]
        case round =>
          obtain ⟨k, p, hk1, hk, rfl, HP, HG⟩ := hrel
          by_cases hlt : k < s.size
          · have HD := Lib.hid (drop_cons s k hlt)
            have hpk : k - 1 < s.size := by omega
            cases hc : isLt s[k] with
            | true =>
              have HC := Lib.hid hc
              clear hc
              go_wp2_with fail
              refine (letter_s _ true _ HC.out).mono ?_
              rintro e w' ⟨rfl, rfl⟩
              go_wp2_with fail
              go_round
              case rel => exact ⟨k + 1, true, by omega, by omega, by go_num, Lib.hid ⟨by omega, HC.out⟩, Lib.hid (by rw [← HG.out, HD.out, wgo_lt HC.out])⟩
              case measure => simp [intOf]; omega
            | false =>
              have HC := Lib.hid hc
              clear hc
              by_cases hhy : isHy s[k] = true
              · have HH := Lib.hid hhy
                have hh2 : s[k].toNat = 45 ∨ s[k].toNat = 39 := by simpa [isHy] using hhy
                clear hhy
                rcases hh2 with h45 | h39
                · have hq : ((s[k].toNat : Int) != 45) = false := by rw [bne_eq_false_iff_eq]; omega
                  clear h45
                  cases p with
                  | true =>
                    have HPk : Hid (isLt s[k - 1] = true) := Lib.hid (by obtain ⟨_, h⟩ := HP.out; exact h)
                    go_wp2_with fail
                    refine (letter_s _ false _ HC.out).mono ?_
                    rintro e w' ⟨rfl, rfl⟩
                    go_wp2_with fail
                    refine (letter_s _ true _ HPk.out).mono ?_
                    rintro e w' ⟨rfl, rfl⟩
                    go_wp2_with fail
                    go_round
                    case rel => exact ⟨k + 1, false, by omega, by omega, by go_num, Lib.hid ⟨by omega, HC.out⟩, Lib.hid (by rw [← HG.out, HD.out, wgo_hy HC.out HH.out])⟩
                    case measure => simp [intOf]; omega
                  | false =>
                    have HPk : Hid (isLt s[k - 1] = false) := Lib.hid (by obtain ⟨_, h⟩ := HP.out; exact h)
                    have HF : Hid (wordB s.data.toList = false) := Lib.hid (by rw [HE.out, ← HG.out, HD.out, wgo_no' HC.out])
                    go_wp2_with fail
                    refine (letter_s _ false _ HC.out).mono ?_
                    rintro e w' ⟨rfl, rfl⟩
                    go_wp2_with fail
                    refine (letter_s _ false _ HPk.out).mono ?_
                    rintro e w' ⟨rfl, rfl⟩
                    go_wp2_with fail
                    go_ret
                    exact ⟨by rw [HF.out]; rfl, rfl⟩
                · have hq : ((s[k].toNat : Int) != 45) = true := by rw [bne_iff_ne]; omega
                  have hq2 : ((s[k].toNat : Int) != 39) = false := by rw [bne_eq_false_iff_eq]; omega
                  clear h39
                  cases p with
                  | true =>
                    have HPk : Hid (isLt s[k - 1] = true) := Lib.hid (by obtain ⟨_, h⟩ := HP.out; exact h)
                    go_wp2_with fail
                    refine (letter_s _ false _ HC.out).mono ?_
                    rintro e w' ⟨rfl, rfl⟩
                    go_wp2_with fail
                    refine (letter_s _ true _ HPk.out).mono ?_
                    rintro e w' ⟨rfl, rfl⟩
                    go_wp2_with fail
                    go_round
                    case rel => exact ⟨k + 1, false, by omega, by omega, by go_num, Lib.hid ⟨by omega, HC.out⟩, Lib.hid (by rw [← HG.out, HD.out, wgo_hy HC.out HH.out])⟩
                    case measure => simp [intOf]; omega
                  | false =>
                    have HPk : Hid (isLt s[k - 1] = false) := Lib.hid (by obtain ⟨_, h⟩ := HP.out; exact h)
                    have HF : Hid (wordB s.data.toList = false) := Lib.hid (by rw [HE.out, ← HG.out, HD.out, wgo_no' HC.out])
                    go_wp2_with fail
                    refine (letter_s _ false _ HC.out).mono ?_
                    rintro e w' ⟨rfl, rfl⟩
                    go_wp2_with fail
                    refine (letter_s _ false _ HPk.out).mono ?_
                    rintro e w' ⟨rfl, rfl⟩
                    go_wp2_with fail
                    go_ret
                    exact ⟨by rw [HF.out]; rfl, rfl⟩
              · have HH : Hid (isHy s[k] = false) := Lib.hid (by simpa using hhy)
                have hh2 : ¬ (s[k].toNat = 45 ∨ s[k].toNat = 39) := by simpa [isHy] using hhy
                have hq : ((s[k].toNat : Int) != 45) = true := by rw [bne_iff_ne]; omega
                have hq2 : ((s[k].toNat : Int) != 39) = true := by rw [bne_iff_ne]; omega
                clear hhy hh2
                have HF : Hid (wordB s.data.toList = false) := Lib.hid (by rw [HE.out, ← HG.out, HD.out, wgo_no HC.out HH.out])
                go_wp2_with fail
                refine (letter_s _ false _ HC.out).mono ?_
                rintro e w' ⟨rfl, rfl⟩
                go_wp2_with fail
                go_ret
                exact ⟨by rw [HF.out]; rfl, rfl⟩
          · obtain rfl : k = s.size := by omega
            have HX : Hid (wordB s.data.toList = true) := Lib.hid (by
              rw [HE.out, ← HG.out, drop_all s s.size (Nat.le_refl _)]
              obtain ⟨_, h⟩ := HP.out
              rw [← h]; exact H1.out)
            go_wp2_with fail
            go_ret
            exact ⟨by rw [HX.out]; rfl, rfl⟩
  · have HF : Hid (wordB s.data.toList = false) := Lib.hid (by
      unfold wordB
      by_cases h12 : s.size ≤ 12
      · have : s.data.toList = [] := List.eq_nil_of_length_eq_zero (by rw [HL.out]; omega)
        rw [this]; rfl
      · rw [HL.out, decide_eq_false h12]; rfl)
    have HIn : Hid (decide ((1 : Int) ≤ (s.size : Int) ∧ (s.size : Int) ≤ 12) = false) := Lib.hid (decide_eq_false (by omega))
    clear hin
    go_enter Tryz.func109, Tryz.ntmps109
    go_wp2_with (first | (go_at_call 48; refine (in_s _ _ _ false _ HIn.out).mono ?_; rintro e w' ⟨rfl, rfl⟩))
    go_ret
    exact ⟨by rw [HF.out]; rfl, rfl⟩
theorem l2Word_b (s : ByteArray) (r : Bool) (w : World) (hs : s.size ≤ 1073741824) (hr : wordB s.data.toList = r) :
    Calls Tryz.prog 109 #[.string s] w fun e w' => e = .returned (.bool r) ∧ w = w' := by
  subst hr; exact l2Word s w hs
end Go.Proofs.YteccmlpibbchbaaGreatDoor.Word
