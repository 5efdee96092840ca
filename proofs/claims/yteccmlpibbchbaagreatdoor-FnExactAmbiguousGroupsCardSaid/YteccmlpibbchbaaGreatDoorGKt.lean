/-
  Several texts of one claim in one file: KtK, Kt.
-/
import Derived.Test.YteccmlpibbchbaaGreatDoorWord
import Derived.Test.YteccmlpibbchbaaGreatDoorL1In
import Derived.Test.YteccmlpibbchbaaGreatDoorPr
import Derived.Test.YteccmlpibbchbaaGreatDoorGSp
import Derived.LoopTactic
import Derived.Test.YteccmlpibbchbaaGreatDoorPart
import Derived.Test.YteccmlpibbchbaaGreatDoorDt1
import Derived.Test.YteccmlpibbchbaaGreatDoorShelf
/-
  Contracts of isDigit, isKey, l4Key: keys.
-/
namespace Go.Proofs.YteccmlpibbchbaaGreatDoor.Kt
open Go.RowKit Pl Stands SplitPl NmPl Word
set_option linter.unusedSimpArgs false
set_option linter.unusedVariables false

def isDg (c : UInt8) : Bool := decide (48 ≤ c.toNat ∧ c.toNat ≤ 57)
def kc (c : UInt8) : Bool := isLo c || isDg c
def hdLo : List UInt8 → Bool
  | c :: _ => isLo c
  | [] => false
/-- is it a key -/
def keyB (s : ByteArray) : Bool := decide (1 ≤ s.size ∧ s.size ≤ 10) && (hdLo s.data.toList && s.data.toList.all kc)
theorem hd_at {s : ByteArray} (h : 0 < s.size) : hdLo s.data.toList = isLo s[0] := by
  have := drop_cons s 0 h
  rw [List.drop_zero] at this
  rw [this]; rfl
theorem digit_i (c : UInt8) (r : Bool) (w : World) (hr : isDg c = r) : Calls Tryz.prog 94 #[.int .u8 c.toNat] w fun e w' => e = .returned (.bool r) ∧ w = w' := by
  have hc := c.toNat_lt
  have HR : Hid (r = decide (48 ≤ c.toNat ∧ c.toNat ≤ 57)) := Lib.hid (by rw [← hr]; rfl)
  clear hr
  by_cases h1 : 48 ≤ c.toNat
  · have hd : decide (48 ≤ (c.toNat : Int)) = true := by simp; omega
    go_enter Tryz.func94, Tryz.ntmps94
    go_wp2_with fail
    go_ret
    exact ⟨ret_bool (by rw [HR.out, Bool.eq_iff_iff]; simp; omega), rfl⟩
  · have hd : decide (48 ≤ (c.toNat : Int)) = false := by simp; omega
    go_enter Tryz.func94, Tryz.ntmps94
    go_wp2_with fail
    go_ret
    exact ⟨ret_bool (by rw [HR.out, Bool.eq_iff_iff]; simp; omega), rfl⟩

set_option maxHeartbeats 2000000 in
theorem isKey_any (s : ByteArray) (r : Bool) (w : World) (hs : s.size ≤ 1048576) (hr : keyB s = r) : Calls Tryz.prog 72 #[.string s] w fun e w' => e = .returned (.bool r) ∧ w = w' := by
  have HR : Hid (r = (decide (1 ≤ s.size ∧ s.size ≤ 10) && (hdLo s.data.toList && s.data.toList.all kc))) := Lib.hid hr.symm
  clear hr
  by_cases hp : 0 < s.size
  · obtain ⟨hne1, hne2⟩ := ne_str hp
    by_cases h10 : s.size ≤ 10
    · rw [decide_eq_true (show 1 ≤ s.size ∧ s.size ≤ 10 by omega), Bool.true_and, hd_at hp] at HR
      cases hl : isLo s[0] with
      | false =>
        have HL := Lib.hid hl
        rw [hl, Bool.false_and] at HR
        clear hl
        go_enter Tryz.func72, Tryz.ntmps72
        go_wp2_with fail
        refine (lo_i _ false _ HL.out).mono ?_
        rintro e w' ⟨rfl, rfl⟩
        go_wp2_with fail
        go_ret
        exact ⟨by rw [HR.out]; rfl, rfl⟩
      | true =>
        have HL := Lib.hid hl
        rw [hl, Bool.true_and] at HR
        clear hl
        go_enter Tryz.func72, Tryz.ntmps72
        go_wp2_with fail
        refine (lo_i _ true _ HL.out).mono ?_
        rintro e w' ⟨rfl, rfl⟩
        go_wp2_with fail
        go_loop [19] (fun i => ∃ k : Nat, k ≤ s.size ∧ i = .int .i64 k ∧ Hid ((s.data.toList.drop k).all kc = s.data.toList.all kc)) (fun i => s.size - (intOf i).toNat)
        case atStart => exact ⟨0, Nat.zero_le _, rfl, Lib.hid rfl⟩
        case round =>
          obtain ⟨k, hk, rfl, HD⟩ := hrel
          by_cases hlt : k < s.size
          · have HA := Lib.hid (all_at kc s k hlt)
            cases h1 : isLo s[k] with
            | true =>
              have H1 := Lib.hid h1
              have HK : Hid (kc s[k] = true) := Lib.hid (by unfold kc; rw [h1]; rfl)
              clear h1
              go_wp2_with fail
              refine (lo_i _ true _ H1.out).mono ?_
              rintro e w' ⟨rfl, rfl⟩
              go_wp2_with fail
              go_round
              case rel => exact ⟨k + 1, by omega, by go_num, Lib.hid (by rw [← HD.out, HA.out, HK.out]; rfl)⟩
              case measure => simp [intOf]; omega
            | false =>
              have H1 := Lib.hid h1
              cases h2 : isDg s[k] with
              | true =>
                have H2 := Lib.hid h2
                have HK : Hid (kc s[k] = true) := Lib.hid (by unfold kc; rw [h1, h2]; rfl)
                clear h1 h2
                go_wp2_with fail
                refine (lo_i _ false _ H1.out).mono ?_
                rintro e w' ⟨rfl, rfl⟩
                go_wp2_with fail
                refine (digit_i _ true _ H2.out).mono ?_
                rintro e w' ⟨rfl, rfl⟩
                go_wp2_with fail
                go_round
                case rel => exact ⟨k + 1, by omega, by go_num, Lib.hid (by rw [← HD.out, HA.out, HK.out]; rfl)⟩
                case measure => simp [intOf]; omega
              | false =>
                have H2 := Lib.hid h2
                have HK : Hid (kc s[k] = false) := Lib.hid (by unfold kc; rw [h1, h2]; rfl)
                have HF : Hid (r = false) := Lib.hid (by rw [HR.out, ← HD.out, HA.out, HK.out]; rfl)
                clear h1 h2
                go_wp2_with fail
                refine (lo_i _ false _ H1.out).mono ?_
                rintro e w' ⟨rfl, rfl⟩
                go_wp2_with fail
                refine (digit_i _ false _ H2.out).mono ?_
                rintro e w' ⟨rfl, rfl⟩
                go_wp2_with fail
                go_ret
                exact ⟨by rw [HF.out]; rfl, rfl⟩
          · have HF : Hid (r = true) := Lib.hid (by rw [HR.out, ← HD.out, all_end kc s k (by omega)])
            go_wp2_with fail
            go_ret
            exact ⟨by rw [HF.out]; rfl, rfl⟩
    · rw [decide_eq_false (show ¬ (1 ≤ s.size ∧ s.size ≤ 10) by omega), Bool.false_and] at HR
      go_enter Tryz.func72, Tryz.ntmps72
      go_wp2_with fail
      go_ret
      exact ⟨by rw [HR.out]; rfl, rfl⟩
  · rw [decide_eq_false (show ¬ (1 ≤ s.size ∧ s.size ≤ 10) by omega), Bool.false_and] at HR
    obtain rfl := nil_str hp
    clear hp
    go_enter Tryz.func72, Tryz.ntmps72
    go_wp2_with fail
    go_ret
    exact ⟨by rw [HR.out]; rfl, rfl⟩

set_option maxHeartbeats 2000000 in
theorem l4Key_any (s : ByteArray) (r : Bool) (w : World) (hs : s.size ≤ 1048576) (hr : keyB s = r) : Calls Tryz.prog 63 #[.string s] w fun e w' => e = .returned (.bool r) ∧ w = w' := by
  have HR : Hid (r = (decide (1 ≤ s.size ∧ s.size ≤ 10) && (hdLo s.data.toList && s.data.toList.all kc))) := Lib.hid hr.symm
  clear hr
  by_cases h10 : 1 ≤ s.size ∧ s.size ≤ 10
  · have hp : 0 < s.size := by omega
    rw [decide_eq_true h10, Bool.true_and, hd_at hp] at HR
    have HI := Lib.hid (fun w => Dt.l1In_any (s.size : Int) 1 10 true w (by simp; omega))
    clear h10
    cases hl : isLo s[0] with
    | false =>
      have HL := Lib.hid hl
      rw [hl, Bool.false_and] at HR
      clear hl
      go_enter Tryz.func63, Tryz.ntmps63
      go_wp2_with fail
      refine (HI.out _).mono ?_
      rintro e w' ⟨rfl, rfl⟩
      go_wp2_with fail
      refine (lo_s _ false _ HL.out).mono ?_
      rintro e w' ⟨rfl, rfl⟩
      go_wp2_with fail
      go_ret
      exact ⟨by rw [HR.out]; rfl, rfl⟩
    | true =>
      have HL := Lib.hid hl
      rw [hl, Bool.true_and] at HR
      clear hl
      go_enter Tryz.func63, Tryz.ntmps63
      go_wp2_with fail
      refine (HI.out _).mono ?_
      rintro e w' ⟨rfl, rfl⟩
      go_wp2_with fail
      refine (lo_s _ true _ HL.out).mono ?_
      rintro e w' ⟨rfl, rfl⟩
      go_wp2_with fail
      go_loop [3] (fun i => ∃ k : Nat, k ≤ s.size ∧ i = .int .i64 k ∧ Hid ((s.data.toList.drop k).all kc = s.data.toList.all kc)) (fun i => s.size - (intOf i).toNat)
      case atStart => exact ⟨0, Nat.zero_le _, rfl, Lib.hid rfl⟩
      case round =>
        obtain ⟨k, hk, rfl, HD⟩ := hrel
        by_cases hlt : k < s.size
        · have HA := Lib.hid (all_at kc s k hlt)
          have hcl := s[k].toNat_lt
          cases h1 : isLo s[k] with
          | true =>
            have H1 := Lib.hid h1
            have HK : Hid (kc s[k] = true) := Lib.hid (by unfold kc; rw [h1]; rfl)
            clear h1
            go_wp2_with fail
            refine (lo_s _ true _ H1.out).mono ?_
            rintro e w' ⟨rfl, rfl⟩
            go_wp2_with fail
            go_round
            case rel => exact ⟨k + 1, by omega, by go_num, Lib.hid (by rw [← HD.out, HA.out, HK.out]; rfl)⟩
            case measure => simp [intOf]; omega
          | false =>
            have H1 := Lib.hid h1
            by_cases h2 : 48 ≤ s[k].toNat
            · have hb1 : decide ((s[k].toNat : Int) < 48) = false := by simp; omega
              by_cases h3 : s[k].toNat ≤ 57
              · have hb2 : decide (57 < (s[k].toNat : Int)) = false := by simp; omega
                have HK : Hid (kc s[k] = true) := Lib.hid (by unfold kc isDg; rw [h1, decide_eq_true ⟨h2, h3⟩]; rfl)
                clear h1 h2 h3
                go_wp2_with fail
                refine (lo_s _ false _ H1.out).mono ?_
                rintro e w' ⟨rfl, rfl⟩
                go_wp2_with fail
                go_round
                case rel => exact ⟨k + 1, by omega, by go_num, Lib.hid (by rw [← HD.out, HA.out, HK.out]; rfl)⟩
                case measure => simp [intOf]; omega
              · have hb2 : decide (57 < (s[k].toNat : Int)) = true := by simp; omega
                have HK : Hid (kc s[k] = false) := Lib.hid (by unfold kc isDg; rw [h1, decide_eq_false (fun h => h3 h.2)]; rfl)
                have HF : Hid (r = false) := Lib.hid (by rw [HR.out, ← HD.out, HA.out, HK.out]; rfl)
                clear h1 h2 h3
                go_wp2_with fail
                refine (lo_s _ false _ H1.out).mono ?_
                rintro e w' ⟨rfl, rfl⟩
                go_wp2_with fail
                go_ret
                exact ⟨by rw [HF.out]; rfl, rfl⟩
            · have hb1 : decide ((s[k].toNat : Int) < 48) = true := by simp; omega
              have HK : Hid (kc s[k] = false) := Lib.hid (by unfold kc isDg; rw [h1, decide_eq_false (fun h => h2 h.1)]; rfl)
              have HF : Hid (r = false) := Lib.hid (by rw [HR.out, ← HD.out, HA.out, HK.out]; rfl)
              clear h1 h2
              go_wp2_with fail
              refine (lo_s _ false _ H1.out).mono ?_
              rintro e w' ⟨rfl, rfl⟩
              go_wp2_with fail
              go_ret
              exact ⟨by rw [HF.out]; rfl, rfl⟩
        · have HF : Hid (r = true) := Lib.hid (by rw [HR.out, ← HD.out, all_end kc s k (by omega)])
          go_wp2_with fail
          go_ret
          exact ⟨by rw [HF.out]; rfl, rfl⟩
  · rw [decide_eq_false h10, Bool.false_and] at HR
    have HI := Lib.hid (fun w => Dt.l1In_any (s.size : Int) 1 10 false w (by rw [decide_eq_false_iff_not]; omega))
    clear h10
    go_enter Tryz.func63, Tryz.ntmps63
    go_wp2_with fail
    refine (HI.out _).mono ?_
    rintro e w' ⟨rfl, rfl⟩
    go_wp2_with fail
    go_ret
    exact ⟨by rw [HR.out]; rfl, rfl⟩

end Go.Proofs.YteccmlpibbchbaaGreatDoor.Kt
/-
  Contracts of isKey, l4Key, isPrintable, isText, l4Text: keys and texts.
-/
namespace Go.Proofs.YteccmlpibbchbaaGreatDoor.Kt
open Go.RowKit Pl Stands SplitPl NmPl Word
set_option linter.unusedSimpArgs false
set_option linter.unusedVariables false

/-- is it a text -/
def textB (s : ByteArray) : Bool := decide (s.size ≤ 40) && (s.data.toList.all pr && edge s.data.toList)

set_option maxHeartbeats 2000000 in
theorem isText_any (s : ByteArray) (r : Bool) (w : World) (hs : s.size ≤ 1048576) (hr : textB s = r) : Calls Tryz.prog 75 #[.string s] w fun e w' => e = .returned (.bool r) ∧ w' = w := by
  have HR : Hid (r = (decide (s.size ≤ 40) && (s.data.toList.all pr && edge s.data.toList))) := Lib.hid hr.symm
  clear hr
  have HP := Lib.hid (Tryz.strings_HasPrefix s ⟨#[32]⟩ w)
  have HX := Lib.hid (Tryz.strings_HasSuffix s ⟨#[32]⟩ w (by omega))
  have HE : Hid (edge s.data.toList = (!(Lib.hasPrefix s.data.toList (ByteArray.mk #[32]).data.toList) && !(Lib.hasSuffix s.data.toList (ByteArray.mk #[32]).data.toList))) := Lib.hid rfl
  generalize Lib.hasPrefix s.data.toList (ByteArray.mk #[32]).data.toList = a at *
  generalize Lib.hasSuffix s.data.toList (ByteArray.mk #[32]).data.toList = b at *
  rw [HE.out] at HR
  by_cases h40 : s.size ≤ 40
  · rw [decide_eq_true h40, Bool.true_and] at HR
    cases hp : s.data.toList.all pr with
    | false =>
      have HI := Lib.hid (isPrint s false w hs hp)
      rw [hp, Bool.false_and] at HR
      clear hp
      go_enter Tryz.func75, Tryz.ntmps75
      go_wp2_with fail
      refine HI.out.mono ?_
      rintro e w' ⟨rfl, rfl⟩
      go_wp2_with fail
      go_ret
      exact ⟨by rw [HR.out]; rfl, rfl⟩
    | true =>
      have HI := Lib.hid (isPrint s true w hs hp)
      rw [hp, Bool.true_and] at HR
      clear hp
      cases a with
      | true =>
        go_enter Tryz.func75, Tryz.ntmps75
        go_wp2_with fail
        refine HI.out.mono ?_
        rintro e w' ⟨rfl, rfl⟩
        go_wp2_with fail
        refine HP.out.mono ?_
        rintro e w' ⟨rfl, rfl⟩
        go_wp2_with fail
        go_ret
        exact ⟨by rw [HR.out]; rfl, rfl⟩
      | false =>
        go_enter Tryz.func75, Tryz.ntmps75
        go_wp2_with fail
        refine HI.out.mono ?_
        rintro e w' ⟨rfl, rfl⟩
        go_wp2_with fail
        refine HP.out.mono ?_
        rintro e w' ⟨rfl, hw⟩
        subst hw
        go_wp2_with fail
        refine HX.out.mono ?_
        rintro e w' ⟨rfl, hw⟩
        subst hw
        go_wp2_with fail
        go_ret
        exact ⟨by rw [HR.out]; rfl, rfl⟩
  · rw [decide_eq_false h40, Bool.false_and] at HR
    go_enter Tryz.func75, Tryz.ntmps75
    go_wp2_with fail
    go_ret
    exact ⟨by rw [HR.out]; rfl, rfl⟩

set_option maxHeartbeats 2000000 in
theorem l4Text_any (s : ByteArray) (r : Bool) (w : World) (hs : s.size ≤ 1048576) (hr : textB s = r) : Calls Tryz.prog 65 #[.string s] w fun e w' => e = .returned (.bool r) ∧ w = w' := by
  have HR : Hid (r = (decide (s.size ≤ 40) && (s.data.toList.all pr && edge s.data.toList))) := Lib.hid hr.symm
  clear hr
  by_cases h40 : s.size ≤ 40
  · rw [decide_eq_true h40, Bool.true_and] at HR
    go_enter Tryz.func65, Tryz.ntmps65
    go_wp2_with fail
    go_loop [3] (fun i => ∃ k : Nat, k ≤ s.size ∧ i = .int .i64 k ∧ Hid ((s.data.toList.drop k).all pr = s.data.toList.all pr)) (fun i => s.size - (intOf i).toNat)
    case atStart => exact ⟨0, Nat.zero_le _, rfl, Lib.hid rfl⟩
    case round =>
      obtain ⟨k, hk, rfl, HD⟩ := hrel
      by_cases hlt : k < s.size
      · have HA := Lib.hid (all_at pr s k hlt)
        have hcl := s[k].toNat_lt
        by_cases h1 : 32 ≤ s[k].toNat
        · have hb1 : decide ((s[k].toNat : Int) < 32) = false := by simp; omega
          by_cases h2 : s[k].toNat ≤ 126
          · have hb2 : decide (126 < (s[k].toNat : Int)) = false := by simp; omega
            have HK : Hid (pr s[k] = true) := Lib.hid (decide_eq_true ⟨h1, h2⟩)
            clear h1 h2
            go_wp2_with fail
            go_round
            case rel => exact ⟨k + 1, by omega, by go_num, Lib.hid (by rw [← HD.out, HA.out, HK.out]; rfl)⟩
            case measure => simp [intOf]; omega
          · have hb2 : decide (126 < (s[k].toNat : Int)) = true := by simp; omega
            have HK : Hid (pr s[k] = false) := Lib.hid (decide_eq_false (fun h => h2 h.2))
            have HF : Hid (r = false) := Lib.hid (by rw [HR.out, ← HD.out, HA.out, HK.out]; rfl)
            clear h1 h2
            go_wp2_with fail
            go_ret
            exact ⟨by rw [HF.out]; rfl, rfl⟩
        · have hb1 : decide ((s[k].toNat : Int) < 32) = true := by simp; omega
          have HK : Hid (pr s[k] = false) := Lib.hid (decide_eq_false (fun h => h1 h.1))
          have HF : Hid (r = false) := Lib.hid (by rw [HR.out, ← HD.out, HA.out, HK.out]; rfl)
          clear h1
          go_wp2_with fail
          go_ret
          exact ⟨by rw [HF.out]; rfl, rfl⟩
      · have hks : k = s.size := by omega
        rw [← HD.out, all_end pr s k (by omega), Bool.true_and] at HR
        by_cases hp : 0 < s.size
        · obtain ⟨hne1, hne2⟩ := ne_str hp
          have HE := Lib.hid (edge_at s hp)
          have hl1 : s.size - 1 < s.size := by omega
          have hli : (s.size : Int) - 1 = ((s.size - 1 : Nat) : Int) := by omega
          cases ha : ((s[0].toNat : Int) == 32) with
          | true =>
            have hb : ((s[0].toNat : Int) != 32) = false := by rw [bne, ha]; rfl
            rw [ha] at HE
            rw [HE.out] at HR
            clear ha
            go_wp2_with fail
            go_ret
            exact ⟨by rw [HR.out]; rfl, rfl⟩
          | false =>
            have hb : ((s[0].toNat : Int) != 32) = true := by rw [bne, ha]; rfl
            rw [ha] at HE
            rw [HE.out] at HR
            clear ha
            go_wp2_with fail
            go_ret
            exact ⟨ret_bool (by rw [HR.out]; rfl), rfl⟩
        · obtain rfl := nil_str hp
          clear hp
          go_wp2_with fail
          go_ret
          exact ⟨by rw [HR.out]; rfl, rfl⟩
  · rw [decide_eq_false h40, Bool.false_and] at HR
    go_enter Tryz.func65, Tryz.ntmps65
    go_wp2_with fail
    go_ret
    exact ⟨by rw [HR.out]; rfl, rfl⟩
end Go.Proofs.YteccmlpibbchbaaGreatDoor.Kt
