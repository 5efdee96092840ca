/-
  CountMarks of both.
-/
import Derived.Test.YtknilobmiandgaaDoorMqJ
namespace Go.Proofs.YtknilobmiandgaaDoor.Mq
open Go.RowKit Pl NmPl MqPl
set_option linter.unusedSimpArgs false
set_option linter.unusedVariables false

/-- marks, pairs of marks, whether the last byte is a mark -/
def cmS (a : Nat × Nat × Bool) (c : UInt8) : Nat × Nat × Bool := if isM c = true then (a.1 + 1, (if a.2.2 = true then a.2.1 + 1 else a.2.1), true) else (a.1, a.2.1, false)
def cmA (l : List UInt8) : Nat × Nat × Bool := l.foldl cmS (0, 0, false)
theorem cmA_snoc (l : List UInt8) (c : UInt8) : cmA (l ++ [c]) = cmS (cmA l) c := by simp [cmA, List.foldl_append]
theorem cmS_p (a : Nat × Nat × Bool) (c : UInt8) : (cmS a c).2.2 = isM c := by
  unfold cmS; split
  · rename_i h; exact h.symm
  · rename_i h; simp at h; exact h.symm
theorem cmA_le (l : List UInt8) : (cmA l).1 ≤ l.length ∧ (cmA l).2.1 ≤ l.length := by
  induction l using snocInd with
  | h0 => exact ⟨Nat.le_refl _, Nat.le_refl _⟩
  | h1 l c ih =>
    rw [cmA_snoc]
    unfold cmS
    split
    · constructor
      · show (cmA l).1 + 1 ≤ _; simp; omega
      · show (if _ then _ else _) ≤ _; split <;> simp <;> omega
    · constructor <;> simp <;> omega
/-- what CountMarks answers -/
def cmV (s : ByteArray) : Value := if okX s.data.toList = true then .tuple #[.int .i64 (cmA s.data.toList).1, .int .i64 (cmA s.data.toList).2.1, .bool true] else .tuple #[.int .i64 0, .int .i64 0, .bool false]
theorem cmV_form (s : ByteArray) : ∃ n m r, cmV s = .tuple #[.int .i64 n, .int .i64 m, .bool r] := by unfold cmV; split <;> exact ⟨_, _, _, rfl⟩
theorem cm_at (s : ByteArray) (k : Nat) (h : k < s.size) (n m : Nat) (p : Bool) (ha : cmA (s.data.toList.take k) = (n, m, p)) : cmA (s.data.toList.take (k + 1)) = cmS (n, m, p) s[k] := by rw [take_snoc s k h, cmA_snoc, ha]
theorem cm_prev (s : ByteArray) (j : Nat) (h : j < s.size) (n m : Nat) (p : Bool) (ha : cmA (s.data.toList.take (j + 1)) = (n, m, p)) : p = isM s[j] := by
  rw [take_snoc s j h, cmA_snoc] at ha
  have := cmS_p (cmA (s.data.toList.take j)) s[j]
  rw [ha] at this
  exact this
theorem cm_bd (s : ByteArray) (k : Nat) (h : k ≤ s.size) (n m : Nat) (p : Bool) (ha : cmA (s.data.toList.take k) = (n, m, p)) : n ≤ k ∧ m ≤ k := by
  have := cmA_le (s.data.toList.take k)
  rw [ha, Pl.take_len s k h] at this
  exact this
set_option maxHeartbeats 8000000 in
theorem counts_s (s : ByteArray) (w : World) (hs : s.size ≤ 1048576) :
    Calls Tryd.prog 11 #[.string s] w fun e w' => e = .returned (cmV s) ∧ w = w' := by
  have HA := Lib.hid (fun r h w => text_s s r w hs h)
  cases h1 : okX s.data.toList with
  | false =>
    have HE : Hid (cmV s = .tuple #[.int .i64 0, .int .i64 0, .bool false]) := Lib.hid (by unfold cmV; rw [if_neg (by simp [h1])])
    have HA' := Lib.hid (HA.out false h1)
    clear h1 HA
    go_enter Tryd.func11, Tryd.ntmps11
    go_wp2_with fail
    refine (HA'.out _).mono ?_
    rintro e w' ⟨rfl, rfl⟩
    go_wp2_with fail
    go_ret3
    exact ⟨by rw [HE.out]; rfl, rfl⟩
  | true =>
    have HE : Hid (cmV s = .tuple #[.int .i64 (cmA s.data.toList).1, .int .i64 (cmA s.data.toList).2.1, .bool true]) := Lib.hid (by unfold cmV; rw [if_pos h1])
    have HA' := Lib.hid (HA.out true h1)
    clear h1 HA
    go_enter Tryd.func11, Tryd.ntmps11
    go_wp2_with fail
    refine (HA'.out _).mono ?_
    rintro e w' ⟨rfl, rfl⟩
    go_wp2_with fail
    go_loop [5, 6, 7] (fun a b i => ∃ (k n m : Nat) (p : Bool), k ≤ s.size ∧ a = .int .i64 n ∧ b = .int .i64 m ∧ i = .int .i64 k ∧ Hid (cmA (s.data.toList.take k) = (n, m, p))) (fun _ _ i => s.size - (intOf i).toNat)
    case atStart => exact ⟨0, 0, 0, false, Nat.zero_le _, rfl, rfl, rfl, Lib.hid rfl⟩
    case round =>
      obtain ⟨k, n, m, p, hk, rfl, rfl, rfl, HC⟩ := hrel
      by_cases hlt : k < s.size
      · have hbd := cm_bd s k hk n m p HC.out
        have HN := Lib.hid (cm_at s k hlt n m p HC.out)
        obtain ⟨j, hj⟩ : ∃ j, j = k + 1 := ⟨_, rfl⟩
        have HJ := Lib.hid hj
        have hjs : j ≤ s.size := by omega
        cases q1 : isM s[k] with
        | false =>
          have HN1 : Hid (cmA (s.data.toList.take (k + 1)) = (n, m, false)) := Lib.hid (by rw [HN.out]; unfold cmS; rw [if_neg (by simp [q1])])
          obtain ⟨zHK, hzHK, hdHK⟩ := isM_z (c := s[k]) q1
          have HK := Lib.hid (fun w => mark_s s[k] zHK w hzHK)
          have hgHK : decide (0 ≤ zHK) = false := by simp at hdHK ⊢; omega
          clear hzHK hdHK
          clear q1 HN
          go_wp2_with fail
          refine (HK.out _).mono ?_
          rintro e w' ⟨rfl, hw⟩
          subst hw
          go_wp2_with fail
          go_round
          case rel => exact ⟨j, n, m, false, by omega, rfl, rfl, by go_num, Lib.hid (by rw [HJ.out]; exact HN1.out)⟩
          case measure => simp [intOf]; omega
        | true =>
          have HN0 : Hid (cmA (s.data.toList.take (k + 1)) = (n + 1, (if p = true then m + 1 else m), true)) := Lib.hid (by rw [HN.out]; unfold cmS; rw [if_pos q1])
          obtain ⟨zHK, hzHK, hdHK⟩ := isM_z (c := s[k]) q1
          have HK := Lib.hid (fun w => mark_s s[k] zHK w hzHK)
          have hgHK : decide (0 ≤ zHK) = true := by simp at hdHK ⊢; omega
          clear hzHK hdHK
          clear q1 HN
          by_cases hk0 : k = 0
          · have hp : p = false := by
              have h := HC.out
              rw [hk0] at h
              have h2 : cmA [] = (n, m, p) := h
              have h3 : ((0 : Nat), (0 : Nat), false) = (n, m, p) := h2
              exact (congrArg (fun x => x.2.2) h3).symm
            have HN1 : Hid (cmA (s.data.toList.take (k + 1)) = (n + 1, m, true)) := Lib.hid (by rw [HN0.out, hp]; rfl)
            have hdk : decide (0 < k) = false := by simp; omega
            clear hk0 hp HN0 HC
            go_wp2_with fail
            refine (HK.out _).mono ?_
            rintro e w' ⟨rfl, hw⟩
            subst hw
            go_wp2_with fail
            go_round
            case rel => exact ⟨j, n + 1, m, true, by omega, by go_num, rfl, by go_num, Lib.hid (by rw [HJ.out]; exact HN1.out)⟩
            case measure => simp [intOf]; omega
          · obtain ⟨i, hi⟩ : ∃ i, k = i + 1 := ⟨k - 1, by omega⟩
            have his : i < s.size := by omega
            have HPv := Lib.hid (cm_prev s i his n m p (by have h := HC.out; rw [hi] at h; exact h))
            have hdk : decide (0 < k) = true := by simp; omega
            have hw1 : IntKind.i64.wrap ((k : Int) - 1) = (i : Int) := by rw [IntWalk.i64_in _ (by omega)]; omega
            clear hk0 HC hi
            cases q2 : isM s[i] with
            | false =>
              have HN1 : Hid (cmA (s.data.toList.take (k + 1)) = (n + 1, m, true)) := Lib.hid (by rw [HN0.out, HPv.out, q2]; rfl)
              obtain ⟨zHI, hzHI, hdHI⟩ := isM_z (c := s[i]) q2
              have HI := Lib.hid (fun w => mark_s s[i] zHI w hzHI)
              have hgHI : decide (0 ≤ zHI) = false := by simp at hdHI ⊢; omega
              clear hzHI hdHI
              clear q2 HN0 HPv
              go_wp2_with fail
              refine (HK.out _).mono ?_
              rintro e w' ⟨rfl, hw⟩
              subst hw
              go_wp2_with fail
              refine (HI.out _).mono ?_
              rintro e w' ⟨rfl, hw⟩
              subst hw
              go_wp2_with fail
              go_round
              case rel => exact ⟨j, n + 1, m, true, by omega, by go_num, rfl, by go_num, Lib.hid (by rw [HJ.out]; exact HN1.out)⟩
              case measure => simp [intOf]; omega
            | true =>
              have HN1 : Hid (cmA (s.data.toList.take (k + 1)) = (n + 1, m + 1, true)) := Lib.hid (by rw [HN0.out, HPv.out, q2]; rfl)
              obtain ⟨zHI, hzHI, hdHI⟩ := isM_z (c := s[i]) q2
              have HI := Lib.hid (fun w => mark_s s[i] zHI w hzHI)
              have hgHI : decide (0 ≤ zHI) = true := by simp at hdHI ⊢; omega
              clear hzHI hdHI
              clear q2 HN0 HPv
              go_wp2_with fail
              refine (HK.out _).mono ?_
              rintro e w' ⟨rfl, hw⟩
              subst hw
              go_wp2_with fail
              refine (HI.out _).mono ?_
              rintro e w' ⟨rfl, hw⟩
              subst hw
              go_wp2_with fail
              go_round
              case rel => exact ⟨j, n + 1, m + 1, true, by omega, by go_num, by go_num, by go_num, Lib.hid (by rw [HJ.out]; exact HN1.out)⟩
              case measure => simp [intOf]; omega
      · have hC : cmA s.data.toList = (n, m, p) := by have h := HC.out; rw [take_all s k (by omega)] at h; exact h
        rw [hC] at HE
        clear hC
        go_wp2_with fail
        go_ret3
        exact ⟨by rw [HE.out]; rfl, rfl⟩
set_option maxHeartbeats 8000000 in
theorem counts_i (s : ByteArray) (w : World) (hs : s.size ≤ 1048576) :
    Calls Tryd.prog 10 #[.string s] w fun e w' => e = .returned (cmV s) ∧ w = w' := by
  have HA := Lib.hid (fun r h w => isPart_i s r w hs h)
  cases h1 : okX s.data.toList with
  | false =>
    have HE : Hid (cmV s = .tuple #[.int .i64 0, .int .i64 0, .bool false]) := Lib.hid (by unfold cmV; rw [if_neg (by simp [h1])])
    have HA' := Lib.hid (HA.out false h1)
    clear h1 HA
    go_enter Tryd.func10, Tryd.ntmps10
    go_wp2_with fail
    refine (HA'.out _).mono ?_
    rintro e w' ⟨rfl, rfl⟩
    go_wp2_with fail
    go_ret3
    exact ⟨by rw [HE.out]; rfl, rfl⟩
  | true =>
    have HE : Hid (cmV s = .tuple #[.int .i64 (cmA s.data.toList).1, .int .i64 (cmA s.data.toList).2.1, .bool true]) := Lib.hid (by unfold cmV; rw [if_pos h1])
    have HA' := Lib.hid (HA.out true h1)
    clear h1 HA
    go_enter Tryd.func10, Tryd.ntmps10
    go_wp2_with fail
    refine (HA'.out _).mono ?_
    rintro e w' ⟨rfl, rfl⟩
    go_wp2_with fail
    go_loop [5, 6, 13] (fun a b i => ∃ (k n m : Nat) (p : Bool), k ≤ s.size ∧ a = .int .i64 n ∧ b = .int .i64 m ∧ i = .int .i64 k ∧ Hid (cmA (s.data.toList.take k) = (n, m, p))) (fun _ _ i => s.size - (intOf i).toNat)
    case atStart => exact ⟨0, 0, 0, false, Nat.zero_le _, rfl, rfl, rfl, Lib.hid rfl⟩
    case round =>
      obtain ⟨k, n, m, p, hk, rfl, rfl, rfl, HC⟩ := hrel
      by_cases hlt : k < s.size
      · have hbd := cm_bd s k hk n m p HC.out
        have HN := Lib.hid (cm_at s k hlt n m p HC.out)
        obtain ⟨j, hj⟩ : ∃ j, j = k + 1 := ⟨_, rfl⟩
        have HJ := Lib.hid hj
        have hjs : j ≤ s.size := by omega
        cases q1 : isM s[k] with
        | false =>
          have HN1 : Hid (cmA (s.data.toList.take (k + 1)) = (n, m, false)) := Lib.hid (by rw [HN.out]; unfold cmS; rw [if_neg (by simp [q1])])
          have HK := Lib.hid (fun w => isMark_i s[k] false w q1)
          clear q1 HN
          go_wp2_with fail
          refine (HK.out _).mono ?_
          rintro e w' ⟨rfl, hw⟩
          subst hw
          go_wp2_with fail
          go_round
          case rel => exact ⟨j, n, m, false, by omega, rfl, rfl, by go_num, Lib.hid (by rw [HJ.out]; exact HN1.out)⟩
          case measure => simp [intOf]; omega
        | true =>
          have HN0 : Hid (cmA (s.data.toList.take (k + 1)) = (n + 1, (if p = true then m + 1 else m), true)) := Lib.hid (by rw [HN.out]; unfold cmS; rw [if_pos q1])
          have HK := Lib.hid (fun w => isMark_i s[k] true w q1)
          clear q1 HN
          by_cases hk0 : k = 0
          · have hp : p = false := by
              have h := HC.out
              rw [hk0] at h
              have h2 : cmA [] = (n, m, p) := h
              have h3 : ((0 : Nat), (0 : Nat), false) = (n, m, p) := h2
              exact (congrArg (fun x => x.2.2) h3).symm
            have HN1 : Hid (cmA (s.data.toList.take (k + 1)) = (n + 1, m, true)) := Lib.hid (by rw [HN0.out, hp]; rfl)
            have hdk : decide (0 < k) = false := by simp; omega
            clear hk0 hp HN0 HC
            go_wp2_with fail
            refine (HK.out _).mono ?_
            rintro e w' ⟨rfl, hw⟩
            subst hw
            go_wp2_with fail
            go_round
            case rel => exact ⟨j, n + 1, m, true, by omega, by go_num, rfl, by go_num, Lib.hid (by rw [HJ.out]; exact HN1.out)⟩
            case measure => simp [intOf]; omega
          · obtain ⟨i, hi⟩ : ∃ i, k = i + 1 := ⟨k - 1, by omega⟩
            have his : i < s.size := by omega
            have HPv := Lib.hid (cm_prev s i his n m p (by have h := HC.out; rw [hi] at h; exact h))
            have hdk : decide (0 < k) = true := by simp; omega
            have hw1 : IntKind.i64.wrap ((k : Int) - 1) = (i : Int) := by rw [IntWalk.i64_in _ (by omega)]; omega
            clear hk0 HC hi
            cases q2 : isM s[i] with
            | false =>
              have HN1 : Hid (cmA (s.data.toList.take (k + 1)) = (n + 1, m, true)) := Lib.hid (by rw [HN0.out, HPv.out, q2]; rfl)
              have HI := Lib.hid (fun w => isMark_i s[i] false w q2)
              clear q2 HN0 HPv
              go_wp2_with fail
              refine (HK.out _).mono ?_
              rintro e w' ⟨rfl, hw⟩
              subst hw
              go_wp2_with fail
              refine (HI.out _).mono ?_
              rintro e w' ⟨rfl, hw⟩
              subst hw
              go_wp2_with fail
              go_round
              case rel => exact ⟨j, n + 1, m, true, by omega, by go_num, rfl, by go_num, Lib.hid (by rw [HJ.out]; exact HN1.out)⟩
              case measure => simp [intOf]; omega
            | true =>
              have HN1 : Hid (cmA (s.data.toList.take (k + 1)) = (n + 1, m + 1, true)) := Lib.hid (by rw [HN0.out, HPv.out, q2]; rfl)
              have HI := Lib.hid (fun w => isMark_i s[i] true w q2)
              clear q2 HN0 HPv
              go_wp2_with fail
              refine (HK.out _).mono ?_
              rintro e w' ⟨rfl, hw⟩
              subst hw
              go_wp2_with fail
              refine (HI.out _).mono ?_
              rintro e w' ⟨rfl, hw⟩
              subst hw
              go_wp2_with fail
              go_round
              case rel => exact ⟨j, n + 1, m + 1, true, by omega, by go_num, by go_num, by go_num, Lib.hid (by rw [HJ.out]; exact HN1.out)⟩
              case measure => simp [intOf]; omega
      · have hC : cmA s.data.toList = (n, m, p) := by have h := HC.out; rw [take_all s k (by omega)] at h; exact h
        rw [hC] at HE
        clear hC
        go_wp2_with fail
        go_ret3
        exact ⟨by rw [HE.out]; rfl, rfl⟩
end Go.Proofs.YtknilobmiandgaaDoor.Mq
