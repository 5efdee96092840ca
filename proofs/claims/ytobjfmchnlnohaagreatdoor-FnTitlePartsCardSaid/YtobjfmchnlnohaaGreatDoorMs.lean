/-
  Contracts of l6Split and l6Part.
-/
import Derived.Test.YtobjfmchnlnohaaGreatDoorTi
import Derived.Test.YtobjfmchnlnohaaGreatDoorMkPl
namespace Go.Proofs.YtobjfmchnlnohaaGreatDoor.Mk
open Go.RowKit Pl NmPl TiPl Kt Ti
set_option linter.unusedSimpArgs false
set_option linter.unusedVariables false

theorem at_some (s : ByteArray) (k : Nat) (h : k < s.size) : s.data.toList[k]? = some s[k] := by rw [List.getElem?_eq_getElem (by rw [len_size]; exact h)]; rfl
set_option maxHeartbeats 4000000 in
theorem l6Split_any (s : ByteArray) (w : World) (hs : s.size ≤ 1048576) :
    Calls Tryz.prog 27 #[.string s] w fun e w' => e = .returned (.int .i64 (sub s.data.toList)) ∧ w = w' := by
  go_enter Tryz.func27, Tryz.ntmps27
  go_wp2_with fail
  go_loop [3, 4] (fun p i => ∃ (k : Nat) (q : Bool), k ≤ s.size ∧ i = .int .i64 k ∧ p = .bool q ∧ Hid (q = st false (s.data.toList.take k)) ∧ Hid (∀ j, j < k → Lib.occAt (mk s.data.toList) [58, 32] j = false)) (fun _ i => s.size - (intOf i).toNat)
  case atStart => exact ⟨0, false, Nat.zero_le _, rfl, rfl, Lib.hid rfl, Lib.hid (fun j h => absurd h (Nat.not_lt_zero _))⟩
  case round =>
    obtain ⟨k, q, hk, rfl, rfl, HP, HO⟩ := hrel
    by_cases hlt : k + 1 < s.size
    · have hk0 : k < s.size := by omega
      have HT := Lib.hid (take_snoc s k hk0)
      have HC := Lib.hid (at_some s k hk0)
      have HC1 := Lib.hid (at_some s (k + 1) hlt)
      have hcl := s[k].toNat_lt
      obtain ⟨j, hj⟩ : ∃ j, j = k + 1 := ⟨_, rfl⟩
      have hji : (k : Int) + 1 = (j : Int) := by omega
      have hjs : j < s.size := by omega
      have HJ := Lib.hid hj
      have HSj : Hid (s[k + 1] = s[j]) := Lib.hid (by subst hj; rfl)
      clear hj
      by_cases h1 : s[k].toNat = 123
      · have hb1 : ((s[k].toNat : Int) == 123) = true := by simp [h1]
        have HP2 : Hid (true = st false (s.data.toList.take (k + 1))) := Lib.hid (by rw [HT.out, st_snoc, stp_open h1])
        have HNo : Hid (∀ i, i < k + 1 → Lib.occAt (mk s.data.toList) [58, 32] i = false) := Lib.hid (fun i hi => by
          rcases Nat.lt_or_ge i k with h | h
          · exact HO.out i h
          · have : i = k := by omega
            subst this
            exact TiPl.occ_no HC.out HC1.out (.inl HP2.out.symm))
        clear h1
        rw [← HJ.out] at HP2 HNo
        go_wp2_with fail
        go_round
        case rel => exact ⟨j, true, by omega, rfl, rfl, HP2, HNo⟩
        case measure => simp [intOf]; omega
      · have hb1 : ((s[k].toNat : Int) == 123) = false := by simp; omega
        by_cases h3 : s[k].toNat = 125
        · have hb3 : ((s[k].toNat : Int) == 125) = true := by simp [h3]
          have hb5 : ((s[k].toNat : Int) == 58) = false := by simp [h3]
          have HP2 : Hid (false = st false (s.data.toList.take (k + 1))) := Lib.hid (by rw [HT.out, st_snoc, stp_shut h3])
          have HNo : Hid (∀ i, i < k + 1 → Lib.occAt (mk s.data.toList) [58, 32] i = false) := Lib.hid (fun i hi => by
            rcases Nat.lt_or_ge i k with h | h
            · exact HO.out i h
            · have : i = k := by omega
              subst this
              exact TiPl.occ_no HC.out HC1.out (.inr (.inl (by omega))))
          clear h1 h3
          rw [← HJ.out] at HP2 HNo
          go_wp2_with fail
          go_round
          case rel => exact ⟨j, false, by omega, rfl, rfl, HP2, HNo⟩
          case measure => simp [intOf]; omega
        · have hb3 : ((s[k].toNat : Int) == 125) = false := by simp; omega
          have HP2 : Hid (q = st false (s.data.toList.take (k + 1))) := Lib.hid (by rw [HT.out, st_snoc, stp_else h1 h3, ← HP.out])
          clear h1 h3
          cases q with
          | true =>
            have HNo : Hid (∀ i, i < k + 1 → Lib.occAt (mk s.data.toList) [58, 32] i = false) := Lib.hid (fun i hi => by
              rcases Nat.lt_or_ge i k with h | h
              · exact HO.out i h
              · have : i = k := by omega
                subst this
                exact TiPl.occ_no HC.out HC1.out (.inl HP2.out.symm))
            rw [← HJ.out] at HP2 HNo
            go_wp2_with fail
            go_round
            case rel => exact ⟨j, true, by omega, rfl, rfl, HP2, HNo⟩
            case measure => simp [intOf]; omega
          | false =>
            by_cases h5 : s[k].toNat = 58
            · have hb5 : ((s[k].toNat : Int) == 58) = true := by simp [h5]
              by_cases h6 : s[j].toNat = 32
              · have hb6 : ((s[j].toNat : Int) == 32) = true := by simp [h6]
                have HF : Hid (sub s.data.toList = (k : Int)) := Lib.hid (Lib.index_first (by rw [mk, mkf_len, len_size]; exact hk) (TiPl.occ_yes HC.out HC1.out HP2.out.symm h5 (by rw [HSj.out]; exact h6)) HO.out)
                clear h5 h6
                go_wp2_with fail
                go_ret
                exact ⟨by rw [HF.out]; rfl, rfl⟩
              · have hb6 : ((s[j].toNat : Int) == 32) = false := by simp; omega
                have HNo : Hid (∀ i, i < k + 1 → Lib.occAt (mk s.data.toList) [58, 32] i = false) := Lib.hid (fun i hi => by
                  rcases Nat.lt_or_ge i k with h | h
                  · exact HO.out i h
                  · have : i = k := by omega
                    subst this
                    exact TiPl.occ_no HC.out HC1.out (.inr (.inr (by rw [HSj.out]; exact h6))))
                clear h5 h6
                rw [← HJ.out] at HP2 HNo
                go_wp2_with fail
                go_round
                case rel => exact ⟨j, false, by omega, rfl, rfl, HP2, HNo⟩
                case measure => simp [intOf]; omega
            · have hb5 : ((s[k].toNat : Int) == 58) = false := by simp; omega
              have HNo : Hid (∀ i, i < k + 1 → Lib.occAt (mk s.data.toList) [58, 32] i = false) := Lib.hid (fun i hi => by
                rcases Nat.lt_or_ge i k with h | h
                · exact HO.out i h
                · have : i = k := by omega
                  subst this
                  exact TiPl.occ_no HC.out HC1.out (.inr (.inl h5)))
              clear h5
              rw [← HJ.out] at HP2 HNo
              go_wp2_with fail
              go_round
              case rel => exact ⟨j, false, by omega, rfl, rfl, HP2, HNo⟩
              case measure => simp [intOf]; omega
    · have HF : Hid (sub s.data.toList = -1) := Lib.hid (Lib.index_none (fun j _ => by
        rcases Nat.lt_or_ge j k with h | h
        · exact HO.out j h
        · exact TiPl.occ_end (by rw [len_size]; omega)))
      go_wp2_with fail
      go_ret
      exact ⟨by rw [HF.out]; rfl, rfl⟩
set_option maxHeartbeats 2000000 in
theorem l6Part_any (s : ByteArray) (r : Bool) (w : World) (hs : s.size ≤ 1048576) (hr : TiPl.part s.data.toList = r) :
    Calls Tryz.prog 28 #[.string s] w fun e w' => e = .returned (.bool r) ∧ w = w' := by
  have HR : Hid (r = (decide (1 ≤ s.size) && edge s.data.toList)) := Lib.hid (by rw [← hr, ← len_size]; rfl)
  clear hr
  by_cases hp : 0 < s.size
  · rw [decide_eq_true (show 1 ≤ s.size from hp), Bool.true_and] at HR
    obtain ⟨hne1, hne2⟩ := ne_str hp
    have HE := Lib.hid (edge_at s hp)
    have hl1 : s.size - 1 < s.size := by omega
    have hli : (s.size : Int) - 1 = ((s.size - 1 : Nat) : Int) := by omega
    cases ha : ((s[0].toNat : Int) == 32) with
    | true =>
      have hb : ((s[0].toNat : Int) != 32) = false := by rw [bne, ha]; rfl
      rw [ha] at HE
      rw [HE.out] at HR
      clear ha
      go_enter Tryz.func28, Tryz.ntmps28
      go_wp2_with fail
      go_ret
      exact ⟨by rw [HR.out]; rfl, rfl⟩
    | false =>
      have hb : ((s[0].toNat : Int) != 32) = true := by rw [bne, ha]; rfl
      rw [ha] at HE
      rw [HE.out] at HR
      clear ha
      go_enter Tryz.func28, Tryz.ntmps28
      go_wp2_with fail
      go_ret
      exact ⟨ret_bool (by rw [HR.out]; rfl), rfl⟩
  · rw [decide_eq_false (show ¬ 1 ≤ s.size from hp), Bool.false_and] at HR
    obtain rfl := nil_str hp
    clear hp
    go_enter Tryz.func28, Tryz.ntmps28
    go_wp2_with fail
    go_ret
    exact ⟨by rw [HR.out]; rfl, rfl⟩
end Go.Proofs.YtobjfmchnlnohaaGreatDoor.Mk
