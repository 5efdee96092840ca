/-
  Contract of maskTitle.
-/
import Derived.Test.YtobjfmchnlnohaaGreatDoorTi
import Derived.Test.YtobjfmchnlnohaaGreatDoorMkPl
import Derived.Test.YtobjfmchnlnohaaGreatDoorBt
import Derived.OwnWalk
namespace Go.Proofs.YtobjfmchnlnohaaGreatDoor.Mk
open Go.RowKit Pl NmPl TiPl Kt Ti
set_option linter.unusedSimpArgs false
set_option linter.unusedVariables false

set_option maxHeartbeats 4000000 in
theorem mask_any (s : ByteArray) (w : World) (hs : s.size ≤ 1048576) :
    Calls Tryz.prog 26 #[.string s] w fun e w' => e = .returned (.string (ba (mk s.data.toList))) ∧ Below w.heap.size w w' := by
  have HI0 := Lib.hid (Lib.fresh_isBuffer 61 5 w)
  have HB0 := Lib.hid ((Below.refl _ w).alloc (Nat.le_refl _) (.cells #[.slice none 0 0, .int .i64 0, .int .i8 0] 61))
  go_enter Tryz.func26, Tryz.ntmps26
  go_wp2_with fail
  go_loopw [4, 8] (fun p i wr => ∃ (k : Nat) (q : Bool), k ≤ s.size ∧ i = .int .i64 k ∧ p = .bool q ∧ Hid (q = st false (s.data.toList.take k)) ∧ Lib.IsBuffer 61 5 w.heap.size w.heap.size (Lib.byteCells (mk (s.data.toList.take k))) wr ∧ Below w.heap.size w wr) (fun _ i _ => s.size - (intOf i).toNat)
  case atStart => exact ⟨0, false, Nat.zero_le _, rfl, rfl, Lib.hid rfl, HI0.out, HB0.out⟩
  case round =>
    obtain ⟨k, q, hk, rfl, rfl, HP, hI, hb⟩ := hrel
    by_cases hlt : k < s.size
    · have HT := Lib.hid (take_snoc s k hlt)
      have hcl := s[k].toNat_lt
      by_cases h1 : s[k].toNat = 123
      · have hb1 : ((s[k].toNat : Int) == 123) = true := by simp [h1]
        have HP2 : Hid (true = st false (s.data.toList.take (k + 1))) := Lib.hid (by rw [HT.out, st_snoc, stp_open h1])
        have HN : Hid (mk (s.data.toList.take (k + 1)) = mk (s.data.toList.take k) ++ [(123 : UInt8)]) := Lib.hid (by rw [HT.out, mk, mkf_snoc, stp_open h1]; rfl)
        clear h1
        go_wp2_with fail
        refine (Tryz.Buffer_WriteByte_k w.heap.size w.heap.size _ _ _ hI (by have := hb.size; omega) (Lib.byteCells_one _) (by rw [Lib.byteCells_length, mk, mkf_len, take_len s k hk]; omega)).mono ?_
        rintro e W2 ⟨rfl, hI2, hb2, -⟩
        go_wp2_with fail
        go_roundw
        case rel => exact ⟨k + 1, true, by omega, by go_num, rfl, HP2, by rw [HN.out, ← Bt.bc_snoc]; exact hI2, hb.trans hb2⟩
        case measure => simp [intOf]; omega
      · have hb1 : ((s[k].toNat : Int) == 123) = false := by simp; omega
        by_cases h3 : s[k].toNat = 125
        · have hb3 : ((s[k].toNat : Int) == 125) = true := by simp [h3]
          have hb4 : ((s[k].toNat : Int) != 125) = false := by simp [h3]
          have HP2 : Hid (false = st false (s.data.toList.take (k + 1))) := Lib.hid (by rw [HT.out, st_snoc, stp_shut h3])
          have HN : Hid (mk (s.data.toList.take (k + 1)) = mk (s.data.toList.take k) ++ [s[k]]) := Lib.hid (by rw [HT.out, mk, mkf_snoc, stp_shut h3]; rfl)
          clear h1 h3
          cases q with
          | true =>
            go_wp2_with fail
            refine (Tryz.Buffer_WriteByte_k w.heap.size w.heap.size _ _ _ hI (by have := hb.size; omega) (Lib.byteCells_one _) (by rw [Lib.byteCells_length, mk, mkf_len, take_len s k hk]; omega)).mono ?_
            rintro e W2 ⟨rfl, hI2, hb2, -⟩
            go_wp2_with fail
            go_roundw
            case rel => exact ⟨k + 1, false, by omega, by go_num, rfl, HP2, by rw [HN.out, ← Bt.bc_snoc]; exact hI2, hb.trans hb2⟩
            case measure => simp [intOf]; omega
          | false =>
            go_wp2_with fail
            refine (Tryz.Buffer_WriteByte_k w.heap.size w.heap.size _ _ _ hI (by have := hb.size; omega) (Lib.byteCells_one _) (by rw [Lib.byteCells_length, mk, mkf_len, take_len s k hk]; omega)).mono ?_
            rintro e W2 ⟨rfl, hI2, hb2, -⟩
            go_wp2_with fail
            go_roundw
            case rel => exact ⟨k + 1, false, by omega, by go_num, rfl, HP2, by rw [HN.out, ← Bt.bc_snoc]; exact hI2, hb.trans hb2⟩
            case measure => simp [intOf]; omega
        · have hb3 : ((s[k].toNat : Int) == 125) = false := by simp; omega
          have hb4 : ((s[k].toNat : Int) != 125) = true := by simp; omega
          cases q with
          | true =>
            have HP2 : Hid (true = st false (s.data.toList.take (k + 1))) := Lib.hid (by rw [HT.out, st_snoc, stp_else h1 h3, ← HP.out])
            have HN : Hid (mk (s.data.toList.take (k + 1)) = mk (s.data.toList.take k) ++ [(123 : UInt8)]) := Lib.hid (by rw [HT.out, mk, mkf_snoc, stp_else h1 h3, ← HP.out]; rfl)
            clear h1 h3
            go_wp2_with fail
            refine (Tryz.Buffer_WriteByte_k w.heap.size w.heap.size _ _ _ hI (by have := hb.size; omega) (Lib.byteCells_one _) (by rw [Lib.byteCells_length, mk, mkf_len, take_len s k hk]; omega)).mono ?_
            rintro e W2 ⟨rfl, hI2, hb2, -⟩
            go_wp2_with fail
            go_roundw
            case rel => exact ⟨k + 1, true, by omega, by go_num, rfl, HP2, by rw [HN.out, ← Bt.bc_snoc]; exact hI2, hb.trans hb2⟩
            case measure => simp [intOf]; omega
          | false =>
            have HP2 : Hid (false = st false (s.data.toList.take (k + 1))) := Lib.hid (by rw [HT.out, st_snoc, stp_else h1 h3, ← HP.out])
            have HN : Hid (mk (s.data.toList.take (k + 1)) = mk (s.data.toList.take k) ++ [s[k]]) := Lib.hid (by rw [HT.out, mk, mkf_snoc, stp_else h1 h3, ← HP.out]; rfl)
            clear h1 h3
            go_wp2_with fail
            refine (Tryz.Buffer_WriteByte_k w.heap.size w.heap.size _ _ _ hI (by have := hb.size; omega) (Lib.byteCells_one _) (by rw [Lib.byteCells_length, mk, mkf_len, take_len s k hk]; omega)).mono ?_
            rintro e W2 ⟨rfl, hI2, hb2, -⟩
            go_wp2_with fail
            go_roundw
            case rel => exact ⟨k + 1, false, by omega, by go_num, rfl, HP2, by rw [HN.out, ← Bt.bc_snoc]; exact hI2, hb.trans hb2⟩
            case measure => simp [intOf]; omega
    · have HA := Lib.hid (take_all s k (by omega))
      rw [HA.out] at hI
      go_wp2_with fail
      refine (Tryz.Buffer_String w.heap.size w.heap.size _ _ hI).mono ?_
      rintro e W2 ⟨rfl, n, rfl⟩
      go_wp2_with fail
      go_ret
      exact ⟨rfl, hb.trans ⟨rfl, rfl, rfl, Nat.le_refl _, fun _ _ => rfl⟩⟩
end Go.Proofs.YtobjfmchnlnohaaGreatDoor.Mk
