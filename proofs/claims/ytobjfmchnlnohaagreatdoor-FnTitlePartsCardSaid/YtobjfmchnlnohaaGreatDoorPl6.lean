/-
  Contracts of plainTitle and of l6Plain of the model.
-/
import Derived.Test.YtobjfmchnlnohaaGreatDoorTi
import Derived.Test.YtobjfmchnlnohaaGreatDoorBt
import Derived.OwnWalk
namespace Go.Proofs.YtobjfmchnlnohaaGreatDoor.PlT
open Go.RowKit Pl NmPl TiPl Kt Ti
set_option linter.unusedSimpArgs false
set_option linter.unusedVariables false

set_option maxHeartbeats 4000000 in
theorem plain_any (s : ByteArray) (w : World) (hs : s.size ≤ 1048576) :
    Calls Tryz.prog 36 #[.string s] w fun e w' => e = .returned (.string (ba (pl s.data.toList))) ∧ Below w.heap.size w w' := by
  have HI0 := Lib.hid (Lib.fresh_isBuffer 61 5 w)
  have HB0 := Lib.hid ((Below.refl _ w).alloc (Nat.le_refl _) (.cells #[.slice none 0 0, .int .i64 0, .int .i8 0] 61))
  go_enter Tryz.func36, Tryz.ntmps36
  go_wp2_with fail
  go_loopw [7] (fun i wr => ∃ k : Nat, k ≤ s.size ∧ i = .int .i64 k ∧ Lib.IsBuffer 61 5 w.heap.size w.heap.size (Lib.byteCells (pl (s.data.toList.take k))) wr ∧ Below w.heap.size w wr) (fun i _ => s.size - (intOf i).toNat)
  case atStart => exact ⟨0, Nat.zero_le _, rfl, HI0.out, HB0.out⟩
  case round =>
    obtain ⟨k, hk, rfl, hI, hb⟩ := hrel
    by_cases hlt : k < s.size
    · have HT := Lib.hid (take_snoc s k hlt)
      have hle := pl_len (s.data.toList.take k)
      rw [take_len s k hk] at hle
      have hcl := s[k].toNat_lt
      by_cases h1 : s[k].toNat = 123
      · have hb1 : ((s[k].toNat : Int) == 123) = true := by simp [h1]
        have hb2 : ((s[k].toNat : Int) != 123) = false := by simp [h1]
        have HN : Hid (pl (s.data.toList.take (k + 1)) = pl (s.data.toList.take k)) := Lib.hid (by rw [HT.out, pl_snoc, if_neg (fun h => h.1 h1), List.append_nil])
        clear h1
        go_wp2_with fail
        go_roundw
        case rel => exact ⟨k + 1, by omega, by go_num, by rw [HN.out]; exact hI, hb⟩
        case measure => simp [intOf]; omega
      · have hb1 : ((s[k].toNat : Int) == 123) = false := by simp; omega
        have hb2 : ((s[k].toNat : Int) != 123) = true := by simp; omega
        by_cases h3 : s[k].toNat = 125
        · have hb3 : ((s[k].toNat : Int) == 125) = true := by simp [h3]
          have hb4 : ((s[k].toNat : Int) != 125) = false := by simp [h3]
          have HN : Hid (pl (s.data.toList.take (k + 1)) = pl (s.data.toList.take k)) := Lib.hid (by rw [HT.out, pl_snoc, if_neg (fun h => h.2 h3), List.append_nil])
          clear h1 h3
          go_wp2_with fail
          go_roundw
          case rel => exact ⟨k + 1, by omega, by go_num, by rw [HN.out]; exact hI, hb⟩
          case measure => simp [intOf]; omega
        · have hb3 : ((s[k].toNat : Int) == 125) = false := by simp; omega
          have hb4 : ((s[k].toNat : Int) != 125) = true := by simp; omega
          have HN : Hid (pl (s.data.toList.take (k + 1)) = pl (s.data.toList.take k) ++ [s[k]]) := Lib.hid (by rw [HT.out, pl_snoc, if_pos ⟨h1, h3⟩])
          clear h1 h3
          go_wp2_with fail
          refine (Tryz.Buffer_WriteByte_k w.heap.size w.heap.size _ _ _ hI (by have := hb.size; omega) (Lib.byteCells_one _) (by rw [Lib.byteCells_length]; omega)).mono ?_
          rintro e W2 ⟨rfl, hI2, hb2, -⟩
          go_wp2_with fail
          go_roundw
          case rel => exact ⟨k + 1, by omega, by go_num, by rw [HN.out, ← Bt.bc_snoc]; exact hI2, hb.trans hb2⟩
          case measure => simp [intOf]; omega
    · have HA := Lib.hid (take_all s k (by omega))
      rw [HA.out] at hI
      go_wp2_with fail
      refine (Tryz.Buffer_String w.heap.size w.heap.size _ _ hI).mono ?_
      rintro e W2 ⟨rfl, q, rfl⟩
      go_wp2_with fail
      go_ret
      exact ⟨rfl, hb.trans ⟨rfl, rfl, rfl, Nat.le_refl _, fun _ _ => rfl⟩⟩

end Go.Proofs.YtobjfmchnlnohaaGreatDoor.PlT
