/-
  Contracts of sortedBytes, isDigit, isArticle and of l6Digit, l6Simple, l6Sort of the model.
-/
import Derived.Test.YtobjfmchnlnohaaGreatDoorCa
import Derived.Test.YtobjfmchnlnohaaGreatDoorStP
import Derived.Test.YtobjfmchnlnohaaGreatDoorJo
import Derived.Test.YtobjfmchnlnohaaGreatDoorPl6
namespace Go.Proofs.YtobjfmchnlnohaaGreatDoor.So
open Go.RowKit Pl NmPl TiPl Word Lt Ra Ca Jo Cs
set_option linter.unusedVariables false
set_option linter.unusedSimpArgs false

theorem dig_i (c : UInt8) (r : Bool) (w : World) (hr : isDg c = r) :
    Calls Tryz.prog 58 #[.int .u8 c.toNat] w fun e w' => e = .returned (.bool r) ∧ w = w' := by
  subst hr
  have HE := Lib.hid (show isDg c = decide (48 ≤ c.toNat ∧ c.toNat ≤ 57) from rfl)
  go_enter Tryz.func58, Tryz.ntmps58
  go_wp2
  all_goals
    go_ret
    exact ⟨ret_bool (by rw [HE.out, Bool.eq_iff_iff]; simp; omega), rfl⟩
theorem lower_b (x : List UInt8) (h : ∀ c ∈ x, c.toNat < 128) (hl : x.length ≤ 1048576) (w : World) : Calls Tryz.prog 59 #[.string (ba x)] w fun e w' => e = .returned (.string (ba (x.map Lib.lowerB))) ∧ Below w.heap.size w w' := by
  have := Tryz.strings_ToLower_ascii (ba x) w (by rw [ba_size]; omega) (fun j b hj => by
    rw [toList_ba] at hj
    exact h b (List.mem_of_getElem? hj))
  rw [toList_ba] at this
  exact this
theorem sbf_128 (l : List UInt8) : ∀ c ∈ sbf l, c.toNat < 128 := by
  intro c hc
  have := (List.mem_filter.1 hc).2
  simp [keepB, isLt, isUp, isLo, isDg] at this
  omega
set_option maxRecDepth 100000 in
set_option maxHeartbeats 4000000 in
theorem sorted_i (s : ByteArray) (w : World) (hs : s.size ≤ 1048576) :
    Calls Tryz.prog 38 #[.string s] w fun e w' => e = .returned (.string (ba ((sbf s.data.toList).map Lib.lowerB))) ∧ Below w.heap.size w w' := by
  have HI0 := Lib.hid (Lib.fresh_isBuffer 61 5 w)
  have HB0 := Lib.hid ((Below.refl _ w).alloc (Nat.le_refl _) (.cells #[.slice none 0 0, .int .i64 0, .int .i8 0] 61))
  have HLo := Lib.hid (fun w => lower_b (sbf s.data.toList) (sbf_128 _) (by have := sbf_len s.data.toList; rw [len_size] at this; omega) w)
  go_enter Tryz.func38, Tryz.ntmps38
  go_wp2_with fail
  go_loopw [7] (fun i wr => ∃ k : Nat, k ≤ s.size ∧ i = .int .i64 k ∧ Lib.IsBuffer 61 5 w.heap.size w.heap.size (Lib.byteCells (sbf (s.data.toList.take k))) wr ∧ Below w.heap.size w wr) (fun i _ => s.size - (intOf i).toNat)
  case atStart => exact ⟨0, Nat.zero_le _, rfl, HI0.out, HB0.out⟩
  case round =>
    obtain ⟨k, hk, rfl, hI, hb⟩ := hrel
    by_cases hlt : k < s.size
    · have HT := Lib.hid (take_snoc s k hlt)
      have HS := Lib.hid (sbf_snoc (s.data.toList.take k) s[k])
      have hle := sbf_len (s.data.toList.take k)
      rw [take_len s k hk] at hle
      have hcl := s[k].toNat_lt
      cases h1 : isLt s[k] with
      | true =>
        have H1 := Lib.hid (fun w => letter_i s[k] true w h1)
        have HN : Hid (sbf (s.data.toList.take (k + 1)) = sbf (s.data.toList.take k) ++ [s[k]]) := Lib.hid (by rw [HT.out, HS.out, if_pos (by simp [keepB, h1])])
        clear h1
        go_wp2_with fail
        refine (H1.out _).mono ?_
        rintro e w' ⟨rfl, rfl⟩
        go_wp2_with fail
        refine (Tryz.Buffer_WriteByte_k w.heap.size w.heap.size _ _ _ hI (by have := hb.size; omega) (Lib.byteCells_one _) (by rw [Lib.byteCells_length]; omega)).mono ?_
        rintro e W2 ⟨rfl, hI2, hb2, -⟩
        go_wp2_with fail
        go_roundw
        case rel => exact ⟨k + 1, by omega, by go_num, by rw [HN.out, ← Bt.bc_snoc]; exact hI2, hb.trans hb2⟩
        case measure => simp [intOf]; omega
      | false =>
        have H1 := Lib.hid (fun w => letter_i s[k] false w h1)
        cases h2 : isDg s[k] with
        | true =>
          have H2 := Lib.hid (fun w => dig_i s[k] true w h2)
          have HN : Hid (sbf (s.data.toList.take (k + 1)) = sbf (s.data.toList.take k) ++ [s[k]]) := Lib.hid (by rw [HT.out, HS.out, if_pos (by simp [keepB, h2])])
          clear h1 h2
          go_wp2_with fail
          refine (H1.out _).mono ?_
          rintro e w' ⟨rfl, rfl⟩
          go_wp2_with fail
          refine (H2.out _).mono ?_
          rintro e w' ⟨rfl, rfl⟩
          go_wp2_with fail
          refine (Tryz.Buffer_WriteByte_k w.heap.size w.heap.size _ _ _ hI (by have := hb.size; omega) (Lib.byteCells_one _) (by rw [Lib.byteCells_length]; omega)).mono ?_
          rintro e W2 ⟨rfl, hI2, hb2, -⟩
          go_wp2_with fail
          go_roundw
          case rel => exact ⟨k + 1, by omega, by go_num, by rw [HN.out, ← Bt.bc_snoc]; exact hI2, hb.trans hb2⟩
          case measure => simp [intOf]; omega
        | false =>
          have H2 := Lib.hid (fun w => dig_i s[k] false w h2)
          by_cases h3 : s[k].toNat = 32
          · have hb3 : ((s[k].toNat : Int) == 32) = true := by simp [h3]
            have HN : Hid (sbf (s.data.toList.take (k + 1)) = sbf (s.data.toList.take k) ++ [s[k]]) := Lib.hid (by rw [HT.out, HS.out, if_pos (by simp [keepB, h3])])
            clear h1 h2 h3
            go_wp2_with fail
            refine (H1.out _).mono ?_
            rintro e w' ⟨rfl, rfl⟩
            go_wp2_with fail
            refine (H2.out _).mono ?_
            rintro e w' ⟨rfl, rfl⟩
            go_wp2_with fail
            refine (Tryz.Buffer_WriteByte_k w.heap.size w.heap.size _ _ _ hI (by have := hb.size; omega) (Lib.byteCells_one _) (by rw [Lib.byteCells_length]; omega)).mono ?_
            rintro e W2 ⟨rfl, hI2, hb2, -⟩
            go_wp2_with fail
            go_roundw
            case rel => exact ⟨k + 1, by omega, by go_num, by rw [HN.out, ← Bt.bc_snoc]; exact hI2, hb.trans hb2⟩
            case measure => simp [intOf]; omega
          · have hb3 : ((s[k].toNat : Int) == 32) = false := by simp; omega
            have HN : Hid (sbf (s.data.toList.take (k + 1)) = sbf (s.data.toList.take k)) := Lib.hid (by rw [HT.out, HS.out, if_neg (by simp [keepB, h1, h2, h3]), List.append_nil])
            clear h1 h2 h3
            go_wp2_with fail
            refine (H1.out _).mono ?_
            rintro e w' ⟨rfl, rfl⟩
            go_wp2_with fail
            refine (H2.out _).mono ?_
            rintro e w' ⟨rfl, rfl⟩
            go_wp2_with fail
            go_roundw
            case rel => exact ⟨k + 1, by omega, by go_num, by rw [HN.out]; exact hI, hb⟩
            case measure => simp [intOf]; omega
    · have HA := Lib.hid (take_all s k (by omega))
      rw [HA.out] at hI
      go_wp2_with fail
      refine (Tryz.Buffer_String w.heap.size w.heap.size _ _ hI).mono ?_
      rintro e W2 ⟨rfl, q, rfl⟩
      go_wp2_with fail
      refine (HLo.out _).mono ?_
      rintro e W3 ⟨rfl, b3⟩
      go_wp2_with fail
      go_ret
      have hbq : Below w.heap.size w (wr.drewN q) := hb.trans ⟨rfl, rfl, rfl, Nat.le_refl _, fun _ _ => rfl⟩
      exact ⟨rfl, hbq.trans (b3.mono hbq.size)⟩

theorem art_eq (x : List UInt8) : artB x = (((ba x).toList == [97]) || (((ba x).toList == [97, 110]) || ((ba x).toList == [116, 104, 101]))) := by
  rw [Lib.toList_data, toList_ba]; rfl
theorem article_i (x : List UInt8) (r : Bool) (hr : artB x = r) (w : World) :
    Calls Tryz.prog 39 #[.string (ba x)] w fun e w' => e = .returned (.bool r) ∧ w = w' := by
  have HE : Hid (r = (((ba x).toList == [97]) || (((ba x).toList == [97, 110]) || ((ba x).toList == [116, 104, 101])))) := Lib.hid (by rw [← hr, art_eq])
  clear hr
  generalize ba x = X at *
  cases e1 : (X.toList == [97]) <;> cases e2 : (X.toList == [97, 110]) <;> cases e3 : (X.toList == [116, 104, 101]) <;>
  · rw [e1, e2, e3] at HE
    go_enter Tryz.func39, Tryz.ntmps39
    go_wp2
    go_ret
    exact ⟨by rw [HE.out]; rfl, rfl⟩

theorem own_lit {w0 W : World} {e : TypeId} (hb : w0.heap.size ≤ W.heap.size) (h : (W.alloc (.cells #[] e)).ownsRow W.heap.size e 1 (.slice (some ⟨W.heap.size, 0, none⟩) 0 0) 0 []) : (W.alloc (.cells #[] e)).ownsRow w0.heap.size e 1 (.slice (some ⟨W.heap.size, 0, none⟩) 0 0) 0 [] := row_base hb h
end Go.Proofs.YtobjfmchnlnohaaGreatDoor.So
