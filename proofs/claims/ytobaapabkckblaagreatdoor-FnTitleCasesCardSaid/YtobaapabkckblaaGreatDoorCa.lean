/-
  Contracts of lowerUnprotected and l6Calm, l6Lower of the model.
-/
import Derived.Test.YtobaapabkckblaaGreatDoorLt
import Derived.Test.YtobaapabkckblaaGreatDoorRa
import Derived.Test.YtobaapabkckblaaGreatDoorMk
import Derived.Lib.BufferOld
namespace Go.Proofs.YtobaapabkckblaaGreatDoor.Ca
open Go.RowKit Pl NmPl TiPl Word Lt Ra
set_option linter.unusedVariables false
set_option linter.unusedSimpArgs false

theorem lower_one (c : UInt8) (h : c.toNat < 128) (w : World) : Calls Tryz.prog 82 #[.string (ba [c])] w fun e w' => e = .returned (.string (ba [Lib.lowerB c])) ∧ Below w.heap.size w w' := by
  have := Tryz.strings_ToLower_ascii (ba [c]) w (by rw [ba_size]; simp) (fun j b hj => by
    rw [toList_ba] at hj
    match j, hj with
    | 0, hj => simp at hj; subst hj; exact h)
  rw [toList_ba] at this
  exact this
theorem mask_get (s : ByteArray) (k : Nat) (h : k < s.size) (hm : k < (ba (mk s.data.toList)).size) : (ba (mk s.data.toList))[k] = if stp (st false (s.data.toList.take k)) s[k] = true then 123 else s[k] := by
  have h1 : s.data.toList[k]? = some s[k] := by rw [List.getElem?_eq_getElem (by rw [len_size]; exact h)]; rfl
  have h2 := mkf_at false s.data.toList k s[k] h1
  rw [take_snoc s k h, st_snoc] at h2
  have h3 : (ba (mk s.data.toList)).data.toList[k]? = some (ba (mk s.data.toList))[k] := by
    rw [List.getElem?_eq_getElem (by rw [len_size]; exact hm)]; rfl
  rw [toList_ba] at h3
  exact Option.some.inj (h3.symm.trans h2)
theorem up123 : isUp 123 = false := by decide

set_option maxRecDepth 100000 in
set_option maxHeartbeats 4000000 in
theorem calm_i (s : ByteArray) (w : World) (hs : s.size ≤ 1048576) :
    Calls Tryz.prog 84 #[.string s] w fun e w' => e = .returned (.string (ba (calm s.data.toList))) ∧ Below w.heap.size w w' := by
  have HMk := Lib.hid (Mk.mask_any s w hs)
  obtain ⟨m, HM⟩ : ∃ m, Hid (m = ba (mk s.data.toList)) := ⟨_, Lib.hid rfl⟩
  have hmz : m.size = s.size := by rw [HM.out, ba_size, mk_len, len_size]
  rw [← HM.out] at HMk
  have HG : Hid (∀ (k : Nat) (h : k < s.size) (hm : k < m.size), m[k] = if stp (st false (s.data.toList.take k)) s[k] = true then 123 else s[k]) := by
    have := HM.out
    subst this
    exact Lib.hid (fun k h hm => mask_get s k h hm)
  go_enter Tryz.func84, Tryz.ntmps84
  go_wp2_with fail
  refine HMk.out.mono ?_
  rintro e w1 ⟨rfl, b1⟩
  have HI0 := Lib.hid (Lib.fresh_isBuffer 69 5 w1)
  have HB0 := Lib.hid ((Below.refl _ w1).alloc (Nat.le_refl _) (.cells #[.slice none 0 0, .int .i64 0, .int .i8 0] 69))
  have HB1 := Lib.hid b1
  clear b1
  go_wp2_with fail
  go_loopw [10] (fun i wr => ∃ k : Nat, k ≤ s.size ∧ i = .int .i64 k ∧ Lib.IsBuffer 69 5 w1.heap.size w1.heap.size (Lib.byteCells (calm (s.data.toList.take k))) wr ∧ Below w1.heap.size w1 wr) (fun i _ => s.size - (intOf i).toNat)
  case atStart => exact ⟨0, Nat.zero_le _, rfl, HI0.out, HB0.out⟩
  case round =>
    obtain ⟨k, hk, rfl, hI, hb⟩ := hrel
    by_cases hlt : k < s.size
    · have HT := Lib.hid (take_snoc s k hlt)
      have hkm : k < m.size := by omega
      have HGk := Lib.hid (HG.out k hlt hkm)
      have HS := Lib.hid (calm_snoc (s.data.toList.take k) s[k])
      have hcn : (calm (s.data.toList.take k)).length = k := by rw [calm_len, take_len s k hk]
      have hx1 := ext1 s k hlt
      cases hq : stp (st false (s.data.toList.take k)) s[k] with
      | true =>
        rw [hq, if_pos rfl] at HGk HS
        have HU := Lib.hid (fun w => Word.up_i m[k] false w (by rw [HGk.out]; exact up123))
        have HN : Hid (calm (s.data.toList.take (k + 1)) = calm (s.data.toList.take k) ++ [s[k]]) := Lib.hid (by rw [HT.out, HS.out])
        clear hq hx1
        go_wp2_with fail
        refine (HU.out _).mono ?_
        rintro e w' ⟨rfl, rfl⟩
        go_wp2_with fail
        refine (Tryz.Buffer_WriteByte_k w1.heap.size w1.heap.size _ _ _ hI (by have := hb.size; omega) (Lib.byteCells_one _) (by rw [Lib.byteCells_length, hcn]; omega)).mono ?_
        rintro e W2 ⟨rfl, hI2, hb2, -⟩
        go_wp2_with fail
        go_roundw
        case rel => exact ⟨k + 1, by omega, by go_num, by rw [HN.out, ← Bt.bc_snoc]; exact hI2, hb.trans hb2⟩
        case measure => simp [intOf]; omega
      | false =>
        rw [hq, if_neg (by decide)] at HGk HS
        cases hu : isUp s[k] with
        | true =>
          have HU := Lib.hid (fun w => Word.up_i m[k] true w (by rw [HGk.out]; exact hu))
          have HL := Lib.hid (fun w => lower_one s[k] (by simp [isUp] at hu; omega) w)
          have HN : Hid (calm (s.data.toList.take (k + 1)) = calm (s.data.toList.take k) ++ [Lib.lowerB s[k]]) := Lib.hid (by rw [HT.out, HS.out])
          have hk0 : (0 : Int) ≤ (k : Int) + 1 := by omega
          have hk1 : ((k : Int) + 1).toNat = k + 1 := by omega
          have hk2 : (k : Int) + 1 ≤ (s.size : Int) := by omega
          have hk3 : k + 1 ≤ s.size := by omega
          have hk4 : (k : Int) ≤ (k : Int) + 1 := by omega
          have hk5 : k ≤ k + 1 := by omega
          clear hq hu
          go_wp2_with fail
          refine (HU.out _).mono ?_
          rintro e w' ⟨rfl, rfl⟩
          go_wp2_with fail
          refine (HL.out _).mono ?_
          rintro e w2 ⟨rfl, b2⟩
          have hI' := hI.old b2
          have hb' := hb.trans (b2.mono hb.size)
          go_wp2_with fail
          refine (Tryz.Buffer_WriteString_k w1.heap.size w1.heap.size _ _ _ hI' hb'.size (Lib.byteCells_one _) (by rw [Lib.byteCells_length, hcn, ba_size]; simp; omega)).mono ?_
          rintro e W2 ⟨rfl, hI2, hb2, -⟩
          go_wp2_with fail
          go_roundw
          case rel => exact ⟨k + 1, by omega, by go_num, by rw [HN.out]; rw [toList_ba] at hI2; simpa [Lib.byteCells] using hI2, hb'.trans hb2⟩
          case measure => simp [intOf]; omega
        | false =>
          have HU := Lib.hid (fun w => Word.up_i m[k] false w (by rw [HGk.out]; exact hu))
          have HN : Hid (calm (s.data.toList.take (k + 1)) = calm (s.data.toList.take k) ++ [s[k]]) := Lib.hid (by rw [HT.out, HS.out, Lib.lowerB_of_not _ (by rw [isUp_eq]; exact hu)])
          clear hq hu hx1
          go_wp2_with fail
          refine (HU.out _).mono ?_
          rintro e w' ⟨rfl, rfl⟩
          go_wp2_with fail
          refine (Tryz.Buffer_WriteByte_k w1.heap.size w1.heap.size _ _ _ hI (by have := hb.size; omega) (Lib.byteCells_one _) (by rw [Lib.byteCells_length, hcn]; omega)).mono ?_
          rintro e W2 ⟨rfl, hI2, hb2, -⟩
          go_wp2_with fail
          go_roundw
          case rel => exact ⟨k + 1, by omega, by go_num, by rw [HN.out, ← Bt.bc_snoc]; exact hI2, hb.trans hb2⟩
          case measure => simp [intOf]; omega
    · have HA := Lib.hid (take_all s k (by omega))
      rw [HA.out] at hI
      go_wp2_with fail
      refine (Tryz.Buffer_String w1.heap.size w1.heap.size _ _ hI).mono ?_
      rintro e W2 ⟨rfl, q, rfl⟩
      go_wp2_with fail
      go_ret
      exact ⟨rfl, HB1.out.trans ((show Below w1.heap.size w1 (wr.drewN q) from hb.trans ⟨rfl, rfl, rfl, Nat.le_refl _, fun _ _ => rfl⟩).mono HB1.out.size)⟩

set_option maxHeartbeats 4000000 in
theorem low_all (s : ByteArray) (w : World) (hs : s.size ≤ 1048576) :
    Calls Tryz.prog 33 #[.string s] w fun e w' => e = .returned (.string (ba (s.data.toList.map Lib.lowerB))) ∧ Below w.heap.size w w' := by
  obtain ⟨i0, hi, hz0, hz1, hz2⟩ := info_parts Bt.infoByte
  go_enter Tryz.func33, Tryz.ntmps33
  go_wp2
  go_loopw [3, 4] (fun v i wr => ∃ k : Nat, k ≤ s.size ∧ i = .int .i64 k ∧ wr.ownsRow w.heap.size 5 1 v ((s.data.toList.take k).map Lib.lowerB).length (Lib.byteCells ((s.data.toList.take k).map Lib.lowerB)) ∧ Below w.heap.size w wr) (fun _ i _ => s.size - (intOf i).toNat)
  case atStart => exact ⟨0, Nat.zero_le _, rfl, World.ownsRow_lit w #[] 0 (Nat.le_refl _) (Nat.zero_le _) rfl, (Below.refl _ _).alloc (Nat.le_refl _) _⟩
  case round =>
    obtain ⟨k, hk, rfl, hown, hbe⟩ := hrel
    have hbs := hbe.size
    have hln : ((s.data.toList.take k).map Lib.lowerB).length = k := by rw [List.length_map, take_len s k hk]
    by_cases hlt : k < s.size
    · have HT := Lib.hid (take_snoc s k hlt)
      have HN : Hid ((s.data.toList.take (k + 1)).map Lib.lowerB = (s.data.toList.take k).map Lib.lowerB ++ [Lib.lowerB s[k]]) := Lib.hid (by rw [HT.out]; simp)
      have HL := Lib.hid (fun w => low_s s[k] w)
      have hcl := (Lib.lowerB s[k]).toNat_lt
      have HLN := Lib.hid hln
      have hlb : ((s.data.toList.take k).map Lib.lowerB).length ≤ 1048576 := by omega
      clear hln
      go_wp2_with fail
      refine (HL.out _).mono ?_
      rintro e w' ⟨rfl, rfl⟩
      go_wp2_with (first | (at_builtin; refine wpList_append_own _ rfl _ _ 22 rfl w.heap.size 5 i0 (.int .u8 0) 1 1 Tryz.underlying22 hi hz0 hz1 hz2 rfl (by decide) _ _ _ rfl (hown.alloc _) ⟨wr.heap.size, 0, none⟩ 1 1 [.int .u8 (Lib.lowerB s[k]).toNat] rfl rfl (cell_one_new _ _ _) (by simp [Value.oneCell']) (by unfold maxLen; omega) (by omega) (by simp; omega) ?_; intro v' w1 hown' hgrow _) | go_in)
      go_roundw
      case rel => exact ⟨k + 1, by omega, by go_num, by rw [HN.out, List.length_append, ← Bt.bc_snoc]; exact hown', (hbe.alloc hbs _).grown hgrow (by simp; omega) (fun g hg => (hown.lt g hg).1)⟩
      case measure => simp [intOf]; omega
    · have HA := Lib.hid (take_all s k (by omega))
      rw [HA.out] at hown
      have hcv := Bt.own_str hown
      go_wp2_with fail
      go_ret
      exact ⟨rfl, hbe⟩

set_option maxHeartbeats 8000000 in
theorem calm_s (s : ByteArray) (w : World) (hs : s.size ≤ 1048576) :
    Calls Tryz.prog 36 #[.string s] w fun e w' => e = .returned (.string (ba (calm s.data.toList))) ∧ Below w.heap.size w w' := by
  obtain ⟨i0, hi, hz0, hz1, hz2⟩ := info_parts Bt.infoByte
  go_enter Tryz.func36, Tryz.ntmps36
  go_wp2
  go_loopw [3, 4, 5] (fun v p i wr => ∃ (k : Nat) (q : Bool), k ≤ s.size ∧ i = .int .i64 k ∧ p = .bool q ∧ Hid (q = st false (s.data.toList.take k)) ∧ wr.ownsRow w.heap.size 5 1 v (calm (s.data.toList.take k)).length (Lib.byteCells (calm (s.data.toList.take k))) ∧ Below w.heap.size w wr) (fun _ _ i _ => s.size - (intOf i).toNat)
  case atStart => exact ⟨0, false, Nat.zero_le _, rfl, rfl, Lib.hid rfl, World.ownsRow_lit w #[] 0 (Nat.le_refl _) (Nat.zero_le _) rfl, (Below.refl _ _).alloc (Nat.le_refl _) _⟩
  case round =>
    obtain ⟨k, q, hk, rfl, rfl, HQ, hown, hbe⟩ := hrel
    have hbs := hbe.size
    have hlb : (calm (s.data.toList.take k)).length ≤ 1048576 := by rw [calm_len, take_len s k hk]; omega
    by_cases hlt : k < s.size
    · have HT := Lib.hid (take_snoc s k hlt)
      have HS := Lib.hid (calm_snoc (s.data.toList.take k) s[k])
      have HP := Lib.hid (st_snoc false (s.data.toList.take k) s[k])
      have HL := Lib.hid (fun w => low_s s[k] w)
      have hcl := s[k].toNat_lt
      have hcl2 := (Lib.lowerB s[k]).toNat_lt
      by_cases h1 : s[k].toNat = 123
      · have hb1 : ((s[k].toNat : Int) == 123) = true := by simp [h1]
        have HQ2 : Hid (true = st false (s.data.toList.take (k + 1))) := Lib.hid (by rw [HT.out, HP.out, stp_open h1])
        have HN : Hid (calm (s.data.toList.take (k + 1)) = calm (s.data.toList.take k) ++ [s[k]]) := Lib.hid (by rw [HT.out, HS.out, stp_open h1]; rfl)
        clear h1
        go_wp2_with (first | (at_builtin; refine wpList_append_own _ rfl _ _ 22 rfl w.heap.size 5 i0 (.int .u8 0) 1 1 Tryz.underlying22 hi hz0 hz1 hz2 rfl (by decide) _ _ _ rfl (hown.alloc _) ⟨wr.heap.size, 0, none⟩ 1 1 [.int .u8 s[k].toNat] rfl rfl (cell_one_new _ _ _) (by simp [Value.oneCell']) (by unfold maxLen; omega) (by omega) (by simp; omega) ?_; intro v' w1 hown' hgrow _) | go_in)
        go_roundw
        case rel => exact ⟨k + 1, true, by omega, by go_num, rfl, HQ2, by rw [HN.out, List.length_append, ← Bt.bc_snoc]; exact hown', (hbe.alloc hbs _).grown hgrow (by simp; omega) (fun g hg => (hown.lt g hg).1)⟩
        case measure => simp [intOf]; omega
      · have hb1 : ((s[k].toNat : Int) == 123) = false := by simp; omega
        by_cases h3 : s[k].toNat = 125
        · have hb3 : ((s[k].toNat : Int) == 125) = true := by simp [h3]
          have HQ2 : Hid (false = st false (s.data.toList.take (k + 1))) := Lib.hid (by rw [HT.out, HP.out, stp_shut h3])
          have HN : Hid (calm (s.data.toList.take (k + 1)) = calm (s.data.toList.take k) ++ [Lib.lowerB s[k]]) := Lib.hid (by rw [HT.out, HS.out, stp_shut h3]; rfl)
          clear h1 h3
          go_wp2_with fail
          refine (HL.out _).mono ?_
          rintro e w' ⟨rfl, rfl⟩
          go_wp2_with (first | (at_builtin; refine wpList_append_own _ rfl _ _ 22 rfl w.heap.size 5 i0 (.int .u8 0) 1 1 Tryz.underlying22 hi hz0 hz1 hz2 rfl (by decide) _ _ _ rfl (hown.alloc _) ⟨wr.heap.size, 0, none⟩ 1 1 [.int .u8 (Lib.lowerB s[k]).toNat] rfl rfl (cell_one_new _ _ _) (by simp [Value.oneCell']) (by unfold maxLen; omega) (by omega) (by simp; omega) ?_; intro v' w1 hown' hgrow _) | go_in)
          go_roundw
          case rel => exact ⟨k + 1, false, by omega, by go_num, rfl, HQ2, by rw [HN.out, List.length_append, ← Bt.bc_snoc]; exact hown', (hbe.alloc hbs _).grown hgrow (by simp; omega) (fun g hg => (hown.lt g hg).1)⟩
          case measure => simp [intOf]; omega
        · have hb3 : ((s[k].toNat : Int) == 125) = false := by simp; omega
          have HQ2 : Hid (q = st false (s.data.toList.take (k + 1))) := Lib.hid (by rw [HT.out, HP.out, stp_else h1 h3]; exact HQ.out)
          cases q with
          | true =>
            have HN : Hid (calm (s.data.toList.take (k + 1)) = calm (s.data.toList.take k) ++ [s[k]]) := Lib.hid (by rw [HT.out, HS.out, stp_else h1 h3, ← HQ.out]; rfl)
            clear h1 h3
            go_wp2_with (first | (at_builtin; refine wpList_append_own _ rfl _ _ 22 rfl w.heap.size 5 i0 (.int .u8 0) 1 1 Tryz.underlying22 hi hz0 hz1 hz2 rfl (by decide) _ _ _ rfl (hown.alloc _) ⟨wr.heap.size, 0, none⟩ 1 1 [.int .u8 s[k].toNat] rfl rfl (cell_one_new _ _ _) (by simp [Value.oneCell']) (by unfold maxLen; omega) (by omega) (by simp; omega) ?_; intro v' w1 hown' hgrow _) | go_in)
            go_roundw
            case rel => exact ⟨k + 1, true, by omega, by go_num, rfl, HQ2, by rw [HN.out, List.length_append, ← Bt.bc_snoc]; exact hown', (hbe.alloc hbs _).grown hgrow (by simp; omega) (fun g hg => (hown.lt g hg).1)⟩
            case measure => simp [intOf]; omega
          | false =>
            have HN : Hid (calm (s.data.toList.take (k + 1)) = calm (s.data.toList.take k) ++ [Lib.lowerB s[k]]) := Lib.hid (by rw [HT.out, HS.out, stp_else h1 h3, ← HQ.out]; rfl)
            clear h1 h3
            go_wp2_with fail
            refine (HL.out _).mono ?_
            rintro e w' ⟨rfl, rfl⟩
            go_wp2_with (first | (at_builtin; refine wpList_append_own _ rfl _ _ 22 rfl w.heap.size 5 i0 (.int .u8 0) 1 1 Tryz.underlying22 hi hz0 hz1 hz2 rfl (by decide) _ _ _ rfl (hown.alloc _) ⟨wr.heap.size, 0, none⟩ 1 1 [.int .u8 (Lib.lowerB s[k]).toNat] rfl rfl (cell_one_new _ _ _) (by simp [Value.oneCell']) (by unfold maxLen; omega) (by omega) (by simp; omega) ?_; intro v' w1 hown' hgrow _) | go_in)
            go_roundw
            case rel => exact ⟨k + 1, false, by omega, by go_num, rfl, HQ2, by rw [HN.out, List.length_append, ← Bt.bc_snoc]; exact hown', (hbe.alloc hbs _).grown hgrow (by simp; omega) (fun g hg => (hown.lt g hg).1)⟩
            case measure => simp [intOf]; omega
    · have HA := Lib.hid (take_all s k (by omega))
      rw [HA.out] at hown
      have hcv := Bt.own_str hown
      go_wp2_with fail
      go_ret
      exact ⟨rfl, hbe⟩
end Go.Proofs.YtobaapabkckblaaGreatDoor.Ca
