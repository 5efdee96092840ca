/-
  Contracts of l11Trim, l11Clean; the model's CleanText and IsClean.
-/
import Derived.Test.YtknilobmiandgaaDoorMqC
namespace Go.Proofs.YtknilobmiandgaaDoor.Mq
open Go.RowKit Pl NmPl MqPl
set_option linter.unusedSimpArgs false
set_option linter.unusedVariables false

theorem tr_hit' (l : List UInt8) : Lib.trimRightB (l ++ [32]) 32 = Lib.trimRightB l 32 := by
  unfold Lib.trimRightB; rw [List.reverse_append]; rfl
theorem tr_miss' (l : List UInt8) {x : UInt8} (h : x ≠ 32) : Lib.trimRightB (l ++ [x]) 32 = l ++ [x] := by
  unfold Lib.trimRightB
  rw [List.reverse_append]
  show (List.dropWhile _ (x :: l.reverse)).reverse = _
  rw [List.dropWhile_cons, if_neg (by simpa using h)]
  simp
theorem tl_hit (l : List UInt8) : Lib.trimLeftB (32 :: l) 32 = Lib.trimLeftB l 32 := by unfold Lib.trimLeftB; rw [List.dropWhile_cons, if_pos (by rfl)]
theorem tl_miss (l : List UInt8) {x : UInt8} (h : x ≠ 32) : Lib.trimLeftB (x :: l) 32 = x :: l := by unfold Lib.trimLeftB; rw [List.dropWhile_cons, if_neg (by simpa using h)]
theorem ext_k' (t : ByteArray) (k : Nat) (h1 : t.size = k + 1) (hk : k < t.size) : t.data.toList = (t.extract 0 k).data.toList ++ [t[k]] := by
  rw [extract_list, toList_ba, List.drop_zero, ← take_snoc t k hk, take_all t _ (by omega)]
theorem ext_0 (t : ByteArray) (h : 0 < t.size) : t.data.toList = t[0] :: (t.extract 1 t.size).data.toList := by
  have e := drop_cons t 0 h
  rw [List.drop_zero] at e
  rw [extract_list, toList_ba, take_all t _ (Nat.le_refl _)]
  exact e
theorem ext_size (t : ByteArray) (k : Nat) (h : k ≤ t.size) : (t.extract 0 k).size = k := by rw [extract_list, ba_size, List.drop_zero, take_len t k h]
theorem ext1_size (t : ByteArray) : (t.extract 1 t.size).size = t.size - 1 := by rw [extract_list, ba_size, take_all t _ (Nat.le_refl _), List.length_drop, len_size]
set_option maxHeartbeats 8000000 in
theorem trim_s (s : ByteArray) (w : World) (hs : s.size ≤ 1048576) :
    Calls Tryd.prog 35 #[.string s] w fun e w' => e = .returned (.string (ba (Lib.trimB s.data.toList 32))) ∧ w = w' := by
  go_enter Tryd.func35, Tryd.ntmps35
  go_wp2_with fail
  go_loop [0] (fun v => ∃ t : ByteArray, v = .string t ∧ t.size ≤ s.size ∧ Hid (Lib.trimLeftB t.data.toList 32 = Lib.trimLeftB s.data.toList 32)) (fun v => Lib.strSize v)
  case atStart => exact ⟨s, rfl, Nat.le_refl _, Lib.hid rfl⟩
  case round =>
    obtain ⟨t, rfl, hts, HR⟩ := hrel
    have HX : Hid (∀ u : ByteArray, Lib.trimRightB u.data.toList 32 = Lib.trimRightB (Lib.trimLeftB s.data.toList 32) 32 → u.data.toList = Lib.trimRightB u.data.toList 32 → u = ba (Lib.trimB s.data.toList 32)) := Lib.hid (fun u h1 h2 => by
      rw [← trim_comm, ← h1, ← h2, ba_toList])
    by_cases h0 : 0 < t.size
    · obtain ⟨e1, e2⟩ := Kt.ne_str h0
      have H0 := Lib.hid (ext_0 t h0)
      by_cases h32 : t[0] = 32
      · have hb : ((t[0].toNat : Int) == 32) = true := by rw [h32]; rfl
        have HR2 : Hid (Lib.trimLeftB (t.extract 1 t.size).data.toList 32 = Lib.trimLeftB s.data.toList 32) := Lib.hid (by rw [← HR.out, H0.out, h32, tl_hit])
        have HZ := Lib.hid (ext1_size t)
        clear h32 HX
        go_wp2_with fail
        go_round
        case rel => exact ⟨_, rfl, by rw [HZ.out]; omega, HR2⟩
        case measure => rw [Lib.strSize_string, Lib.strSize_string, HZ.out]; omega
      · have hb : ((t[0].toNat : Int) == 32) = false := ne32 h32
        have HT : Hid (t.data.toList = Lib.trimLeftB s.data.toList 32) := Lib.hid (by rw [← HR.out, H0.out, tl_miss _ h32, ← H0.out])
        clear h32 H0 HR
        go_wp2_with fail
        go_loop [0] (fun v => ∃ u : ByteArray, v = .string u ∧ u.size ≤ s.size ∧ Hid (Lib.trimRightB u.data.toList 32 = Lib.trimRightB (Lib.trimLeftB s.data.toList 32) 32)) (fun v => Lib.strSize v)
        case atStart => exact ⟨t, rfl, hts, Lib.hid (by rw [HT.out])⟩
        case round =>
          obtain ⟨u, rfl, hus, HU⟩ := hrel
          by_cases hu0 : 0 < u.size
          · obtain ⟨k, hk⟩ : ∃ k, u.size = k + 1 := ⟨u.size - 1, by omega⟩
            have hkt : k < u.size := by omega
            have hw1 : IntKind.i64.wrap ((u.size : Int) - 1) = (k : Int) := by rw [IntWalk.i64_in _ (by omega)]; omega
            have hk2 : (k : Int) ≤ (u.size : Int) := by omega
            have HK := Lib.hid (ext_k' u k hk hkt)
            obtain ⟨e3, e4⟩ := Kt.ne_str hu0
            have HS := Lib.hid hk
            have HZ := Lib.hid (ext_size u k (by omega))
            by_cases q32 : u[k] = 32
            · have hb2 : ((u[k].toNat : Int) == 32) = true := by rw [q32]; rfl
              have HU2 : Hid (Lib.trimRightB (u.extract 0 k).data.toList 32 = Lib.trimRightB (Lib.trimLeftB s.data.toList 32) 32) := Lib.hid (by rw [← HU.out, HK.out, q32, tr_hit'])
              clear q32 hk
              go_wp2_with fail
              go_round
              case rel => exact ⟨_, rfl, by rw [HZ.out]; omega, HU2⟩
              case measure => rw [Lib.strSize_string, Lib.strSize_string, HZ.out, HS.out]; omega
            · have hb2 : ((u[k].toNat : Int) == 32) = false := ne32 q32
              have HF := Lib.hid (HX.out u HU.out (by
                conv => rhs; rw [HK.out]
                rw [tr_miss' _ q32]; exact HK.out))
              clear q32 hk
              go_wp2_with fail
              go_ret
              exact ⟨by rw [← HF.out]; rfl, rfl⟩
          · obtain rfl := Kt.nil_str hu0
            have HF := Lib.hid (HX.out _ HU.out rfl)
            go_wp2_with fail
            go_ret
            exact ⟨by rw [← HF.out]; rfl, rfl⟩
    · obtain rfl := Kt.nil_str h0
      have HF : Hid (Lib.trimLeftB s.data.toList 32 = []) := Lib.hid (by rw [← HR.out]; rfl)
      go_wp2_with fail
      go_loop [0] (fun v => v = .string ⟨#[]⟩) (fun v => 0)
      case atStart => rfl
      case round =>
        subst hrel
        have HG := Lib.hid (HX.out ⟨#[]⟩ (by rw [HF.out]) rfl)
        go_wp2_with fail
        go_ret
        exact ⟨by rw [← HG.out]; rfl, rfl⟩
set_option maxHeartbeats 8000000 in
theorem clean_s (s : ByteArray) (w : World) (hs : s.size ≤ 1048576) :
    Calls Tryd.prog 19 #[.string s] w fun e w' => e = .returned (.string (ba (clL s.data.toList))) ∧ Below w.heap.size w w' := by
  go_enter Tryd.func19, Tryd.ntmps19
  go_wp2_with fail
  go_loopw [0, 3] (fun v m wr => ∃ (t : ByteArray) (q : Bool), v = .string t ∧ m = .bool q ∧ t.size ≤ s.size ∧ Hid (runR t.data.toList = runR s.data.toList) ∧ Hid (q = false → runR t.data.toList = t.data.toList.reverse) ∧ Hid (Below w.heap.size w wr)) (fun v m _ => Lib.strSize v + (match m with | .bool true => 1 | _ => 0))
  case atStart => exact ⟨s, true, rfl, rfl, Nat.le_refl _, Lib.hid rfl, Lib.hid (fun h => by cases h), Lib.hid (Below.refl _ _)⟩
  case round =>
    obtain ⟨t, q, rfl, rfl, hts, HR, HQ, HB⟩ := hrel
    have hts2 : t.size ≤ 1048576 := by omega
    cases q with
    | true =>
      have HO := Lib.hid (fun w => once_s t w hts2)
      clear HQ
      go_wp2_with fail
      refine (HO.out _).mono ?_
      rintro e w1 ⟨T, q1, rfl, b1, HP⟩
      have HP' := Lib.hid HP
      clear HP
      have HB1 := Lib.hid (HB.out.trans (b1.mono HB.out.size))
      clear b1
      go_wp2_with fail
      go_roundw
      case rel =>
        refine ⟨T, q1, rfl, rfl, ?_, Lib.hid ?_, Lib.hid ?_, HB1⟩
        · cases q1 with
          | true => have := (HP'.out.1 rfl).1; omega
          | false => rw [(HP'.out.2 rfl).1]; exact hts
        · cases q1 with
          | true => rw [(HP'.out.1 rfl).2]; exact HR.out
          | false => rw [(HP'.out.2 rfl).1]; exact HR.out
        · intro hq
          rw [(HP'.out.2 hq).1]; exact (HP'.out.2 hq).2
      case measure =>
        cases q1 with
        | true =>
          show Lib.strSize (.string T) + 1 < Lib.strSize (.string t) + 1
          rw [Lib.strSize_string, Lib.strSize_string]
          have := (HP'.out.1 rfl).1; omega
        | false =>
          show Lib.strSize (.string T) + 0 < Lib.strSize (.string t) + 1
          rw [Lib.strSize_string, Lib.strSize_string, (HP'.out.2 rfl).1]; omega
    | false =>
      have HT := Lib.hid (fun w => trim_s t w hts2)
      have HE : Hid (clL s.data.toList = Lib.trimB t.data.toList 32) := Lib.hid (by unfold clL; rw [← HR.out, HQ.out rfl, List.reverse_reverse])
      go_wp2_with fail
      refine (HT.out _).mono ?_
      rintro e w1 ⟨rfl, hw⟩
      subst hw
      go_wp2_with fail
      go_ret
      exact ⟨by rw [HE.out]; rfl, HB.out⟩
/-- what CleanText answers -/
def ctV (s : ByteArray) : Value := if okX s.data.toList = true then .tuple #[.string (ba (clL s.data.toList)), .bool true] else .tuple #[.string ⟨#[]⟩, .bool false]
theorem ctV_form (s : ByteArray) : ∃ t r, ctV s = .tuple #[.string t, .bool r] := by unfold ctV; split <;> exact ⟨_, _, rfl⟩
/-- what IsClean answers -/
def icV (s : ByteArray) : Value := if okX s.data.toList = true then .tuple #[.bool ((ba (clL s.data.toList)).toList == s.toList), .bool true] else .tuple #[.bool false, .bool false]
theorem icV_form (s : ByteArray) : ∃ t r, icV s = .tuple #[.bool t, .bool r] := by unfold icV; split <;> exact ⟨_, _, rfl⟩
set_option maxHeartbeats 2000000 in
theorem cleans_s (s : ByteArray) (w : World) (hs : s.size ≤ 1048576) :
    Calls Tryd.prog 7 #[.string s] w fun e w' => e = .returned (ctV s) ∧ Below w.heap.size w w' := by
  have HA := Lib.hid (fun r h w => text_s s r w hs h)
  have HC := Lib.hid (clean_s s w hs)
  cases h1 : okX s.data.toList with
  | false =>
    have HE : Hid (ctV s = .tuple #[.string ⟨#[]⟩, .bool false]) := Lib.hid (by unfold ctV; rw [if_neg (by simp [h1])])
    have HA' := Lib.hid (HA.out false h1)
    clear h1 HA
    go_enter Tryd.func7, Tryd.ntmps7
    go_wp2_with fail
    refine (HA'.out _).mono ?_
    rintro e w' ⟨rfl, rfl⟩
    go_wp2_with fail
    go_ret2
    exact ⟨by rw [HE.out]; rfl, Below.refl _ _⟩
  | true =>
    have HE : Hid (ctV s = .tuple #[.string (ba (clL s.data.toList)), .bool true]) := Lib.hid (by unfold ctV; rw [if_pos h1])
    have HA' := Lib.hid (HA.out true h1)
    clear h1 HA
    go_enter Tryd.func7, Tryd.ntmps7
    go_wp2_with fail
    refine (HA'.out _).mono ?_
    rintro e w' ⟨rfl, rfl⟩
    go_wp2_with fail
    refine HC.out.mono ?_
    rintro e w1 ⟨rfl, b1⟩
    go_wp2_with fail
    go_ret2
    exact ⟨by rw [HE.out]; rfl, b1⟩
end Go.Proofs.YtknilobmiandgaaDoor.Mq
