/-
  StripMarks of both.
-/
import Derived.Test.YtkailaaefijidaaDoorMqJ
import Derived.Shelf.Strings.SlTrimAscii
import Derived.Shelf.Strings.IndexAnyAll
import Derived.ProofKit
import Derived.Deep.WholeRow
namespace Go.Proofs.YtkailaaefijidaaDoor.Mq
open Go.RowKit Pl NmPl MqPl
set_option linter.unusedSimpArgs false
set_option linter.unusedVariables false

/-- the marks and the space -/
def c7 : List UInt8 := [46, 44, 59, 58, 33, 63, 32]
def isMS (c : UInt8) : Bool := c7.contains c
theorem isMS_eq (c : UInt8) : isMS c = (decide (c = 32) || isM c) := by
  have h : ∀ n, n < 256 → isMS (UInt8.ofNat n) = (decide (UInt8.ofNat n = 32) || isM (UInt8.ofNat n)) := by decide +kernel
  have h2 := h c.toNat c.toNat_lt
  rwa [UInt8.ofNat_toNat] at h2
def dL (l : List UInt8) : List UInt8 := l.dropWhile (c7.contains ·)
def dR (l : List UInt8) : List UInt8 := (l.reverse.dropWhile (c7.contains ·)).reverse
theorem dL_hit (x : UInt8) (l : List UInt8) (h : isMS x = true) : dL (x :: l) = dL l := by unfold dL; rw [List.dropWhile_cons, if_pos (show c7.contains x = true from h)]
theorem dL_miss (x : UInt8) (l : List UInt8) (h : isMS x = false) : dL (x :: l) = x :: l := by unfold dL; rw [List.dropWhile_cons, if_neg (show ¬ c7.contains x = true from by rw [show c7.contains x = false from h]; decide)]
theorem dR_hit (x : UInt8) (l : List UInt8) (h : isMS x = true) : dR (l ++ [x]) = dR l := by
  unfold dR; rw [show (l ++ [x]).reverse = x :: l.reverse by simp, List.dropWhile_cons, if_pos (show c7.contains x = true from h)]
theorem dR_miss (x : UInt8) (l : List UInt8) (h : isMS x = false) : dR (l ++ [x]) = l ++ [x] := by
  unfold dR; rw [show (l ++ [x]).reverse = x :: l.reverse by simp, List.dropWhile_cons, if_neg (show ¬ c7.contains x = true from by rw [show c7.contains x = false from h]; decide)]; simp
theorem dR_cons (c : UInt8) (l : List UInt8) : dR (c :: l) = if dR l = [] ∧ isMS c = true then [] else c :: dR l := by
  induction l using snocInd with
  | h0 =>
    cases h : isMS c with
    | true => rw [if_pos ⟨rfl, rfl⟩]; exact dR_hit c [] h
    | false => rw [if_neg (by rintro ⟨-, e⟩; cases e)]; exact dR_miss c [] h
  | h1 l x ih =>
    cases h : isMS x with
    | true =>
      have e1 : dR (c :: (l ++ [x])) = dR (c :: l) := dR_hit x (c :: l) h
      rw [e1, dR_hit x l h, ih]
    | false =>
      have e1 : dR (c :: (l ++ [x])) = c :: (l ++ [x]) := dR_miss x (c :: l) h
      rw [e1, dR_miss x l h, if_neg (by simp)]
theorem d_comm (l : List UInt8) : dR (dL l) = dL (dR l) := by
  induction l with
  | nil => rfl
  | cons c l ih =>
    cases h : isMS c with
    | true =>
      rw [dL_hit c l h, ih, dR_cons, h]
      by_cases h2 : dR l = []
      · rw [if_pos ⟨h2, rfl⟩, h2]
      · rw [if_neg (fun e => h2 e.1), dL_hit c _ h]
    | false =>
      rw [dL_miss c l h, dR_cons, if_neg (by rw [h]; rintro ⟨-, e⟩; cases e), dL_miss c _ h]
theorem trimS_d (l : List UInt8) : Lib.trimS l c7 = dR (dL l) := by rw [d_comm]; rfl
/-- the stripped text -/
def stB (s : ByteArray) : ByteArray := ba (dR (dL s.data.toList))
theorem trimSet (s : ByteArray) (w : World) (hs : s.size ≤ 1048576) :
    Calls Tryd.prog 9 #[.string s, .string ⟨#[46, 44, 59, 58, 33, 63, 32]⟩] w fun e w' => e = .returned (.string (stB s)) ∧ Below w.heap.size w w' := by
  by_cases h0 : 0 < s.size
  · have hz : (Tryd.prog.info? 29).map (fun i => (i.zero, i.size)) = some (some (.agg (Array.replicate 256 (.bool false))), 256) := by kernel_rfl
    have h := Any.strings_Trim_set Tryd.lays160 (zero_of_info hz).1 (by kernel_rfl) s ⟨#[46, 44, 59, 58, 33, 63, 32]⟩ w (by decide) h0 (by omega) (by decide) (fun j b hj => by
      have h1 : ∀ b ∈ c7, b.toNat < 128 := by decide
      exact h1 b (List.mem_of_getElem? (l := c7) hj))
    refine Calls.mono (show Calls Tryd.prog 9 _ _ _ from h) ?_
    rintro e w' ⟨rfl, q, rfl⟩
    refine ⟨?_, below_drewN (((Below.refl _ w).alloc (Nat.le_refl _) _).alloc (by simp) _) q⟩
    show Ending.returned (Value.string (ba (Lib.trimS s.data.toList c7))) = _
    rw [trimS_d]; rfl
  · obtain rfl := Kt.nil_str h0
    have hE : stB ⟨#[]⟩ = ⟨#[]⟩ := rfl
    rw [hE]
    clear h0 hs
    go_enter Tryd.func9, Tryd.ntmps9
    go_wp2_with fail
    go_ret
    exact ⟨rfl, Below.refl _ _⟩
/-- what StripMarks answers -/
def stV (s : ByteArray) : Value := if okX s.data.toList = true then .tuple #[.string (stB s), .bool true] else .tuple #[.string ⟨#[]⟩, .bool false]
theorem stV_form (s : ByteArray) : ∃ t r, stV s = .tuple #[.string t, .bool r] := by unfold stV; split <;> exact ⟨_, _, rfl⟩
set_option maxHeartbeats 2000000 in
theorem strips_i (s : ByteArray) (w : World) (hs : s.size ≤ 1048576) :
    Calls Tryd.prog 5 #[.string s] w fun e w' => e = .returned (stV s) ∧ Below w.heap.size w w' := by
  have HA := Lib.hid (fun r h w => isPart_i s r w hs h)
  have HT := Lib.hid (fun w => trimSet s w hs)
  cases h1 : okX s.data.toList with
  | false =>
    have HE : Hid (stV s = .tuple #[.string ⟨#[]⟩, .bool false]) := Lib.hid (by unfold stV; rw [if_neg (by simp [h1])])
    have HA' := Lib.hid (HA.out false h1)
    clear h1 HA
    go_enter Tryd.func5, Tryd.ntmps5
    go_wp2_with fail
    refine (HA'.out _).mono ?_
    rintro e w' ⟨rfl, rfl⟩
    go_wp2_with fail
    go_ret2
    exact ⟨by rw [HE.out]; rfl, Below.refl _ _⟩
  | true =>
    have HE : Hid (stV s = .tuple #[.string (stB s), .bool true]) := Lib.hid (by unfold stV; rw [if_pos h1])
    have HA' := Lib.hid (HA.out true h1)
    clear h1 HA
    generalize stB s = T at *
    go_enter Tryd.func5, Tryd.ntmps5
    go_wp2_with fail
    refine (HA'.out _).mono ?_
    rintro e w' ⟨rfl, rfl⟩
    go_wp2_with fail
    refine (HT.out _).mono ?_
    rintro e w1 ⟨rfl, b1⟩
    go_wp2_with fail
    go_ret2
    exact ⟨by rw [HE.out]; rfl, b1⟩
theorem ext_k2 (t : ByteArray) (k : Nat) (h1 : t.size = k + 1) (hk : k < t.size) : t.data.toList = (t.extract 0 k).data.toList ++ [t[k]] := by
  rw [extract_list, toList_ba, List.drop_zero, ← take_snoc t k hk, take_all t _ (by omega)]
theorem ext_02 (t : ByteArray) (h : 0 < t.size) : t.data.toList = t[0] :: (t.extract 1 t.size).data.toList := by
  have e := drop_cons t 0 h
  rw [List.drop_zero] at e
  rw [extract_list, toList_ba, take_all t _ (Nat.le_refl _)]
  exact e
theorem ext_size2 (t : ByteArray) (k : Nat) (h : k ≤ t.size) : (t.extract 0 k).size = k := by rw [extract_list, ba_size, List.drop_zero, Pl.take_len t k h]
theorem ext1_size2 (t : ByteArray) : (t.extract 1 t.size).size = t.size - 1 := by rw [extract_list, ba_size, take_all t _ (Nat.le_refl _), List.length_drop, len_size]
set_option maxHeartbeats 8000000 in
theorem strips_s (s : ByteArray) (w : World) (hs : s.size ≤ 1048576) :
    Calls Tryd.prog 4 #[.string s] w fun e w' => e = .returned (stV s) ∧ w = w' := by
  have HA := Lib.hid (fun r h w => text_s s r w hs h)
  cases h1 : okX s.data.toList with
  | false =>
    have HE : Hid (stV s = .tuple #[.string ⟨#[]⟩, .bool false]) := Lib.hid (by unfold stV; rw [if_neg (by simp [h1])])
    have HA' := Lib.hid (HA.out false h1)
    clear h1 HA
    go_enter Tryd.func4, Tryd.ntmps4
    go_wp2_with fail
    refine (HA'.out _).mono ?_
    rintro e w' ⟨rfl, rfl⟩
    go_wp2_with fail
    go_ret2
    exact ⟨by rw [HE.out]; rfl, rfl⟩
  | true =>
    have HE : Hid (stV s = .tuple #[.string (stB s), .bool true]) := Lib.hid (by unfold stV; rw [if_pos h1])
    have HA' := Lib.hid (HA.out true h1)
    clear h1 HA
    go_enter Tryd.func4, Tryd.ntmps4
    go_wp2_with fail
    refine (HA'.out _).mono ?_
    rintro e w' ⟨rfl, hw⟩
    subst hw
    go_wp2_with fail
    go_loop [0] (fun v => ∃ t : ByteArray, v = .string t ∧ t.size ≤ s.size ∧ Hid (dL t.data.toList = dL s.data.toList)) (fun v => Lib.strSize v)
    case atStart => exact ⟨s, rfl, Nat.le_refl _, Lib.hid rfl⟩
    case round =>
      obtain ⟨t, rfl, hts, HR⟩ := hrel
      have HX : Hid (∀ u : ByteArray, dR u.data.toList = dR (dL s.data.toList) → u.data.toList = dR u.data.toList → u = stB s) := Lib.hid (fun u h1 h2 => by
        unfold stB; rw [← h1, ← h2, ba_toList])
      by_cases h0 : 0 < t.size
      · obtain ⟨e1, e2⟩ := Kt.ne_str h0
        have H0 := Lib.hid (ext_02 t h0)
        have HZ := Lib.hid (ext1_size2 t)
        have HH : Hid (isMS t[0] = true → dL (t.extract 1 t.size).data.toList = dL s.data.toList) := Lib.hid (fun h => by rw [← HR.out, H0.out, dL_hit _ _ h])
        have HM0 : Hid (isMS t[0] = false → t.data.toList = dL s.data.toList) := Lib.hid (fun h => by
          rw [← HR.out]; conv => rhs; rw [H0.out, dL_miss _ _ h]
          exact H0.out)
        have HI := Lib.hid (isMS_eq t[0])
        by_cases h32 : t[0] = 32
        · have hb : ((t[0].toNat : Int) == 32) = true := by rw [h32]; rfl
          have HR2 := Lib.hid (HH.out (by rw [HI.out, h32]; rfl))
          clear h32 HX
          go_wp2_with fail
          go_round
          case rel => exact ⟨_, rfl, by rw [HZ.out]; omega, HR2⟩
          case measure => rw [Lib.strSize_string, Lib.strSize_string, HZ.out]; omega
        · have hb : ((t[0].toNat : Int) == 32) = false := ne32 h32
          cases hm : isM t[0] with
          | true =>
            have HR2 := Lib.hid (HH.out (by rw [HI.out, hm]; simp))
            obtain ⟨z, hz, hd⟩ := isM_z (c := t[0]) hm
            have HMk := Lib.hid (fun w => mark_s t[0] z w hz)
            have hg : decide (0 ≤ z) = true := by simp at hd ⊢; omega
            clear h32 hm hz hd HX
            go_wp2_with fail
            refine (HMk.out _).mono ?_
            rintro e w' ⟨rfl, hw⟩
            subst hw
            go_wp2_with fail
            go_round
            case rel => exact ⟨_, rfl, by rw [HZ.out]; omega, HR2⟩
            case measure => rw [Lib.strSize_string, Lib.strSize_string, HZ.out]; omega
          | false =>
            have HT := Lib.hid (HM0.out (by rw [HI.out, hm]; simp [h32]))
            obtain ⟨z, hz, hd⟩ := isM_z (c := t[0]) hm
            have HMk := Lib.hid (fun w => mark_s t[0] z w hz)
            have hg : decide (0 ≤ z) = false := by simp at hd ⊢; omega
            clear h32 hm hz hd H0 HR HH HM0 HI HZ
            go_wp2_with fail
            refine (HMk.out _).mono ?_
            rintro e w' ⟨rfl, hw⟩
            subst hw
            go_wp2_with fail
            go_loop [0] (fun v => ∃ u : ByteArray, v = .string u ∧ u.size ≤ s.size ∧ Hid (dR u.data.toList = dR (dL s.data.toList))) (fun v => Lib.strSize v)
            case atStart => exact ⟨t, rfl, hts, Lib.hid (by rw [HT.out])⟩
            case round =>
              obtain ⟨u, rfl, hus, HU⟩ := hrel
              by_cases hu0 : 0 < u.size
              · obtain ⟨k, hk⟩ : ∃ k, u.size = k + 1 := ⟨u.size - 1, by omega⟩
                have hkt : k < u.size := by omega
                have hw1 : IntKind.i64.wrap ((u.size : Int) - 1) = (k : Int) := by rw [IntWalk.i64_in _ (by omega)]; omega
                have hk2 : (k : Int) ≤ (u.size : Int) := by omega
                have HK := Lib.hid (ext_k2 u k hk hkt)
                obtain ⟨e3, e4⟩ := Kt.ne_str hu0
                have HS := Lib.hid hk
                have HZ2 := Lib.hid (ext_size2 u k (by omega))
                have HIk := Lib.hid (isMS_eq u[k])
                have HHk : Hid (isMS u[k] = true → dR (u.extract 0 k).data.toList = dR (dL s.data.toList)) := Lib.hid (fun h => by rw [← HU.out, HK.out, dR_hit _ _ h])
                have HMs : Hid (isMS u[k] = false → u = stB s) := Lib.hid (fun h => HX.out u HU.out (by
                  conv => rhs; rw [HK.out]
                  rw [dR_miss _ _ h]; exact HK.out))
                clear hk
                by_cases q32 : u[k] = 32
                · have hb2 : ((u[k].toNat : Int) == 32) = true := by rw [q32]; rfl
                  have HU2 := Lib.hid (HHk.out (by rw [HIk.out, q32]; rfl))
                  clear q32
                  go_wp2_with fail
                  go_round
                  case rel => exact ⟨_, rfl, by rw [HZ2.out]; omega, HU2⟩
                  case measure => rw [Lib.strSize_string, Lib.strSize_string, HZ2.out, HS.out]; omega
                · have hb2 : ((u[k].toNat : Int) == 32) = false := ne32 q32
                  cases qm : isM u[k] with
                  | true =>
                    have HU2 := Lib.hid (HHk.out (by rw [HIk.out, qm]; simp))
                    obtain ⟨y, hy, hd2⟩ := isM_z (c := u[k]) qm
                    have HMk2 := Lib.hid (fun w => mark_s u[k] y w hy)
                    have hg2 : decide (0 ≤ y) = true := by simp at hd2 ⊢; omega
                    clear q32 qm hy hd2
                    go_wp2_with fail
                    refine (HMk2.out _).mono ?_
                    rintro e w' ⟨rfl, hw⟩
                    subst hw
                    go_wp2_with fail
                    go_round
                    case rel => exact ⟨_, rfl, by rw [HZ2.out]; omega, HU2⟩
                    case measure => rw [Lib.strSize_string, Lib.strSize_string, HZ2.out, HS.out]; omega
                  | false =>
                    have HF := Lib.hid (HMs.out (by rw [HIk.out, qm]; simp [q32]))
                    obtain ⟨y, hy, hd2⟩ := isM_z (c := u[k]) qm
                    have HMk2 := Lib.hid (fun w => mark_s u[k] y w hy)
                    have hg2 : decide (0 ≤ y) = false := by simp at hd2 ⊢; omega
                    clear q32 qm hy hd2
                    go_wp2_with fail
                    refine (HMk2.out _).mono ?_
                    rintro e w' ⟨rfl, hw⟩
                    subst hw
                    go_wp2_with fail
                    go_ret2
                    exact ⟨by rw [HE.out, ← HF.out]; rfl, rfl⟩
              · obtain rfl := Kt.nil_str hu0
                have HF := Lib.hid (HX.out _ HU.out rfl)
                go_wp2_with fail
                go_ret2
                exact ⟨by rw [HE.out, ← HF.out]; rfl, rfl⟩
      · obtain rfl := Kt.nil_str h0
        have HF : Hid (dL s.data.toList = []) := Lib.hid (by rw [← HR.out]; rfl)
        go_wp2_with fail
        go_loop [0] (fun v => v = .string ⟨#[]⟩) (fun v => 0)
        case atStart => rfl
        case round =>
          subst hrel
          have HG := Lib.hid (HX.out ⟨#[]⟩ (by rw [HF.out]) rfl)
          go_wp2_with fail
          go_ret2
          exact ⟨by rw [HE.out, ← HG.out]; rfl, rfl⟩
end Go.Proofs.YtkailaaefijidaaDoor.Mq
