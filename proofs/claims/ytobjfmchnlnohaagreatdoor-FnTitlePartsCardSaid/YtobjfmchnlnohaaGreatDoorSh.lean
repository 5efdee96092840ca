/-
  Contracts of ShortTitle of both.
-/
import Derived.Test.YtobjfmchnlnohaaGreatDoorSu
import Derived.Test.YtobjfmchnlnohaaGreatDoorTw
import Derived.Test.YtobjfmchnlnohaaGreatDoorLw
import Derived.Test.YtobjfmchnlnohaaGreatDoorJo
import Derived.OwnWalk
namespace Go.Proofs.YtobjfmchnlnohaaGreatDoor.Sh
open Go.RowKit Pl NmPl TiPl Kt Ti Mk Cs Jo
set_option linter.unusedSimpArgs false
set_option linter.unusedVariables false

/-- SplitSubtitle's answer is three values -/
theorem su_form (s : ByteArray) : ∃ m b ok, suV s = .tuple #[.string m, .string b, .bool ok] ∧ m.size ≤ s.size := by
  unfold suV
  split
  · split
    · exact ⟨_, _, _, rfl, Nat.le_refl _⟩
    · split
      · refine ⟨_, _, _, rfl, ?_⟩
        rw [extract_list, ba_size, List.drop_zero, List.length_take, len_size]; omega
      · exact ⟨_, _, _, rfl, Nat.zero_le _⟩
  · exact ⟨_, _, _, rfl, Nat.zero_le _⟩
/-- what ShortTitle answers where SplitSubtitle answers m and ok -/
def shV (m : ByteArray) (ok : Bool) (z : Int) : Value :=
  if (1 ≤ z ∧ z ≤ 20) ∧ ok = true then .tuple #[.string (ba (jL ((words m.data.toList).take z.toNat))), .bool true] else .tuple #[.string ⟨#[]⟩, .bool false]

set_option maxHeartbeats 2000000 in
theorem implShort (s : ByteArray) (z : Int) (m b : ByteArray) (ok : Bool) (w : World) (hml : ML w) (hs : s.size ≤ 1048576) (hv : suV s = .tuple #[.string m, .string b, .bool ok]) (hm : m.size ≤ 1048576) :
    Calls Tryz.prog 11 #[.string s, .int .i64 z] w fun e w' => e = .returned (shV m ok z) ∧ Below w.heap.size w w' := by
  have HS := Lib.hid (implSub s w hml hs)
  rw [hv] at HS
  have HW := Lib.hid (fun w => Tw.words_any m w hm)
  clear hv hml
  by_cases h1 : z < 1
  · have HE : Hid (shV m ok z = .tuple #[.string ⟨#[]⟩, .bool false]) := Lib.hid (by unfold shV; rw [if_neg (by omega)])
    have hd : decide (z < 1) = true := by simpa using h1
    clear h1
    go_enter Tryz.func11, Tryz.ntmps11
    go_wp2_with fail
    go_ret2
    exact ⟨by rw [HE.out]; rfl, Below.refl _ _⟩
  · have hd : decide (z < 1) = false := by simpa using h1
    by_cases h2 : 20 < z
    · have HE : Hid (shV m ok z = .tuple #[.string ⟨#[]⟩, .bool false]) := Lib.hid (by unfold shV; rw [if_neg (by omega)])
      have hd2 : decide (20 < z) = true := by simpa using h2
      clear h1 h2
      go_enter Tryz.func11, Tryz.ntmps11
      go_wp2_with fail
      go_ret2
      exact ⟨by rw [HE.out]; rfl, Below.refl _ _⟩
    · have hd2 : decide (20 < z) = false := by simpa using h2
      cases ok with
      | false =>
        have HE : Hid (shV m false z = .tuple #[.string ⟨#[]⟩, .bool false]) := Lib.hid (by unfold shV; rw [if_neg (fun h => by cases h.2)])
        clear h1 h2
        go_enter Tryz.func11, Tryz.ntmps11
        go_wp2_with fail
        refine HS.out.mono ?_
        rintro e w1 ⟨rfl, b1⟩
        go_wp2_with fail
        go_ret2
        exact ⟨by rw [HE.out]; rfl, b1⟩
      | true =>
        have HE : Hid (shV m true z = .tuple #[.string (ba (jL ((words m.data.toList).take z.toNat))), .bool true]) := Lib.hid (by unfold shV; rw [if_pos ⟨by omega, rfl⟩])
        obtain ⟨k, rfl⟩ : ∃ k : Nat, z = (k : Int) := ⟨z.toNat, by omega⟩
        rw [Int.toNat_natCast] at HE
        have hk1 : 1 ≤ k := by omega
        have hk2 : k ≤ 20 := by omega
        have hwl := words_len m.data.toList
        rw [len_size] at hwl
        clear h1 h2
        go_enter Tryz.func11, Tryz.ntmps11
        go_wp2_with fail
        refine HS.out.mono ?_
        rintro e w1 ⟨rfl, b1⟩
        go_wp2_with fail
        refine (HW.out _).mono ?_
        rintro e w2 ⟨v, rfl, ho, b2⟩
        obtain ⟨A, c, rfl, hr, hA, hc⟩ := rd_own ho
        generalize hwd : words m.data.toList = W at *
        go_wp2_with fail
        have hoff : off (W.take k) ≤ 2097152 := by
          have h1 := off_take W k
          have h2 := words_off m.data.toList
          rw [hwd, len_size] at h2
          omega
        refine (join_any A c _ (W.take k) _ (hr.take k) hA (by rw [List.length_take]; omega) (by omega) hoff).mono ?_
        rintro e w3 ⟨rfl, b3⟩
        go_wp2_with fail
        go_ret2
        exact ⟨by rw [HE.out]; rfl, b1.trans ((b2.trans (b3.mono b2.size)).mono b1.size)⟩

theorem least_any (a b : Nat) (w : World) : Calls Tryz.prog 32 #[.int .i64 a, .int .i64 b] w fun e w' => e = .returned (.int .i64 (min a b : Nat)) ∧ w = w' := by
  by_cases h : a < b
  · have hd : decide (a < b) = true := by simpa using h
    have HM : Hid (min a b = a) := Lib.hid (by omega)
    clear h
    go_enter Tryz.func32, Tryz.ntmps32
    go_wp2_with fail
    go_ret
    exact ⟨by rw [HM.out]; rfl, rfl⟩
  · have hd : decide (a < b) = false := by simpa using h
    have HM : Hid (min a b = b) := Lib.hid (by omega)
    clear h
    go_enter Tryz.func32, Tryz.ntmps32
    go_wp2_with fail
    go_ret
    exact ⟨by rw [HM.out]; rfl, rfl⟩

set_option maxHeartbeats 2000000 in
theorem specShort (s : ByteArray) (z : Int) (m b : ByteArray) (ok : Bool) (w : World) (hs : s.size ≤ 1048576) (hv : suV s = .tuple #[.string m, .string b, .bool ok]) (hm : m.size ≤ 1048576) :
    Calls Tryz.prog 12 #[.string s, .int .i64 z] w fun e w' => e = .returned (shV m ok z) ∧ Below w.heap.size w w' := by
  have HS := Lib.hid (specSub s w hs)
  rw [hv] at HS
  have HW := Lib.hid (fun w => Lw.l6Words_any m w hm)
  clear hv
  cases ok with
  | false =>
    have HE : Hid (shV m false z = .tuple #[.string ⟨#[]⟩, .bool false]) := Lib.hid (by unfold shV; rw [if_neg (fun h => by cases h.2)])
    go_enter Tryz.func12, Tryz.ntmps12
    go_wp2_with fail
    refine HS.out.mono ?_
    rintro e w1 ⟨rfl, b1⟩
    go_wp2_with fail
    go_ret2
    exact ⟨by rw [HE.out]; rfl, b1⟩
  | true =>
    by_cases h1 : 1 ≤ z ∧ z ≤ 20
    · have HI := Lib.hid (fun w => Dt.l1In_any z 1 20 true w (by simpa using h1))
      have HE : Hid (shV m true z = .tuple #[.string (ba (jL ((words m.data.toList).take z.toNat))), .bool true]) := Lib.hid (by unfold shV; rw [if_pos ⟨h1, rfl⟩])
      obtain ⟨k, rfl⟩ : ∃ k : Nat, z = (k : Int) := ⟨z.toNat, by omega⟩
      rw [Int.toNat_natCast] at HE
      have hk1 : 1 ≤ k := by omega
      have hk2 : k ≤ 20 := by omega
      have hwl := words_len m.data.toList
      rw [len_size] at hwl
      clear h1
      go_enter Tryz.func12, Tryz.ntmps12
      go_wp2_with fail
      refine HS.out.mono ?_
      rintro e w1 ⟨rfl, b1⟩
      go_wp2_with fail
      refine (HI.out _).mono ?_
      rintro e w' ⟨rfl, rfl⟩
      go_wp2_with fail
      refine (HW.out _).mono ?_
      rintro e w2 ⟨v, rfl, ho, b2⟩
      obtain ⟨A, c, rfl, hr, hA, hc⟩ := rd_own ho
      generalize hwd : words m.data.toList = W at *
      go_wp2_with fail
      refine (least_any k W.length _).mono ?_
      rintro e w' ⟨rfl, rfl⟩
      have hmle : min k W.length ≤ c := by omega
      go_wp2_with fail
      have hoff : off (W.take k) ≤ 2097152 := by
        have h1 := off_take W k
        have h2 := words_off m.data.toList
        rw [hwd, len_size] at h2
        omega
      refine (l6Join_any A c _ (W.take k) _ (hr.take k) (by rw [List.length_take]) hoff).mono ?_
      rintro e w3 ⟨rfl, rfl⟩
      go_wp2_with fail
      go_ret2
      exact ⟨by rw [HE.out]; rfl, b1.trans (b2.mono b1.size)⟩
    · have HI := Lib.hid (fun w => Dt.l1In_any z 1 20 false w (by simpa using h1))
      have HE : Hid (shV m true z = .tuple #[.string ⟨#[]⟩, .bool false]) := Lib.hid (by unfold shV; rw [if_neg (fun h => h1 h.1)])
      clear h1
      go_enter Tryz.func12, Tryz.ntmps12
      go_wp2_with fail
      refine HS.out.mono ?_
      rintro e w1 ⟨rfl, b1⟩
      go_wp2_with fail
      refine (HI.out _).mono ?_
      rintro e w' ⟨rfl, rfl⟩
      go_wp2_with fail
      go_ret2
      exact ⟨by rw [HE.out]; rfl, b1⟩
end Go.Proofs.YtobjfmchnlnohaaGreatDoor.Sh
