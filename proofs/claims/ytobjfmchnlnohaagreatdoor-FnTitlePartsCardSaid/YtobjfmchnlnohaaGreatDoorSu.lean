/-
  Contracts of SplitSubtitle of both.
-/
import Derived.Test.YtobjfmchnlnohaaGreatDoorMk
import Derived.Test.YtobjfmchnlnohaaGreatDoorMs
import Derived.IntWalk
import Derived.Deep.QuietTactic
import Derived.BigQuiet
namespace Go.Proofs.YtobjfmchnlnohaaGreatDoor.Mk
open Go.RowKit Pl NmPl TiPl Kt Ti
set_option linter.unusedSimpArgs false
set_option linter.unusedVariables false

/-- what SplitSubtitle answers -/
def suV (s : ByteArray) : Value :=
  if okT s.data.toList = true then
    if sub s.data.toList < 0 then .tuple #[.string s, .string ⟨#[]⟩, .bool true]
    else if TiPl.part (s.data.toList.take (sub s.data.toList).toNat) = true ∧ TiPl.part (s.data.toList.drop ((sub s.data.toList).toNat + 2)) = true then .tuple #[.string (s.extract 0 (sub s.data.toList).toNat), .string (s.extract ((sub s.data.toList).toNat + 2) s.size), .bool true]
    else .tuple #[.string ⟨#[]⟩, .string ⟨#[]⟩, .bool false]
  else .tuple #[.string ⟨#[]⟩, .string ⟨#[]⟩, .bool false]
set_option maxHeartbeats 4000000 in
theorem implSub (s : ByteArray) (w : World) (hml : ML w) (hs : s.size ≤ 1048576) :
    Calls Tryz.prog 9 #[.string s] w fun e w' => e = .returned (suV s) ∧ Below w.heap.size w w' := by
  have HV := Lib.hid (fun r h => isValidT s r w hml hs h)
  have HM := Lib.hid hml
  have HMk := Lib.hid (fun w => mask_any s w hs)
  have HIx := Lib.hid (fun w (hm : ML w) => (let ⟨m, h⟩ := hm; Tryz.strings_Index (ba (mk s.data.toList)) ⟨#[58, 32]⟩ m w (by rw [ba_size, mk, mkf_len, len_size]; omega) h : Calls Tryz.prog 25 #[.string (ba (mk s.data.toList)), .string ⟨#[58, 32]⟩] w fun e w' => e = .returned (.int .i64 (Lib.index (ba (mk s.data.toList)).data.toList (ByteArray.mk #[58, 32]).data.toList)) ∧ w' = w))
  have HIe : Hid (Lib.index (ba (mk s.data.toList)).data.toList (ByteArray.mk #[58, 32]).data.toList = sub s.data.toList) := Lib.hid (by rw [toList_ba]; rfl)
  rw [HIe.out] at HIx
  cases hok : okT s.data.toList with
  | false =>
    have HE : Hid (suV s = .tuple #[.string ⟨#[]⟩, .string ⟨#[]⟩, .bool false]) := Lib.hid (by unfold suV; rw [hok]; rfl)
    have HV' := Lib.hid (HV.out false hok)
    clear hok HV
    go_enter Tryz.func9, Tryz.ntmps9
    go_wp2_with fail
    refine HV'.out.mono ?_
    rintro e w' ⟨rfl, rfl⟩
    go_wp2_with fail
    go_ret3
    exact ⟨by rw [HE.out]; rfl, Below.refl _ _⟩
  | true =>
    have HV' := Lib.hid (HV.out true hok)
    by_cases hneg : sub s.data.toList < 0
    · have hm1 : sub s.data.toList = -1 := by have := sub_ge s.data.toList; omega
      have HE : Hid (suV s = .tuple #[.string s, .string ⟨#[]⟩, .bool true]) := Lib.hid (by unfold suV; rw [hok, if_pos rfl, if_pos hneg])
      rw [hm1] at HIx
      clear hok HV hneg hm1
      go_enter Tryz.func9, Tryz.ntmps9
      go_wp2_with fail
      refine HV'.out.mono ?_
      rintro e w' ⟨rfl, rfl⟩
      go_wp2_with fail
      refine (HMk.out _).mono ?_
      rintro e w1 ⟨rfl, b1⟩
      go_wp2_with fail
      refine (HIx.out _ (HM.out.below b1)).mono ?_
      rintro e w' ⟨rfl, hw⟩
      subst hw
      go_wp2_with fail
      go_ret3
      exact ⟨by rw [HE.out]; rfl, b1⟩
    · obtain ⟨p, hp⟩ : ∃ p : Nat, sub s.data.toList = (p : Int) := ⟨(sub s.data.toList).toNat, by omega⟩
      have hlt := sub_lt hp
      rw [len_size] at hlt
      obtain ⟨hpx, hpy⟩ := sub_parts hok hp
      have HEx : Hid ((s.extract 0 p).data.toList = s.data.toList.take p) := Lib.hid (by rw [extract_list, toList_ba, List.drop_zero])
      have HEy : Hid ((s.extract (p + 2) s.size).data.toList = s.data.toList.drop (p + 2)) := Lib.hid (by rw [extract_list, toList_ba, take_all s s.size (Nat.le_refl _)])
      have hx1 : (s.extract 0 p).size ≤ 1048576 := by rw [← len_size, HEx.out, List.length_take]; omega
      have hy1 : (s.extract (p + 2) s.size).size ≤ 1048576 := by rw [← len_size, HEy.out, List.length_drop, len_size]; omega
      have HE0 : Hid (suV s = if TiPl.part (s.data.toList.take p) = true ∧ TiPl.part (s.data.toList.drop (p + 2)) = true then .tuple #[.string (s.extract 0 p), .string (s.extract (p + 2) s.size), .bool true] else .tuple #[.string ⟨#[]⟩, .string ⟨#[]⟩, .bool false]) := Lib.hid (by unfold suV; rw [hok, if_pos rfl, if_neg hneg, hp, Int.toNat_natCast])
      rw [← hpx, ← hpy] at HE0
      generalize hpa : okT (s.data.toList.take p) = a at *
      generalize hpb : okT (s.data.toList.drop (p + 2)) = b at *
      have HX := Lib.hid (fun w (hm : ML w) => isValidT (s.extract 0 p) a w hm hx1 (by rw [HEx.out]; exact hpa))
      have HY := Lib.hid (fun w (hm : ML w) => isValidT (s.extract (p + 2) s.size) b w hm hy1 (by rw [HEy.out]; exact hpb))
      rw [hp] at HIx
      have hw1 : IntKind.i64.wrap ((p : Int) + 2) = (p : Int) + 2 := IntWalk.i64_in _ (by omega)
      have hd : decide ((p : Int) < 0) = false := by simp
      have hb1 : (p : Int) ≤ (s.size : Int) := by omega
      have hb2 : (p : Int) + 2 ≤ (s.size : Int) := by omega
      have hb0 : (0 : Int) ≤ (p : Int) + 2 := by omega
      have htn : ((p : Int) + 2).toNat = p + 2 := by omega
      clear hok HV hneg hp hlt hpx hpy hpa hpb hx1 hy1
      cases a with
      | false =>
        have HE : Hid (suV s = .tuple #[.string ⟨#[]⟩, .string ⟨#[]⟩, .bool false]) := Lib.hid (by rw [HE0.out]; simp)
        go_enter Tryz.func9, Tryz.ntmps9
        go_wp2_with fail
        refine HV'.out.mono ?_
        rintro e w' ⟨rfl, rfl⟩
        go_wp2_with fail
        refine (HMk.out _).mono ?_
        rintro e w1 ⟨rfl, b1⟩
        go_wp2_with fail
        refine (HIx.out _ (HM.out.below b1)).mono ?_
        rintro e w' ⟨rfl, hw⟩
        subst hw
        go_wp2_with fail
        go_quiet (fail)
        go_wp2_with fail
        refine (HX.out _ ?_).mono ?_
        · exact HM.out.below (b1.trans ⟨rfl, rfl, rfl, Nat.le_refl _, fun _ _ => rfl⟩)
        rintro e w' ⟨rfl, hw⟩
        subst hw
        go_wp2_with fail
        go_ret3
        exact ⟨by rw [HE.out]; rfl, b1.trans ⟨rfl, rfl, rfl, Nat.le_refl _, fun _ _ => rfl⟩⟩
      | true =>
        cases b with
        | false =>
          have HE : Hid (suV s = .tuple #[.string ⟨#[]⟩, .string ⟨#[]⟩, .bool false]) := Lib.hid (by rw [HE0.out]; simp)
          go_enter Tryz.func9, Tryz.ntmps9
          go_wp2_with fail
          refine HV'.out.mono ?_
          rintro e w' ⟨rfl, rfl⟩
          go_wp2_with fail
          refine (HMk.out _).mono ?_
          rintro e w1 ⟨rfl, b1⟩
          go_wp2_with fail
          refine (HIx.out _ (HM.out.below b1)).mono ?_
          rintro e w' ⟨rfl, hw⟩
          subst hw
          go_wp2_with fail
          go_quiet (fail)
          go_wp2_with fail
          refine (HX.out _ ?_).mono ?_
          · exact HM.out.below (b1.trans ⟨rfl, rfl, rfl, Nat.le_refl _, fun _ _ => rfl⟩)
          rintro e w' ⟨rfl, hw⟩
          subst hw
          go_wp2_with fail
          refine (HY.out _ ?_).mono ?_
          · exact HM.out.below (b1.trans ⟨rfl, rfl, rfl, Nat.le_refl _, fun _ _ => rfl⟩)
          rintro e w' ⟨rfl, hw⟩
          subst hw
          go_wp2_with fail
          go_ret3
          exact ⟨by rw [HE.out]; rfl, b1.trans ⟨rfl, rfl, rfl, Nat.le_refl _, fun _ _ => rfl⟩⟩
        | true =>
          have HE : Hid (suV s = .tuple #[.string (s.extract 0 p), .string (s.extract (p + 2) s.size), .bool true]) := Lib.hid (by rw [HE0.out]; simp)
          go_enter Tryz.func9, Tryz.ntmps9
          go_wp2_with fail
          refine HV'.out.mono ?_
          rintro e w' ⟨rfl, rfl⟩
          go_wp2_with fail
          refine (HMk.out _).mono ?_
          rintro e w1 ⟨rfl, b1⟩
          go_wp2_with fail
          refine (HIx.out _ (HM.out.below b1)).mono ?_
          rintro e w' ⟨rfl, hw⟩
          subst hw
          go_wp2_with fail
          go_quiet (fail)
          go_wp2_with fail
          refine (HX.out _ ?_).mono ?_
          · exact HM.out.below (b1.trans ⟨rfl, rfl, rfl, Nat.le_refl _, fun _ _ => rfl⟩)
          rintro e w' ⟨rfl, hw⟩
          subst hw
          go_wp2_with fail
          refine (HY.out _ ?_).mono ?_
          · exact HM.out.below (b1.trans ⟨rfl, rfl, rfl, Nat.le_refl _, fun _ _ => rfl⟩)
          rintro e w' ⟨rfl, hw⟩
          subst hw
          go_wp2_with fail

          go_ret3
          exact ⟨by rw [HE.out]; rfl, b1.trans ⟨rfl, rfl, rfl, Nat.le_refl _, fun _ _ => rfl⟩⟩

set_option maxHeartbeats 4000000 in
theorem specSub (s : ByteArray) (w : World) (hs : s.size ≤ 1048576) :
    Calls Tryz.prog 10 #[.string s] w fun e w' => e = .returned (suV s) ∧ Below w.heap.size w w' := by
  have HV := Lib.hid (fun r h => l6Good_any s r w hs h)

  have HSp := Lib.hid (fun w => l6Split_any s w hs)

  cases hok : okT s.data.toList with
  | false =>
    have HE : Hid (suV s = .tuple #[.string ⟨#[]⟩, .string ⟨#[]⟩, .bool false]) := Lib.hid (by unfold suV; rw [hok]; rfl)
    have HV' := Lib.hid (HV.out false hok)
    clear hok HV
    go_enter Tryz.func10, Tryz.ntmps10
    go_wp2_with fail
    refine HV'.out.mono ?_
    rintro e w' ⟨rfl, rfl⟩
    go_wp2_with fail
    go_ret3
    exact ⟨by rw [HE.out]; rfl, Below.refl _ _⟩
  | true =>
    have HV' := Lib.hid (HV.out true hok)
    by_cases hneg : sub s.data.toList < 0
    · have hm1 : sub s.data.toList = -1 := by have := sub_ge s.data.toList; omega
      have HE : Hid (suV s = .tuple #[.string s, .string ⟨#[]⟩, .bool true]) := Lib.hid (by unfold suV; rw [hok, if_pos rfl, if_pos hneg])
      rw [hm1] at HSp
      clear hok HV hneg hm1
      go_enter Tryz.func10, Tryz.ntmps10
      go_wp2_with fail
      refine HV'.out.mono ?_
      rintro e w' ⟨rfl, rfl⟩
      go_wp2_with fail
      refine (HSp.out _).mono ?_
      rintro e w' ⟨rfl, rfl⟩
      go_wp2_with fail
      go_ret3
      exact ⟨by rw [HE.out]; rfl, Below.refl _ _⟩
    · obtain ⟨p, hp⟩ : ∃ p : Nat, sub s.data.toList = (p : Int) := ⟨(sub s.data.toList).toNat, by omega⟩
      have hlt := sub_lt hp
      rw [len_size] at hlt
      obtain ⟨hpx, hpy⟩ := sub_parts hok hp
      have HEx : Hid ((s.extract 0 p).data.toList = s.data.toList.take p) := Lib.hid (by rw [extract_list, toList_ba, List.drop_zero])
      have HEy : Hid ((s.extract (p + 2) s.size).data.toList = s.data.toList.drop (p + 2)) := Lib.hid (by rw [extract_list, toList_ba, take_all s s.size (Nat.le_refl _)])
      have hx1 : (s.extract 0 p).size ≤ 1048576 := by rw [← len_size, HEx.out, List.length_take]; omega
      have hy1 : (s.extract (p + 2) s.size).size ≤ 1048576 := by rw [← len_size, HEy.out, List.length_drop, len_size]; omega
      have HE0 : Hid (suV s = if TiPl.part (s.data.toList.take p) = true ∧ TiPl.part (s.data.toList.drop (p + 2)) = true then .tuple #[.string (s.extract 0 p), .string (s.extract (p + 2) s.size), .bool true] else .tuple #[.string ⟨#[]⟩, .string ⟨#[]⟩, .bool false]) := Lib.hid (by unfold suV; rw [hok, if_pos rfl, if_neg hneg, hp, Int.toNat_natCast])

      generalize hpa : TiPl.part (s.data.toList.take p) = a at *
      generalize hpb : TiPl.part (s.data.toList.drop (p + 2)) = b at *
      have HX := Lib.hid (fun w => l6Part_any (s.extract 0 p) a w hx1 (by rw [HEx.out]; exact hpa))
      have HY := Lib.hid (fun w => l6Part_any (s.extract (p + 2) s.size) b w hy1 (by rw [HEy.out]; exact hpb))
      rw [hp] at HSp
      have hw1 : IntKind.i64.wrap ((p : Int) + 2) = (p : Int) + 2 := IntWalk.i64_in _ (by omega)
      have hd : decide ((p : Int) < 0) = false := by simp
      have hb1 : (p : Int) ≤ (s.size : Int) := by omega
      have hb2 : (p : Int) + 2 ≤ (s.size : Int) := by omega
      have hb0 : (0 : Int) ≤ (p : Int) + 2 := by omega
      have htn : ((p : Int) + 2).toNat = p + 2 := by omega
      clear hok HV hneg hp hlt hpx hpy hpa hpb hx1 hy1
      cases a with
      | false =>
        have HE : Hid (suV s = .tuple #[.string ⟨#[]⟩, .string ⟨#[]⟩, .bool false]) := Lib.hid (by rw [HE0.out]; simp)
        go_enter Tryz.func10, Tryz.ntmps10
        go_wp2_with fail
        refine HV'.out.mono ?_
        rintro e w' ⟨rfl, rfl⟩
        go_wp2_with fail
        refine (HSp.out _).mono ?_
        rintro e w' ⟨rfl, rfl⟩
        go_wp2_with fail

        refine (HX.out _).mono ?_
        rintro e w' ⟨rfl, hw⟩
        subst hw
        go_wp2_with fail
        go_ret3
        exact ⟨by rw [HE.out]; rfl, Below.refl _ _⟩
      | true =>
        cases b with
        | false =>
          have HE : Hid (suV s = .tuple #[.string ⟨#[]⟩, .string ⟨#[]⟩, .bool false]) := Lib.hid (by rw [HE0.out]; simp)
          go_enter Tryz.func10, Tryz.ntmps10
          go_wp2_with fail
          refine HV'.out.mono ?_
          rintro e w' ⟨rfl, rfl⟩
          go_wp2_with fail
          refine (HSp.out _).mono ?_
          rintro e w' ⟨rfl, rfl⟩
          go_wp2_with fail

          refine (HX.out _).mono ?_
          rintro e w' ⟨rfl, hw⟩
          subst hw
          go_wp2_with fail
          refine (HY.out _).mono ?_
          rintro e w' ⟨rfl, hw⟩
          subst hw
          go_wp2_with fail
          go_ret3
          exact ⟨by rw [HE.out]; rfl, Below.refl _ _⟩
        | true =>
          have HE : Hid (suV s = .tuple #[.string (s.extract 0 p), .string (s.extract (p + 2) s.size), .bool true]) := Lib.hid (by rw [HE0.out]; simp)
          go_enter Tryz.func10, Tryz.ntmps10
          go_wp2_with fail
          refine HV'.out.mono ?_
          rintro e w' ⟨rfl, rfl⟩
          go_wp2_with fail
          refine (HSp.out _).mono ?_
          rintro e w' ⟨rfl, rfl⟩
          go_wp2_with fail

          refine (HX.out _).mono ?_
          rintro e w' ⟨rfl, hw⟩
          subst hw
          go_wp2_with fail
          refine (HY.out _).mono ?_
          rintro e w' ⟨rfl, hw⟩
          subst hw
          go_wp2_with fail
          go_quiet (fail)
          go_wp2_with fail
          go_ret3
          exact ⟨by rw [HE.out]; rfl, ⟨rfl, rfl, rfl, Nat.le_refl _, fun _ _ => rfl⟩⟩

end Go.Proofs.YtobjfmchnlnohaaGreatDoor.Mk
