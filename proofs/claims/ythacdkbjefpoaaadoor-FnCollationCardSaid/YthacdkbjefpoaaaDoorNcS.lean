/-
  Contract of l8Runs of the model.
-/
import Derived.Test.YthacdkbjefpoaaaDoorNc
namespace Go.Proofs.YthacdkbjefpoaaaDoor.Nc
open Go.RowKit Pl NmPl FoPl NcPl Cs Strs
set_option linter.unusedVariables false
set_option linter.unusedSimpArgs false

set_option maxRecDepth 100000 in
set_option maxHeartbeats 8000000 in
theorem runs_s (s : ByteArray) (w : World) (hs : s.size ≤ 1048576) :
    Calls Tryd.prog 26 #[.string s] w fun e w' => ∃ v, e = .returned v ∧ w'.ownsRow w.heap.size 9 1 v (runs s.data.toList).length (cs (runs s.data.toList)) ∧ Below w.heap.size w w' := by
  obtain ⟨i0, hi, hz0, hz1, hz2⟩ := info_parts infoStr
  have H0 : Hid (0 < s.size → runsGo (dg (s.data.toList.getD 0 0)) ((s.data.toList.take (0 + 1)).drop 0) (s.data.toList.drop (0 + 1)) = runs s.data.toList) := Lib.hid (fun h => by
    have hx := at_list h
    rw [List.getD_eq_getElem?_getD, hx]
    exact go_start hx)
  have H1 : Hid (0 = s.size → ([] : List (List UInt8)) = runs s.data.toList) := Lib.hid (fun h => by
    have : s.data.toList = [] := List.eq_nil_of_length_eq_zero (by rw [len_size]; omega)
    rw [this]; rfl)
  go_enter Tryd.func26, Tryd.ntmps26
  go_wp2_with fail
  go_loopw [3, 4, 5] (fun vo vf vi wr => ∃ (m k f : Nat) (O : List (List UInt8)), m ≤ s.size ∧ f ≤ m ∧ Hid (k = m + 1) ∧ vi = .int .i64 k ∧ vf = .int .i64 f ∧
      Hid (m < s.size → O ++ runsGo (dg (s.data.toList.getD m 0)) ((s.data.toList.take k).drop f) (s.data.toList.drop k) = runs s.data.toList) ∧ Hid (m = s.size → O = runs s.data.toList) ∧ O.length ≤ m ∧
      wr.ownsRow w.heap.size 9 1 vo O.length (cs O) ∧ Below w.heap.size w wr) (fun _ _ i _ => s.size + 1 - (intOf i).toNat)
  case atStart => exact ⟨0, 1, 0, [], Nat.zero_le _, Nat.le_refl _, Lib.hid rfl, rfl, rfl, H0, H1, Nat.le_refl _, World.ownsRow_lit w #[] 0 (Nat.le_refl _) (Nat.zero_le _) rfl, (Below.refl _ _).alloc (Nat.le_refl _) _⟩
  case round =>
    obtain ⟨m, k, f, O, hm, hf, HK, rfl, rfl, HA, HB, hOl, hown, hb⟩ := hrel
    have hbs := hb.size
    clear H0 H1
    by_cases hlt : m < s.size
    · have hks : k ≤ s.size := by have := HK.out; omega
      have hfk : f ≤ k := by have := HK.out; omega
      have hOk : O.length + 1 ≤ k := by have := HK.out; omega
      have HEx : Hid (s.extract f k = ba ((s.data.toList.take k).drop f)) := Lib.hid (extract_list s f k)
      have HA' := Lib.hid (HA.out hlt)
      have hxm := at_list hlt
      have HG : Hid (s.data.toList.getD m 0 = s[m]) := Lib.hid (by rw [List.getD_eq_getElem?_getD, hxm]; rfl)
      obtain ⟨Ac, cc, rfl⟩ := own_form hown
      clear hxm HA HB
      generalize hSg : (s.data.toList.take k).drop f = sg at *
      by_cases hend : k = s.size
      · have HR : Hid (O ++ [sg] = runs s.data.toList) := Lib.hid (by
          have := HA'.out
          rw [show s.data.toList.drop k = [] from by rw [List.drop_eq_nil_iff, len_size]; omega] at this
          exact this)
        clear HA' hSg HG
        subst hend
        have hde : ((s.size : Int) == (s.size : Int)) = true := by simp
        go_wp2_with fail
        go_quiet (fail)
        have hownq : (wr.drewN nq).ownsRow w.heap.size 9 1 (.slice Ac O.length cc) O.length (cs O) := hown
        have hbq := below_drewN hb nq
        clear hown hb hbs
        generalize wr.drewN nq = W at *
        have hbs := hbq.size
        go_wp2_with (first | (at_builtin; refine wpList_append_own _ rfl _ _ 42 rfl w.heap.size 9 i0 (.string ByteArray.empty) 1 16 Tryd.underlying42 hi hz0 hz1 hz2 rfl (by decide) _ _ _ rfl (hownq.alloc _) ⟨W.heap.size, 0, none⟩ 1 1 [.string (s.extract f s.size)] rfl rfl (cell_one_new _ _ _) (by simp [Value.oneCell']) (by unfold maxLen; omega) (by omega) (by simp; omega) ?_; intro v' w9 hown' hgrow _) | go_in)
        have hb9 : Below w.heap.size w w9 := (hbq.alloc hbs _).grown hgrow (by simp; omega) (fun g hg => (hownq.lt g hg).1)
        go_roundw
        case rel => exact ⟨m + 1, s.size + 1, s.size, O ++ [sg], by omega, by have := HK.out; omega, Lib.hid (by have := HK.out; omega), by go_num, rfl, Lib.hid (fun h => by have := HK.out; omega), Lib.hid (fun _ => HR.out), by simp; omega, by rw [List.length_append, cs_snoc, ← HEx.out]; exact hown', hb9⟩
        case measure => simp [intOf]
      · have hlt2 : k < s.size := by omega
        have hde : ((k : Int) == (s.size : Int)) = false := by simp; omega
        have hx2 := at_list hlt2
        have HG2 : Hid (s.data.toList.getD (m + 1) 0 = s[k]) := Lib.hid (by rw [← HK.out, List.getD_eq_getElem?_getD, hx2]; rfl)
        have HAt := Lib.hid (go_at hx2 (dg s[m]) sg)
        have HSn := Lib.hid (seg_snoc (f := f) hfk hx2)
        have HSn2 := Lib.hid (seg_snoc (f := k) (Nat.le_refl _) hx2)
        rw [hSg] at HSn
        have hzn : (s.data.toList.take k).drop k = [] := List.drop_eq_nil_of_le (by rw [List.length_take]; omega)
        rw [hzn, List.nil_append] at HSn2
        clear hzn
        rw [HG.out] at HA'
        have hc1 := s[m].toNat_lt
        have hc2 := s[k].toNat_lt
        have hw1 : IntKind.i64.wrap ((k : Int) - 1) = (m : Int) := by have := HK.out; rw [show (k : Int) - 1 = (m : Int) by omega]; exact IntWalk.i64_in _ (by omega)
        clear hx2 hSg
        obtain ⟨p, hp⟩ : ∃ p, dg s[m] = p := ⟨_, rfl⟩
        obtain ⟨q, hq⟩ : ∃ q, dg s[k] = q := ⟨_, rfl⟩
        have HP := Lib.hid (fun (w : World) => dig_s s[m] p w hp)
        have HQ := Lib.hid (fun (w : World) => dig_s s[k] q w hq)
        rw [hp, hq] at HAt
        rw [hp] at HA'
        have HQe := Lib.hid hq
        clear hp hq
        by_cases hpq : q = p
        · subst hpq
          have HN : Hid (O ++ runsGo (dg (s.data.toList.getD (m + 1) 0)) ((s.data.toList.take (k + 1)).drop f) (s.data.toList.drop (k + 1)) = runs s.data.toList) := Lib.hid (by
            rw [HG2.out, HQe.out, HSn.out, ← HA'.out, HAt.out, if_pos rfl])
          have hne : (q != q) = false := by simp
          clear HA' HAt HSn HSn2 HG HG2 HQe HEx
          go_wp2_with fail
          go_quiet ((first | (go_at_call 40; with_reducible exact Calls.quiet_of_same (HQ.out _)) | (go_at_call 40; with_reducible exact Calls.quiet_of_same (HP.out _))))
          go_wp2_with fail
          go_roundw
          case rel => exact ⟨m + 1, k + 1, f, O, by omega, by omega, Lib.hid (by have := HK.out; omega), by go_num, rfl, Lib.hid (fun _ => HN.out), Lib.hid (fun h => by have := HK.out; omega), by omega, hown, below_drewN hb _⟩
          case measure => simp [intOf]; omega
        · have HN : Hid (O ++ [sg] ++ runsGo (dg (s.data.toList.getD (m + 1) 0)) ((s.data.toList.take (k + 1)).drop k) (s.data.toList.drop (k + 1)) = runs s.data.toList) := Lib.hid (by
            rw [HG2.out, HQe.out, HSn2.out, ← HA'.out, HAt.out, if_neg hpq, List.append_assoc]; rfl)
          obtain rfl : q = !p := by cases p <;> cases q <;> simp_all
          have hne : ((!p) != p) = true := by cases p <;> rfl
          clear HA' HAt HSn HSn2 HG HG2 HQe hpq
          cases p
          all_goals (try simp only [Bool.not_true, Bool.not_false] at HQ)
          · go_wp2_with fail
            go_quiet ((first | (go_at_call 40; with_reducible exact Calls.quiet_of_same (HQ.out _)) | (go_at_call 40; with_reducible exact Calls.quiet_of_same (HP.out _))))
            have hownq : (wr.drewN nq).ownsRow w.heap.size 9 1 (.slice Ac O.length cc) O.length (cs O) := hown
            have hbq := below_drewN hb nq
            clear hown hb hbs
            generalize wr.drewN nq = W at *
            have hbs := hbq.size
            go_wp2_with (first | (at_builtin; refine wpList_append_own _ rfl _ _ 42 rfl w.heap.size 9 i0 (.string ByteArray.empty) 1 16 Tryd.underlying42 hi hz0 hz1 hz2 rfl (by decide) _ _ _ rfl (hownq.alloc _) ⟨W.heap.size, 0, none⟩ 1 1 [.string (s.extract f k)] rfl rfl (cell_one_new _ _ _) (by simp [Value.oneCell']) (by unfold maxLen; omega) (by omega) (by simp; omega) ?_; intro v' w9 hown' hgrow _) | go_in)
            have hb9 : Below w.heap.size w w9 := (hbq.alloc hbs _).grown hgrow (by simp; omega) (fun g hg => (hownq.lt g hg).1)
            go_roundw
            case rel => exact ⟨m + 1, k + 1, k, O ++ [sg], by omega, by have := HK.out; omega, Lib.hid (by have := HK.out; omega), by go_num, rfl, Lib.hid (fun _ => HN.out), Lib.hid (fun h => by have := HK.out; omega), by simp; omega, by rw [List.length_append, cs_snoc, ← HEx.out]; exact hown', hb9⟩
            case measure => simp [intOf]; omega
          · go_wp2_with fail
            go_quiet ((first | (go_at_call 40; with_reducible exact Calls.quiet_of_same (HQ.out _)) | (go_at_call 40; with_reducible exact Calls.quiet_of_same (HP.out _))))
            have hownq : (wr.drewN nq).ownsRow w.heap.size 9 1 (.slice Ac O.length cc) O.length (cs O) := hown
            have hbq := below_drewN hb nq
            clear hown hb hbs
            generalize wr.drewN nq = W at *
            have hbs := hbq.size
            go_wp2_with (first | (at_builtin; refine wpList_append_own _ rfl _ _ 42 rfl w.heap.size 9 i0 (.string ByteArray.empty) 1 16 Tryd.underlying42 hi hz0 hz1 hz2 rfl (by decide) _ _ _ rfl (hownq.alloc _) ⟨W.heap.size, 0, none⟩ 1 1 [.string (s.extract f k)] rfl rfl (cell_one_new _ _ _) (by simp [Value.oneCell']) (by unfold maxLen; omega) (by omega) (by simp; omega) ?_; intro v' w9 hown' hgrow _) | go_in)
            have hb9 : Below w.heap.size w w9 := (hbq.alloc hbs _).grown hgrow (by simp; omega) (fun g hg => (hownq.lt g hg).1)
            go_roundw
            case rel => exact ⟨m + 1, k + 1, k, O ++ [sg], by omega, by have := HK.out; omega, Lib.hid (by have := HK.out; omega), by go_num, rfl, Lib.hid (fun _ => HN.out), Lib.hid (fun h => by have := HK.out; omega), by simp; omega, by rw [List.length_append, cs_snoc, ← HEx.out]; exact hown', hb9⟩
            case measure => simp [intOf]; omega
    · obtain rfl : m = s.size := by omega
      have hdl : decide (k ≤ s.size) = false := by have := HK.out; simp; omega
      have HE := Lib.hid (HB.out rfl)
      go_wp2_with fail
      go_ret
      exact ⟨_, rfl, by rw [← HE.out]; exact hown, hb⟩
end Go.Proofs.YthacdkbjefpoaaaDoor.Nc
