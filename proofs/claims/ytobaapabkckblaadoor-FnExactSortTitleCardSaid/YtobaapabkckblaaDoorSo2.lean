/-
  Contracts of l6Simple, l6Sort of the model and of SortTitle of both.
-/
import Derived.Test.YtobaapabkckblaaDoorSo
import Derived.Test.YtobaapabkckblaaDoorTi
import Derived.OwnWalk
namespace Go.Proofs.YtobaapabkckblaaDoor.So
open Go.RowKit Pl NmPl TiPl Word Lt Ra Ca Jo Cs Ti Kt
set_option linter.unusedVariables false
set_option linter.unusedSimpArgs false

/-- rows of different types lie in different blocks -/
theorem own_types {w : World} {b0 b1 : Nat} {e0 e1 : TypeId} {s0 s1 : Nat} {v0 v1 : Value} {n0 n1 : Nat} {xs ys : List Value} (he : e0 ≠ e1) (h0 : w.ownsRow b0 e0 s0 v0 n0 xs) (h1 : w.ownsRow b1 e1 s1 v1 n1 ys) : v0.ownBlock = none ∨ v0.ownBlock ≠ v1.ownBlock := by
  rcases h0.2 with ⟨rfl, _⟩ | ⟨g, cap, cur, rfl, _, hg, _⟩
  · exact .inl rfl
  · refine .inr fun e => ?_
    rcases h1.2 with ⟨rfl, _⟩ | ⟨g', cap', cur', rfl, _, hg', _⟩
    · cases e
    · simp [Value.ownBlock] at e
      subst e
      rw [hg] at hg'
      simp at hg'
      exact he hg'.2
theorem own_form {w : World} {b : Nat} {e : TypeId} {sz : Nat} {v : Value} {n : Nat} {xs : List Value} (h : w.ownsRow b e sz v n xs) : ∃ A c, v = .slice A n c := by
  rcases h.2 with ⟨rfl, rfl⟩ | ⟨g, cap, cur, rfl, _⟩
  · exact ⟨none, 0, rfl⟩
  · exact ⟨_, _, rfl⟩
theorem dg_low (c : UInt8) : isDg c = isDg c := rfl

set_option maxRecDepth 100000 in
set_option maxHeartbeats 8000000 in
theorem simple_s (s : ByteArray) (w : World) (hs : s.size ≤ 1048576) :
    Calls Tryd.prog 51 #[.string s] w fun e w' => ∃ v, e = .returned v ∧ w'.ownsRow w.heap.size 9 1 v (simple s.data.toList).length (cs (simple s.data.toList)) ∧ Below w.heap.size w w' := by
  obtain ⟨i0, hi, hz0, hz1, hz2⟩ := info_parts infoStr
  obtain ⟨j0, hj, hy0, hy1, hy2⟩ := info_parts Bt.infoByte
  go_enter Tryd.func51, Tryd.ntmps51
  go_wp2
  go_loopw [3, 4, 5] (fun vo vc i wr => ∃ (k : Nat) (O : List (List UInt8)) (cur : List UInt8), k ≤ s.size + 1 ∧ i = .int .i64 k ∧ Hid (O ++ smRest s.data.toList k cur = simple s.data.toList) ∧ O.length ≤ k ∧ cur.length ≤ k ∧
      wr.ownsRow w.heap.size 9 1 vo O.length (cs O) ∧ wr.ownsRow w.heap.size 5 1 vc cur.length (Lib.byteCells cur) ∧ Below w.heap.size w wr) (fun _ _ i _ => s.size + 1 - (intOf i).toNat)
  case atStart => exact ⟨0, [], [], by omega, rfl, Lib.hid (by simp [smRest, simple]), Nat.le_refl _, Nat.le_refl _, (World.ownsRow_lit w #[] 0 (Nat.le_refl _) (Nat.zero_le _) rfl).alloc _, (by have h := World.ownsRow_lit (e := 5) (size := 1) (w.alloc (.cells #[] 9)) #[] 0 (Nat.le_refl _) (Nat.zero_le _) rfl; have h2 := row_base (show w.heap.size ≤ (w.alloc (.cells #[] 9)).heap.size by simp) h; rw [World.size_alloc] at h2; exact h2), ((Below.refl _ _).alloc (Nat.le_refl _) _).alloc (by simp) _⟩
  case round =>
    obtain ⟨k, O, cur, hk, rfl, HR, hOl, hcl, hown, hcur, hbe⟩ := hrel
    have hbs := hbe.size
    obtain ⟨Ac, cc, rfl⟩ := own_form hcur
    by_cases hle : k ≤ s.size
    · have hdle : decide (k ≤ s.size) = true := by simpa using hle
      by_cases hke : k = s.size
      · subst hke
        have HRk : Hid (smRest s.data.toList s.size cur = flush cur) := Lib.hid (by rw [← len_size]; exact rest_end _ _)
        have HRo : Hid (smRest s.data.toList (s.size + 1) [] = []) := Lib.hid (by rw [← len_size]; exact rest_over _ _)
        have hdeq : ((s.size : Int) == (s.size : Int)) = true := by simp
        by_cases hce : cur = []
        · subst hce
          have HN : Hid (O ++ smRest s.data.toList (s.size + 1) [] = simple s.data.toList) := Lib.hid (by have := HR.out; rw [HRk.out] at this; rw [HRo.out]; simpa [flush] using this)
          go_wp2_with fail
          go_roundw
          case rel => exact ⟨s.size + 1, O, [], by omega, by go_num, HN, by omega, by simp, hown.alloc _, row_base hbs (World.ownsRow_lit wr #[] 0 (Nat.le_refl _) (Nat.zero_le _) rfl), hbe.alloc hbs _⟩
          case measure => simp [intOf] <;> omega
        · have hcp : 0 < cur.length := List.length_pos_iff.2 hce
          have HN : Hid (O ++ [cur] ++ smRest s.data.toList (s.size + 1) [] = simple s.data.toList) := Lib.hid (by have := HR.out; rw [HRk.out] at this; rw [HRo.out]; simpa [flush, hce] using this)
          have hcv := Bt.own_str hcur
          have hcap := own_types (by decide) hcur hown
          clear hce
          go_wp2_with (first | (at_builtin; refine wpList_append_own _ rfl _ _ 29 rfl w.heap.size 9 i0 (.string ByteArray.empty) 1 16 Tryd.underlying29 hi hz0 hz1 hz2 rfl (by decide) _ _ _ rfl (hown.alloc _) ⟨wr.heap.size, 0, none⟩ 1 1 [.string (ba cur)] rfl rfl (cell_one_new _ _ _) (by simp [Value.oneCell']) (by unfold maxLen; omega) (by omega) (by simp; omega) ?_; intro v' w9 hown' hgrow _) | go_in)
          have hb9 : Below w.heap.size w w9 := (hbe.alloc hbs _).grown hgrow (by simp; omega) (fun g hg => (hown.lt g hg).1)
          go_roundw
          case rel => exact ⟨s.size + 1, O ++ [cur], [], by omega, by go_num, HN, by simp; omega, by simp, by rw [List.length_append, cs_snoc]; exact hown'.alloc _, row_base hb9.size (World.ownsRow_lit w9 #[] 0 (Nat.le_refl _) (Nat.zero_le _) rfl), hb9.alloc hb9.size _⟩
          case measure => simp [intOf] <;> omega
      · have hlt : k < s.size := by omega
        have hdeq : ((k : Int) == (s.size : Int)) = false := by simp; omega
        have hx : s.data.toList[k]? = some s[k] := by rw [List.getElem?_eq_getElem (by rw [len_size]; exact hlt)]; rfl
        have HAt := Lib.hid (rest_at hx cur)
        have hcl2 := s[k].toNat_lt
        clear hx hke
        by_cases h32 : s[k].toNat = 32
        · have hb32 : ((s[k].toNat : Int) == 32) = true := by simp [h32]
          have HRk : Hid (smRest s.data.toList k cur = flush cur ++ smRest s.data.toList (k + 1) []) := Lib.hid (by rw [HAt.out, if_pos h32])
          clear h32
          by_cases hce : cur = []
          · subst hce
            have HN : Hid (O ++ smRest s.data.toList (k + 1) [] = simple s.data.toList) := Lib.hid (by have := HR.out; rw [HRk.out] at this; simpa [flush] using this)
            go_wp2_with fail
            go_roundw
            case rel => exact ⟨k + 1, O, [], by omega, by go_num, HN, by omega, by simp, hown.alloc _, row_base hbs (World.ownsRow_lit wr #[] 0 (Nat.le_refl _) (Nat.zero_le _) rfl), hbe.alloc hbs _⟩
            case measure => simp [intOf] <;> omega
          · have hcp : 0 < cur.length := List.length_pos_iff.2 hce
            have HN : Hid (O ++ [cur] ++ smRest s.data.toList (k + 1) [] = simple s.data.toList) := Lib.hid (by have := HR.out; rw [HRk.out] at this; simpa [flush, hce] using this)
            have hcv := Bt.own_str hcur
            have hcap := own_types (by decide) hcur hown
            clear hce
            go_wp2_with (first | (at_builtin; refine wpList_append_own _ rfl _ _ 29 rfl w.heap.size 9 i0 (.string ByteArray.empty) 1 16 Tryd.underlying29 hi hz0 hz1 hz2 rfl (by decide) _ _ _ rfl (hown.alloc _) ⟨wr.heap.size, 0, none⟩ 1 1 [.string (ba cur)] rfl rfl (cell_one_new _ _ _) (by simp [Value.oneCell']) (by unfold maxLen; omega) (by omega) (by simp; omega) ?_; intro v' w9 hown' hgrow _) | go_in)
            have hb9 : Below w.heap.size w w9 := (hbe.alloc hbs _).grown hgrow (by simp; omega) (fun g hg => (hown.lt g hg).1)
            go_roundw
            case rel => exact ⟨k + 1, O ++ [cur], [], by omega, by go_num, HN, by simp; omega, by simp, by rw [List.length_append, cs_snoc]; exact hown'.alloc _, row_base hb9.size (World.ownsRow_lit w9 #[] 0 (Nat.le_refl _) (Nat.zero_le _) rfl), hb9.alloc hb9.size _⟩
            case measure => simp [intOf] <;> omega
        · have hb32 : ((s[k].toNat : Int) == 32) = false := by simp; omega
          have HL := Lib.hid (fun w => low_s s[k] w)
          have hlc := (Lib.lowerB s[k]).toNat_lt
          have hap := own_types (by decide) hown hcur
          cases h1 : isLt s[k] with
          | true =>
            have H1 := Lib.hid (fun w => letter_s s[k] true w h1)
            have HN : Hid (O ++ smRest s.data.toList (k + 1) (cur ++ [Lib.lowerB s[k]]) = simple s.data.toList) := Lib.hid (by rw [← HR.out, HAt.out, if_neg h32, if_pos (by simp [h1])])
            clear h1 h32
            go_wp2_with fail
            refine (H1.out _).mono ?_
            rintro e w' ⟨rfl, rfl⟩
            go_wp2_with fail
            refine (HL.out _).mono ?_
            rintro e w' ⟨rfl, rfl⟩
            go_wp2_with (first | (at_builtin; refine wpList_append_own _ rfl _ _ 41 rfl w.heap.size 5 j0 (.int .u8 0) 1 1 Tryd.underlying41 hj hy0 hy1 hy2 rfl (by decide) _ _ _ rfl (hcur.alloc _) ⟨wr.heap.size, 0, none⟩ 1 1 [.int .u8 (Lib.lowerB s[k]).toNat] rfl rfl (cell_one_new _ _ _) (by simp [Value.oneCell']) (by unfold maxLen; omega) (by omega) (by simp; omega) ?_; intro v' w9 hcur' hgrow _) | go_in)
            have hb9 : Below w.heap.size w w9 := (hbe.alloc hbs _).grown hgrow (by simp; omega) (fun g hg => (hcur.lt g hg).1)
            go_roundw
            case rel => exact ⟨k + 1, O, cur ++ [Lib.lowerB s[k]], by omega, by go_num, HN, by omega, by simp; omega, (hown.alloc _).kept hgrow hap, by rw [List.length_append, ← Bt.bc_snoc]; exact hcur', hb9⟩
            case measure => simp [intOf] <;> omega
          | false =>
            have H1 := Lib.hid (fun w => letter_s s[k] false w h1)
            cases h2 : isDg s[k] with
            | true =>
              have H2 := Lib.hid (fun w => dig_s s[k] true w h2)
              have HN : Hid (O ++ smRest s.data.toList (k + 1) (cur ++ [Lib.lowerB s[k]]) = simple s.data.toList) := Lib.hid (by rw [← HR.out, HAt.out, if_neg h32, if_pos (by simp [h2])])
              clear h1 h2 h32
              go_wp2_with fail
              refine (H1.out _).mono ?_
              rintro e w' ⟨rfl, rfl⟩
              go_wp2_with fail
              refine (H2.out _).mono ?_
              rintro e w' ⟨rfl, rfl⟩
              go_wp2_with fail
              refine (HL.out _).mono ?_
              rintro e w' ⟨rfl, rfl⟩
              go_wp2_with (first | (at_builtin; refine wpList_append_own _ rfl _ _ 41 rfl w.heap.size 5 j0 (.int .u8 0) 1 1 Tryd.underlying41 hj hy0 hy1 hy2 rfl (by decide) _ _ _ rfl (hcur.alloc _) ⟨wr.heap.size, 0, none⟩ 1 1 [.int .u8 (Lib.lowerB s[k]).toNat] rfl rfl (cell_one_new _ _ _) (by simp [Value.oneCell']) (by unfold maxLen; omega) (by omega) (by simp; omega) ?_; intro v' w9 hcur' hgrow _) | go_in)
              have hb9 : Below w.heap.size w w9 := (hbe.alloc hbs _).grown hgrow (by simp; omega) (fun g hg => (hcur.lt g hg).1)
              go_roundw
              case rel => exact ⟨k + 1, O, cur ++ [Lib.lowerB s[k]], by omega, by go_num, HN, by omega, by simp; omega, (hown.alloc _).kept hgrow hap, by rw [List.length_append, ← Bt.bc_snoc]; exact hcur', hb9⟩
              case measure => simp [intOf] <;> omega
            | false =>
              have H2 := Lib.hid (fun w => dig_s s[k] false w h2)
              have HN : Hid (O ++ smRest s.data.toList (k + 1) cur = simple s.data.toList) := Lib.hid (by rw [← HR.out, HAt.out, if_neg h32, if_neg (by simp [h1, h2])])
              clear h1 h2 h32
              go_wp2_with fail
              refine (H1.out _).mono ?_
              rintro e w' ⟨rfl, rfl⟩
              go_wp2_with fail
              refine (H2.out _).mono ?_
              rintro e w' ⟨rfl, rfl⟩
              go_wp2_with fail
              go_roundw
              case rel => exact ⟨k + 1, O, cur, by omega, by go_num, HN, by omega, by omega, hown, hcur, hbe⟩
              case measure => simp [intOf] <;> omega
    · have hdle : decide (k ≤ s.size) = false := by simpa using hle
      obtain rfl : k = s.size + 1 := by omega
      have HE : Hid (O = simple s.data.toList) := Lib.hid (by rw [← HR.out, ← len_size, rest_over, List.append_nil])
      go_wp2_with fail
      go_ret
      exact ⟨_, rfl, by rw [← HE.out]; exact hown, hbe⟩
end Go.Proofs.YtobaapabkckblaaDoor.So
