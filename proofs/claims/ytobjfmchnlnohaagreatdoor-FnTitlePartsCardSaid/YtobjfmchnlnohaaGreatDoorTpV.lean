/-
  What the functions of the law FnTitleParts answer, over letters; the law's helper rTexts.
-/
import Derived.Test.YtobjfmchnlnohaaGreatDoorTpPl
import Derived.Test.YtobjfmchnlnohaaGreatDoorSh
import Derived.Test.YtobjfmchnlnohaaGreatDoorPo
import Derived.Test.YtobjfmchnlnohaaGreatDoorPlT
import Derived.Test.YtobjfmchnlnohaaGreatDoorSo3
import Derived.Test.YtobjfmchnlnohaaGreatDoorWt
import Derived.Test.YtobjfmchnlnohaaGreatDoorStrs
namespace Go.Proofs.YtobjfmchnlnohaaGreatDoor.Tp
open Go.RowKit Pl NmPl TiPl Kt Ti Mk Cs Jo So Sh Po
set_option linter.unusedSimpArgs false
set_option linter.unusedVariables false

theorem list_ext {a b : ByteArray} (h : a.data.toList = b.data.toList) : a = b := by rw [← ba_toList a, h, ba_toList]
theorem three (l : List UInt8) (p : Nat) {c d : UInt8} (hc : l[p]? = some c) (hd : l[p + 1]? = some d) : l.take p ++ ([c, d] ++ l.drop (p + 2)) = l := by
  obtain ⟨h1, rfl⟩ := List.getElem?_eq_some_iff.1 hc
  obtain ⟨h2, rfl⟩ := List.getElem?_eq_some_iff.1 hd
  conv => rhs; rw [← List.take_append_drop p l, List.drop_eq_getElem_cons h1, List.drop_eq_getElem_cons h2]
  rfl
theorem sub_vals (s : ByteArray) (h : okT s.data.toList = true) :
    suV s = .tuple #[.string s, .string ⟨#[]⟩, .bool true] ∨
    (∃ m b : ByteArray, suV s = .tuple #[.string m, .string b, .bool true] ∧ m.size ≤ s.size ∧ 0 < b.size ∧ m ++ (⟨#[58, 32]⟩ : ByteArray) ++ b = s) ∨
    suV s = .tuple #[.string ⟨#[]⟩, .string ⟨#[]⟩, .bool false] := by
  unfold suV
  rw [if_pos h]
  by_cases hs : sub s.data.toList < 0
  · rw [if_pos hs]; exact .inl rfl
  · rw [if_neg hs]
    by_cases hp : TiPl.part (s.data.toList.take (sub s.data.toList).toNat) = true ∧ TiPl.part (s.data.toList.drop ((sub s.data.toList).toNat + 2)) = true
    · rw [if_pos hp]
      right; left
      obtain ⟨p, hpe⟩ := Int.eq_ofNat_of_zero_le (show 0 ≤ sub s.data.toList by omega)
      rw [hpe] at hp ⊢
      rw [Int.toNat_natCast] at hp ⊢
      obtain ⟨h1, _, ⟨c, hc, hc'⟩, d, hd, hd'⟩ := occ_inv (index_some (show Lib.index (mk s.data.toList) [58, 32] = (p : Int) from hpe))
      have e1 : c = 58 := UInt8.toNat_inj.1 hc'
      have e2 : d = 32 := UInt8.toNat_inj.1 hd'
      subst e1 e2
      have hl := len_size s
      refine ⟨_, _, rfl, ?_, ?_, list_ext ?_⟩
      · rw [extract_list, ba_size, List.drop_zero, List.length_take, len_size]; omega
      · have := hp.2
        unfold TiPl.part at this
        simp only [Bool.and_eq_true, decide_eq_true_eq] at this
        rw [extract_list, ba_size, List.take_of_length_le (by omega)]
        omega
      · rw [ba_cat, ba_cat, extract_list, extract_list, toList_ba, toList_ba, List.take_of_length_le (show s.data.toList.length ≤ s.size by omega), List.drop_zero, List.append_assoc]
        exact three _ p hc hd
    · rw [if_neg hp]; exact .inr (.inr rfl)
theorem short_val (m : ByteArray) : ∃ z : ByteArray, shV m true 20 = .tuple #[.string z, .bool true] := by
  unfold shV
  rw [if_pos ⟨by omega, rfl⟩]
  exact ⟨_, rfl⟩
theorem pl_pw (u x : List UInt8) : pl (pw u x) = pl x := by
  unfold pw
  split
  · exact pl_in x
  · rfl
theorem prot_vals (s u : ByteArray) (h : okT s.data.toList = true) : (∃ p : ByteArray, p.size ≤ 1000 ∧ prV s u = .tuple #[.string p, .bool true] ∧ okT p.data.toList = true ∧ pl p.data.toList = pl s.data.toList) ∨ prV s u = .tuple #[.string ⟨#[]⟩, .bool false] := by
  by_cases hc : okT s.data.toList = true ∧ okU u.data.toList = true ∧ okT (prJ s.data.toList u.data.toList) = true
  · left
    refine ⟨ba (prJ s.data.toList u.data.toList), ?_, by unfold prV; rw [if_pos hc], by rw [toList_ba]; exact hc.2.2, ?_⟩
    · have := okT_size hc.2.2
      rw [ba_size]; omega
    · rw [toList_ba]
      unfold prJ
      rw [pl_map _ (pl_pw _), words_join]
  · right; exact prV_no hc
def pnV (s : ByteArray) : Value := if okT s.data.toList = true then .tuple #[.string (ba (pl s.data.toList)), .bool true] else .tuple #[.string ⟨#[]⟩, .bool false]
theorem same_vals (s p : ByteArray) (hs : okT s.data.toList = true) (hp : okT p.data.toList = true) (e : pl p.data.toList = pl s.data.toList) :
    ∃ t q : ByteArray, pnV s = .tuple #[.string t, .bool true] ∧ pnV p = .tuple #[.string t, .bool true] ∧ sortV s = .tuple #[.string q, .bool true] ∧ sortV p = .tuple #[.string q, .bool true] := by
  unfold pnV sortV
  rw [if_pos hs, if_pos hp, if_pos hs, if_pos hp, e]
  exact ⟨_, _, rfl, rfl, rfl, rfl⟩
theorem word_vals (s : ByteArray) (hs : s.size ≤ 200) (h : okT s.data.toList = true) : ∃ J : Nat → ByteArray, J 0 = ⟨#[]⟩ ∧ (∀ i, (J i).size ≤ 1000) ∧
    (∀ x : ByteArray, (Wt.answer s.data.toList)[0]? = some x → J 1 = J 0 ++ x) ∧ (∀ (i : Nat) (x : ByteArray), 0 < i → (Wt.answer s.data.toList)[i]? = some x → J (i + 1) = J i ++ (⟨#[32]⟩ : ByteArray) ++ x) ∧ J (Wt.answer s.data.toList).length = s ∧
    (∀ (i : Nat) (x : ByteArray), (Wt.answer s.data.toList)[i]? = some x → x.size ≤ 1000) := by
  have ho := words_off s.data.toList
  have hl := len_size s
  have ha : Wt.answer s.data.toList = (words s.data.toList).map ba := by unfold Wt.answer; rw [if_pos h]
  refine ⟨fun i => ba (jL ((words s.data.toList).take i)), ?_, fun i => ?_, fun x hx => ?_, fun i x hi hx => ?_, ?_, fun i x hx => ?_⟩
  · show ba (jL ((words s.data.toList).take 0)) = _
    rfl
  · show (ba (jL ((words s.data.toList).take i))).size ≤ 1000
    rw [ba_size]
    have h1 := jL_len ((words s.data.toList).take i)
    have h2 := off_take (words s.data.toList) i
    omega
  · show ba (jL ((words s.data.toList).take 1)) = ba (jL ((words s.data.toList).take 0)) ++ x
    rw [ha, List.getElem?_map] at hx
    cases hw : (words s.data.toList)[0]? with
    | none => rw [hw] at hx; cases hx
    | some y =>
      rw [hw] at hx
      cases hx
      rw [List.take_add_one, hw]
      apply list_ext
      rw [ba_cat, toList_ba, toList_ba, toList_ba]
      show jL ([] ++ [y]) = jL [] ++ y
      rw [List.nil_append, jL_one]; rfl
  · show ba (jL ((words s.data.toList).take (i + 1))) = ba (jL ((words s.data.toList).take i)) ++ _ ++ x
    rw [ha, List.getElem?_map] at hx
    cases hw : (words s.data.toList)[i]? with
    | none => rw [hw] at hx; cases hx
    | some y =>
      rw [hw] at hx
      cases hx
      have hne : (words s.data.toList).take i ≠ [] := fun e => by
        rcases List.take_eq_nil_iff.1 e with h0 | h0
        · omega
        · exact absurd h0 (by simp [words])
      rw [List.take_add_one, hw]
      apply list_ext
      rw [ba_cat, ba_cat, toList_ba, toList_ba, toList_ba]
      show jL (_ ++ [y]) = _
      rw [jL_snoc hne]
      simp
  · show ba (jL ((words s.data.toList).take _)) = s
    rw [ha, List.length_map, List.take_length, words_join, ba_toList]
  · rw [ha, List.getElem?_map] at hx
    cases hw : (words s.data.toList)[i]? with
    | none => rw [hw] at hx; cases hx
    | some y =>
      rw [hw] at hx
      cases hx
      have h1 := wd_room hw
      rw [ba_size]; omega
set_option maxHeartbeats 400000 in
theorem rTexts_same (A1 A2 : Option Addr) (c1 c2 n : Nat) (xs : List ByteArray) (w : World) (h1 : Strs.RdS w A1 xs) (h2 : Strs.RdS w A2 xs) (hn : xs.length = n) (hl : n ≤ 2097152) :
    Calls Tryz.prog 8 #[.slice A1 n c1, .slice A2 n c2] w fun e w' => e = .returned (.bool true) ∧ ∃ n, w' = w.drewN n := by
  have H1 := Lib.hid h1
  have H2 := Lib.hid h2
  have HN := Lib.hid hn
  clear h1 h2 hn
  go_enter Tryz.func8, Tryz.ntmps8
  go_wp2
  go_loopw [5] (fun i wr => ∃ k : Nat, k ≤ n ∧ i = .int .i64 k ∧ ∃ q, wr = w.drewN q) (fun i _ => n - (intOf i).toNat)
  case atStart => exact ⟨0, Nat.zero_le _, rfl, 0, rfl⟩
  case round =>
    obtain ⟨k, hk, rfl, q, rfl⟩ := hrel
    by_cases hlt : k < n
    · have hx : k < xs.length := by have := HN.out; omega
      obtain ⟨g1, o1, rfl, hc1⟩ := H1.out k xs[k] (List.getElem?_eq_getElem hx)
      obtain ⟨g2, o2, rfl, hc2⟩ := H2.out k xs[k] (List.getElem?_eq_getElem hx)
      generalize xs[k] = x at hc1 hc2
      go_wp2
      go_quiet (fail)
      go_wp2
      go_roundw
      case rel => exact ⟨k + 1, by omega, by go_num, _, rfl⟩
      case measure => simp [intOf]; omega
    · go_wp2
      go_ret
      exact ⟨rfl, _, rfl⟩
end Go.Proofs.YtobjfmchnlnohaaGreatDoor.Tp
