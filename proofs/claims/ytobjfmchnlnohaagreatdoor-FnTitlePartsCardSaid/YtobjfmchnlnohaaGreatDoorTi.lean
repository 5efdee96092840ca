/-
  Contracts of hasPairedBraces, IsValidTitle, l6Good: titles.
-/
import Derived.Test.YtobjfmchnlnohaaGreatDoorTiPl
import Derived.Test.YtobjfmchnlnohaaGreatDoorPr
import Derived.Test.YtobjfmchnlnohaaGreatDoorShelf
import Derived.Test.YtobjfmchnlnohaaGreatDoorL1In
import Derived.Lib.IndexMore
namespace Go.Proofs.YtobjfmchnlnohaaGreatDoor.Ti
open Go.RowKit Pl NmPl TiPl Kt
set_option linter.unusedSimpArgs false
set_option linter.unusedVariables false

/-- the library's variable MaxLen holds some integer -/
def ML (w : World) : Prop := ∃ m, w.cell? ⟨1, 0, none⟩ = some (.int .i64 m)
theorem lt_of_cell' {w : World} {b o : Nat} {v : Value} (h : w.cell? ⟨b, o, none⟩ = some v) : b < w.heap.size := by
  rcases Nat.lt_or_ge b w.heap.size with h' | h'
  · exact h'
  · exfalso
    have : w.heap[b]? = none := Array.getElem?_eq_none h'
    simp [World.cell?, this] at h
theorem ML.below {w w' : World} (h : ML w) (hb : Below w.heap.size w w') : ML w' := by
  obtain ⟨m, hm⟩ := h
  exact ⟨m, (hb.cell (p := ⟨_, 0, none⟩) (lt_of_cell' hm)).trans hm⟩
theorem br_at (s : ByteArray) (k : Nat) (z : Int) (h : k < s.size) : br (s.data.toList.drop k) k z =
    if s[k].toNat = 123 then (if 0 ≤ z then false else br (s.data.toList.drop (k + 1)) (k + 1) k)
    else if s[k].toNat = 125 then (if z < 0 ∨ z = (k : Int) - 1 then false else br (s.data.toList.drop (k + 1)) (k + 1) (-1))
    else br (s.data.toList.drop (k + 1)) (k + 1) z := by
  rw [drop_cons s k h]
  rfl
theorem br_end (s : ByteArray) (k : Nat) (z : Int) (h : s.size ≤ k) : br (s.data.toList.drop k) k z = decide (z < 0) := by
  rw [drop_all s k h]
  rfl

set_option maxHeartbeats 4000000 in
theorem paired (s : ByteArray) (r : Bool) (w : World) (hs : s.size ≤ 1048576) (hr : br s.data.toList 0 (-1) = r) : Calls Tryz.prog 46 #[.string s] w fun e w' => e = .returned (.bool r) ∧ w = w' := by
  have HR := Lib.hid hr
  clear hr
  go_enter Tryz.func46, Tryz.ntmps46
  go_wp2_with fail
  go_loop [3, 7] (fun o i => ∃ (k : Nat) (z : Int), k ≤ s.size ∧ -1 ≤ z ∧ z < k ∧ i = .int .i64 k ∧ o = .int .i64 z ∧ Hid (br (s.data.toList.drop k) k z = r)) (fun _ i => s.size - (intOf i).toNat)
  case atStart => exact ⟨0, -1, Nat.zero_le _, by omega, by omega, rfl, rfl, HR⟩
  case round =>
    obtain ⟨k, z, hk, hz1, hz2, rfl, rfl, HD⟩ := hrel
    by_cases hlt : k < s.size
    · have HA := Lib.hid (br_at s k z hlt)
      have hcl := s[k].toNat_lt
      by_cases h1 : s[k].toNat = 123
      · have HC := Lib.hid h1
        have hb1 : ((s[k].toNat : Int) == 123) = true := by simp [h1]
        by_cases h2 : 0 ≤ z
        · have HF : Hid (r = false) := Lib.hid (by rw [← HD.out, HA.out, if_pos HC.out, if_pos h2])
          clear h1
          go_wp2_with fail
          go_ret
          exact ⟨by rw [HF.out]; rfl, rfl⟩
        · have hd : decide (0 ≤ z) = false := by simpa using h2
          have HN : Hid (br (s.data.toList.drop (k + 1)) (k + 1) k = r) := Lib.hid (by rw [← HD.out, HA.out, if_pos HC.out, if_neg h2])
          clear h1 h2
          go_wp2_with fail
          go_round
          case rel => exact ⟨k + 1, k, by omega, by omega, by omega, by go_num, rfl, HN⟩
          case measure => simp [intOf]; omega
      · have hb1 : ((s[k].toNat : Int) == 123) = false := by simp; omega
        by_cases h3 : s[k].toNat = 125
        · have HC := Lib.hid h3
          have hb2 : ((s[k].toNat : Int) == 125) = true := by simp [h3]
          by_cases h4 : z < 0
          · have HF : Hid (r = false) := Lib.hid (by rw [← HD.out, HA.out, if_neg h1, if_pos HC.out, if_pos (.inl h4)])
            have hd : decide (z < 0) = true := by simpa using h4
            clear h1 h3
            go_wp2_with fail
            go_ret
            exact ⟨by rw [HF.out]; rfl, rfl⟩
          · have hd : decide (z < 0) = false := by simpa using h4
            by_cases h5 : z = (k : Int) - 1
            · have HF : Hid (r = false) := Lib.hid (by rw [← HD.out, HA.out, if_neg h1, if_pos HC.out, if_pos (.inr h5)])
              have hd2 : (z == (k : Int) - 1) = true := by simpa using h5
              clear h1 h3 h5
              go_wp2_with fail
              go_ret
              exact ⟨by rw [HF.out]; rfl, rfl⟩
            · have hd2 : (z == (k : Int) - 1) = false := by simpa using h5
              have HN : Hid (br (s.data.toList.drop (k + 1)) (k + 1) (-1) = r) := Lib.hid (by rw [← HD.out, HA.out, if_neg h1, if_pos HC.out, if_neg (by omega)])
              clear h1 h3 h5
              go_wp2_with fail
              go_round
              case rel => exact ⟨k + 1, -1, by omega, by omega, by omega, by go_num, rfl, HN⟩
              case measure => simp [intOf]; omega
        · have hb2 : ((s[k].toNat : Int) == 125) = false := by simp; omega
          have HN : Hid (br (s.data.toList.drop (k + 1)) (k + 1) z = r) := Lib.hid (by rw [← HD.out, HA.out, if_neg h1, if_neg h3])
          clear h1 h3
          go_wp2_with fail
          go_round
          case rel => exact ⟨k + 1, z, by omega, by omega, by omega, by go_num, rfl, HN⟩
          case measure => simp [intOf]; omega
    · have HF : Hid (r = decide (z < 0)) := Lib.hid (by rw [← HD.out, br_end s k z (by omega)])
      go_wp2_with fail
      go_ret
      exact ⟨by rw [HF.out]; rfl, rfl⟩

set_option maxHeartbeats 4000000 in
theorem isValidT (s : ByteArray) (r : Bool) (w : World) (hml : ML w) (hs : s.size ≤ 1048576) (hr : okT s.data.toList = r) : Calls Tryz.prog 21 #[.string s] w fun e w' => e = .returned (.bool r) ∧ w = w' := by
  obtain ⟨m, hm⟩ := hml
  have HR : Hid (r = (decide (1 ≤ s.size ∧ s.size ≤ 100) && ((!(Lib.hasPrefix s.data.toList (ByteArray.mk #[32]).data.toList) && !(Lib.hasSuffix s.data.toList (ByteArray.mk #[32]).data.toList)) && (s.data.toList.all pr && (!(Lib.contains s.data.toList (ByteArray.mk #[32, 32]).data.toList) && br s.data.toList 0 (-1)))))) := Lib.hid (by
    rw [← hr]
    unfold okT
    rw [gd_eq, len_size]
    rw [show dbl false s.data.toList = Lib.contains s.data.toList (ByteArray.mk #[32, 32]).data.toList from (contains2 _).symm]
    rfl)
  clear hr
  have HI := Lib.hid (isPrint s _ w hs rfl)
  have HP := Lib.hid (Tryz.strings_HasPrefix s ⟨#[32]⟩ w)
  have HX := Lib.hid (Tryz.strings_HasSuffix s ⟨#[32]⟩ w (by omega))
  have HC := Lib.hid (Tryz.strings_Contains s ⟨#[32, 32]⟩ m w (by omega) hm)
  have HB := Lib.hid (paired s _ w hs rfl)
  generalize Lib.hasPrefix s.data.toList (ByteArray.mk #[32]).data.toList = a at *
  generalize Lib.hasSuffix s.data.toList (ByteArray.mk #[32]).data.toList = b at *
  generalize s.data.toList.all pr = c at *
  generalize Lib.contains s.data.toList (ByteArray.mk #[32, 32]).data.toList = d at *
  generalize br s.data.toList 0 (-1) = e at *
  clear hm
  by_cases h0 : 0 < s.size
  · obtain ⟨hn1, hn2⟩ := ne_str h0
    by_cases h100 : s.size ≤ 100
    · rw [decide_eq_true (show 1 ≤ s.size ∧ s.size ≤ 100 from ⟨h0, h100⟩), Bool.true_and] at HR
      go_enter Tryz.func21, Tryz.ntmps21
      go_wp2_with fail
      refine HI.out.mono ?_
      rintro e w' ⟨rfl, hw⟩
      subst hw
      cases c with
      | false =>
        go_wp2_with fail
        go_ret
        exact ⟨by rw [HR.out]; simp, rfl⟩
      | true =>
        go_wp2_with fail
        refine HP.out.mono ?_
        rintro e w' ⟨rfl, hw⟩
        subst hw
        cases a with
        | true =>
          go_wp2_with fail
          go_ret
          exact ⟨by rw [HR.out]; simp, rfl⟩
        | false =>
          go_wp2_with fail
          refine HX.out.mono ?_
          rintro e w' ⟨rfl, hw⟩
          subst hw
          cases b with
          | true =>
            go_wp2_with fail
            go_ret
            exact ⟨by rw [HR.out]; simp, rfl⟩
          | false =>
            go_wp2_with fail
            refine HC.out.mono ?_
            rintro e w' ⟨rfl, hw⟩
            subst hw
            cases d with
            | true =>
              go_wp2_with fail
              go_ret
              exact ⟨by rw [HR.out]; simp, rfl⟩
            | false =>
              go_wp2_with fail
              refine HB.out.mono ?_
              rintro e w' ⟨rfl, hw⟩
              subst hw
              cases e with
              | false =>
                go_wp2_with fail
                go_ret
                exact ⟨by rw [HR.out]; simp, rfl⟩
              | true =>
                go_wp2_with fail
                go_ret
                exact ⟨by rw [HR.out]; rfl, rfl⟩
    · rw [decide_eq_false (show ¬ (1 ≤ s.size ∧ s.size ≤ 100) from fun h => h100 h.2), Bool.false_and] at HR
      go_enter Tryz.func21, Tryz.ntmps21
      go_wp2_with fail
      go_ret
      exact ⟨by rw [HR.out]; rfl, rfl⟩
  · rw [decide_eq_false (show ¬ (1 ≤ s.size ∧ s.size ≤ 100) from fun h => h0 h.1), Bool.false_and] at HR
    obtain rfl := nil_str h0
    clear h0
    go_enter Tryz.func21, Tryz.ntmps21
    go_wp2_with fail
    go_ret
    exact ⟨by rw [HR.out]; rfl, rfl⟩

theorem gd_at (s : ByteArray) (k : Nat) (p : Bool) (z : Int) (h : k < s.size) : gd (s.data.toList.drop k) k p z =
    if prC s[k] = false then false
    else if p = true ∧ s[k].toNat = 32 then false
    else if s[k].toNat = 123 then (if 0 ≤ z then false else gd (s.data.toList.drop (k + 1)) (k + 1) false k)
    else if s[k].toNat = 125 then (if z < 0 ∨ z = (k : Int) - 1 then false else gd (s.data.toList.drop (k + 1)) (k + 1) false (-1))
    else gd (s.data.toList.drop (k + 1)) (k + 1) (decide (s[k].toNat = 32)) z := by
  rw [drop_cons s k h]
  rfl
theorem gd_end (s : ByteArray) (k : Nat) (p : Bool) (z : Int) (h : s.size ≤ k) : gd (s.data.toList.drop k) k p z = decide (z < 0) := by
  rw [drop_all s k h]
  rfl
theorem sp1_pos (s : ByteArray) (k : Nat) (h0 : 0 < k) (h : k - 1 < s.size) : sp1 s.data.toList k = decide (s[k - 1].toNat = 32) := by
  obtain ⟨j, rfl⟩ : ∃ j, k = j + 1 := ⟨k - 1, by omega⟩
  have h' : j < s.size := by omega
  have e : s.data.toList[j]? = some s[j] := by rw [List.getElem?_eq_getElem (by rw [len_size]; exact h')]; rfl
  show (match s.data.toList[j]? with | some c => decide (c.toNat = 32) | none => false) = decide (s[j].toNat = 32)
  rw [e]
theorem sp1_at (s : ByteArray) (k : Nat) (h : k < s.size) : sp1 s.data.toList (k + 1) = decide (s[k].toNat = 32) := by
  have e : s.data.toList[k]? = some s[k] := by rw [List.getElem?_eq_getElem (by rw [len_size]; exact h)]; rfl
  show (match s.data.toList[k]? with | some c => decide (c.toNat = 32) | none => false) = decide (s[k].toNat = 32)
  rw [e]

set_option maxHeartbeats 8000000 in
theorem l6Good_any (s : ByteArray) (r : Bool) (w : World) (hs : s.size ≤ 1048576) (hr : okT s.data.toList = r) : Calls Tryz.prog 23 #[.string s] w fun e w' => e = .returned (.bool r) ∧ w = w' := by
  have HR : Hid (r = (decide (1 ≤ s.size ∧ s.size ≤ 100) && (edge s.data.toList && gd s.data.toList 0 false (-1)))) := Lib.hid (by
    rw [← hr]
    unfold okT
    rw [len_size]
    rfl)
  clear hr
  have HL := Lib.hid (Dt.l1In_any (s.size : Int) 1 100 _ w rfl)
  by_cases h0 : 1 ≤ s.size ∧ s.size ≤ 100
  · have e0 : decide (1 ≤ (s.size : Int) ∧ (s.size : Int) ≤ 100) = true := by simp; omega
    rw [e0] at HL
    rw [decide_eq_true h0, Bool.true_and] at HR
    have hp : 0 < s.size := h0.1
    have h100 := h0.2
    have hl1 : s.size - 1 < s.size := by omega
    have hli : (s.size : Int) - 1 = ((s.size - 1 : Nat) : Int) := by omega
    have HE := Lib.hid (edge_at s hp)
    clear h0 e0
    cases ha : ((s[0].toNat : Int) == 32) with
    | true =>
      rw [ha] at HE
      rw [HE.out] at HR
      go_enter Tryz.func23, Tryz.ntmps23
      go_wp2_with fail
      refine HL.out.mono ?_
      rintro e w' ⟨rfl, rfl⟩
      go_wp2_with fail
      go_ret
      exact ⟨by rw [HR.out]; rfl, rfl⟩
    | false =>
      rw [ha] at HE
      cases hz : (((s[s.size - 1]'(by omega)).toNat : Int) == 32) with
      | true =>
        rw [hz] at HE
        rw [HE.out] at HR
        go_enter Tryz.func23, Tryz.ntmps23
        go_wp2_with fail
        refine HL.out.mono ?_
        rintro e w' ⟨rfl, rfl⟩
        go_wp2_with fail
        go_ret
        exact ⟨by rw [HR.out]; rfl, rfl⟩
      | false =>
        rw [hz] at HE
        rw [HE.out] at HR
        have HR : Hid (r = gd s.data.toList 0 false (-1)) := Lib.hid (by rw [HR.out]; rfl)
        go_enter Tryz.func23, Tryz.ntmps23
        go_wp2_with fail
        refine HL.out.mono ?_
        rintro e w' ⟨rfl, rfl⟩
        go_wp2_with fail
        clear ha hz hli
        go_loop [3, 4] (fun o i => ∃ (k : Nat) (z : Int), k ≤ s.size ∧ -1 ≤ z ∧ z < k ∧ i = .int .i64 k ∧ o = .int .i64 z ∧ Hid (gd (s.data.toList.drop k) k (sp1 s.data.toList k) z = r)) (fun _ i => s.size - (intOf i).toNat)
        case atStart => exact ⟨0, -1, Nat.zero_le _, by omega, by omega, rfl, rfl, Lib.hid HR.out.symm⟩
        case round =>
          obtain ⟨k, z, hk, hz1, hz2, rfl, rfl, HD⟩ := hrel
          by_cases hlt : k < s.size
          · have HA := Lib.hid (gd_at s k (sp1 s.data.toList k) z hlt)
            have HS := Lib.hid (sp1_at s k hlt)
            have hcl := s[k].toNat_lt
            by_cases h1 : 32 ≤ s[k].toNat
            · have hb1 : decide ((s[k].toNat : Int) < 32) = false := by simp; omega
              by_cases h2 : s[k].toNat ≤ 126
              · have hb2 : decide (126 < (s[k].toNat : Int)) = false := by simp; omega
                have HP : Hid (prC s[k] = true) := Lib.hid (decide_eq_true ⟨h1, h2⟩)
                have HA : Hid (gd (s.data.toList.drop k) k (sp1 s.data.toList k) z =
    if sp1 s.data.toList k = true ∧ s[k].toNat = 32 then false
    else if s[k].toNat = 123 then (if 0 ≤ z then false else gd (s.data.toList.drop (k + 1)) (k + 1) false k)
    else if s[k].toNat = 125 then (if z < 0 ∨ z = (k : Int) - 1 then false else gd (s.data.toList.drop (k + 1)) (k + 1) false (-1))
    else gd (s.data.toList.drop (k + 1)) (k + 1) (decide (s[k].toNat = 32)) z) := Lib.hid (by rw [HA.out, if_neg (by rw [HP.out]; decide)])
                by_cases hk0 : 0 < k
                · have hj : k - 1 < s.size := by omega
                  have hji : (k : Int) - 1 = ((k - 1 : Nat) : Int) := by omega
                  have HJ := Lib.hid (sp1_pos s k hk0 hj)
                  by_cases hs1 : s[k].toNat = 32
                  · have hbs : ((s[k].toNat : Int) == 32) = true := by simp [hs1]
                    by_cases hs0 : s[k - 1].toNat = 32
                    · have hbj : ((s[k - 1].toNat : Int) == 32) = true := by simp [hs0]
                      have HF : Hid (r = false) := Lib.hid (by rw [← HD.out, HA.out, if_pos ⟨by rw [HJ.out]; exact decide_eq_true hs0, hs1⟩])
                      clear h1 h2 hs1 hs0
                      go_wp2_with fail
                      go_ret
                      exact ⟨by rw [HF.out]; rfl, rfl⟩
                    · have hbj : ((s[k - 1].toNat : Int) == 32) = false := by simp; omega
                      have HA : Hid (gd (s.data.toList.drop k) k (sp1 s.data.toList k) z =
                          if s[k].toNat = 123 then (if 0 ≤ z then false else gd (s.data.toList.drop (k + 1)) (k + 1) false k)
                          else if s[k].toNat = 125 then (if z < 0 ∨ z = (k : Int) - 1 then false else gd (s.data.toList.drop (k + 1)) (k + 1) false (-1))
                          else gd (s.data.toList.drop (k + 1)) (k + 1) (decide (s[k].toNat = 32)) z) := Lib.hid (by rw [HA.out, if_neg (fun h => hs0 (by have := h.1; rw [HJ.out] at this; exact of_decide_eq_true this))])
                      have hb3 : ((s[k].toNat : Int) == 123) = false := by simp [hs1]
                      have hb5 : ((s[k].toNat : Int) == 125) = false := by simp [hs1]
                      have HN : Hid (gd (s.data.toList.drop (k + 1)) (k + 1) (sp1 s.data.toList (k + 1)) z = r) := Lib.hid (by rw [← HD.out, HA.out, if_neg (by omega), if_neg (by omega), HS.out])
                      clear h1 h2 hs1 hs0
                      go_wp2_with fail
                      go_round
                      case rel => exact ⟨k + 1, z, by omega, by omega, by omega, by go_num, rfl, HN⟩
                      case measure => simp [intOf]; omega
                  · have hbs : ((s[k].toNat : Int) == 32) = false := by simp; omega
                    have HA : Hid (gd (s.data.toList.drop k) k (sp1 s.data.toList k) z =
                        if s[k].toNat = 123 then (if 0 ≤ z then false else gd (s.data.toList.drop (k + 1)) (k + 1) false k)
                        else if s[k].toNat = 125 then (if z < 0 ∨ z = (k : Int) - 1 then false else gd (s.data.toList.drop (k + 1)) (k + 1) false (-1))
                        else gd (s.data.toList.drop (k + 1)) (k + 1) (decide (s[k].toNat = 32)) z) := Lib.hid (by rw [HA.out, if_neg (fun h => hs1 h.2)])
                    clear hs1
                    by_cases h3 : s[k].toNat = 123
                    · have HC := Lib.hid h3
                      have hb3 : ((s[k].toNat : Int) == 123) = true := by simp [h3]
                      by_cases h4 : 0 ≤ z
                      · have HF : Hid (r = false) := Lib.hid (by rw [← HD.out, HA.out, if_pos HC.out, if_pos h4])
                        clear h1 h2 h3
                        go_wp2_with fail
                        go_ret
                        exact ⟨by rw [HF.out]; rfl, rfl⟩
                      · have hd : decide (0 ≤ z) = false := by simpa using h4
                        have HN : Hid (gd (s.data.toList.drop (k + 1)) (k + 1) (sp1 s.data.toList (k + 1)) k = r) := Lib.hid (by rw [← HD.out, HA.out, if_pos HC.out, if_neg h4, HS.out, decide_eq_false (by rw [HC.out]; decide)])
                        clear h1 h2 h3 h4
                        go_wp2_with fail
                        go_round
                        case rel => exact ⟨k + 1, k, by omega, by omega, by omega, by go_num, rfl, HN⟩
                        case measure => simp [intOf]; omega
                    · have hb3 : ((s[k].toNat : Int) == 123) = false := by simp; omega
                      by_cases h5 : s[k].toNat = 125
                      · have HC := Lib.hid h5
                        have hb5 : ((s[k].toNat : Int) == 125) = true := by simp [h5]
                        by_cases h6 : z < 0
                        · have HF : Hid (r = false) := Lib.hid (by rw [← HD.out, HA.out, if_neg h3, if_pos HC.out, if_pos (.inl h6)])
                          have hd : decide (z < 0) = true := by simpa using h6
                          clear h1 h2 h3 h5
                          go_wp2_with fail
                          go_ret
                          exact ⟨by rw [HF.out]; rfl, rfl⟩
                        · have hd : decide (z < 0) = false := by simpa using h6
                          by_cases h7 : z = (k : Int) - 1
                          · have HF : Hid (r = false) := Lib.hid (by rw [← HD.out, HA.out, if_neg h3, if_pos HC.out, if_pos (.inr h7)])
                            have hd2 : (z == ((k - 1 : Nat) : Int)) = true := by simp; omega
                            clear h1 h2 h3 h5 h7
                            go_wp2_with fail
                            go_ret
                            exact ⟨by rw [HF.out]; rfl, rfl⟩
                          · have hd2 : (z == ((k - 1 : Nat) : Int)) = false := by simp; omega
                            have HN : Hid (gd (s.data.toList.drop (k + 1)) (k + 1) (sp1 s.data.toList (k + 1)) (-1) = r) := Lib.hid (by rw [← HD.out, HA.out, if_neg h3, if_pos HC.out, if_neg (by omega), HS.out, decide_eq_false (by rw [HC.out]; decide)])
                            clear h1 h2 h3 h5 h7
                            go_wp2_with fail
                            go_round
                            case rel => exact ⟨k + 1, -1, by omega, by omega, by omega, by go_num, rfl, HN⟩
                            case measure => simp [intOf]; omega
                      · have hb5 : ((s[k].toNat : Int) == 125) = false := by simp; omega
                        have HN : Hid (gd (s.data.toList.drop (k + 1)) (k + 1) (sp1 s.data.toList (k + 1)) z = r) := Lib.hid (by rw [← HD.out, HA.out, if_neg h3, if_neg h5, HS.out])
                        clear h1 h2 h3 h5
                        go_wp2_with fail
                        go_round
                        case rel => exact ⟨k + 1, z, by omega, by omega, by omega, by go_num, rfl, HN⟩
                        case measure => simp [intOf]; omega
                · have hkd : decide (0 < (k : Int)) = false := by simp; omega
                  have HA : Hid (gd (s.data.toList.drop k) k (sp1 s.data.toList k) z =
                      if s[k].toNat = 123 then (if 0 ≤ z then false else gd (s.data.toList.drop (k + 1)) (k + 1) false k)
                      else if s[k].toNat = 125 then (if z < 0 ∨ z = (k : Int) - 1 then false else gd (s.data.toList.drop (k + 1)) (k + 1) false (-1))
                      else gd (s.data.toList.drop (k + 1)) (k + 1) (decide (s[k].toNat = 32)) z) := Lib.hid (by rw [HA.out, if_neg (show ¬ (sp1 s.data.toList k = true ∧ s[k].toNat = 32) from fun h => by
                      have e : k = 0 := by omega
                      have h1 := h.1
                      rw [e] at h1
                      exact (show ¬ (false = true) by decide) h1)])
                  by_cases h3 : s[k].toNat = 123
                  · have HC := Lib.hid h3
                    have hb3 : ((s[k].toNat : Int) == 123) = true := by simp [h3]
                    by_cases h4 : 0 ≤ z
                    · have HF : Hid (r = false) := Lib.hid (by rw [← HD.out, HA.out, if_pos HC.out, if_pos h4])
                      clear h1 h2 h3
                      go_wp2_with fail
                      go_ret
                      exact ⟨by rw [HF.out]; rfl, rfl⟩
                    · have hd : decide (0 ≤ z) = false := by simpa using h4
                      have HN : Hid (gd (s.data.toList.drop (k + 1)) (k + 1) (sp1 s.data.toList (k + 1)) k = r) := Lib.hid (by rw [← HD.out, HA.out, if_pos HC.out, if_neg h4, HS.out, decide_eq_false (by rw [HC.out]; decide)])
                      clear h1 h2 h3 h4
                      go_wp2_with fail
                      go_round
                      case rel => exact ⟨k + 1, k, by omega, by omega, by omega, by go_num, rfl, HN⟩
                      case measure => simp [intOf]; omega
                  · have hb3 : ((s[k].toNat : Int) == 123) = false := by simp; omega
                    by_cases h5 : s[k].toNat = 125
                    · have HC := Lib.hid h5
                      have hb5 : ((s[k].toNat : Int) == 125) = true := by simp [h5]
                      by_cases h6 : z < 0
                      · have HF : Hid (r = false) := Lib.hid (by rw [← HD.out, HA.out, if_neg h3, if_pos HC.out, if_pos (.inl h6)])
                        have hd : decide (z < 0) = true := by simpa using h6
                        clear h1 h2 h3 h5
                        go_wp2_with fail
                        go_ret
                        exact ⟨by rw [HF.out]; rfl, rfl⟩
                      · exact absurd (by omega) h6
                    · have hb5 : ((s[k].toNat : Int) == 125) = false := by simp; omega
                      have HN : Hid (gd (s.data.toList.drop (k + 1)) (k + 1) (sp1 s.data.toList (k + 1)) z = r) := Lib.hid (by rw [← HD.out, HA.out, if_neg h3, if_neg h5, HS.out])
                      clear h1 h2 h3 h5
                      go_wp2_with fail
                      go_round
                      case rel => exact ⟨k + 1, z, by omega, by omega, by omega, by go_num, rfl, HN⟩
                      case measure => simp [intOf]; omega
              · have hb2 : decide (126 < (s[k].toNat : Int)) = true := by simp; omega
                have HF : Hid (r = false) := Lib.hid (by rw [← HD.out, HA.out, if_pos (show prC s[k] = false from decide_eq_false (fun h => h2 h.2))])
                clear h1 h2
                go_wp2_with fail
                go_ret
                exact ⟨by rw [HF.out]; rfl, rfl⟩
            · have hb1 : decide ((s[k].toNat : Int) < 32) = true := by simp; omega
              have HF : Hid (r = false) := Lib.hid (by rw [← HD.out, HA.out, if_pos (show prC s[k] = false from decide_eq_false (fun h => h1 h.1))])
              clear h1
              go_wp2_with fail
              go_ret
              exact ⟨by rw [HF.out]; rfl, rfl⟩
          · have HF : Hid (r = decide (z < 0)) := Lib.hid (by rw [← HD.out, gd_end s k _ z (by omega)])
            go_wp2_with fail
            go_ret
            exact ⟨by rw [HF.out]; rfl, rfl⟩
  · have e0 : decide (1 ≤ (s.size : Int) ∧ (s.size : Int) ≤ 100) = false := by simp; omega
    rw [e0] at HL
    rw [decide_eq_false h0, Bool.false_and] at HR
    clear h0 e0
    go_enter Tryz.func23, Tryz.ntmps23
    go_wp2_with fail
    refine HL.out.mono ?_
    rintro e w' ⟨rfl, rfl⟩
    go_wp2_with fail
    go_ret
    exact ⟨by rw [HR.out]; rfl, rfl⟩
end Go.Proofs.YtobjfmchnlnohaaGreatDoor.Ti
