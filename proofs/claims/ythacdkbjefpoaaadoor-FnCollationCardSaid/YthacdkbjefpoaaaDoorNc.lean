/-
  Contracts of isDigit, firstRunEnd, runsOf, l8Digit, l8Runs: the longest runs of digits and of other bytes.
-/
import Derived.Test.YthacdkbjefpoaaaDoorNcPl
import Derived.Test.YthacdkbjefpoaaaDoorStrs
import Derived.Test.YthacdkbjefpoaaaDoorCs
import Derived.Deep.QuietTactic
import Derived.BigQuiet
import Derived.IntWalk
import Derived.OwnWalk
namespace Go.Proofs.YthacdkbjefpoaaaDoor.Nc
open Go.RowKit Pl NmPl FoPl NcPl Cs Strs
set_option linter.unusedVariables false
set_option linter.unusedSimpArgs false

theorem ret_bool {a b : Bool} (h : a = b) : Ending.returned (.bool a) = .returned (.bool b) := by rw [h]
theorem dig_i (c : UInt8) (r : Bool) (w : World) (hr : dg c = r) :
    Calls Tryd.prog 33 #[.int .u8 c.toNat] w fun e w' => e = .returned (.bool r) ∧ w' = w := by
  subst hr
  have HE := Lib.hid (show dg c = decide (48 ≤ c.toNat ∧ c.toNat ≤ 57) from rfl)
  go_enter Tryd.func33, Tryd.ntmps33
  go_wp2
  all_goals
    go_ret
    exact ⟨ret_bool (by rw [HE.out, Bool.eq_iff_iff]; simp; omega), rfl⟩
theorem dig_s (c : UInt8) (r : Bool) (w : World) (hr : dg c = r) :
    Calls Tryd.prog 40 #[.int .u8 c.toNat] w fun e w' => e = .returned (.bool r) ∧ w' = w := by
  subst hr
  have HE := Lib.hid (show dg c = decide (48 ≤ c.toNat ∧ c.toNat ≤ 57) from rfl)
  go_enter Tryd.func40, Tryd.ntmps40
  go_wp2
  all_goals
    go_ret
    exact ⟨ret_bool (by rw [HE.out, Bool.eq_iff_iff]; simp; omega), rfl⟩
theorem drew_more {w wr : World} (h : ∃ q, wr = w.drewN q) (n : Nat) : ∃ q, wr.drewN n = w.drewN q := by
  obtain ⟨q, rfl⟩ := h
  exact ⟨_, World.drewN_drewN ..⟩
theorem at_list {s : ByteArray} {k : Nat} (h : k < s.size) : s.data.toList[k]? = some s[k] := by
  rw [List.getElem?_eq_getElem (by rw [len_size]; exact h)]; rfl
theorem cons_of {s : ByteArray} (h : 0 < s.size) : ∃ r, s.data.toList = s[0] :: r := by
  have := drop_cons s 0 h
  rw [List.drop_zero] at this
  exact ⟨_, this⟩
set_option maxHeartbeats 2000000 in
theorem end_i (s : ByteArray) (w : World) (h0 : 0 < s.size) (hs : s.size ≤ 1048576) :
    Calls Tryd.prog 42 #[.string s] w fun e w' => e = .returned (.int .i64 (fe s.data.toList)) ∧ ∃ q, w' = w.drewN q := by
  obtain ⟨r, hr⟩ := cons_of h0
  have HI : Hid (∀ j (h : j < s.size), 1 ≤ j → j < fe s.data.toList → dg s[j] = dg s[0]) := Lib.hid (fun j h h1 hj => by
    obtain ⟨m, rfl⟩ : ∃ m, j = m + 1 := ⟨j - 1, by omega⟩
    have hx := at_list h
    rw [hr] at hj hx
    exact fe_in hj hx)
  have HO : Hid (∀ (h : fe s.data.toList < s.size), dg s[fe s.data.toList] ≠ dg s[0]) := Lib.hid (fun h => by
    have hx := at_list h
    have : ∀ n, n = fe s.data.toList → s.data.toList[n]? = some s[fe s.data.toList] → dg s[fe s.data.toList] ≠ dg s[0] := fun n hn hx => by
      subst hn
      generalize s[fe s.data.toList] = x at *
      rw [hr] at hx
      exact fe_out hx
    exact this _ rfl hx)
  obtain ⟨hp, hle⟩ := fe_pos (l := s.data.toList) (by rw [len_size]; exact h0)
  rw [len_size] at hle
  generalize fe s.data.toList = f at *
  clear hr
  have H0 := Lib.hid (fun (w : World) => dig_i s[0] (dg s[0]) w rfl)
  have hb0 := s[0].toNat_lt
  generalize dg s[0] = p at *
  go_enter Tryd.func42, Tryd.ntmps42
  go_wp2_with fail
  go_loopw [3] (fun i wr => ∃ k : Nat, 1 ≤ k ∧ k ≤ f ∧ i = .int .i64 k ∧ Hid (∃ q, wr = w.drewN q)) (fun i _ => f - (intOf i).toNat)
  case atStart => exact ⟨1, Nat.le_refl _, hp, rfl, Lib.hid ⟨0, rfl⟩⟩
  case round =>
    obtain ⟨k, hk1, hk, rfl, HQ⟩ := hrel
    by_cases hlt : k < f
    · have hks : k < s.size := by omega
      have hd := HI.out k hks hk1 hlt
      have HK := Lib.hid (fun (w : World) => dig_i s[k] p w hd)
      have hbk := s[k].toNat_lt
      have hdl : decide (k < s.size) = true := by simpa using hks
      clear hd
      go_wp2_with fail
      go_quiet ((first | (go_at_call 33; with_reducible exact Calls.quiet_of_same (HK.out _)) | (go_at_call 33; with_reducible exact Calls.quiet_of_same (H0.out _))))
      go_wp2_with fail
      go_roundw
      case rel => exact ⟨k + 1, by omega, by omega, by go_num, Lib.hid (drew_more HQ.out _)⟩
      case measure => simp [intOf]; omega
    · obtain rfl : k = f := by omega
      by_cases hks : k < s.size
      · have hd := HO.out hks
        have HK := Lib.hid (fun (w : World) => dig_i s[k] (dg s[k]) w rfl)
        have hbk := s[k].toNat_lt
        have hdl : decide (k < s.size) = true := by simpa using hks
        generalize dg s[k] = z at *
        have hne : (z == p) = false := by simpa using hd
        clear hd
        go_wp2_with fail
        go_quiet ((first | (go_at_call 33; with_reducible exact Calls.quiet_of_same (HK.out _)) | (go_at_call 33; with_reducible exact Calls.quiet_of_same (H0.out _))))
        go_wp2_with fail
        go_ret
        exact ⟨rfl, drew_more HQ.out _⟩
      · have hdl : decide (k < s.size) = false := by simpa using hks
        go_wp2_with fail
        go_quiet (fail)
        go_wp2_with fail
        go_ret
        exact ⟨rfl, drew_more HQ.out _⟩

theorem own_form {w : World} {b : Nat} {e : TypeId} {sz : Nat} {v : Value} {n : Nat} {xs : List Value} (h : w.ownsRow b e sz v n xs) : ∃ A c, v = .slice A n c := by
  rcases h.2 with ⟨rfl, rfl⟩ | ⟨g, cap, cur, rfl, _⟩
  · exact ⟨none, 0, rfl⟩
  · exact ⟨_, _, rfl⟩
theorem below_drewN {n : Nat} {w W : World} (h : Below n w W) (q : Nat) : Below n w (W.drewN q) := h.trans ⟨rfl, rfl, rfl, Nat.le_refl _, fun _ _ => rfl⟩
theorem ext_take (s : ByteArray) (o : Nat) : s.extract 0 o = ba (s.data.toList.take o) := by rw [extract_list]; simp
theorem ext_drop (s : ByteArray) (o : Nat) : s.extract o s.size = ba (s.data.toList.drop o) := by rw [extract_list, take_all s _ (Nat.le_refl _)]
set_option maxRecDepth 100000 in
set_option maxHeartbeats 4000000 in
theorem runs_i (s : ByteArray) (w : World) (hs : s.size ≤ 1048576) :
    Calls Tryd.prog 23 #[.string s] w fun e w' => ∃ v, e = .returned v ∧ w'.ownsRow w.heap.size 9 1 v (runs s.data.toList).length (cs (runs s.data.toList)) ∧ Below w.heap.size w w' := by
  obtain ⟨i0, hi, hz0, hz1, hz2⟩ := info_parts infoStr
  go_enter Tryd.func23, Tryd.ntmps23
  go_wp2_with fail
  go_loopw [0, 3] (fun vs vo wr => ∃ (t : ByteArray) (O : List (List UInt8)), vs = .string t ∧ Hid (O ++ runs t.data.toList = runs s.data.toList) ∧ O.length + t.size ≤ s.size ∧ wr.ownsRow w.heap.size 9 1 vo O.length (cs O) ∧ Below w.heap.size w wr) (fun vs _ _ => match vs with | .string t => t.size | _ => 0)
  case atStart => exact ⟨s, [], rfl, Lib.hid rfl, by simp, World.ownsRow_lit w #[] 0 (Nat.le_refl _) (Nat.zero_le _) rfl, (Below.refl _ _).alloc (Nat.le_refl _) _⟩
  case round =>
    obtain ⟨t, O, rfl, HR, hl, hown, hb⟩ := hrel
    have hbs := hb.size
    by_cases h0 : t.size = 0
    · have ht : t = ⟨#[]⟩ := by
        apply ByteArray.ext
        exact Array.eq_empty_of_size_eq_zero h0
      subst ht
      have HE : Hid (O = runs s.data.toList) := Lib.hid (by rw [← HR.out]; simp [runs])
      have hem : (ByteArray.mk #[]).toList.isEmpty = true := by rw [Lib.toList_data]; rfl
      go_wp2_with fail
      go_ret
      exact ⟨_, rfl, by rw [← HE.out]; exact hown, hb⟩
    · have hne : (t.toList == (ByteArray.mk #[]).toList) = false := by
        rw [Lib.toList_data, Lib.toList_data, beq_eq_false_iff_ne]
        intro e
        have := congrArg List.length e
        rw [len_size, len_size] at this
        exact h0 this
      have hp : 0 < t.data.toList.length := by rw [len_size]; omega
      have hne2 : t.toList.isEmpty = false := by
        rw [Lib.toList_data]
        exact List.isEmpty_eq_false_iff.2 (List.length_pos_iff.1 hp)
      have HF := Lib.hid (fun W => end_i t W (by omega) (by omega))
      obtain ⟨h1, h2⟩ := fe_pos hp
      rw [len_size] at h2
      have HS := Lib.hid (runs_step hp)
      clear h0 hp
      generalize fe t.data.toList = f at *
      have HT := Lib.hid (ext_take t f)
      have HD := Lib.hid (ext_drop t f)
      obtain ⟨Ac, cc, rfl⟩ := own_form hown
      go_wp2_with fail
      refine (HF.out _).mono ?_
      rintro e W1 ⟨rfl, q, rfl⟩
      go_wp2_with (first | (at_builtin; refine wpList_append_own _ rfl _ _ 42 rfl w.heap.size 9 i0 (.string ByteArray.empty) 1 16 Tryd.underlying42 hi hz0 hz1 hz2 rfl (by decide) _ _ _ rfl (hown.alloc _) ⟨wr.heap.size, 0, none⟩ 1 1 [.string (t.extract 0 f)] rfl rfl (cell_one_new _ _ _) (by simp [Value.oneCell']) (by unfold maxLen; omega) (by omega) (by simp; omega) ?_; intro v' w9 hown' hgrow _) | go_in)
      have hb9 : Below w.heap.size w w9 := ((below_drewN hb q).alloc hbs _).grown hgrow (by simp; omega) (fun g hg => (hown.lt g hg).1)
      go_roundw
      case rel => exact ⟨_, O ++ [t.data.toList.take f], by rw [HD.out], Lib.hid (by rw [toList_ba, List.append_assoc, ← HR.out, HS.out]; rfl), by rw [ba_size, List.length_append, List.length_drop, len_size]; simp; omega, by rw [List.length_append, cs_snoc, ← HT.out]; exact hown', hb9⟩
      case measure => show (t.extract f t.size).size < t.size; rw [ByteArray.size_extract]; omega
/-- the slice at address A reads as these texts -/
def Rl (w : World) (A : Option Addr) (xs : List (List UInt8)) : Prop :=
  ∀ j x, xs[j]? = some x → ∃ g o, A = some ⟨g, o, none⟩ ∧ w.cell? ⟨g, o + j, none⟩ = some (.string (ba x))
theorem Rl.below {w w' : World} {A : Option Addr} {xs : List (List UInt8)} (h : Rl w A xs) (hb : Below w.heap.size w w') : Rl w' A xs := fun j x hx => by
  obtain ⟨g, o, e, hc⟩ := h j x hx
  exact ⟨g, o, e, (hb.cell (World.block_lt_of_cell? w _ hc)).trans hc⟩
theorem rl_own {w : World} {base : Nat} {v : Value} {l : List (List UInt8)} (h : w.ownsRow base 9 1 v l.length (cs l)) : ∃ A c, v = .slice A l.length c ∧ Rl w A l ∧ l.length ≤ c := by
  rcases own_cells h with ⟨rfl, rfl⟩ | ⟨g, c, rfl, _, _, hc, hx⟩
  · exact ⟨none, 0, rfl, (fun j x hx => by simp at hx), Nat.le_refl _⟩
  · exact ⟨_, c, rfl, fun j x h => ⟨g, 0, rfl, by rw [Nat.zero_add]; exact hx j x h⟩, hc⟩
end Go.Proofs.YthacdkbjefpoaaaDoor.Nc
