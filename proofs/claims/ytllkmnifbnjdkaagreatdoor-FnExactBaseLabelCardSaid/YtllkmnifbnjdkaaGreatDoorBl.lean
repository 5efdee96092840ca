/-
  Base labels of both: firstLetters, l13Letters, labelOfNames, labelOfYear, baseLabel, l13Base, BaseLabel.
-/
import Derived.Test.YtllkmnifbnjdkaaGreatDoorEn
import Derived.LoopTactic
import Derived.Test.YtllkmnifbnjdkaaGreatDoorDtF
import Derived.Test.YtllkmnifbnjdkaaGreatDoorLtI
import Derived.Test.YtllkmnifbnjdkaaGreatDoorNfC
import Derived.Deep.RegionHeld3
namespace Go.Proofs.YtllkmnifbnjdkaaGreatDoor.Bl
open Go.RowKit Pl NmPl Strs Name Nms Ens DtPl DtTx ReadPl Kpz LtI
open Num (Tab)
set_option linter.unusedSimpArgs false
set_option linter.unusedVariables false

/-- the first letters of a text -/
def fl (m : Nat) (l : List UInt8) : List UInt8 := (l.filter isLt).take m
theorem fl_len (m : Nat) (l : List UInt8) : (fl m l).length ≤ m := by unfold fl; rw [List.length_take]; omega
theorem ext1 (s : ByteArray) (k : Nat) (h : k < s.size) : s.extract k (k + 1) = ba [s[k]] := by
  rw [extract_list]
  congr 1
  rw [take_snoc s k h, List.drop_append_of_le_length (by rw [take_len s k (by omega)]; omega), List.drop_eq_nil_of_le (by rw [take_len s k (by omega)]; exact Nat.le_refl _)]
  rfl
theorem ba_app (a b : List UInt8) : ba a ++ ba b = ba (a ++ b) := by apply ByteArray.ext; simp [ba]
theorem fil_snoc (s : ByteArray) (k : Nat) (h : k < s.size) : (s.data.toList.take (k + 1)).filter isLt = (s.data.toList.take k).filter isLt ++ (if isLt s[k] then [s[k]] else []) := by
  rw [take_snoc s k h, List.filter_append]
  congr 1
  cases hc : isLt s[k] <;> simp [hc]
theorem fl_done {l O : List UInt8} {k m : Nat} (h : O = (l.take k).filter isLt) (hm : O.length = m) : fl m l = O := by
  unfold fl
  conv => lhs; rw [← List.take_append_drop k l]
  rw [List.filter_append, ← h, List.take_append_of_le_length (by omega), List.take_of_length_le (by omega)]
theorem fl_all {l O : List UInt8} {m : Nat} (h : O = l.filter isLt) (hm : O.length ≤ m) : fl m l = O := by
  unfold fl
  rw [← h, List.take_of_length_le hm]

set_option maxRecDepth 100000 in
set_option maxHeartbeats 2000000 in
theorem letters_i (s : ByteArray) (m : Nat) (w : World) (hs : s.size ≤ 1048576) (hm : m ≤ 1048576) :
    Calls Tryz.prog 75 #[.string s, .int .i64 m] w fun e w' => e = .returned (.string (ba (fl m s.data.toList))) ∧ w = w' := by
  go_enter Tryz.func75, Tryz.ntmps75
  go_wp2_with fail
  go_loop [5, 6] (fun v i => ∃ (k : Nat) (O : List UInt8) (ob : ByteArray), k ≤ s.size ∧ i = .int .i64 k ∧ v = .string ob ∧ Hid (ob = ba O) ∧ Hid (O = (s.data.toList.take k).filter isLt) ∧ ob.size ≤ m ∧ O.length = ob.size) (fun _ i => s.size - (intOf i).toNat)
  case atStart => exact ⟨0, [], ⟨#[]⟩, Nat.zero_le _, rfl, rfl, Lib.hid rfl, Lib.hid (by simp), Nat.zero_le _, rfl⟩
  case round =>
    obtain ⟨k, O, ob, hk, rfl, rfl, HB, HO, hom, hol⟩ := hrel
    by_cases hlt : k < s.size
    · by_cases hsm : ob.size < m
      · have HF := Lib.hid (fil_snoc s k hlt)
        have hx1 := ext1 s k hlt
        have HX := Lib.hid hx1
        have hw1 : IntKind.i64.wrap ((k : Int) + 1) = (k : Int) + 1 := IntWalk.i64_in _ (by omega)
        have hk0 : (0 : Int) ≤ (k : Int) + 1 := by omega
        have hk1 : ((k : Int) + 1).toNat = k + 1 := by omega
        have hk2 : (k : Int) + 1 ≤ (s.size : Int) := by omega
        have hk3 : k + 1 ≤ s.size := by omega
        have hk4 : (k : Int) ≤ (k : Int) + 1 := by omega
        have hk5 : k ≤ k + 1 := by omega
        have hd1 : decide ((k : Int) < (s.size : Int)) = true := by simp; omega
        have hd2 : decide ((ob.size : Int) < (m : Int)) = true := by simp; omega
        cases hc : isLt s[k] with
        | true =>
          have HC := Lib.hid (fun w => letter_i s[k] true w hc)
          have hz : (ba [s[k]]).size = 1 := rfl
          have HN : Hid (ob ++ ba [s[k]] = ba (O ++ [s[k]])) := Lib.hid (by rw [HB.out, ba_app])
          have hnz : (ob ++ ba [s[k]]).size = ob.size + 1 := by rw [ByteArray.size_append, hz]
          have HNO : Hid (O ++ [s[k]] = (s.data.toList.take (k + 1)).filter isLt) := Lib.hid (by rw [HF.out, hc, ← HO.out]; rfl)
          clear hc HF
          go_wp2_with fail
          refine (HC.out _).mono ?_
          rintro e w' ⟨rfl, rfl⟩
          go_wp2_with fail
          go_round
          case rel => exact ⟨k + 1, O ++ [s[k]], _, by omega, by go_num, rfl, HN, HNO, by omega, by rw [List.length_append, hnz, hol]; rfl⟩
          case measure => simp [intOf]; omega
        | false =>
          have HC := Lib.hid (fun w => letter_i s[k] false w hc)
          have HNO : Hid (O = (s.data.toList.take (k + 1)).filter isLt) := Lib.hid (by rw [HF.out, hc, ← HO.out]; simp)
          clear hc HF
          go_wp2_with fail
          refine (HC.out _).mono ?_
          rintro e w' ⟨rfl, rfl⟩
          go_wp2_with fail
          go_round
          case rel => exact ⟨k + 1, O, ob, by omega, by go_num, rfl, HB, HNO, hom, hol⟩
          case measure => simp [intOf]; omega
      · have hd1 : decide ((k : Int) < (s.size : Int)) = true := by simp; omega
        have hd2 : decide ((ob.size : Int) < (m : Int)) = false := by simp; omega
        have HE : Hid (ob = ba (fl m s.data.toList)) := Lib.hid (by rw [fl_done HO.out (by omega)]; exact HB.out)
        go_wp2_with fail
        go_ret
        exact ⟨by rw [← HE.out]; rfl, rfl⟩
    · have hd1 : decide ((k : Int) < (s.size : Int)) = false := by simp; omega
      have HE : Hid (ob = ba (fl m s.data.toList)) := Lib.hid (by
        have h1 := HO.out
        rw [take_all s k (by omega)] at h1
        rw [fl_all h1 (by omega)]; exact HB.out)
      go_wp2_with fail
      go_ret
      exact ⟨by rw [← HE.out]; rfl, rfl⟩

set_option maxRecDepth 100000 in
set_option maxHeartbeats 2000000 in
theorem letters_s (s : ByteArray) (m : Nat) (w : World) (hs : s.size ≤ 1048576) (hm : m ≤ 1048576) :
    Calls Tryz.prog 45 #[.string s, .int .i64 m] w fun e w' => e = .returned (.string (ba (fl m s.data.toList))) ∧ w = w' := by
  go_enter Tryz.func45, Tryz.ntmps45
  go_wp2_with fail
  go_loop [5, 6] (fun v i => ∃ (k : Nat) (O : List UInt8) (ob : ByteArray), k ≤ s.size ∧ i = .int .i64 k ∧ v = .string ob ∧ Hid (ob = ba O) ∧ Hid (O = (s.data.toList.take k).filter isLt) ∧ ob.size ≤ m ∧ O.length = ob.size) (fun _ i => s.size - (intOf i).toNat)
  case atStart => exact ⟨0, [], ⟨#[]⟩, Nat.zero_le _, rfl, rfl, Lib.hid rfl, Lib.hid (by simp), Nat.zero_le _, rfl⟩
  case round =>
    obtain ⟨k, O, ob, hk, rfl, rfl, HB, HO, hom, hol⟩ := hrel
    by_cases hlt : k < s.size
    · by_cases hsm : ob.size < m
      · have HF := Lib.hid (fil_snoc s k hlt)
        have hx1 := ext1 s k hlt
        have HX := Lib.hid hx1
        have hw1 : IntKind.i64.wrap ((k : Int) + 1) = (k : Int) + 1 := IntWalk.i64_in _ (by omega)
        have hk0 : (0 : Int) ≤ (k : Int) + 1 := by omega
        have hk1 : ((k : Int) + 1).toNat = k + 1 := by omega
        have hk2 : (k : Int) + 1 ≤ (s.size : Int) := by omega
        have hk3 : k + 1 ≤ s.size := by omega
        have hk4 : (k : Int) ≤ (k : Int) + 1 := by omega
        have hk5 : k ≤ k + 1 := by omega
        have hd1 : decide ((k : Int) < (s.size : Int)) = true := by simp; omega
        have hd2 : decide ((ob.size : Int) < (m : Int)) = true := by simp; omega
        cases hc : isLt s[k] with
        | true =>
          have HC := Lib.hid (fun w => letter_s s[k] true w hc)
          have hz : (ba [s[k]]).size = 1 := rfl
          have HN : Hid (ob ++ ba [s[k]] = ba (O ++ [s[k]])) := Lib.hid (by rw [HB.out, ba_app])
          have hnz : (ob ++ ba [s[k]]).size = ob.size + 1 := by rw [ByteArray.size_append, hz]
          have HNO : Hid (O ++ [s[k]] = (s.data.toList.take (k + 1)).filter isLt) := Lib.hid (by rw [HF.out, hc, ← HO.out]; rfl)
          clear hc HF
          go_wp2_with fail
          refine (HC.out _).mono ?_
          rintro e w' ⟨rfl, rfl⟩
          go_wp2_with fail
          go_round
          case rel => exact ⟨k + 1, O ++ [s[k]], _, by omega, by go_num, rfl, HN, HNO, by omega, by rw [List.length_append, hnz, hol]; rfl⟩
          case measure => simp [intOf]; omega
        | false =>
          have HC := Lib.hid (fun w => letter_s s[k] false w hc)
          have HNO : Hid (O = (s.data.toList.take (k + 1)).filter isLt) := Lib.hid (by rw [HF.out, hc, ← HO.out]; simp)
          clear hc HF
          go_wp2_with fail
          refine (HC.out _).mono ?_
          rintro e w' ⟨rfl, rfl⟩
          go_wp2_with fail
          go_round
          case rel => exact ⟨k + 1, O, ob, by omega, by go_num, rfl, HB, HNO, hom, hol⟩
          case measure => simp [intOf]; omega
      · have hd1 : decide ((k : Int) < (s.size : Int)) = true := by simp; omega
        have hd2 : decide ((ob.size : Int) < (m : Int)) = false := by simp; omega
        have HE : Hid (ob = ba (fl m s.data.toList)) := Lib.hid (by rw [fl_done HO.out (by omega)]; exact HB.out)
        go_wp2_with fail
        go_ret
        exact ⟨by rw [← HE.out]; rfl, rfl⟩
    · have hd1 : decide ((k : Int) < (s.size : Int)) = false := by simp; omega
      have HE : Hid (ob = ba (fl m s.data.toList)) := Lib.hid (by
        have h1 := HO.out
        rw [take_all s k (by omega)] at h1
        rw [fl_all h1 (by omega)]; exact HB.out)
      go_wp2_with fail
      go_ret
      exact ⟨by rw [← HE.out]; rfl, rfl⟩

/-- what a base label has before the year -/
def nmB (ti : List UInt8) (fs : List (List UInt8)) : List UInt8 := match fs with
  | [] => if fl 3 ti = [] then [65, 110, 111, 110] else fl 3 ti
  | [f] => fl 3 f
  | fs => (fs.map (fl 1)).flatten
/-- .. of the year -/
def yrB (y : Int) : List UInt8 := if y = 0 then [63, 63] else pad (y.toNat % 100) 2
def fams (L : List Nm) : List (List UInt8) := L.map fun x => x.f.data.toList
def baseL (x : En) : List UInt8 := nmB x.ti.data.toList (fams x.auL) ++ yrB x.y
theorem two_digits (u : Nat) : pad (u % 100) 2 = Lib.decDigits (u / 10 % 10) ++ Lib.decDigits (u % 10) := by
  have key : ∀ v, v < 100 → pad v 2 = Lib.decDigits (v / 10) ++ Lib.decDigits (v % 10) := by
    intro v hv
    unfold pad
    by_cases h : v < 10
    · rw [dec_small h, show v / 10 = 0 by omega, show v % 10 = v by omega, dec_small h, dec_small (u := 0) (by omega)]
      rfl
    · rw [dec_big h, dec_small (u := v / 10) (by omega), dec_small (u := v % 10) (by omega)]
      rfl
  rw [key _ (Nat.mod_lt _ (by omega)), show u % 100 / 10 = u / 10 % 10 by omega, show u % 100 % 10 = u % 10 by omega]
theorem yrB_len (y : Int) : (yrB y).length ≤ 2 := by
  unfold yrB
  split
  · simp
  · rw [pad_len]
    have := dec_le 1 (y.toNat % 100) (by omega)
    omega
theorem flat_len (fs : List (List UInt8)) : (fs.map (fl 1)).flatten.length ≤ fs.length := by
  induction fs with
  | nil => simp
  | cons f r ih => rw [List.map_cons, List.flatten_cons, List.length_append, List.length_cons]; have := fl_len 1 f; omega
theorem nmB_len (ti : List UInt8) (fs : List (List UInt8)) : (nmB ti fs).length ≤ 4 + fs.length := by
  unfold nmB
  split
  · split
    · simp
    · have := fl_len 3 ti; omega
  · rename_i f; have := fl_len 3 f; omega
  · have := flat_len fs; omega

theorem infoStr : (Tryz.prog.info? 9).map (fun i => (i.zero, i.size, i.bytes)) = some (some (.string ByteArray.empty), 1, 16) := by kernel_rfl
theorem ne_str {s : ByteArray} (h : 0 < s.size) : (s.toList == []) = false ∧ s.toList.isEmpty = false := by
  have hn : s.data.toList ≠ [] := by intro e; have := len_size s; rw [e] at this; simp at this; omega
  rw [Lib.toList_data]
  exact ⟨by rw [beq_eq_false_iff_ne]; exact hn, List.isEmpty_eq_false_iff.2 hn⟩
theorem nil_str {s : ByteArray} (h : ¬ 0 < s.size) : s = ⟨#[]⟩ := ByteArray.ext (Array.eq_empty_of_size_eq_zero (show s.data.size = 0 by have : s.data.size = s.size := rfl; omega))
set_option maxHeartbeats 1000000 in
theorem orText (A : Option Addr) (c : Nat) (t u : ByteArray) (w : World) (h : RdS w A [t, u]) (hu : 0 < u.size) :
    Calls Tryz.prog 74 #[.slice A 2 c] w fun e w' => e = .returned (.string (if 0 < t.size then t else u)) ∧ w = w' := by
  obtain ⟨g, o, rfl, c0⟩ := h 0 t rfl
  obtain ⟨g', o', e, c1⟩ := h 1 u rfl
  cases e
  rw [Nat.add_zero] at c0
  have e1 := ne_str hu
  obtain ⟨e1a, e1b⟩ := e1
  clear h
  by_cases ht : 0 < t.size
  · obtain ⟨e2a, e2b⟩ := ne_str ht
    have HE : Hid ((if 0 < t.size then t else u) = t) := Lib.hid (if_pos ht)
    go_enter Tryz.func74, Tryz.ntmps74
    go_wp2_with fail
    go_loop [8] (fun i => ∃ k : Nat, k ≤ 0 ∧ i = .int .i64 k) (fun i => 2 - (intOf i).toNat)
    case atStart => exact ⟨0, Nat.le_refl _, rfl⟩
    case round =>
      obtain ⟨k, hk, rfl⟩ := hrel
      obtain rfl : k = 0 := by omega
      go_wp2_with fail
      go_ret
      exact ⟨by first | rfl | (rw [HE.out]; rfl), rfl⟩
  · have HE : Hid ((if 0 < t.size then t else u) = u) := Lib.hid (if_neg ht)
    obtain rfl := nil_str ht
    go_enter Tryz.func74, Tryz.ntmps74
    go_wp2_with fail
    go_loop [8] (fun i => ∃ k : Nat, k ≤ 1 ∧ i = .int .i64 k) (fun i => 2 - (intOf i).toNat)
    case atStart => exact ⟨0, by omega, rfl⟩
    case round =>
      obtain ⟨k, hk, rfl⟩ := hrel
      by_cases hk0 : k = 0
      · subst hk0
        go_wp2_with fail
        go_round
        case rel => exact ⟨1, by omega, by go_num⟩
        case measure => simp [intOf]
      · obtain rfl : k = 1 := by omega
        go_wp2_with fail
        go_ret
        exact ⟨by first | rfl | (rw [HE.out]; rfl), rfl⟩
theorem anon_eq (ti : ByteArray) : ba (nmB ti.data.toList []) = (if 0 < (ba (fl 3 ti.data.toList)).size then ba (fl 3 ti.data.toList) else ⟨#[65, 110, 111, 110]⟩) := by
  unfold nmB
  rw [ba_size]
  by_cases h : fl 3 ti.data.toList = []
  · rw [if_pos h, if_neg (by rw [h]; simp)]; rfl
  · rw [if_neg h, if_pos (List.length_pos_iff.2 h)]
theorem fams_at {L : List Nm} {k : Nat} {x : Nm} (h : L[k]? = some x) : (((fams L).take (k + 1)).map (fl 1)).flatten = (((fams L).take k).map (fl 1)).flatten ++ fl 1 x.f.data.toList := by
  unfold fams
  rw [List.take_add_one, List.getElem?_map, h]
  simp
theorem fams_le (L : List Nm) (k : Nat) : (((fams L).take k).map (fl 1)).flatten.length ≤ k := by
  have := flat_len ((fams L).take k)
  rw [List.length_take] at this
  omega
theorem nmB_one {ti : List UInt8} {L : List Nm} {x : Nm} (h : L = [x]) : nmB ti (fams L) = fl 3 x.f.data.toList := by subst h; rfl
theorem nmB_many {ti : List UInt8} {L : List Nm} (h : 2 ≤ L.length) : nmB ti (fams L) = ((fams L).map (fl 1)).flatten := by
  cases L with
  | nil => simp at h
  | cons a r =>
    cases r with
    | nil => simp at h
    | cons b r => rfl
end Go.Proofs.YtllkmnifbnjdkaaGreatDoor.Bl
