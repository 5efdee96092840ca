/-
  Several texts of one claim in one file: Bl, Bl2, Bl3, Bl4.
-/
import Derived.Test.YtbicfmoemgaapaaGreatDoorEn
import Derived.LoopTactic
import Derived.Test.YtbicfmoemgaapaaGreatDoorDtF
import Derived.Test.YtbicfmoemgaapaaGreatDoorLtI
import Derived.Test.YtbicfmoemgaapaaGreatDoorNfC
import Derived.Deep.RegionHeld3
import Derived.Test.YtbicfmoemgaapaaGreatDoorVei
import Derived.Test.YtbicfmoemgaapaaGreatDoorLbK
/-
  Base labels of both: firstLetters, l13Letters, labelOfNames, labelOfYear, baseLabel, l13Base, BaseLabel.
-/
namespace Go.Proofs.YtbicfmoemgaapaaGreatDoor.Bl
open Go.RowKit Pl NmPl Strs Name Nms Ens DtPl DtTx ReadPl Kpz LtI
open Num (Tab)
set_option linter.unusedSimpArgs false
set_option linter.unusedVariables false

/-- the first letters of a text -/
def fl (m : Nat) (l : List UInt8) : List UInt8 := (l.filter isLt).take m
theorem fl_len (m : Nat) (l : List UInt8) : (fl m l).length ≤ m := by unfold fl; rw [List.length_take]; omega
theorem ext1 (s : ByteArray) (k : Nat) (h : k < s.size) : s.extract k (k + 1) = ba [s[k]] := by
  rw [extract_list]
  congr 1
  rw [take_snoc s k h, List.drop_append_of_le_length (by rw [take_len s k (by omega)]; omega), List.drop_eq_nil_of_le (by rw [take_len s k (by omega)]; exact Nat.le_refl _)]
  rfl
theorem ba_app (a b : List UInt8) : ba a ++ ba b = ba (a ++ b) := by apply ByteArray.ext; simp [ba]
theorem fil_snoc (s : ByteArray) (k : Nat) (h : k < s.size) : (s.data.toList.take (k + 1)).filter isLt = (s.data.toList.take k).filter isLt ++ (if isLt s[k] then [s[k]] else []) := by
  rw [take_snoc s k h, List.filter_append]
  congr 1
  cases hc : isLt s[k] <;> simp [hc]
theorem fl_done {l O : List UInt8} {k m : Nat} (h : O = (l.take k).filter isLt) (hm : O.length = m) : fl m l = O := by
  unfold fl
  conv => lhs; rw [← List.take_append_drop k l]
  rw [List.filter_append, ← h, List.take_append_of_le_length (by omega), List.take_of_length_le (by omega)]
theorem fl_all {l O : List UInt8} {m : Nat} (h : O = l.filter isLt) (hm : O.length ≤ m) : fl m l = O := by
  unfold fl
  rw [← h, List.take_of_length_le hm]

set_option maxRecDepth 100000 in
set_option maxHeartbeats 2000000 in
theorem letters_i (s : ByteArray) (m : Nat) (w : World) (hs : s.size ≤ 1048576) (hm : m ≤ 1048576) :
    Calls Tryz.prog 82 #[.string s, .int .i64 m] w fun e w' => e = .returned (.string (ba (fl m s.data.toList))) ∧ w = w' := by
  go_enter Tryz.func82, Tryz.ntmps82
  go_wp2_with fail
  go_loop [5, 6] (fun v i => ∃ (k : Nat) (O : List UInt8) (ob : ByteArray), k ≤ s.size ∧ i = .int .i64 k ∧ v = .string ob ∧ Hid (ob = ba O) ∧ Hid (O = (s.data.toList.take k).filter isLt) ∧ ob.size ≤ m ∧ O.length = ob.size) (fun _ i => s.size - (intOf i).toNat)
  case atStart => exact ⟨0, [], ⟨#[]⟩, Nat.zero_le _, rfl, rfl, Lib.hid rfl, Lib.hid (by simp), Nat.zero_le _, rfl⟩
  case round =>
    obtain ⟨k, O, ob, hk, rfl, rfl, HB, HO, hom, hol⟩ := hrel
    by_cases hlt : k < s.size
    · by_cases hsm : ob.size < m
      · have HF := Lib.hid (fil_snoc s k hlt)
        have hx1 := ext1 s k hlt
        have HX := Lib.hid hx1
        have hw1 : IntKind.i64.wrap ((k : Int) + 1) = (k : Int) + 1 := IntWalk.i64_in _ (by omega)
        have hk0 : (0 : Int) ≤ (k : Int) + 1 := by omega
        have hk1 : ((k : Int) + 1).toNat = k + 1 := by omega
        have hk2 : (k : Int) + 1 ≤ (s.size : Int) := by omega
        have hk3 : k + 1 ≤ s.size := by omega
        have hk4 : (k : Int) ≤ (k : Int) + 1 := by omega
        have hk5 : k ≤ k + 1 := by omega
        have hd1 : decide ((k : Int) < (s.size : Int)) = true := by simp; omega
        have hd2 : decide ((ob.size : Int) < (m : Int)) = true := by simp; omega
        cases hc : isLt s[k] with
        | true =>
          have HC := Lib.hid (fun w => letter_i s[k] true w hc)
          have hz : (ba [s[k]]).size = 1 := rfl
          have HN : Hid (ob ++ ba [s[k]] = ba (O ++ [s[k]])) := Lib.hid (by rw [HB.out, ba_app])
          have hnz : (ob ++ ba [s[k]]).size = ob.size + 1 := by rw [ByteArray.size_append, hz]
          have HNO : Hid (O ++ [s[k]] = (s.data.toList.take (k + 1)).filter isLt) := Lib.hid (by rw [HF.out, hc, ← HO.out]; rfl)
          clear hc HF
          go_wp2_with fail
          refine (HC.out _).mono ?_
          rintro e w' ⟨rfl, rfl⟩
          go_wp2_with fail
          go_round
          case rel => exact ⟨k + 1, O ++ [s[k]], _, by omega, by go_num, rfl, HN, HNO, by omega, by rw [List.length_append, hnz, hol]; rfl⟩
          case measure => simp [intOf]; omega
        | false =>
          have HC := Lib.hid (fun w => letter_i s[k] false w hc)
          have HNO : Hid (O = (s.data.toList.take (k + 1)).filter isLt) := Lib.hid (by rw [HF.out, hc, ← HO.out]; simp)
          clear hc HF
          go_wp2_with fail
          refine (HC.out _).mono ?_
          rintro e w' ⟨rfl, rfl⟩
          go_wp2_with fail
          go_round
          case rel => exact ⟨k + 1, O, ob, by omega, by go_num, rfl, HB, HNO, hom, hol⟩
          case measure => simp [intOf]; omega
      · have hd1 : decide ((k : Int) < (s.size : Int)) = true := by simp; omega
        have hd2 : decide ((ob.size : Int) < (m : Int)) = false := by simp; omega
        have HE : Hid (ob = ba (fl m s.data.toList)) := Lib.hid (by rw [fl_done HO.out (by omega)]; exact HB.out)
        go_wp2_with fail
        go_ret
        exact ⟨by rw [← HE.out]; rfl, rfl⟩
    · have hd1 : decide ((k : Int) < (s.size : Int)) = false := by simp; omega
      have HE : Hid (ob = ba (fl m s.data.toList)) := Lib.hid (by
        have h1 := HO.out
        rw [take_all s k (by omega)] at h1
        rw [fl_all h1 (by omega)]; exact HB.out)
      go_wp2_with fail
      go_ret
      exact ⟨by rw [← HE.out]; rfl, rfl⟩

set_option maxRecDepth 100000 in
set_option maxHeartbeats 2000000 in
theorem letters_s (s : ByteArray) (m : Nat) (w : World) (hs : s.size ≤ 1048576) (hm : m ≤ 1048576) :
    Calls Tryz.prog 35 #[.string s, .int .i64 m] w fun e w' => e = .returned (.string (ba (fl m s.data.toList))) ∧ w = w' := by
  go_enter Tryz.func35, Tryz.ntmps35
  go_wp2_with fail
  go_loop [5, 6] (fun v i => ∃ (k : Nat) (O : List UInt8) (ob : ByteArray), k ≤ s.size ∧ i = .int .i64 k ∧ v = .string ob ∧ Hid (ob = ba O) ∧ Hid (O = (s.data.toList.take k).filter isLt) ∧ ob.size ≤ m ∧ O.length = ob.size) (fun _ i => s.size - (intOf i).toNat)
  case atStart => exact ⟨0, [], ⟨#[]⟩, Nat.zero_le _, rfl, rfl, Lib.hid rfl, Lib.hid (by simp), Nat.zero_le _, rfl⟩
  case round =>
    obtain ⟨k, O, ob, hk, rfl, rfl, HB, HO, hom, hol⟩ := hrel
    by_cases hlt : k < s.size
    · by_cases hsm : ob.size < m
      · have HF := Lib.hid (fil_snoc s k hlt)
        have hx1 := ext1 s k hlt
        have HX := Lib.hid hx1
        have hw1 : IntKind.i64.wrap ((k : Int) + 1) = (k : Int) + 1 := IntWalk.i64_in _ (by omega)
        have hk0 : (0 : Int) ≤ (k : Int) + 1 := by omega
        have hk1 : ((k : Int) + 1).toNat = k + 1 := by omega
        have hk2 : (k : Int) + 1 ≤ (s.size : Int) := by omega
        have hk3 : k + 1 ≤ s.size := by omega
        have hk4 : (k : Int) ≤ (k : Int) + 1 := by omega
        have hk5 : k ≤ k + 1 := by omega
        have hd1 : decide ((k : Int) < (s.size : Int)) = true := by simp; omega
        have hd2 : decide ((ob.size : Int) < (m : Int)) = true := by simp; omega
        cases hc : isLt s[k] with
        | true =>
          have HC := Lib.hid (fun w => letter_s s[k] true w hc)
          have hz : (ba [s[k]]).size = 1 := rfl
          have HN : Hid (ob ++ ba [s[k]] = ba (O ++ [s[k]])) := Lib.hid (by rw [HB.out, ba_app])
          have hnz : (ob ++ ba [s[k]]).size = ob.size + 1 := by rw [ByteArray.size_append, hz]
          have HNO : Hid (O ++ [s[k]] = (s.data.toList.take (k + 1)).filter isLt) := Lib.hid (by rw [HF.out, hc, ← HO.out]; rfl)
          clear hc HF
          go_wp2_with fail
          refine (HC.out _).mono ?_
          rintro e w' ⟨rfl, rfl⟩
          go_wp2_with fail
          go_round
          case rel => exact ⟨k + 1, O ++ [s[k]], _, by omega, by go_num, rfl, HN, HNO, by omega, by rw [List.length_append, hnz, hol]; rfl⟩
          case measure => simp [intOf]; omega
        | false =>
          have HC := Lib.hid (fun w => letter_s s[k] false w hc)
          have HNO : Hid (O = (s.data.toList.take (k + 1)).filter isLt) := Lib.hid (by rw [HF.out, hc, ← HO.out]; simp)
          clear hc HF
          go_wp2_with fail
          refine (HC.out _).mono ?_
          rintro e w' ⟨rfl, rfl⟩
          go_wp2_with fail
          go_round
          case rel => exact ⟨k + 1, O, ob, by omega, by go_num, rfl, HB, HNO, hom, hol⟩
          case measure => simp [intOf]; omega
      · have hd1 : decide ((k : Int) < (s.size : Int)) = true := by simp; omega
        have hd2 : decide ((ob.size : Int) < (m : Int)) = false := by simp; omega
        have HE : Hid (ob = ba (fl m s.data.toList)) := Lib.hid (by rw [fl_done HO.out (by omega)]; exact HB.out)
        go_wp2_with fail
        go_ret
        exact ⟨by rw [← HE.out]; rfl, rfl⟩
    · have hd1 : decide ((k : Int) < (s.size : Int)) = false := by simp; omega
      have HE : Hid (ob = ba (fl m s.data.toList)) := Lib.hid (by
        have h1 := HO.out
        rw [take_all s k (by omega)] at h1
        rw [fl_all h1 (by omega)]; exact HB.out)
      go_wp2_with fail
      go_ret
      exact ⟨by rw [← HE.out]; rfl, rfl⟩

/-- what a base label has before the year -/
def nmB (ti : List UInt8) (fs : List (List UInt8)) : List UInt8 := match fs with
  | [] => if fl 3 ti = [] then [65, 110, 111, 110] else fl 3 ti
  | [f] => fl 3 f
  | fs => (fs.map (fl 1)).flatten
/-- .. of the year -/
def yrB (y : Int) : List UInt8 := if y = 0 then [63, 63] else pad (y.toNat % 100) 2
def fams (L : List Nm) : List (List UInt8) := L.map fun x => x.f.data.toList
def baseL (x : En) : List UInt8 := nmB x.ti.data.toList (fams x.auL) ++ yrB x.y
theorem two_digits (u : Nat) : pad (u % 100) 2 = Lib.decDigits (u / 10 % 10) ++ Lib.decDigits (u % 10) := by
  have key : ∀ v, v < 100 → pad v 2 = Lib.decDigits (v / 10) ++ Lib.decDigits (v % 10) := by
    intro v hv
    unfold pad
    by_cases h : v < 10
    · rw [dec_small h, show v / 10 = 0 by omega, show v % 10 = v by omega, dec_small h, dec_small (u := 0) (by omega)]
      rfl
    · rw [dec_big h, dec_small (u := v / 10) (by omega), dec_small (u := v % 10) (by omega)]
      rfl
  rw [key _ (Nat.mod_lt _ (by omega)), show u % 100 / 10 = u / 10 % 10 by omega, show u % 100 % 10 = u % 10 by omega]
theorem yrB_len (y : Int) : (yrB y).length ≤ 2 := by
  unfold yrB
  split
  · simp
  · rw [pad_len]
    have := dec_le 1 (y.toNat % 100) (by omega)
    omega
theorem flat_len (fs : List (List UInt8)) : (fs.map (fl 1)).flatten.length ≤ fs.length := by
  induction fs with
  | nil => simp
  | cons f r ih => rw [List.map_cons, List.flatten_cons, List.length_append, List.length_cons]; have := fl_len 1 f; omega
theorem nmB_len (ti : List UInt8) (fs : List (List UInt8)) : (nmB ti fs).length ≤ 4 + fs.length := by
  unfold nmB
  split
  · split
    · simp
    · have := fl_len 3 ti; omega
  · rename_i f; have := fl_len 3 f; omega
  · have := flat_len fs; omega

theorem infoStr : (Tryz.prog.info? 9).map (fun i => (i.zero, i.size, i.bytes)) = some (some (.string ByteArray.empty), 1, 16) := by kernel_rfl
theorem ne_str {s : ByteArray} (h : 0 < s.size) : (s.toList == []) = false ∧ s.toList.isEmpty = false := by
  have hn : s.data.toList ≠ [] := by intro e; have := len_size s; rw [e] at this; simp at this; omega
  rw [Lib.toList_data]
  exact ⟨by rw [beq_eq_false_iff_ne]; exact hn, List.isEmpty_eq_false_iff.2 hn⟩
theorem nil_str {s : ByteArray} (h : ¬ 0 < s.size) : s = ⟨#[]⟩ := ByteArray.ext (Array.eq_empty_of_size_eq_zero (show s.data.size = 0 by have : s.data.size = s.size := rfl; omega))
set_option maxHeartbeats 1000000 in
theorem orText (A : Option Addr) (c : Nat) (t u : ByteArray) (w : World) (h : RdS w A [t, u]) (hu : 0 < u.size) :
    Calls Tryz.prog 81 #[.slice A 2 c] w fun e w' => e = .returned (.string (if 0 < t.size then t else u)) ∧ w = w' := by
  obtain ⟨g, o, rfl, c0⟩ := h 0 t rfl
  obtain ⟨g', o', e, c1⟩ := h 1 u rfl
  cases e
  rw [Nat.add_zero] at c0
  have e1 := ne_str hu
  obtain ⟨e1a, e1b⟩ := e1
  clear h
  by_cases ht : 0 < t.size
  · obtain ⟨e2a, e2b⟩ := ne_str ht
    have HE : Hid ((if 0 < t.size then t else u) = t) := Lib.hid (if_pos ht)
    go_enter Tryz.func81, Tryz.ntmps81
    go_wp2_with fail
    go_loop [8] (fun i => ∃ k : Nat, k ≤ 0 ∧ i = .int .i64 k) (fun i => 2 - (intOf i).toNat)
    case atStart => exact ⟨0, Nat.le_refl _, rfl⟩
    case round =>
      obtain ⟨k, hk, rfl⟩ := hrel
      obtain rfl : k = 0 := by omega
      go_wp2_with fail
      go_ret
      exact ⟨by first | rfl | (rw [HE.out]; rfl), rfl⟩
  · have HE : Hid ((if 0 < t.size then t else u) = u) := Lib.hid (if_neg ht)
    obtain rfl := nil_str ht
    go_enter Tryz.func81, Tryz.ntmps81
    go_wp2_with fail
    go_loop [8] (fun i => ∃ k : Nat, k ≤ 1 ∧ i = .int .i64 k) (fun i => 2 - (intOf i).toNat)
    case atStart => exact ⟨0, by omega, rfl⟩
    case round =>
      obtain ⟨k, hk, rfl⟩ := hrel
      by_cases hk0 : k = 0
      · subst hk0
        go_wp2_with fail
        go_round
        case rel => exact ⟨1, by omega, by go_num⟩
        case measure => simp [intOf]
      · obtain rfl : k = 1 := by omega
        go_wp2_with fail
        go_ret
        exact ⟨by first | rfl | (rw [HE.out]; rfl), rfl⟩
theorem anon_eq (ti : ByteArray) : ba (nmB ti.data.toList []) = (if 0 < (ba (fl 3 ti.data.toList)).size then ba (fl 3 ti.data.toList) else ⟨#[65, 110, 111, 110]⟩) := by
  unfold nmB
  rw [ba_size]
  by_cases h : fl 3 ti.data.toList = []
  · rw [if_pos h, if_neg (by rw [h]; simp)]; rfl
  · rw [if_neg h, if_pos (List.length_pos_iff.2 h)]
theorem fams_at {L : List Nm} {k : Nat} {x : Nm} (h : L[k]? = some x) : (((fams L).take (k + 1)).map (fl 1)).flatten = (((fams L).take k).map (fl 1)).flatten ++ fl 1 x.f.data.toList := by
  unfold fams
  rw [List.take_add_one, List.getElem?_map, h]
  simp
theorem fams_le (L : List Nm) (k : Nat) : (((fams L).take k).map (fl 1)).flatten.length ≤ k := by
  have := flat_len ((fams L).take k)
  rw [List.length_take] at this
  omega
theorem nmB_one {ti : List UInt8} {L : List Nm} {x : Nm} (h : L = [x]) : nmB ti (fams L) = fl 3 x.f.data.toList := by subst h; rfl
theorem nmB_many {ti : List UInt8} {L : List Nm} (h : 2 ≤ L.length) : nmB ti (fams L) = ((fams L).map (fl 1)).flatten := by
  cases L with
  | nil => simp at h
  | cons a r =>
    cases r with
    | nil => simp at h
    | cons b r => rfl
end Go.Proofs.YtbicfmoemgaapaaGreatDoor.Bl
/-
  labelOfNames of the program.
-/
namespace Go.Proofs.YtbicfmoemgaapaaGreatDoor.Bl
open Go.RowKit Pl NmPl Strs Name Nms Ens DtPl DtTx ReadPl Kpz LtI
open Num (Tab)
set_option linter.unusedSimpArgs false
set_option linter.unusedVariables false

set_option maxRecDepth 100000 in
set_option maxHeartbeats 8000000 in
theorem names_i (key : ByteArray) (kind : Int) (auA : Option Addr) (auN : Nat) (auc : Nat) (auL : List Nm) (edA : Option Addr) (edN : Nat) (edc : Nat) (edL : List Nm) (ti : ByteArray) (co : ByteArray) (pu : ByteArray) (y : Int) (m : Int) (d : Int) (ci : Bool) (vol : Int) (pa : ByteArray) (cr : ByteArray) (w : World) (hr : (⟨key, kind, auA, auN, auc, auL, edA, edN, edc, edL, ti, co, pu, y, m, d, ci, vol, pa, cr⟩ : En).Rd w) (hti : ti.size ≤ 1048576) (hf : ∀ x ∈ auL, x.f.size ≤ 1048576) (hN : auN ≤ 1048576) :
    Calls Tryz.prog 61 #[.agg #[.string key, .int .i64 kind, .slice auA auN auc, .slice edA edN edc, .string ti, .string co, .string pu, .int .i64 y, .int .i64 m, .int .i64 d, .bool ci, .int .i64 vol, .string pa, .string cr]] w fun e w' => e = .returned (.string (ba (nmB ti.data.toList (fams auL)))) ∧ Kp w w' := by
  have hb0 : Kp w (w.alloc (.cells #[.string key, .int .i64 kind, .slice auA auN auc, .slice edA edN edc, .string ti, .string co, .string pu, .int .i64 y, .int .i64 m, .int .i64 d, .bool ci, .int .i64 vol, .string pa, .string cr] 48)) := kal (kre _) _
  have HE0 := E14.new w (⟨key, kind, auA, auN, auc, auL, edA, edN, edc, edL, ti, co, pu, y, m, d, ci, vol, pa, cr⟩ : En) 48
  obtain ⟨hrA, hrN, -, -⟩ := hr
  dsimp only at hrA hrN
  have HR := Lib.hid hrA
  have HN := Lib.hid hrN
  have HF := Lib.hid hf
  clear hrA hrN hf
  have HA := Lib.hid (anon_eq ti)
  have HL3 := Lib.hid (fun w => letters_i ti 3 w hti (by omega))
  have hl3 : (ba (fl 3 ti.data.toList)).size ≤ 3 := by rw [ba_size]; exact fl_len _ _
  generalize hW : w.alloc (.cells #[.string key, .int .i64 kind, .slice auA auN auc, .slice edA edN edc, .string ti, .string co, .string pu, .int .i64 y, .int .i64 m, .int .i64 d, .bool ci, .int .i64 vol, .string pa, .string cr] 48) = w0 at *
  obtain ⟨hl, c0, c1, c2, c3, c4, c5, c6, c7, c8, c9, c10, c11, c12, c13⟩ := HE0
  dsimp only at c0 c1 c2 c3 c4 c5 c6 c7 c8 c9 c10 c11 c12 c13
  by_cases h0 : auN = 0
  · have hL : auL = [] := List.eq_nil_of_length_eq_zero (by rw [HN.out, h0])
    subst hL
    subst h0
    generalize ba (fl 3 ti.data.toList) = t at *
    go_enter Tryz.func61, Tryz.ntmps61
    go_wp2_with fail
    (try clear hW)
    refine (HL3.out _).mono ?_
    rintro e w' ⟨rfl, rfl⟩
    have hb1 : Kp w (w0.alloc (.cells #[.string t, .string ⟨#[65, 110, 111, 110]⟩] 9)) := kal hb0 _
    have hrd : RdS (w0.alloc (.cells #[.string t, .string ⟨#[65, 110, 111, 110]⟩] 9)) (some ⟨w0.heap.size, 0, none⟩) [t, ⟨#[65, 110, 111, 110]⟩] := by
      intro j x hx
      refine ⟨w0.heap.size, 0, rfl, ?_⟩
      match j, hx with
      | 0, hx => cases hx; simp
      | 1, hx => cases hx; simp
      | j + 2, hx => simp at hx
    have HO := Lib.hid (orText (some ⟨w0.heap.size, 0, none⟩) 2 t ⟨#[65, 110, 111, 110]⟩ _ hrd (by decide))
    obtain ⟨r9, hr9⟩ : ∃ r9, (if 0 < t.size then t else (⟨#[65, 110, 111, 110]⟩ : ByteArray)) = r9 := ⟨_, rfl⟩
    rw [hr9] at HO HA
    clear hr9 hrd
    go_wp2_with fail
    refine HO.out.mono ?_
    rintro e w' ⟨rfl, rfl⟩
    go_wp2_with fail
    go_ret
    exact ⟨by rw [show fams [] = [] from rfl, HA.out]; rfl, hb1⟩
  · have hd0 : ((auN : Int) == 0) = false := by simp; omega
    by_cases h1 : auN = 1
    · obtain ⟨x, hx⟩ : ∃ x, auL = [x] := List.length_eq_one_iff.1 (by rw [HN.out, h1])
      have hfx := HF.out x (by rw [hx]; exact List.mem_cons_self)
      obtain ⟨-, g, o', rfl, hg, -, -, d2, -⟩ := (HR.out.below hb0) 0 x (by rw [hx]; rfl)
      rw [Nat.zero_mul, Nat.add_zero] at d2
      have HL := Lib.hid (fun w => letters_i x.f 3 w hfx (by omega))
      have HE : Hid (nmB ti.data.toList (fams auL) = fl 3 x.f.data.toList) := Lib.hid (nmB_one hx)
      subst h1
      generalize x.f = xf at *
      clear hx hd0 h0
      go_enter Tryz.func61, Tryz.ntmps61
      go_wp2_with fail
      (try clear hW)
      refine (HL.out _).mono ?_
      rintro e w' ⟨rfl, rfl⟩
      go_wp2_with fail
      go_ret
      exact ⟨by rw [HE.out]; rfl, hb0⟩
    · have hd1 : ((auN : Int) == 1) = false := by simp; omega
      have HE : Hid (nmB ti.data.toList (fams auL) = ((fams auL).map (fl 1)).flatten) := Lib.hid (nmB_many (by rw [HN.out]; omega))
      have HB0 := Lib.hid hb0
      clear hb0
      go_enter Tryz.func61, Tryz.ntmps61
      go_wp2_with fail
      (try clear hW)
      go_loopw [3, 27] (fun v i wr => ∃ (k : Nat) (ob : ByteArray), k ≤ auN ∧ i = .int .i64 k ∧ v = .string ob ∧ Hid (ob = ba (((fams auL).take k).map (fl 1)).flatten) ∧ ob.size ≤ k ∧ Kp w wr) (fun _ i _ => auN - (intOf i).toNat)
      case atStart => exact ⟨0, ⟨#[]⟩, Nat.zero_le _, rfl, rfl, Lib.hid rfl, Nat.zero_le _, HB0.out⟩
      case round =>
        obtain ⟨k, ob, hk, rfl, rfl, HO, ho, hb⟩ := hrel
        by_cases hlt : k < auN
        · obtain ⟨x, hx⟩ : ∃ x, auL[k]? = some x := ⟨_, List.getElem?_eq_getElem (by rw [HN.out]; exact hlt)⟩
          have hfx := HF.out x (List.mem_of_getElem? hx)
          obtain ⟨-, g, o', rfl, hg, d0, d1, d2, d3⟩ := (HR.out.below hb) k x hx
          have HL := Lib.hid (fun w => letters_i x.f 1 w hfx (by omega))
          have hz : (ba (fl 1 x.f.data.toList)).size ≤ 1 := by rw [ba_size]; exact fl_len _ _
          have HS : Hid (ob ++ ba (fl 1 x.f.data.toList) = ba (((fams auL).take (k + 1)).map (fl 1)).flatten) := Lib.hid (by rw [fams_at hx, HO.out, ba_app])
          have hoz : (ob ++ ba (fl 1 x.f.data.toList)).size = ob.size + (ba (fl 1 x.f.data.toList)).size := ByteArray.size_append
          clear hx
          obtain ⟨xA, xn, xc, xxs, xp, xf, xs⟩ := x
          dsimp only at d0 d1 d2 d3 hfx HL hz HS hoz
          have hb1 : Kp w (wr.alloc (.cells #[.slice xA xn xc, .string xp, .string xf, .string xs] 69)) := kal hb _
          generalize ba (fl 1 xf.data.toList) = t at *
          go_wp2_with fail
          refine (HL.out _).mono ?_
          rintro e w' ⟨rfl, rfl⟩
          go_wp2_with fail
          go_roundw
          case rel => exact ⟨k + 1, _, by omega, by go_num, rfl, HS, by omega, hb1⟩
          case measure => (simp [intOf] <;> omega)
        · have HT : Hid (ob = ba ((fams auL).map (fl 1)).flatten) := Lib.hid (by
            have := HO.out
            rw [List.take_of_length_le (by unfold fams; rw [List.length_map, HN.out]; omega)] at this
            exact this)
          go_wp2_with fail
          go_ret
          exact ⟨by rw [HE.out, ← HT.out]; rfl, hb⟩
end Go.Proofs.YtbicfmoemgaapaaGreatDoor.Bl
/-
  l13Base of the model; labelOfYear, baseLabel of the program.
-/
namespace Go.Proofs.YtbicfmoemgaapaaGreatDoor.Bl
open Go.RowKit Pl NmPl Strs Name Nms Ens DtPl DtTx ReadPl Kpz LtI
open Num (Tab)
set_option linter.unusedSimpArgs false
set_option linter.unusedVariables false

theorem l1d (p : Nat) (w : World) (h : p < 10) : Calls Tryz.prog 36 #[.int .i64 p] w fun e w' => e = .returned (.string (ba (Lib.decDigits p))) ∧ Kp w w' :=
  (Num.l1Num_any (p : Int) w (by omega) (by omega)).mono fun _ _ h => ⟨by rw [h.1, itoa_nat], by obtain ⟨q, hq⟩ := h.2; rw [hq]; exact kdn (kre _) q⟩
theorem dig1 {p : Nat} (h : p < 10) : (ba (Lib.decDigits p)).size = 1 := by rw [ba_size, dec_small h]; rfl
theorem first_s (t : ByteArray) (w : World) : Calls Tryz.prog 34 #[.string t, .string ⟨#[65, 110, 111, 110]⟩] w fun e w' => e = .returned (.string (if 0 < t.size then t else ⟨#[65, 110, 111, 110]⟩)) ∧ w = w' := by
  by_cases ht : 0 < t.size
  · obtain ⟨e2a, e2b⟩ := ne_str ht
    have HE : Hid ((if 0 < t.size then t else (⟨#[65, 110, 111, 110]⟩ : ByteArray)) = t) := Lib.hid (if_pos ht)
    go_enter Tryz.func34, Tryz.ntmps34
    go_wp2_with fail
    go_ret
    exact ⟨by first | rfl | (rw [HE.out]; rfl), rfl⟩
  · have HE : Hid ((if 0 < t.size then t else (⟨#[65, 110, 111, 110]⟩ : ByteArray)) = ⟨#[65, 110, 111, 110]⟩) := Lib.hid (if_neg ht)
    obtain rfl := nil_str ht
    go_enter Tryz.func34, Tryz.ntmps34
    go_wp2_with fail
    go_ret
    exact ⟨by first | rfl | (rw [HE.out]; rfl), rfl⟩
theorem nm_size (ti : List UInt8) (L : List Nm) : (ba (nmB ti (fams L))).size ≤ 4 + L.length := by rw [ba_size]; have := nmB_len ti (fams L); unfold fams at this; rw [List.length_map] at this; exact this

set_option maxRecDepth 100000 in
set_option maxHeartbeats 8000000 in
theorem base_s (key : ByteArray) (kind : Int) (auA : Option Addr) (auN : Nat) (auc : Nat) (auL : List Nm) (edA : Option Addr) (edN : Nat) (edc : Nat) (edL : List Nm) (ti : ByteArray) (co : ByteArray) (pu : ByteArray) (y : Int) (m : Int) (d : Int) (ci : Bool) (vol : Int) (pa : ByteArray) (cr : ByteArray) (w : World) (hr : (⟨key, kind, auA, auN, auc, auL, edA, edN, edc, edL, ti, co, pu, y, m, d, ci, vol, pa, cr⟩ : En).Rd w) (hti : ti.size ≤ 1048576) (hf : ∀ x ∈ auL, x.f.size ≤ 1048576) (hN : auN ≤ 1048576) (hy1 : 0 ≤ y) (hy2 : y ≤ 9999) :
    Calls Tryz.prog 19 #[.agg #[.string key, .int .i64 kind, .slice auA auN auc, .slice edA edN edc, .string ti, .string co, .string pu, .int .i64 y, .int .i64 m, .int .i64 d, .bool ci, .int .i64 vol, .string pa, .string cr]] w fun e w' => e = .returned (.string (ba (baseL (⟨key, kind, auA, auN, auc, auL, edA, edN, edc, edL, ti, co, pu, y, m, d, ci, vol, pa, cr⟩ : En)))) ∧ Kp w w' := by
  have hb0 : Kp w (w.alloc (.cells #[.string key, .int .i64 kind, .slice auA auN auc, .slice edA edN edc, .string ti, .string co, .string pu, .int .i64 y, .int .i64 m, .int .i64 d, .bool ci, .int .i64 vol, .string pa, .string cr] 48)) := kal (kre _) _
  have HE0 := E14.new w (⟨key, kind, auA, auN, auc, auL, edA, edN, edc, edL, ti, co, pu, y, m, d, ci, vol, pa, cr⟩ : En) 48
  obtain ⟨hrA, hrN, -, -⟩ := hr
  dsimp only at hrA hrN
  have HR := Lib.hid hrA
  have HN := Lib.hid hrN
  have HF := Lib.hid hf
  clear hrA hrN hf
  have HA := Lib.hid (anon_eq ti)
  have HL3 := Lib.hid (fun w => letters_s ti 3 w hti (by omega))
  have hl3 : (ba (fl 3 ti.data.toList)).size ≤ 3 := by rw [ba_size]; exact fl_len _ _
  have hNBz := nm_size ti.data.toList auL
  rw [HN.out] at hNBz
  obtain ⟨NB, HNB⟩ : ∃ NB, Hid (NB = ba (nmB ti.data.toList (fams auL))) := ⟨_, Lib.hid rfl⟩
  rw [← HNB.out] at hNBz
  have HBL0 : Hid (∀ X, yrB y = X → ba (baseL (⟨key, kind, auA, auN, auc, auL, edA, edN, edc, edL, ti, co, pu, y, m, d, ci, vol, pa, cr⟩ : En)) = NB ++ ba X) := Lib.hid (fun X h => by rw [HNB.out, ba_app, ← h]; rfl)
  generalize hBL : baseL (⟨key, kind, auA, auN, auc, auL, edA, edN, edc, edL, ti, co, pu, y, m, d, ci, vol, pa, cr⟩ : En) = BL at *
  have HBL := HBL0
  clear hBL HBL0
  generalize hW : w.alloc (.cells #[.string key, .int .i64 kind, .slice auA auN auc, .slice edA edN edc, .string ti, .string co, .string pu, .int .i64 y, .int .i64 m, .int .i64 d, .bool ci, .int .i64 vol, .string pa, .string cr] 48) = w0 at *
  obtain ⟨hl, c0, c1, c2, c3, c4, c5, c6, c7, c8, c9, c10, c11, c12, c13⟩ := HE0
  dsimp only at c0 c1 c2 c3 c4 c5 c6 c7 c8 c9 c10 c11 c12 c13
  by_cases h0 : auN = 0
  · have hL : auL = [] := List.eq_nil_of_length_eq_zero (by rw [HN.out, h0])
    subst hL
    subst h0
    generalize ba (fl 3 ti.data.toList) = t at *
    have HO := Lib.hid (fun w => first_s t w)
    have hr9 : (if 0 < t.size then t else (⟨#[65, 110, 111, 110]⟩ : ByteArray)) = NB := by rw [HNB.out, show fams [] = [] from rfl]; exact HA.out.symm
    rw [hr9] at HO
    clear hr9
    go_enter Tryz.func19, Tryz.ntmps19
    go_wp2_with fail
    (try clear hW)
    refine (HL3.out _).mono ?_
    rintro e w' ⟨rfl, rfl⟩
    go_wp2_with fail
    refine (HO.out _).mono ?_
    rintro e w' ⟨rfl, rfl⟩
    have HB9 := Lib.hid hb0
    (try clear hb0)
    by_cases hy0 : y = 0
    · subst hy0
      have HF : Hid (NB ++ (⟨#[63, 63]⟩ : ByteArray) = ba BL) := Lib.hid (by rw [HBL.out [63, 63] rfl]; rfl)
      have hz : (NB ++ (⟨#[63, 63]⟩ : ByteArray)).size = NB.size + 2 := ByteArray.size_append
      go_wp2_with fail
      go_ret
      exact ⟨by rw [← HF.out]; rfl, HB9.out⟩
    · obtain ⟨u, rfl⟩ := Int.eq_ofNat_of_zero_le hy1
      have hyd : (((u : Nat) : Int) == 0) = false := by simp at hy0 ⊢; exact hy0
      obtain ⟨p, hp⟩ : ∃ p, u / 10 % 10 = p := ⟨_, rfl⟩
      obtain ⟨q, hq⟩ : ∃ q, u % 10 = q := ⟨_, rfl⟩
      obtain ⟨v, hv⟩ : ∃ v, u / 10 = v := ⟨_, rfl⟩
      have hq1 : ((u : Nat) : Int).tdiv 10 = (v : Int) := by rw [Int.tdiv_eq_ediv_of_nonneg (by omega)]; omega
      have hq1w : IntKind.i64.wrap (v : Int) = (v : Int) := IntWalk.i64_in _ (by omega)
      have hq2 : (v : Int).tmod 10 = (p : Int) := by rw [Int.tmod_eq_emod_of_nonneg (by omega)]; omega
      have hq3 : ((u : Nat) : Int).tmod 10 = (q : Int) := by rw [Int.tmod_eq_emod_of_nonneg (by omega)]; omega
      have hq2w : IntKind.i64.wrap (p : Int) = (p : Int) := IntWalk.i64_in _ (by omega)
      have hq3w : IntKind.i64.wrap (q : Int) = (q : Int) := IntWalk.i64_in _ (by omega)
      have HN1 := Lib.hid (fun w => l1d p w (by omega))
      have HN2 := Lib.hid (fun w => l1d q w (by omega))
      have HF : Hid ((NB ++ ba (Lib.decDigits p)) ++ ba (Lib.decDigits q) = ba BL) := Lib.hid (by
        rw [HBL.out (Lib.decDigits p ++ Lib.decDigits q) (by
          unfold yrB
          rw [if_neg (by simpa using hy0), show ((u : Nat) : Int).toNat = u from rfl, two_digits, hp, hq]), ← ba_app]
        apply ByteArray.ext
        simp [ba])
      have hd1 := dig1 (p := p) (by omega)
      have hd2 := dig1 (p := q) (by omega)
      generalize ba (Lib.decDigits p) = tp at *
      generalize ba (Lib.decDigits q) = tq at *
      have hz1 : (NB ++ tp).size = NB.size + 1 := by rw [ByteArray.size_append, hd1]
      have hz2 : (NB ++ tp ++ tq).size = NB.size + 2 := by rw [ByteArray.size_append, hz1, hd2]
      have hL1 : ¬ 9223372036854775807 < NB.size + 1 := by omega
      have hL2 : ¬ 9223372036854775807 < NB.size + 2 := by omega
      have hL3 : ¬ 9223372036854775807 < NB.size + 1 + 1 := by omega
      have hc7 := c7
      have HSS : Hid (∀ w', Kp w0 w' → w'.cell? ⟨w.heap.size, 7, none⟩ = some (.int .i64 ((u : Nat) : Int)) ∧ Kp w0 w') := Lib.hid (fun w' h => ⟨(h.cell (p := ⟨w.heap.size, 7, none⟩) hl).trans hc7, h⟩)
      have HK0 := Lib.hid (kdr (kre w0))
      clear hp hq hv hy0
      go_wp2_with fail
      go_region_held3 (fun w' => w'.cell? ⟨w.heap.size, 7, none⟩ = some (.int .i64 ((u : Nat) : Int)) ∧ Kp w0 w')
        (first | exact HSS.out _ HK0.out | exact HSS.out _ (by assumption))
        (first
          | (go_at_call 36; (with_reducible refine (HN1.out _).mono ?_); rintro e wa ⟨rfl, bka⟩; have hka : Kp w0 wa := ktr (by first | assumption | exact HK0.out) bka; clear bka)
          | (go_at_call 36; (with_reducible refine (HN2.out _).mono ?_); rintro e wb ⟨rfl, bkb⟩; have hkb : Kp w0 wb := ktr (by first | assumption | exact HK0.out) bkb; clear bkb))
      all_goals
        (try clear hHeld)
        have hkf : Kp w _ := ktr HB9.out (by assumption)
        go_wp2_with fail
        go_ret
        exact ⟨by rw [← HF.out]; rfl, hkf⟩
  · have hd0 : ((auN : Int) == 0) = false := by simp; omega
    by_cases h1 : auN = 1
    · obtain ⟨x, hx⟩ : ∃ x, auL = [x] := List.length_eq_one_iff.1 (by rw [HN.out, h1])
      have hfx := HF.out x (by rw [hx]; exact List.mem_cons_self)
      obtain ⟨-, g, o', rfl, hg, -, -, d2, -⟩ := (HR.out.below hb0) 0 x (by rw [hx]; rfl)
      rw [Nat.zero_mul, Nat.add_zero] at d2
      have HL := Lib.hid (fun w => letters_s x.f 3 w hfx (by omega))
      have hE : ba (fl 3 x.f.data.toList) = NB := by rw [HNB.out, nmB_one hx]
      rw [hE] at HL
      subst h1
      clear hE hd0 h0 hx
      generalize x.f = xf at *
      go_enter Tryz.func19, Tryz.ntmps19
      go_wp2_with fail
      (try clear hW)
      refine (HL.out _).mono ?_
      rintro e w' ⟨rfl, rfl⟩
      have HB9 := Lib.hid hb0
      (try clear hb0)
      by_cases hy0 : y = 0
      · subst hy0
        have HF : Hid (NB ++ (⟨#[63, 63]⟩ : ByteArray) = ba BL) := Lib.hid (by rw [HBL.out [63, 63] rfl]; rfl)
        have hz : (NB ++ (⟨#[63, 63]⟩ : ByteArray)).size = NB.size + 2 := ByteArray.size_append
        go_wp2_with fail
        go_ret
        exact ⟨by rw [← HF.out]; rfl, HB9.out⟩
      · obtain ⟨u, rfl⟩ := Int.eq_ofNat_of_zero_le hy1
        have hyd : (((u : Nat) : Int) == 0) = false := by simp at hy0 ⊢; exact hy0
        obtain ⟨p, hp⟩ : ∃ p, u / 10 % 10 = p := ⟨_, rfl⟩
        obtain ⟨q, hq⟩ : ∃ q, u % 10 = q := ⟨_, rfl⟩
        obtain ⟨v, hv⟩ : ∃ v, u / 10 = v := ⟨_, rfl⟩
        have hq1 : ((u : Nat) : Int).tdiv 10 = (v : Int) := by rw [Int.tdiv_eq_ediv_of_nonneg (by omega)]; omega
        have hq1w : IntKind.i64.wrap (v : Int) = (v : Int) := IntWalk.i64_in _ (by omega)
        have hq2 : (v : Int).tmod 10 = (p : Int) := by rw [Int.tmod_eq_emod_of_nonneg (by omega)]; omega
        have hq3 : ((u : Nat) : Int).tmod 10 = (q : Int) := by rw [Int.tmod_eq_emod_of_nonneg (by omega)]; omega
        have hq2w : IntKind.i64.wrap (p : Int) = (p : Int) := IntWalk.i64_in _ (by omega)
        have hq3w : IntKind.i64.wrap (q : Int) = (q : Int) := IntWalk.i64_in _ (by omega)
        have HN1 := Lib.hid (fun w => l1d p w (by omega))
        have HN2 := Lib.hid (fun w => l1d q w (by omega))
        have HF : Hid ((NB ++ ba (Lib.decDigits p)) ++ ba (Lib.decDigits q) = ba BL) := Lib.hid (by
          rw [HBL.out (Lib.decDigits p ++ Lib.decDigits q) (by
            unfold yrB
            rw [if_neg (by simpa using hy0), show ((u : Nat) : Int).toNat = u from rfl, two_digits, hp, hq]), ← ba_app]
          apply ByteArray.ext
          simp [ba])
        have hd1 := dig1 (p := p) (by omega)
        have hd2 := dig1 (p := q) (by omega)
        generalize ba (Lib.decDigits p) = tp at *
        generalize ba (Lib.decDigits q) = tq at *
        have hz1 : (NB ++ tp).size = NB.size + 1 := by rw [ByteArray.size_append, hd1]
        have hz2 : (NB ++ tp ++ tq).size = NB.size + 2 := by rw [ByteArray.size_append, hz1, hd2]
        have hL1 : ¬ 9223372036854775807 < NB.size + 1 := by omega
        have hL2 : ¬ 9223372036854775807 < NB.size + 2 := by omega
        have hL3 : ¬ 9223372036854775807 < NB.size + 1 + 1 := by omega
        have hc7 := c7
        have HSS : Hid (∀ w', Kp w0 w' → w'.cell? ⟨w.heap.size, 7, none⟩ = some (.int .i64 ((u : Nat) : Int)) ∧ Kp w0 w') := Lib.hid (fun w' h => ⟨(h.cell (p := ⟨w.heap.size, 7, none⟩) hl).trans hc7, h⟩)
        have HK0 := Lib.hid (kdr (kre w0))
        clear hp hq hv hy0
        go_wp2_with fail
        go_region_held3 (fun w' => w'.cell? ⟨w.heap.size, 7, none⟩ = some (.int .i64 ((u : Nat) : Int)) ∧ Kp w0 w')
          (first | exact HSS.out _ HK0.out | exact HSS.out _ (by assumption))
          (first
            | (go_at_call 36; (with_reducible refine (HN1.out _).mono ?_); rintro e wa ⟨rfl, bka⟩; have hka : Kp w0 wa := ktr (by first | assumption | exact HK0.out) bka; clear bka)
            | (go_at_call 36; (with_reducible refine (HN2.out _).mono ?_); rintro e wb ⟨rfl, bkb⟩; have hkb : Kp w0 wb := ktr (by first | assumption | exact HK0.out) bkb; clear bkb))
        all_goals
          (try clear hHeld)
          have hkf : Kp w _ := ktr HB9.out (by assumption)
          go_wp2_with fail
          go_ret
          exact ⟨by rw [← HF.out]; rfl, hkf⟩
    · have hd1 : ((auN : Int) == 1) = false := by simp; omega
      have HE : Hid (NB = ba ((fams auL).map (fl 1)).flatten) := Lib.hid (by rw [HNB.out, nmB_many (by rw [HN.out]; omega)])
      have HB0 := Lib.hid hb0
      have HC2 := Lib.hid c2
      have HC7 := Lib.hid c7
      have hwl : w.heap.size < w0.heap.size := hl
      clear hb0
      go_enter Tryz.func19, Tryz.ntmps19
      go_wp2_with fail
      (try clear hW)
      go_loop [3, 4] (fun v i => ∃ (k : Nat) (ob : ByteArray), k ≤ auN ∧ i = .int .i64 k ∧ v = .string ob ∧ Hid (ob = ba (((fams auL).take k).map (fl 1)).flatten) ∧ ob.size ≤ k) (fun _ i => auN - (intOf i).toNat)
      case atStart => exact ⟨0, ⟨#[]⟩, Nat.zero_le _, rfl, rfl, Lib.hid rfl, Nat.zero_le _⟩
      case round =>
        obtain ⟨k, ob, hk, rfl, rfl, HO, ho⟩ := hrel
        by_cases hlt : k < auN
        · obtain ⟨x, hx⟩ : ∃ x, auL[k]? = some x := ⟨_, List.getElem?_eq_getElem (by rw [HN.out]; exact hlt)⟩
          have hfx := HF.out x (List.mem_of_getElem? hx)
          obtain ⟨-, g, o', rfl, hg, -, -, d2, -⟩ := (HR.out.below HB0.out) k x hx
          have HL := Lib.hid (fun w => letters_s x.f 1 w hfx (by omega))
          have hz : (ba (fl 1 x.f.data.toList)).size ≤ 1 := by rw [ba_size]; exact fl_len _ _
          have HS : Hid (ob ++ ba (fl 1 x.f.data.toList) = ba (((fams auL).take (k + 1)).map (fl 1)).flatten) := Lib.hid (by rw [fams_at hx, HO.out, ba_app])
          have hoz : (ob ++ ba (fl 1 x.f.data.toList)).size = ob.size + (ba (fl 1 x.f.data.toList)).size := ByteArray.size_append
          clear hx
          generalize x.f = xf at *
          generalize ba (fl 1 xf.data.toList) = t at *
          go_wp2_with fail
          refine (HL.out _).mono ?_
          rintro e w' ⟨rfl, rfl⟩
          go_wp2_with fail
          go_round
          case rel => exact ⟨k + 1, _, by omega, by go_num, rfl, HS, by omega⟩
          case measure => (simp [intOf] <;> omega)
        · have HT : Hid (ob = NB) := Lib.hid (by
            have := HO.out
            rw [List.take_of_length_le (by unfold fams; rw [List.length_map, HN.out]; omega)] at this
            rw [HE.out]; exact this)
          have hT := HT.out
          subst hT
          have HB9 := Lib.hid HB0.out
          (try clear HB0.out)
          by_cases hy0 : y = 0
          · subst hy0
            have HF : Hid (ob ++ (⟨#[63, 63]⟩ : ByteArray) = ba BL) := Lib.hid (by rw [HBL.out [63, 63] rfl]; rfl)
            have hz : (ob ++ (⟨#[63, 63]⟩ : ByteArray)).size = ob.size + 2 := ByteArray.size_append
            go_wp2_with fail
            go_ret
            exact ⟨by rw [← HF.out]; rfl, HB9.out⟩
          · obtain ⟨u, rfl⟩ := Int.eq_ofNat_of_zero_le hy1
            have hyd : (((u : Nat) : Int) == 0) = false := by simp at hy0 ⊢; exact hy0
            obtain ⟨p, hp⟩ : ∃ p, u / 10 % 10 = p := ⟨_, rfl⟩
            obtain ⟨q, hq⟩ : ∃ q, u % 10 = q := ⟨_, rfl⟩
            obtain ⟨v, hv⟩ : ∃ v, u / 10 = v := ⟨_, rfl⟩
            have hq1 : ((u : Nat) : Int).tdiv 10 = (v : Int) := by rw [Int.tdiv_eq_ediv_of_nonneg (by omega)]; omega
            have hq1w : IntKind.i64.wrap (v : Int) = (v : Int) := IntWalk.i64_in _ (by omega)
            have hq2 : (v : Int).tmod 10 = (p : Int) := by rw [Int.tmod_eq_emod_of_nonneg (by omega)]; omega
            have hq3 : ((u : Nat) : Int).tmod 10 = (q : Int) := by rw [Int.tmod_eq_emod_of_nonneg (by omega)]; omega
            have hq2w : IntKind.i64.wrap (p : Int) = (p : Int) := IntWalk.i64_in _ (by omega)
            have hq3w : IntKind.i64.wrap (q : Int) = (q : Int) := IntWalk.i64_in _ (by omega)
            have HN1 := Lib.hid (fun w => l1d p w (by omega))
            have HN2 := Lib.hid (fun w => l1d q w (by omega))
            have HF : Hid ((ob ++ ba (Lib.decDigits p)) ++ ba (Lib.decDigits q) = ba BL) := Lib.hid (by
              rw [HBL.out (Lib.decDigits p ++ Lib.decDigits q) (by
                unfold yrB
                rw [if_neg (by simpa using hy0), show ((u : Nat) : Int).toNat = u from rfl, two_digits, hp, hq]), ← ba_app]
              apply ByteArray.ext
              simp [ba])
            have hd1 := dig1 (p := p) (by omega)
            have hd2 := dig1 (p := q) (by omega)
            generalize ba (Lib.decDigits p) = tp at *
            generalize ba (Lib.decDigits q) = tq at *
            have hz1 : (ob ++ tp).size = ob.size + 1 := by rw [ByteArray.size_append, hd1]
            have hz2 : (ob ++ tp ++ tq).size = ob.size + 2 := by rw [ByteArray.size_append, hz1, hd2]
            have hL1 : ¬ 9223372036854775807 < ob.size + 1 := by omega
            have hL2 : ¬ 9223372036854775807 < ob.size + 2 := by omega
            have hL3 : ¬ 9223372036854775807 < ob.size + 1 + 1 := by omega
            have hc7 := HC7.out
            have HSS : Hid (∀ w', Kp w0 w' → w'.cell? ⟨w.heap.size, 7, none⟩ = some (.int .i64 ((u : Nat) : Int)) ∧ Kp w0 w') := Lib.hid (fun w' h => ⟨(h.cell (p := ⟨w.heap.size, 7, none⟩) hwl).trans hc7, h⟩)
            have HK0 := Lib.hid (kdr (kre w0))
            clear hp hq hv hy0
            go_wp2_with fail
            go_region_held3 (fun w' => w'.cell? ⟨w.heap.size, 7, none⟩ = some (.int .i64 ((u : Nat) : Int)) ∧ Kp w0 w')
              (first | exact HSS.out _ HK0.out | exact HSS.out _ (by assumption))
              (first
                | (go_at_call 36; (with_reducible refine (HN1.out _).mono ?_); rintro e wa ⟨rfl, bka⟩; have hka : Kp w0 wa := ktr (by first | assumption | exact HK0.out) bka; clear bka)
                | (go_at_call 36; (with_reducible refine (HN2.out _).mono ?_); rintro e wb ⟨rfl, bkb⟩; have hkb : Kp w0 wb := ktr (by first | assumption | exact HK0.out) bkb; clear bkb))
            all_goals
              (try clear hHeld)
              have hkf : Kp w _ := ktr HB9.out (by assumption)
              go_wp2_with fail
              go_ret
              exact ⟨by rw [← HF.out]; rfl, hkf⟩

end Go.Proofs.YtbicfmoemgaapaaGreatDoor.Bl
/-
  baseLabel and BaseLabel of both.
-/
namespace Go.Proofs.YtbicfmoemgaapaaGreatDoor.Bl
open Go.RowKit Pl NmPl Strs Name Nms Ens DtPl DtTx ReadPl Kpz LtI
open Num (Tab)
set_option linter.unusedSimpArgs false
set_option linter.unusedVariables false

theorem year_i (y : Int) (w : World) (h0 : 0 ≤ y) (h1 : y ≤ 9999) (ht : Tab w) :
    Calls Tryz.prog 62 #[.int .i64 y] w fun e w' => e = .returned (.string (ba (yrB y))) ∧ Kp w w' := by
  by_cases hy : y = 0
  · subst hy
    clear ht
    go_enter Tryz.func62, Tryz.ntmps62
    go_wp2_with fail
    go_ret
    exact ⟨rfl, kre _⟩
  · obtain ⟨u, rfl⟩ := Int.eq_ofNat_of_zero_le h0
    obtain ⟨v, hv⟩ : ∃ v, u % 100 = v := ⟨_, rfl⟩
    have hm : ((u : Nat) : Int).tmod 100 = (v : Int) := by rw [Int.tmod_eq_emod_of_nonneg (by omega)]; omega
    have hd : (((u : Nat) : Int) == 0) = false := by simp at hy ⊢; exact hy
    have HP := Lib.hid (DtF.padDecimal v 2 w (by omega) (by omega) ht)
    have HE : Hid (yrB ((u : Nat) : Int) = pad v 2) := Lib.hid (by unfold yrB; rw [if_neg (by simpa using hy), show ((u : Nat) : Int).toNat = u from rfl, hv])
    clear ht hy hv
    go_enter Tryz.func62, Tryz.ntmps62
    go_wp2_with fail
    refine HP.out.mono ?_
    rintro e w1 ⟨rfl, b1⟩
    go_wp2_with fail
    go_ret
    exact ⟨by rw [HE.out]; rfl, b1⟩
set_option maxRecDepth 100000 in
set_option maxHeartbeats 8000000 in
theorem base_i (key : ByteArray) (kind : Int) (auA : Option Addr) (auN : Nat) (auc : Nat) (auL : List Nm) (edA : Option Addr) (edN : Nat) (edc : Nat) (edL : List Nm) (ti : ByteArray) (co : ByteArray) (pu : ByteArray) (y : Int) (m : Int) (d : Int) (ci : Bool) (vol : Int) (pa : ByteArray) (cr : ByteArray) (w : World) (hr : (⟨key, kind, auA, auN, auc, auL, edA, edN, edc, edL, ti, co, pu, y, m, d, ci, vol, pa, cr⟩ : En).Rd w) (hti : ti.size ≤ 1048576) (hf : ∀ x ∈ auL, x.f.size ≤ 1048576) (hN : auN ≤ 1048576) (hy1 : 0 ≤ y) (hy2 : y ≤ 9999) (ht : Tab w) :
    Calls Tryz.prog 40 #[.agg #[.string key, .int .i64 kind, .slice auA auN auc, .slice edA edN edc, .string ti, .string co, .string pu, .int .i64 y, .int .i64 m, .int .i64 d, .bool ci, .int .i64 vol, .string pa, .string cr]] w fun e w' => e = .returned (.string (ba (baseL (⟨key, kind, auA, auN, auc, auL, edA, edN, edc, edL, ti, co, pu, y, m, d, ci, vol, pa, cr⟩ : En)))) ∧ Kp w w' := by
  have hb0 : Kp w (w.alloc (.cells #[.string key, .int .i64 kind, .slice auA auN auc, .slice edA edN edc, .string ti, .string co, .string pu, .int .i64 y, .int .i64 m, .int .i64 d, .bool ci, .int .i64 vol, .string pa, .string cr] 48)) := kal (kre _) _
  have HE0 := E14.new w (⟨key, kind, auA, auN, auc, auL, edA, edN, edc, edL, ti, co, pu, y, m, d, ci, vol, pa, cr⟩ : En) 48
  have hNBz := nm_size ti.data.toList auL
  rw [show auL.length = auN from hr.2.1] at hNBz
  have hYz : (ba (yrB y)).size ≤ 2 := by rw [ba_size]; exact yrB_len y
  have HF : Hid (ba (nmB ti.data.toList (fams auL)) ++ ba (yrB y) = ba (baseL (⟨key, kind, auA, auN, auc, auL, edA, edN, edc, edL, ti, co, pu, y, m, d, ci, vol, pa, cr⟩ : En))) := Lib.hid (by rw [ba_app]; rfl)
  have HC1 := Lib.hid (fun w' (h : Kp w w') => names_i key kind auA auN auc auL edA edN edc edL ti co pu y m d ci vol pa cr w' (hr.below h) hti hf hN)
  have HC2 := Lib.hid (fun w' (h : Kp w w') => year_i y w' hy1 hy2 (ht.below h))
  generalize ba (nmB ti.data.toList (fams auL)) = nb at *
  generalize ba (yrB y) = yb at *
  clear hr ht hf
  generalize hW : w.alloc (.cells #[.string key, .int .i64 kind, .slice auA auN auc, .slice edA edN edc, .string ti, .string co, .string pu, .int .i64 y, .int .i64 m, .int .i64 d, .bool ci, .int .i64 vol, .string pa, .string cr] 48) = w0 at *
  have hz : (nb ++ yb).size = nb.size + yb.size := ByteArray.size_append
  have hL1 : ¬ 9223372036854775807 < nb.size + yb.size := by omega
  have HSS : Hid (∀ w', Kp w0 w' → (w'.cell? ⟨w.heap.size, 0, none⟩ = some (.string key) ∧ w'.cell? ⟨w.heap.size, 1, none⟩ = some (.int .i64 kind) ∧ w'.cell? ⟨w.heap.size, 2, none⟩ = some (.slice auA auN auc) ∧ w'.cell? ⟨w.heap.size, 3, none⟩ = some (.slice edA edN edc) ∧ w'.cell? ⟨w.heap.size, 4, none⟩ = some (.string ti) ∧ w'.cell? ⟨w.heap.size, 5, none⟩ = some (.string co) ∧ w'.cell? ⟨w.heap.size, 6, none⟩ = some (.string pu) ∧ w'.cell? ⟨w.heap.size, 7, none⟩ = some (.int .i64 y) ∧ w'.cell? ⟨w.heap.size, 8, none⟩ = some (.int .i64 m) ∧ w'.cell? ⟨w.heap.size, 9, none⟩ = some (.int .i64 d) ∧ w'.cell? ⟨w.heap.size, 10, none⟩ = some (.bool ci) ∧ w'.cell? ⟨w.heap.size, 11, none⟩ = some (.int .i64 vol) ∧ w'.cell? ⟨w.heap.size, 12, none⟩ = some (.string pa) ∧ w'.cell? ⟨w.heap.size, 13, none⟩ = some (.string cr)) ∧ Kp w0 w') := Lib.hid (fun w' h => ⟨(HE0.below h).2, h⟩)
  have HK0 := Lib.hid (kdr (kre w0))
  have HB0 := Lib.hid hb0
  obtain ⟨hl, c0, c1, c2, c3, c4, c5, c6, c7, c8, c9, c10, c11, c12, c13⟩ := HE0
  dsimp only at c0 c1 c2 c3 c4 c5 c6 c7 c8 c9 c10 c11 c12 c13
  clear hb0
  go_enter Tryz.func40, Tryz.ntmps40
  go_wp2_with fail
  go_region_held3 (fun w' => (w'.cell? ⟨w.heap.size, 0, none⟩ = some (.string key) ∧ w'.cell? ⟨w.heap.size, 1, none⟩ = some (.int .i64 kind) ∧ w'.cell? ⟨w.heap.size, 2, none⟩ = some (.slice auA auN auc) ∧ w'.cell? ⟨w.heap.size, 3, none⟩ = some (.slice edA edN edc) ∧ w'.cell? ⟨w.heap.size, 4, none⟩ = some (.string ti) ∧ w'.cell? ⟨w.heap.size, 5, none⟩ = some (.string co) ∧ w'.cell? ⟨w.heap.size, 6, none⟩ = some (.string pu) ∧ w'.cell? ⟨w.heap.size, 7, none⟩ = some (.int .i64 y) ∧ w'.cell? ⟨w.heap.size, 8, none⟩ = some (.int .i64 m) ∧ w'.cell? ⟨w.heap.size, 9, none⟩ = some (.int .i64 d) ∧ w'.cell? ⟨w.heap.size, 10, none⟩ = some (.bool ci) ∧ w'.cell? ⟨w.heap.size, 11, none⟩ = some (.int .i64 vol) ∧ w'.cell? ⟨w.heap.size, 12, none⟩ = some (.string pa) ∧ w'.cell? ⟨w.heap.size, 13, none⟩ = some (.string cr)) ∧ Kp w0 w')
    (first | exact HSS.out _ HK0.out | exact HSS.out _ (by assumption))
    (first
      | (go_at_call 61; (with_reducible refine (HC1.out _ (ktr HB0.out (by first | assumption | exact HK0.out))).mono ?_); rintro e wa ⟨rfl, bka⟩; have hka : Kp w0 wa := ktr (by first | assumption | exact HK0.out) bka; clear bka)
      | (go_at_call 62; (with_reducible refine (HC2.out _ (ktr HB0.out (by first | assumption | exact HK0.out))).mono ?_); rintro e wb ⟨rfl, bkb⟩; have hkb : Kp w0 wb := ktr (by first | assumption | exact HK0.out) bkb; clear bkb))
  all_goals
    (try clear hHeld)
    have hkf : Kp w _ := ktr HB0.out (by assumption)
    (try clear hW)
    go_wp2_with fail
    go_ret
    exact ⟨by rw [← HF.out]; rfl, hkf⟩
/-- what BaseLabel answers -/
def btS (e : En) : ByteArray := if okE e then ba (baseL e) else ⟨#[]⟩
def btB (e : En) : Bool := okE e
theorem btS_kk {x y : En} (h : x.key4 = y.key4) : btS x = btS y := by
  unfold btS
  rw [Lbs.okE_k h]
  have hb : baseL x = baseL y := by
    simp only [En.key4, Prod.mk.injEq] at h
    obtain ⟨h1, h2, h3, h4, h5, h6, h7, ⟨h8, h9, h10, h11⟩, h12, h13, h14⟩ := h
    have e : ∀ K : List Nm, fams K = (K.map Nm.key).map fun k => k.2.2.1.data.toList := fun K => by rw [List.map_map]; rfl
    unfold baseL
    rw [h5, h8, e, e, h3]
  rw [hb]
theorem btB_kk {x y : En} (h : x.key4 = y.key4) : btB x = btB y := Lbs.okE_k h
theorem szL_kk {L M : List Nm} (h : L.map Nm.key = M.map Nm.key) : szL L = szL M := Lbs.szL_k4 h
theorem small {auL edL : List Nm} {auN edN : Nat} {key ti co pu pa cr : ByteArray} (hz : key.size + (auN + szL auL) + (edN + szL edL) + ti.size + co.size + pu.size + pa.size + cr.size ≤ 1048576) : ti.size ≤ 1048576 ∧ (∀ x ∈ auL, x.f.size ≤ 1048576) ∧ auN ≤ 1048576 := by
  refine ⟨by omega, fun x hx => ?_, by omega⟩
  have h1 := szL_mem hx
  unfold Nm.sz at h1
  omega
theorem year_of {x : En} (h : okE x = true) : 0 ≤ x.y ∧ x.y ≤ 9999 := by
  unfold okE at h
  simp only [Bool.and_eq_true] at h
  have := ok_bd h.2.2.2.2.2.2.2.2.1
  exact ⟨this.1, by omega⟩

end Go.Proofs.YtbicfmoemgaapaaGreatDoor.Bl
