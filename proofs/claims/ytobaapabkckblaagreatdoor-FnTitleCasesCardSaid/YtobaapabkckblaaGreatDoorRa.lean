/-
  Contracts of raiseFirstLetter and l6Raise of the model.
-/
import Derived.Test.YtobaapabkckblaaGreatDoorLt
import Derived.Test.YtobaapabkckblaaGreatDoorShelf
import Derived.Test.YtobaapabkckblaaGreatDoorBt
import Derived.Deep.RegionHeld3
import Derived.IntWalk
namespace Go.Proofs.YtobaapabkckblaaGreatDoor.Ra
open Go.RowKit Pl NmPl TiPl Word Lt
set_option linter.unusedVariables false
set_option linter.unusedSimpArgs false

theorem ext0 (s : ByteArray) (k : Nat) : s.extract 0 k = ba (s.data.toList.take k) := by rw [extract_list, List.drop_zero]
theorem ext1 (s : ByteArray) (k : Nat) (h : k < s.size) : s.extract k (k + 1) = ba [s[k]] := by
  rw [cut_at]
  congr 1
  rw [List.drop_eq_getElem_cons (by rw [len_size]; exact h)]
  rfl
theorem ext2 (s : ByteArray) (k : Nat) : s.extract k s.size = ba (s.data.toList.drop k) := by rw [extract_list, take_all s _ (Nat.le_refl _)]
theorem at_split (s : ByteArray) (k : Nat) (h : k < s.size) : s.data.toList = s.data.toList.take k ++ s[k] :: s.data.toList.drop (k + 1) := by
  conv => lhs; rw [← List.take_append_drop k s.data.toList, List.drop_eq_getElem_cons (by rw [len_size]; exact h)]
  rfl
theorem ba_app (a b : List UInt8) : ba a ++ ba b = ba (a ++ b) := by apply ByteArray.ext; simp [ba]
theorem any_snoc (p : UInt8 → Bool) (s : ByteArray) (k : Nat) (h : k < s.size) : (s.data.toList.take (k + 1)).any p = ((s.data.toList.take k).any p || p s[k]) := by
  rw [take_snoc s k h]; simp
theorem lt_128 {c : UInt8} (h : isLt c = true) : c.toNat < 128 := by
  simp [isLt, isUp, isLo] at h; omega
theorem upper_one (c : UInt8) (h : isLt c = true) (w : World) : Calls Tryz.prog 101 #[.string (ba [c])] w fun e w' => e = .returned (.string (ba [Lib.upperB c])) ∧ Below w.heap.size w w' := by
  have := Tryz.strings_ToUpper_ascii (ba [c]) w (by rw [ba_size]; simp) (fun j b hj => by
    rw [toList_ba] at hj
    match j, hj with
    | 0, hj => simp at hj; subst hj; exact lt_128 h)
  rw [toList_ba] at this
  exact this
theorem raise_at (s : ByteArray) (k : Nat) (h : k < s.size) (hn : (s.data.toList.take k).any isLt = false) (hc : isLt s[k] = true) :
    s.extract 0 k ++ ba [Lib.upperB s[k]] ++ s.extract (k + 1) s.size = ba (raise s.data.toList) := by
  rw [ext0, ext2, ba_app, ba_app]
  congr 1
  conv => rhs; rw [at_split s k h, raise_hit _ hn hc]
  simp

set_option maxRecDepth 100000 in
set_option maxHeartbeats 2000000 in
theorem raise_i (s : ByteArray) (w : World) (hs : s.size ≤ 1048576) :
    Calls Tryz.prog 83 #[.string s] w fun e w' => e = .returned (.string (ba (raise s.data.toList))) ∧ Below w.heap.size w w' := by
  go_enter Tryz.func83, Tryz.ntmps83
  go_wp2_with fail
  go_loop [6] (fun i => ∃ k : Nat, k ≤ s.size ∧ i = .int .i64 k ∧ Hid ((s.data.toList.take k).any isLt = false)) (fun i => s.size - (intOf i).toNat)
  case atStart => exact ⟨0, Nat.zero_le _, rfl, Lib.hid rfl⟩
  case round =>
    obtain ⟨k, hk, rfl, HN⟩ := hrel
    by_cases hlt : k < s.size
    · have HA := Lib.hid (any_snoc isLt s k hlt)
      cases hc : isLt s[k] with
      | true =>
        have HC := Lib.hid (fun w => letter_i s[k] true w hc)
        have HU := Lib.hid (fun w => upper_one s[k] hc w)
        have HX := Lib.hid (raise_at s k hlt HN.out hc)
        have hx1 := ext1 s k hlt
        have hw1 : IntKind.i64.wrap ((k : Int) + 1) = (k : Int) + 1 := IntWalk.i64_in _ (by omega)
        have hk0 : (0 : Int) ≤ (k : Int) + 1 := by omega
        have hk1 : ((k : Int) + 1).toNat = k + 1 := by omega
        have hk2 : (k : Int) + 1 ≤ (s.size : Int) := by omega
        have hk3 : k + 1 ≤ s.size := by omega
        have hk4 : (k : Int) ≤ (k : Int) + 1 := by omega
        have hk5 : k ≤ k + 1 := by omega
        have hk6 : (k : Int) ≤ (s.size : Int) := by omega
        have hz1 : (s.extract 0 k).size = k := by rw [ext0, ba_size, take_len s k hk]
        have hz2 : (ba [Lib.upperB s[k]]).size = 1 := ba_size _
        have hz3 : (s.extract (k + 1) s.size).size = s.size - (k + 1) := by rw [ext2, ba_size, List.length_drop, len_size]
        have hz4 : (s.extract 0 k ++ ba [Lib.upperB s[k]]).size = k + 1 := by rw [ByteArray.size_append, hz1, hz2]
        clear hc HN HA
        go_wp2_with fail
        refine (HC.out _).mono ?_
        rintro e w' ⟨rfl, rfl⟩
        go_wp2_with fail
        generalize hcc : s[k] = c at *
        clear hcc
        go_region_with ((go_at_call 101; refine (HU.out _).mono ?_; rintro e w7 ⟨rfl, b7⟩))
        go_wp2_with fail
        go_ret
        exact ⟨by rw [← HX.out]; rfl, (show Below w.heap.size w w.drew from ⟨rfl, rfl, rfl, Nat.le_refl _, fun _ _ => rfl⟩).trans b7⟩
      | false =>
        have HC := Lib.hid (fun w => letter_i s[k] false w hc)
        have HN2 : Hid ((s.data.toList.take (k + 1)).any isLt = false) := Lib.hid (by rw [HA.out, HN.out, hc]; rfl)
        clear hc HN HA
        go_wp2_with fail
        refine (HC.out _).mono ?_
        rintro e w' ⟨rfl, rfl⟩
        go_wp2_with fail
        go_round
        case rel => exact ⟨k + 1, by omega, by go_num, HN2⟩
        case measure => simp [intOf]; omega
    · have HE : Hid (raise s.data.toList = s.data.toList) := Lib.hid (raise_none (by have := HN.out; rwa [take_all s k (by omega)] at this))
      go_wp2_with fail
      go_ret
      exact ⟨by rw [HE.out, ba_toList]; rfl, Below.refl _ _⟩

theorem str1 (W : World) (x : Int) :
    (convert 22 9 (.slice (some ⟨W.heap.size, 0, none⟩) 1 1)).run Tryz.prog (W.alloc (.cells #[.int .u8 x] 5)) = .ok (.string ⟨#[UInt8.ofNat x.toNat]⟩) (W.alloc (.cells #[.int .u8 x] 5)) := by
  refine (run_convert_bytes_arg _ 22 5 Tryz.underlying22 Tryz.underlying5 W.heap.size 0 1 1 [x] rfl (fun i hi => ?_) 9 Tryz.underlying9)
  obtain rfl : i = 0 := by omega
  simp
theorem str1c (W : World) (c : UInt8) :
    (convert 22 9 (.slice (some ⟨W.heap.size, 0, none⟩) 1 1)).run Tryz.prog ((W.alloc (.cells #[.int .u8 c.toNat] 5)).drew) = .ok (.string (ba [c])) ((W.alloc (.cells #[.int .u8 c.toNat] 5)).drew) := by
  have := str1 W.drew (c.toNat : Int)
  have e : (⟨#[UInt8.ofNat (c.toNat : Int).toNat]⟩ : ByteArray) = ba [c] := by simp [ba]
  rw [e] at this
  exact this

set_option maxRecDepth 100000 in
set_option maxHeartbeats 2000000 in
theorem raise_s (s : ByteArray) (w : World) (hs : s.size ≤ 1048576) :
    Calls Tryz.prog 34 #[.string s] w fun e w' => e = .returned (.string (ba (raise s.data.toList))) ∧ Below w.heap.size w w' := by
  go_enter Tryz.func34, Tryz.ntmps34
  go_wp2_with fail
  go_loop [3] (fun i => ∃ k : Nat, k ≤ s.size ∧ i = .int .i64 k ∧ Hid ((s.data.toList.take k).any isLt = false)) (fun i => s.size - (intOf i).toNat)
  case atStart => exact ⟨0, Nat.zero_le _, rfl, Lib.hid rfl⟩
  case round =>
    obtain ⟨k, hk, rfl, HN⟩ := hrel
    by_cases hlt : k < s.size
    · have HA := Lib.hid (any_snoc isLt s k hlt)
      cases hc : isLt s[k] with
      | true =>
        have HC := Lib.hid (fun w => letter_s s[k] true w hc)
        have HU := Lib.hid (fun w => up_s s[k] w)
        have HX := Lib.hid (raise_at s k hlt HN.out hc)
        have hst := str1c w (Lib.upperB s[k])
        have hw1 : IntKind.i64.wrap ((k : Int) + 1) = (k : Int) + 1 := IntWalk.i64_in _ (by omega)
        have hk0 : (0 : Int) ≤ (k : Int) + 1 := by omega
        have hk1 : ((k : Int) + 1).toNat = k + 1 := by omega
        have hk2 : (k : Int) + 1 ≤ (s.size : Int) := by omega
        have hk3 : k + 1 ≤ s.size := by omega
        have hk6 : (k : Int) ≤ (s.size : Int) := by omega
        have hk7 : (k : Int) < (s.size : Int) := by omega
        have hz1 : (s.extract 0 k).size = k := by rw [ext0, ba_size, take_len s k hk]
        have hz2 : (ba [Lib.upperB s[k]]).size = 1 := ba_size _
        have hz3 : (s.extract (k + 1) s.size).size = s.size - (k + 1) := by rw [ext2, ba_size, List.length_drop, len_size]
        have hz4 : (s.extract 0 k ++ ba [Lib.upperB s[k]]).size = k + 1 := by rw [ByteArray.size_append, hz1, hz2]
        clear hc HN HA
        go_wp2_with fail
        refine (HC.out _).mono ?_
        rintro e w' ⟨rfl, rfl⟩
        go_wp2_with fail
        go_region_with ((go_at_call 64; refine (HU.out _).mono ?_; rintro e w7 ⟨rfl, rfl⟩))
        go_wp2_with fail
        go_ret
        exact ⟨by rw [← HX.out]; rfl, (show Below w.heap.size w w.drew from ⟨rfl, rfl, rfl, Nat.le_refl _, fun _ _ => rfl⟩).alloc (Nat.le_refl _) _⟩
      | false =>
        have HC := Lib.hid (fun w => letter_s s[k] false w hc)
        have HN2 : Hid ((s.data.toList.take (k + 1)).any isLt = false) := Lib.hid (by rw [HA.out, HN.out, hc]; rfl)
        clear hc HN HA
        go_wp2_with fail
        refine (HC.out _).mono ?_
        rintro e w' ⟨rfl, rfl⟩
        go_wp2_with fail
        go_round
        case rel => exact ⟨k + 1, by omega, by go_num, HN2⟩
        case measure => simp [intOf]; omega
    · have HE : Hid (raise s.data.toList = s.data.toList) := Lib.hid (raise_none (by have := HN.out; rwa [take_all s k (by omega)] at this))
      go_wp2_with fail
      go_ret
      exact ⟨by rw [HE.out, ba_toList]; rfl, Below.refl _ _⟩
end Go.Proofs.YtobaapabkckblaaGreatDoor.Ra
