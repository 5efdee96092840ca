/-
  Drawing function spoilt (the part of Dw that chapter 8 needs).
-/
import Derived.Test.YtljbbmefemfjpaaCurOf
import Derived.Test.YtljbbmefemfjpaaDraw0
import Derived.Test.YtljbbmefemfjpaaCs
import Derived.Deep.RegionHeld3
import Derived.Lib.Strings
import Derived.IntWalk
namespace Go.Proofs.Ytljbbmefemfjpaa.Dw
open Go.RowKit Pl Cur Draw0
set_option linter.unusedVariables false
set_option linter.unusedSimpArgs false

theorem LeftC.trans {w w1 w2 : World} {g n c k k1 m m1 : Nat} {A : Option Addr} (hk : k1 ≤ k + m) (hg : w.grownBy w1 (some g)) (h2 : LeftC w1 g A n c k1 m1 w2) : LeftC w g A n c k (m + m1) w2 := by
  obtain ⟨⟨k', s', hk', hc'⟩, hg2⟩ := h2
  exact ⟨⟨k', s', by omega, hc'⟩, grown_trans hg hg2⟩
theorem LeftC.drew {w : World} {g n c k m : Nat} {A : Option Addr} {w1 : World} (h : LeftC w g A n c k m w1) (q : Nat) : LeftC w g A n c k m (w1.drewN q) := by
  obtain ⟨⟨k', s', hk', hc'⟩, hg⟩ := h
  exact ⟨⟨k', s', hk', hc'.drewN q⟩, grown_drewN' q hg⟩
theorem ne_of_pos {s : ByteArray} (h : 0 < s.size) : (s.toList == []) = false ∧ s.toList.isEmpty = false := by
  have hn : s.data.toList ≠ [] := by intro e; have := len_size s; rw [e] at this; simp at this; omega
  rw [Lib.toList_data]
  exact ⟨by rw [beq_eq_false_iff_ne]; exact hn, List.isEmpty_eq_false_iff.2 hn⟩
theorem ext_size (s : ByteArray) (a b : Nat) (hb : b ≤ s.size) : (s.extract a b).size = b - a := by
  rw [ByteArray.size_extract]; omega

set_option maxRecDepth 100000 in
set_option maxHeartbeats 2000000 in
theorem spoilt_any (t x : ByteArray) (ht : t.size ≤ 4096) (hx0 : 1 ≤ x.size) (hx : x.size ≤ 64) (g : Nat) (A : Option Addr) (n c k : Nat) (s : Int) (w : World) (hk : k ≤ 1048000) (hn : n ≤ 1048576) (hcur : IsCur w g A n c k s) (hr : RdB w A n) (ha : Apart A n g) :
    Calls Try.prog 37 #[.pointer (some ⟨g, 0, none⟩), .string t, .string x] w (SomeStr (fun y => y.size ≤ t.size + 1) w g A n c k 6) := by
  have HR := Lib.hid hr
  have HA := Lib.hid ha
  clear hr ha
  by_cases h0 : t.size = 0
  · obtain rfl : t = ⟨#[]⟩ := by
      apply ByteArray.ext
      exact Array.eq_empty_of_size_eq_zero h0
    have HZ := Lib.hid (ext_size x 0 1 hx0)
    have h1 : (1 : Int) ≤ (x.size : Int) := by omega
    go_enter Try.func37, Try.ntmps37
    go_wp2_with fail
    go_ret
    exact ⟨_, by show (x.extract 0 1).size ≤ _; have := HZ.out; omega, rfl, ⟨k, s, by omega, hcur⟩, World.grownBy.refl _ _⟩
  · have hpos : 1 ≤ t.size := by omega
    obtain ⟨hn1, hn2⟩ := ne_of_pos (s := t) hpos
    go_enter Try.func37, Try.ntmps37
    go_wp2_with fail
    refine (pick_any t.size hpos (by omega) g A n c k s _ (by omega) hn hcur HR.out HA.out).mono ?_
    rintro e w1 ⟨i, rfl, hi0, hi1, ⟨k1, s1, hk1, hc1⟩, hg1⟩
    have HR1 := Lib.hid (HR.out.grown HA.out hg1)
    obtain ⟨i, rfl⟩ := Int.eq_ofNat_of_zero_le hi0
    have hi : i < t.size := by omega
    clear hi0 hi1
    go_wp2_with fail
    refine (pick_any x.size hx0 (by omega) g A n c k1 s1 _ (by omega) hn hc1 HR1.out HA.out).mono ?_
    rintro e w2 ⟨j, rfl, hj0, hj1, ⟨k2, s2, hk2, hc2⟩, hg2⟩
    have HR2 := Lib.hid (HR1.out.grown HA.out hg2)
    have HG2 := Lib.hid (grown_trans hg1 hg2)
    obtain ⟨j, rfl⟩ := Int.eq_ofNat_of_zero_le hj0
    have hj : j < x.size := by omega
    have hzx : (x.extract j x.size).size = x.size - j := ext_size x j x.size (Nat.le_refl _)
    have hj2 : (j : Int) ≤ (x.size : Int) := by omega
    have hq1 : 1 ≤ (x.extract j x.size).size := by omega
    have hq2 : (1 : Int) ≤ ((x.extract j x.size).size : Int) := by omega
    have HQ : Hid (((x.extract j x.size).extract 0 1).size = 1) := Lib.hid (by rw [ext_size _ _ _ hq1])
    clear hj0 hj1 hc1 HR1 hg1 hg2
    go_wp2_with fail
    generalize hy : (x.extract j x.size).extract 0 1 = y at *
    have hys : y.size = 1 := HQ.out
    refine (pick_any 3 (by omega) (by omega) g A n c k2 s2 _ (by omega) hn hc2 HR2.out HA.out).mono ?_
    rintro e w3 ⟨r, rfl, hr0, hr1, hl3⟩
    have HL3 := Lib.hid (LeftC.trans (k := k) (k1 := k2) (m := 4) (by omega) HG2.out hl3)
    obtain ⟨r, rfl⟩ := Int.eq_ofNat_of_zero_le hr0
    clear hl3 hc2 HR2 HG2 hr0 hy hzx hj2 hq1 hq2 HQ
    have hw1 : IntKind.i64.wrap ((i : Int) + 1) = (i : Int) + 1 := IntWalk.i64_in _ (by omega)
    have hk0 : (0 : Int) ≤ (i : Int) + 1 := by omega
    have hk1' : ((i : Int) + 1).toNat = i + 1 := by omega
    have hk2' : (i : Int) + 1 ≤ (t.size : Int) := by omega
    have hk3 : i + 1 ≤ t.size := by omega
    have hk4 : (i : Int) ≤ (t.size : Int) := by omega
    have hk5 : i ≤ t.size := by omega
    have hz1 : (t.extract 0 i).size = i := by rw [ext_size t 0 i hk5]; omega
    have hz2 : (t.extract i t.size).size = t.size - i := ext_size t i t.size (Nat.le_refl _)
    have hz3 : (t.extract (i + 1) t.size).size = t.size - (i + 1) := ext_size t (i + 1) t.size (Nat.le_refl _)
    have hz4 : (t.extract 0 i ++ y).size = i + 1 := by rw [ByteArray.size_append, hz1, hys]
    have HS1 : Hid ((t.extract 0 i ++ y ++ t.extract i t.size).size ≤ t.size + 1) := Lib.hid (by rw [ByteArray.size_append, hz4, hz2]; omega)
    have HS2 : Hid ((t.extract 0 i ++ y ++ t.extract (i + 1) t.size).size ≤ t.size + 1) := Lib.hid (by rw [ByteArray.size_append, hz4, hz3]; omega)
    have HS3 : Hid ((t.extract 0 i ++ t.extract (i + 1) t.size).size ≤ t.size + 1) := Lib.hid (by rw [ByteArray.size_append, hz1, hz3]; omega)
    rcases (show r = 0 ∨ r = 1 ∨ r = 2 by omega) with rfl | rfl | rfl
    · go_wp2_with fail
      go_quiet (fail)
      go_wp2_with fail
      go_ret
      exact ⟨_, HS1.out, rfl, LeftC.drew HL3.out _⟩
    · go_wp2_with fail
      go_quiet (fail)
      go_wp2_with fail
      go_ret
      exact ⟨_, HS2.out, rfl, LeftC.drew HL3.out _⟩
    · go_wp2_with fail
      go_quiet (fail)
      go_wp2_with fail
      go_ret
      exact ⟨_, HS3.out, rfl, LeftC.drew HL3.out _⟩
end Go.Proofs.Ytljbbmefemfjpaa.Dw
