/-
  Contracts of KindWord of both.
-/
import Derived.Test.YtjdnkjobccnmlaaDoorLaidS
import Derived.Test.YtjdnkjobccnmlaaDoorNum
import Derived.WalkKit
import Derived.Lib.Hide
import Derived.Below
namespace Go.Proofs.YtjdnkjobccnmlaaDoor.Kw
open Go.RowKit Pl Num LaidS
set_option linter.unusedSimpArgs false
set_option linter.unusedVariables false

/-- the words of the kinds, behind an empty one -/
def kws : List (List UInt8) := [[], [98, 111, 111, 107], [97, 114, 116, 105, 99, 108, 101], [99, 104, 97, 112, 116, 101, 114], [114, 101, 112, 111, 114, 116]]
def kwB (k : Nat) : ByteArray := ba (kws.getD k [])
/-- what KindWord answers -/
def kwV (z : Int) : Value := if 1 ≤ z ∧ z ≤ 4 then .tuple #[.string (kwB z.toNat), .bool true] else .tuple #[.string ⟨#[]⟩, .bool false]
theorem kwV_form (z : Int) : ∃ s r, kwV z = .tuple #[.string s, .bool r] := by unfold kwV; split <;> exact ⟨_, _, rfl⟩
set_option maxHeartbeats 1000000 in
theorem l5Kinds (w : World) : Calls Tryd.prog 115 #[] w fun e w' => ∃ g, e = .returned (.slice (some ⟨g, 0, none⟩) 5 5) ∧ Below w.heap.size w w' ∧ ∀ k, k ≤ 4 → w'.cell? ⟨g, k, none⟩ = some (.string (kwB k)) := by
  go_enter Tryd.func115, Tryd.ntmps115
  go_wp2_with fail
  go_ret
  refine ⟨w.heap.size, rfl, (Below.refl _ w).alloc (Nat.le_refl _) _, fun k hk => ?_⟩
  rcases k with _ | _ | _ | _ | _ | k
  all_goals first | omega | (simp; rfl)
theorem isKind (z : Int) (r : Bool) (w : World) (hr : decide (1 ≤ z ∧ z ≤ 4) = r) : Calls Tryd.prog 116 #[.int .i64 z] w fun e w' => e = .returned (.bool r) ∧ w = w' := by
  subst hr
  by_cases h1 : 1 ≤ z
  · have HE : Hid (decide (1 ≤ z ∧ z ≤ 4) = decide (z ≤ 4)) := Lib.hid (by simp [h1])
    have hd : decide (1 ≤ z) = true := by simpa using h1
    go_enter Tryd.func116, Tryd.ntmps116
    go_wp2_with fail
    go_ret
    exact ⟨by rw [HE.out]; rfl, rfl⟩
  · have HE : Hid (decide (1 ≤ z ∧ z ≤ 4) = false) := Lib.hid (by simp [h1])
    have hd : decide (1 ≤ z) = false := by simpa using h1
    rw [HE.out]
    clear HE
    go_enter Tryd.func116, Tryd.ntmps116
    go_wp2_with fail
    go_ret
    exact ⟨rfl, rfl⟩
set_option maxHeartbeats 1000000 in
theorem specKind (z : Int) (w : World) : Calls Tryd.prog 55 #[.int .i64 z] w fun e w' => e = .returned (kwV z) ∧ Below w.heap.size w w' := by
  by_cases h : 1 ≤ z ∧ z ≤ 4
  · have HE : Hid (kwV z = .tuple #[.string (kwB z.toNat), .bool true]) := Lib.hid (if_pos h)
    have HI := Lib.hid (l1In_any z 1 4 true w (decide_eq_true h))
    obtain ⟨k, rfl⟩ := Int.eq_ofNat_of_zero_le (show 0 ≤ z by omega)
    simp only [Int.toNat_natCast] at HE
    have hk1 : 1 ≤ k := by omega
    have hk4 : k ≤ 4 := by omega
    clear h
    go_enter Tryd.func55, Tryd.ntmps55
    go_wp2_with fail
    refine HI.out.mono ?_
    rintro e w1 ⟨rfl, rfl⟩
    go_wp2_with fail
    refine (l5Kinds _).mono ?_
    rintro e w2 ⟨g, rfl, b2, hce⟩
    have hc := hce k hk4
    clear hce
    generalize kwB k = x at *
    go_wp2_with fail
    go_ret2
    exact ⟨by rw [HE.out]; rfl, b2⟩
  · have HE : Hid (kwV z = .tuple #[.string ⟨#[]⟩, .bool false]) := Lib.hid (if_neg h)
    have HI := Lib.hid (l1In_any z 1 4 false w (decide_eq_false h))
    clear h
    go_enter Tryd.func55, Tryd.ntmps55
    go_wp2_with fail
    refine HI.out.mono ?_
    rintro e w1 ⟨rfl, rfl⟩
    go_wp2_with fail
    go_ret2
    exact ⟨by rw [HE.out]; rfl, Below.refl _ _⟩
set_option maxHeartbeats 1000000 in
theorem implKind (z : Int) (w : World) (ht : StrTab 0 (kws.drop 1) w) : Calls Tryd.prog 56 #[.int .i64 z] w fun e w' => e = .returned (kwV z) ∧ Below w.heap.size w w' := by
  by_cases h : 1 ≤ z ∧ z ≤ 4
  · have HE : Hid (kwV z = .tuple #[.string (kwB z.toNat), .bool true]) := Lib.hid (if_pos h)
    have HI := Lib.hid (isKind z true w (decide_eq_true h))
    obtain ⟨k, rfl⟩ := Int.eq_ofNat_of_zero_le (show 0 ≤ z by omega)
    simp only [Int.toNat_natCast] at HE
    have hk1 : 1 ≤ k := by omega
    have hk4 : k ≤ 4 := by omega
    have hm1 : (k : Int) - 1 = ((k - 1 : Nat) : Int) := by omega
    have hc : w.cell? ⟨0, k - 1, none⟩ = some (.string (kwB k)) := ht.2 _ _ (by
      have hl : kws.length = 5 := by decide
      rw [List.getElem?_drop, show 1 + (k - 1) = k by omega, List.getD_eq_getElem?_getD, List.getElem?_eq_getElem (by omega)]
      rfl)
    clear h ht
    generalize kwB k = x at *
    go_enter Tryd.func56, Tryd.ntmps56
    go_wp2_with fail
    refine HI.out.mono ?_
    rintro e w1 ⟨rfl, rfl⟩
    go_wp2_with fail
    go_ret2
    exact ⟨by rw [HE.out]; rfl, Below.refl _ _⟩
  · have HE : Hid (kwV z = .tuple #[.string ⟨#[]⟩, .bool false]) := Lib.hid (if_neg h)
    have HI := Lib.hid (isKind z false w (decide_eq_false h))
    clear h ht
    go_enter Tryd.func56, Tryd.ntmps56
    go_wp2_with fail
    refine HI.out.mono ?_
    rintro e w1 ⟨rfl, rfl⟩
    go_wp2_with fail
    go_ret2
    exact ⟨by rw [HE.out]; rfl, Below.refl _ _⟩
end Go.Proofs.YtjdnkjobccnmlaaDoor.Kw
