/-
  Contracts of isMinorWord and l6Minor of the model.
-/
import Derived.Test.YtobaapabkckblaaGreatDoorCa
namespace Go.Proofs.YtobaapabkckblaaGreatDoor.Mi
open Go.RowKit Pl NmPl TiPl Word Lt Ra Ca
set_option linter.unusedVariables false
set_option linter.unusedSimpArgs false

theorem minor_of {t : ByteArray} {l : List UInt8} (h : t = ba (l.map Lib.lowerB)) : minorB l = minors.contains t.toList := by
  subst h
  rw [Lib.toList_data, toList_ba]
  rfl
/-- strings.ToLower of a printable word -/
theorem lower_word (s : ByteArray) (w : World) (hs : s.size ≤ 1048576) (hp : s.data.toList.all prC = true) :
    Calls Tryz.prog 82 #[.string s] w fun e w' => e = .returned (.string (ba (s.data.toList.map Lib.lowerB))) ∧ Below w.heap.size w w' := by
  refine Tryz.strings_ToLower_ascii s w (by omega) (fun j b hj => ?_)
  have := List.all_eq_true.1 hp b (List.mem_of_getElem? hj)
  simp [prC] at this
  omega

set_option maxRecDepth 100000 in
set_option maxHeartbeats 8000000 in
theorem minor_s (s : ByteArray) (w : World) (hs : s.size ≤ 1048576) (r : Bool) (hr : minorB s.data.toList = r) :
    Calls Tryz.prog 31 #[.string s] w fun e w' => e = .returned (.bool r) ∧ Below w.heap.size w w' := by
  have HL := Lib.hid (low_all s w hs)
  obtain ⟨t, HT⟩ : ∃ t, Hid (t = ba (s.data.toList.map Lib.lowerB)) := ⟨_, Lib.hid rfl⟩
  rw [← HT.out] at HL
  have HR : Hid (r = minors.contains t.toList) := Lib.hid (by rw [← hr]; exact minor_of HT.out)
  clear hr
  go_enter Tryz.func31, Tryz.ntmps31
  go_wp2_with fail
  refine HL.out.mono ?_
  rintro e w1 ⟨rfl, b1⟩
  go_wp2_with fail
  all_goals
    first
      | (rename_i h1 h2; rw [h1] at h2; cases h2; done)
      | (go_ret; exact ⟨ret_bool (by rw [HR.out]; simp [minors, List.contains, List.elem, *]), b1⟩)

set_option maxRecDepth 100000 in
set_option maxHeartbeats 8000000 in
theorem minor_i (s : ByteArray) (w : World) (hs : s.size ≤ 1048576) (hp : s.data.toList.all prC = true) (r : Bool) (hr : minorB s.data.toList = r) :
    Calls Tryz.prog 61 #[.string s] w fun e w' => e = .returned (.bool r) ∧ Below w.heap.size w w' := by
  have HL := Lib.hid (lower_word s w hs hp)
  obtain ⟨t, HT⟩ : ∃ t, Hid (t = ba (s.data.toList.map Lib.lowerB)) := ⟨_, Lib.hid rfl⟩
  rw [← HT.out] at HL
  have HR : Hid (r = minors.contains t.toList) := Lib.hid (by rw [← hr]; exact minor_of HT.out)
  clear hr
  go_enter Tryz.func61, Tryz.ntmps61
  go_wp2_with fail
  refine HL.out.mono ?_
  rintro e w1 ⟨rfl, b1⟩
  go_wp2_with fail
  all_goals
    first
      | (rename_i h1 h2; rw [h1] at h2; cases h2; done)
      | (go_ret; exact ⟨ret_bool (by rw [HR.out]; simp [minors, List.contains, List.elem, *]), b1⟩)
end Go.Proofs.YtobaapabkckblaaGreatDoor.Mi
