/-
  Contracts of collateTexts, l8Collate and of CollateTexts of both.
-/
import Derived.Test.YthacdkbjefpoaaaDoorFo
import Derived.Test.YthacdkbjefpoaaaDoorOr
namespace Go.Proofs.YthacdkbjefpoaaaDoor.Fo
open Go.RowKit Pl NmPl Word FoPl Cmp Or2
set_option linter.unusedVariables false
set_option linter.unusedSimpArgs false

/-- how two texts are collated -/
def colV (a b : ByteArray) : Int := or2 (cmpS (ba (fT a.data.toList)) (ba (fT b.data.toList))) (cmpS a b)
set_option maxRecDepth 100000 in
set_option maxHeartbeats 4000000 in
theorem collate_i (a b : ByteArray) (w : World) (ha : a.size ≤ 1048576) (hb : b.size ≤ 1048576) :
    Calls Tryd.prog 17 #[.string a, .string b] w fun e w' => e = .returned (.int .i64 (colV a b)) ∧ Below w.heap.size w w' := by
  have HA := Lib.hid (fun w => fold_i a w ha)
  have HB := Lib.hid (fun w => fold_i b w hb)
  have HE : Hid (colV a b = or2 (cmpS (ba (fT a.data.toList)) (ba (fT b.data.toList))) (cmpS a b)) := Lib.hid rfl
  generalize ba (fT a.data.toList) = X at *
  generalize ba (fT b.data.toList) = Y at *
  have HC := Lib.hid (fun w => compare_i X Y w)
  have HC2 := Lib.hid (fun w => compare_i a b w)
  generalize cmpS X Y = p at *
  generalize cmpS a b = q at *
  have hk0 : Below w.heap.size w w.drew := (Below.refl _ _).drew
  go_enter Tryd.func17, Tryd.ntmps17
  go_wp2_with fail
  refine (HA.out _).mono ?_
  rintro e w1 ⟨rfl, b1⟩
  go_wp2_with fail
  refine (HB.out _).mono ?_
  rintro e w2 ⟨rfl, b2⟩
  go_wp2_with fail
  refine (HC.out _).mono ?_
  rintro e w3 ⟨rfl, rfl⟩
  go_wp2_with fail
  refine (HC2.out _).mono ?_
  rintro e w3 ⟨rfl, rfl⟩
  go_wp2_with fail
  have hb2 : Below w.heap.size w w2 := b1.trans (b2.mono b1.size)
  refine (or_i _ _ p q _ (by simp) (by simp)).mono ?_
  rintro e w7 ⟨rfl, rfl⟩
  go_wp2_with fail
  go_ret
  exact ⟨by rw [HE.out]; rfl, hb2.alloc hb2.size _⟩
set_option maxRecDepth 100000 in
set_option maxHeartbeats 4000000 in
theorem collate_s (a b : ByteArray) (w : World) (ha : a.size ≤ 1048576) (hb : b.size ≤ 1048576) :
    Calls Tryd.prog 18 #[.string a, .string b] w fun e w' => e = .returned (.int .i64 (colV a b)) ∧ Below w.heap.size w w' := by
  have HA := Lib.hid (fun w => fold_s a w ha)
  have HB := Lib.hid (fun w => fold_s b w hb)
  have HE : Hid (colV a b = or2 (cmpS (ba (fT a.data.toList)) (ba (fT b.data.toList))) (cmpS a b)) := Lib.hid rfl
  generalize ba (fT a.data.toList) = X at *
  generalize ba (fT b.data.toList) = Y at *
  have HC := Lib.hid (fun w => l2Text_any X Y w)
  have HC2 := Lib.hid (fun w => l2Text_any a b w)
  generalize cmpS X Y = p at *
  generalize cmpS a b = q at *
  by_cases hp : p = 0
  · subst hp
    have HE2 : Hid (colV a b = q) := Lib.hid (by rw [HE.out]; rfl)
    go_enter Tryd.func18, Tryd.ntmps18
    go_wp2_with fail
    refine (HA.out _).mono ?_
    rintro e w1 ⟨rfl, b1⟩
    go_wp2_with fail
    refine (HB.out _).mono ?_
    rintro e w2 ⟨rfl, b2⟩
    go_wp2_with fail
    refine (HC.out _).mono ?_
    rintro e w3 ⟨rfl, rfl⟩
    go_wp2_with fail
    refine (HC2.out _).mono ?_
    rintro e w3 ⟨rfl, rfl⟩
    go_wp2_with fail
    go_ret
    exact ⟨by rw [HE2.out]; rfl, b1.trans (b2.mono b1.size)⟩
  · have HE2 : Hid (colV a b = p) := Lib.hid (by rw [HE.out]; unfold or2; rw [if_pos hp])
    have hne : (p != 0) = true := by rw [bne_iff_ne]; exact hp
    clear hp
    go_enter Tryd.func18, Tryd.ntmps18
    go_wp2_with fail
    refine (HA.out _).mono ?_
    rintro e w1 ⟨rfl, b1⟩
    go_wp2_with fail
    refine (HB.out _).mono ?_
    rintro e w2 ⟨rfl, b2⟩
    go_wp2_with fail
    refine (HC.out _).mono ?_
    rintro e w3 ⟨rfl, rfl⟩
    go_wp2_with fail
    go_ret
    exact ⟨by rw [HE2.out]; rfl, b1.trans (b2.mono b1.size)⟩
def coV (a b : ByteArray) : Value := if a.size ≤ 4000 ∧ b.size ≤ 4000 then .tuple #[.int .i64 (colV a b), .bool true] else .tuple #[.int .i64 0, .bool false]
theorem co_form (a b : ByteArray) : ∃ t r, coV a b = .tuple #[.int .i64 t, .bool r] := by unfold coV; split <;> exact ⟨_, _, rfl⟩
set_option maxHeartbeats 1000000 in
theorem collateTexts_i (a b : ByteArray) (w : World) (ha : a.size ≤ 1048576) (hb : b.size ≤ 1048576) :
    Calls Tryd.prog 9 #[.string a, .string b] w fun e w' => e = .returned (coV a b) ∧ Below w.heap.size w w' := by
  have HF := Lib.hid (collate_i a b w ha hb)
  by_cases h1 : a.size ≤ 4000
  · by_cases h2 : b.size ≤ 4000
    · have HE : Hid (coV a b = .tuple #[.int .i64 (colV a b), .bool true]) := Lib.hid (by unfold coV; rw [if_pos ⟨h1, h2⟩])
      go_enter Tryd.func9, Tryd.ntmps9
      go_wp2_with fail
      refine HF.out.mono ?_
      rintro e w1 ⟨rfl, b1⟩
      go_wp2_with fail
      go_ret2
      exact ⟨by rw [HE.out]; rfl, b1⟩
    · have HE : Hid (coV a b = .tuple #[.int .i64 0, .bool false]) := Lib.hid (by unfold coV; rw [if_neg (fun h => h2 h.2)])
      go_enter Tryd.func9, Tryd.ntmps9
      go_wp2_with fail
      go_ret2
      exact ⟨by rw [HE.out]; rfl, Below.refl _ _⟩
  · have HE : Hid (coV a b = .tuple #[.int .i64 0, .bool false]) := Lib.hid (by unfold coV; rw [if_neg (fun h => h1 h.1)])
    go_enter Tryd.func9, Tryd.ntmps9
    go_wp2_with fail
    go_ret2
    exact ⟨by rw [HE.out]; rfl, Below.refl _ _⟩
set_option maxHeartbeats 1000000 in
theorem collateTexts_s (a b : ByteArray) (w : World) (ha : a.size ≤ 1048576) (hb : b.size ≤ 1048576) :
    Calls Tryd.prog 10 #[.string a, .string b] w fun e w' => e = .returned (coV a b) ∧ Below w.heap.size w w' := by
  have HF := Lib.hid (collate_s a b w ha hb)
  by_cases h1 : a.size ≤ 4000
  · by_cases h2 : b.size ≤ 4000
    · have HE : Hid (coV a b = .tuple #[.int .i64 (colV a b), .bool true]) := Lib.hid (by unfold coV; rw [if_pos ⟨h1, h2⟩])
      go_enter Tryd.func10, Tryd.ntmps10
      go_wp2_with fail
      refine HF.out.mono ?_
      rintro e w1 ⟨rfl, b1⟩
      go_wp2_with fail
      go_ret2
      exact ⟨by rw [HE.out]; rfl, b1⟩
    · have HE : Hid (coV a b = .tuple #[.int .i64 0, .bool false]) := Lib.hid (by unfold coV; rw [if_neg (fun h => h2 h.2)])
      go_enter Tryd.func10, Tryd.ntmps10
      go_wp2_with fail
      go_ret2
      exact ⟨by rw [HE.out]; rfl, Below.refl _ _⟩
  · have HE : Hid (coV a b = .tuple #[.int .i64 0, .bool false]) := Lib.hid (by unfold coV; rw [if_neg (fun h => h1 h.1)])
    go_enter Tryd.func10, Tryd.ntmps10
    go_wp2_with fail
    go_ret2
    exact ⟨by rw [HE.out]; rfl, Below.refl _ _⟩
end Go.Proofs.YthacdkbjefpoaaaDoor.Fo
