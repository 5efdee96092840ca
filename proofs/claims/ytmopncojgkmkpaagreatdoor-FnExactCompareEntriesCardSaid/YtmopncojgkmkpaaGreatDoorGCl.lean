/-
  Several texts of one claim in one file: Or, Cl, Co.
-/
import Derived.Test.YtmopncojgkmkpaaGreatDoorCmp
import Derived.Test.YtmopncojgkmkpaaGreatDoorShelf
import Derived.Test.YtmopncojgkmkpaaGreatDoorFo
import Derived.Test.YtmopncojgkmkpaaGreatDoorDr
/-
  Contracts of cmp.Or at two numbers and of strings.Compare.
-/
namespace Go.Proofs.YtmopncojgkmkpaaGreatDoor.Or2
open Go.RowKit Pl Cmp
set_option linter.unusedVariables false
set_option linter.unusedSimpArgs false

theorem ofNat_inj {a b : UInt8} (h : ¬ a < b) (h2 : ¬ b < a) : a = b := by
  have h' : ¬ a.toNat < b.toNat := fun e => h (UInt8.lt_iff_toNat_lt.2 e)
  have h2' : ¬ b.toNat < a.toNat := fun e => h2 (UInt8.lt_iff_toNat_lt.2 e)
  exact UInt8.toNat_inj.1 (by omega)
/-- strings.Compare says what the model's comparison says -/
theorem cmpB_eq (x y : List UInt8) : (Lib.compareBytes x y : Int) = if Op.bytesLess x y = true then -1 else if (x == y) = true then 0 else 1 := by
  induction x generalizing y with
  | nil => cases y <;> simp [Lib.compareBytes, Op.bytesLess]
  | cons a u ih =>
    cases y with
    | nil => simp [Lib.compareBytes, Op.bytesLess]
    | cons b v =>
      unfold Lib.compareBytes Op.bytesLess
      by_cases h1 : a < b
      · simp [h1]
      · by_cases h2 : b < a
        · have hne : ¬ a = b := fun e => by subst e; exact h1 h2
          simp [h1, h2, hne]
        · have he := ofNat_inj h1 h2
          subst he
          simp [h1, ih]
theorem cmpS_eq (a b : ByteArray) : (Lib.compareBytes a.data.toList b.data.toList : Int) = cmpS a b := by
  rw [cmpB_eq]
  unfold cmpS
  rw [Lib.toList_data, Lib.toList_data]
theorem compare_i (a b : ByteArray) (w : World) : Calls Tryz.prog 44 #[.string a, .string b] w fun e w' => e = .returned (.int .i64 (cmpS a b)) ∧ w = w' := by
  have := Tryz.strings_Compare a b w
  rw [cmpS_eq] at this
  exact this.mono fun _ _ ⟨h1, h2⟩ => ⟨h1, h2.symm⟩
/-- the first of two numbers that is not 0 -/
def or2 (a b : Int) : Int := if a ≠ 0 then a else b
set_option maxHeartbeats 1000000 in
theorem or_i (g c : Nat) (a b : Int) (w : World) (h0 : w.cell? ⟨g, 0, none⟩ = some (.int .i64 a)) (h1 : w.cell? ⟨g, 1, none⟩ = some (.int .i64 b)) :
    Calls Tryz.prog 36 #[.slice (some ⟨g, 0, none⟩) 2 c] w fun e w' => e = .returned (.int .i64 (or2 a b)) ∧ w = w' := by
  have HO : Hid (or2 a b = if a ≠ 0 then a else b) := Lib.hid rfl
  go_enter Tryz.func36, Tryz.ntmps36
  go_wp2_with fail
  go_loop [5, 8] (fun x i => (i = .int .i64 0) ∨ (a = 0 ∧ i = .int .i64 1) ∨ (a = 0 ∧ b = 0 ∧ i = .int .i64 2)) (fun _ i => 2 - (intOf i).toNat)
  case atStart => exact .inl rfl
  case round =>
    rcases hrel with rfl | ⟨ha, rfl⟩ | ⟨ha, hb, rfl⟩
    · by_cases ha : a = 0
      · subst ha
        go_wp2_with fail
        go_round
        case rel => exact .inr (.inl (by simp))
        case measure => simp [intOf]
      · have hne : (a != 0) = true := by rw [bne_iff_ne]; exact ha
        rw [if_pos ha] at HO
        clear ha
        go_wp2_with fail
        go_ret
        exact ⟨by rw [HO.out]; rfl, rfl⟩
    · rw [if_neg (by simp [ha])] at HO
      by_cases hb : b = 0
      · subst hb
        go_wp2_with fail
        go_round
        case rel => exact .inr (.inr (by simp [ha]))
        case measure => simp [intOf]
      · have hne : (b != 0) = true := by rw [bne_iff_ne]; exact hb
        clear hb ha
        go_wp2_with fail
        go_ret
        exact ⟨by rw [HO.out]; rfl, rfl⟩
    · have HO3 : Hid (or2 a b = 0) := Lib.hid (by rw [HO.out, if_neg (by simp [ha]), hb])
      clear ha hb
      go_wp2_with fail
      go_ret
      exact ⟨by rw [HO3.out]; rfl, rfl⟩
end Go.Proofs.YtmopncojgkmkpaaGreatDoor.Or2
/-
  Contracts of collateTexts, l8Collate and of CollateTexts of both.
-/
namespace Go.Proofs.YtmopncojgkmkpaaGreatDoor.Fo
open Go.RowKit Pl NmPl Word FoPl Cmp Or2
set_option linter.unusedVariables false
set_option linter.unusedSimpArgs false

/-- how two texts are collated -/
def colV (a b : ByteArray) : Int := or2 (cmpS (ba (fT a.data.toList)) (ba (fT b.data.toList))) (cmpS a b)
set_option maxRecDepth 100000 in
set_option maxHeartbeats 4000000 in
theorem collate_i (a b : ByteArray) (w : World) (ha : a.size ≤ 1048576) (hb : b.size ≤ 1048576) :
    Calls Tryz.prog 41 #[.string a, .string b] w fun e w' => e = .returned (.int .i64 (colV a b)) ∧ Below w.heap.size w w' := by
  have HA := Lib.hid (fun w => fold_i a w ha)
  have HB := Lib.hid (fun w => fold_i b w hb)
  have HE : Hid (colV a b = or2 (cmpS (ba (fT a.data.toList)) (ba (fT b.data.toList))) (cmpS a b)) := Lib.hid rfl
  generalize ba (fT a.data.toList) = X at *
  generalize ba (fT b.data.toList) = Y at *
  have HC := Lib.hid (fun w => compare_i X Y w)
  have HC2 := Lib.hid (fun w => compare_i a b w)
  generalize cmpS X Y = p at *
  generalize cmpS a b = q at *
  have hk0 : Below w.heap.size w w.drew := (Below.refl _ _).drew
  go_enter Tryz.func41, Tryz.ntmps41
  go_wp2_with fail
  refine (HA.out _).mono ?_
  rintro e w1 ⟨rfl, b1⟩
  go_wp2_with fail
  refine (HB.out _).mono ?_
  rintro e w2 ⟨rfl, b2⟩
  go_wp2_with fail
  refine (HC.out _).mono ?_
  rintro e w3 ⟨rfl, rfl⟩
  go_wp2_with fail
  refine (HC2.out _).mono ?_
  rintro e w3 ⟨rfl, rfl⟩
  go_wp2_with fail
  have hb2 : Below w.heap.size w w2 := b1.trans (b2.mono b1.size)
  refine (or_i _ _ p q _ (by simp) (by simp)).mono ?_
  rintro e w7 ⟨rfl, rfl⟩
  go_wp2_with fail
  go_ret
  exact ⟨by rw [HE.out]; rfl, hb2.alloc hb2.size _⟩
set_option maxRecDepth 100000 in
set_option maxHeartbeats 4000000 in
theorem collate_s (a b : ByteArray) (w : World) (ha : a.size ≤ 1048576) (hb : b.size ≤ 1048576) :
    Calls Tryz.prog 27 #[.string a, .string b] w fun e w' => e = .returned (.int .i64 (colV a b)) ∧ Below w.heap.size w w' := by
  have HA := Lib.hid (fun w => fold_s a w ha)
  have HB := Lib.hid (fun w => fold_s b w hb)
  have HE : Hid (colV a b = or2 (cmpS (ba (fT a.data.toList)) (ba (fT b.data.toList))) (cmpS a b)) := Lib.hid rfl
  generalize ba (fT a.data.toList) = X at *
  generalize ba (fT b.data.toList) = Y at *
  have HC := Lib.hid (fun w => l2Text_any X Y w)
  have HC2 := Lib.hid (fun w => l2Text_any a b w)
  generalize cmpS X Y = p at *
  generalize cmpS a b = q at *
  by_cases hp : p = 0
  · subst hp
    have HE2 : Hid (colV a b = q) := Lib.hid (by rw [HE.out]; rfl)
    go_enter Tryz.func27, Tryz.ntmps27
    go_wp2_with fail
    refine (HA.out _).mono ?_
    rintro e w1 ⟨rfl, b1⟩
    go_wp2_with fail
    refine (HB.out _).mono ?_
    rintro e w2 ⟨rfl, b2⟩
    go_wp2_with fail
    refine (HC.out _).mono ?_
    rintro e w3 ⟨rfl, rfl⟩
    go_wp2_with fail
    refine (HC2.out _).mono ?_
    rintro e w3 ⟨rfl, rfl⟩
    go_wp2_with fail
    go_ret
    exact ⟨by rw [HE2.out]; rfl, b1.trans (b2.mono b1.size)⟩
  · have HE2 : Hid (colV a b = p) := Lib.hid (by rw [HE.out]; unfold or2; rw [if_pos hp])
    have hne : (p != 0) = true := by rw [bne_iff_ne]; exact hp
    clear hp
    go_enter Tryz.func27, Tryz.ntmps27
    go_wp2_with fail
    refine (HA.out _).mono ?_
    rintro e w1 ⟨rfl, b1⟩
    go_wp2_with fail
    refine (HB.out _).mono ?_
    rintro e w2 ⟨rfl, b2⟩
    go_wp2_with fail
    refine (HC.out _).mono ?_
    rintro e w3 ⟨rfl, rfl⟩
    go_wp2_with fail
    go_ret
    exact ⟨by rw [HE2.out]; rfl, b1.trans (b2.mono b1.size)⟩
def coV (a b : ByteArray) : Value := if a.size ≤ 4000 ∧ b.size ≤ 4000 then .tuple #[.int .i64 (colV a b), .bool true] else .tuple #[.int .i64 0, .bool false]
theorem co_form (a b : ByteArray) : ∃ t r, coV a b = .tuple #[.int .i64 t, .bool r] := by unfold coV; split <;> exact ⟨_, _, rfl⟩
end Go.Proofs.YtmopncojgkmkpaaGreatDoor.Fo
/-
  Contracts of DropArticle of both.
-/
namespace Go.Proofs.YtmopncojgkmkpaaGreatDoor.Fo
open Go.RowKit Pl NmPl Word FoPl Stands SplitPl Cmp Or2
set_option linter.unusedVariables false
set_option linter.unusedSimpArgs false

def drV (s : ByteArray) : Value := if s.size ≤ 4000 then .tuple #[.string (ba (drA s.data.toList)), .bool true] else .tuple #[.string ⟨#[]⟩, .bool false]
theorem dr_form (s : ByteArray) : ∃ t r, drV s = .tuple #[.string t, .bool r] := by unfold drV; split <;> exact ⟨_, _, rfl⟩
theorem CaT.below {w w' : World} (h : CaT w) (hb : Below w.heap.size w w') : CaT w' := ⟨Lib.CaseVar_below h.1 hb, Utf8Tabs_below h.2 hb⟩
end Go.Proofs.YtmopncojgkmkpaaGreatDoor.Fo
