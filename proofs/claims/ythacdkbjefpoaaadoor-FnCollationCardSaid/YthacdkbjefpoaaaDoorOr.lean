/-
  Contracts of cmp.Or at two numbers and of strings.Compare.
-/
import Derived.Test.YthacdkbjefpoaaaDoorCmp
import Derived.Test.YthacdkbjefpoaaaDoorShelf
namespace Go.Proofs.YthacdkbjefpoaaaDoor.Or2
open Go.RowKit Pl Cmp
set_option linter.unusedVariables false
set_option linter.unusedSimpArgs false

theorem ofNat_inj {a b : UInt8} (h : ¬ a < b) (h2 : ¬ b < a) : a = b := by
  have h' : ¬ a.toNat < b.toNat := fun e => h (UInt8.lt_iff_toNat_lt.2 e)
  have h2' : ¬ b.toNat < a.toNat := fun e => h2 (UInt8.lt_iff_toNat_lt.2 e)
  exact UInt8.toNat_inj.1 (by omega)
/-- strings.Compare says what the model's comparison says -/
theorem cmpB_eq (x y : List UInt8) : (Lib.compareBytes x y : Int) = if Op.bytesLess x y = true then -1 else if (x == y) = true then 0 else 1 := by
  induction x generalizing y with
  | nil => cases y <;> simp [Lib.compareBytes, Op.bytesLess]
  | cons a u ih =>
    cases y with
    | nil => simp [Lib.compareBytes, Op.bytesLess]
    | cons b v =>
      unfold Lib.compareBytes Op.bytesLess
      by_cases h1 : a < b
      · simp [h1]
      · by_cases h2 : b < a
        · have hne : ¬ a = b := fun e => by subst e; exact h1 h2
          simp [h1, h2, hne]
        · have he := ofNat_inj h1 h2
          subst he
          simp [h1, ih]
theorem cmpS_eq (a b : ByteArray) : (Lib.compareBytes a.data.toList b.data.toList : Int) = cmpS a b := by
  rw [cmpB_eq]
  unfold cmpS
  rw [Lib.toList_data, Lib.toList_data]
theorem compare_i (a b : ByteArray) (w : World) : Calls Tryd.prog 25 #[.string a, .string b] w fun e w' => e = .returned (.int .i64 (cmpS a b)) ∧ w = w' := by
  have := Tryd.strings_Compare a b w
  rw [cmpS_eq] at this
  exact this.mono fun _ _ ⟨h1, h2⟩ => ⟨h1, h2.symm⟩
/-- the first of two numbers that is not 0 -/
def or2 (a b : Int) : Int := if a ≠ 0 then a else b
set_option maxHeartbeats 1000000 in
theorem or_i (g c : Nat) (a b : Int) (w : World) (h0 : w.cell? ⟨g, 0, none⟩ = some (.int .i64 a)) (h1 : w.cell? ⟨g, 1, none⟩ = some (.int .i64 b)) :
    Calls Tryd.prog 21 #[.slice (some ⟨g, 0, none⟩) 2 c] w fun e w' => e = .returned (.int .i64 (or2 a b)) ∧ w = w' := by
  have HO : Hid (or2 a b = if a ≠ 0 then a else b) := Lib.hid rfl
  go_enter Tryd.func21, Tryd.ntmps21
  go_wp2_with fail
  go_loop [5, 8] (fun x i => (i = .int .i64 0) ∨ (a = 0 ∧ i = .int .i64 1) ∨ (a = 0 ∧ b = 0 ∧ i = .int .i64 2)) (fun _ i => 2 - (intOf i).toNat)
  case atStart => exact .inl rfl
  case round =>
    rcases hrel with rfl | ⟨ha, rfl⟩ | ⟨ha, hb, rfl⟩
    · by_cases ha : a = 0
      · subst ha
        go_wp2_with fail
        go_round
        case rel => exact .inr (.inl (by simp))
        case measure => simp [intOf]
      · have hne : (a != 0) = true := by rw [bne_iff_ne]; exact ha
        rw [if_pos ha] at HO
        clear ha
        go_wp2_with fail
        go_ret
        exact ⟨by rw [HO.out]; rfl, rfl⟩
    · rw [if_neg (by simp [ha])] at HO
      by_cases hb : b = 0
      · subst hb
        go_wp2_with fail
        go_round
        case rel => exact .inr (.inr (by simp [ha]))
        case measure => simp [intOf]
      · have hne : (b != 0) = true := by rw [bne_iff_ne]; exact hb
        clear hb ha
        go_wp2_with fail
        go_ret
        exact ⟨by rw [HO.out]; rfl, rfl⟩
    · have HO3 : Hid (or2 a b = 0) := Lib.hid (by rw [HO.out, if_neg (by simp [ha]), hb])
      clear ha hb
      go_wp2_with fail
      go_ret
      exact ⟨by rw [HO3.out]; rfl, rfl⟩
end Go.Proofs.YthacdkbjefpoaaaDoor.Or2
