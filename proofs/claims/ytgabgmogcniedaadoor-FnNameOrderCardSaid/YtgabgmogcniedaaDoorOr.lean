/-
  Contracts of cmp.Or at two numbers and of strings.Compare.
-/
import Derived.Test.YtgabgmogcniedaaDoorCmp
import Derived.Test.YtgabgmogcniedaaDoorShelf
namespace Go.Proofs.YtgabgmogcniedaaDoor.Or2
open Go.RowKit Pl Cmp
set_option linter.unusedVariables false
set_option linter.unusedSimpArgs false

theorem ofNat_inj {a b : UInt8} (h : ¬ a < b) (h2 : ¬ b < a) : a = b := by
  have h' : ¬ a.toNat < b.toNat := fun e => h (UInt8.lt_iff_toNat_lt.2 e)
  have h2' : ¬ b.toNat < a.toNat := fun e => h2 (UInt8.lt_iff_toNat_lt.2 e)
  exact UInt8.toNat_inj.1 (by omega)
/-- strings.Compare says what the model's comparison says -/
theorem cmpB_eq (x y : List UInt8) : (Lib.compareBytes x y : Int) = if Op.bytesLess x y = true then -1 else if (x == y) = true then 0 else 1 := by
  induction x generalizing y with
  | nil => cases y <;> simp [Lib.compareBytes, Op.bytesLess]
  | cons a u ih =>
    cases y with
    | nil => simp [Lib.compareBytes, Op.bytesLess]
    | cons b v =>
      unfold Lib.compareBytes Op.bytesLess
      by_cases h1 : a < b
      · simp [h1]
      · by_cases h2 : b < a
        · have hne : ¬ a = b := fun e => by subst e; exact h1 h2
          simp [h1, h2, hne]
        · have he := ofNat_inj h1 h2
          subst he
          simp [h1, ih]
theorem cmpS_eq (a b : ByteArray) : (Lib.compareBytes a.data.toList b.data.toList : Int) = cmpS a b := by
  rw [cmpB_eq]
  unfold cmpS
  rw [Lib.toList_data, Lib.toList_data]
/-- the first of two numbers that is not 0 -/
def or2 (a b : Int) : Int := if a ≠ 0 then a else b
end Go.Proofs.YtgabgmogcniedaaDoor.Or2
