/-
  Plain mathematics: names are compared in opposite ways from both sides; valid names that compare as equal are the same; may-be-the-same holds from both sides.
-/
import Derived.Test.YtgabgmogcniedaaDoorCmp3
import Derived.Test.YtgabgmogcniedaaDoorOr
import Derived.Test.YtgabgmogcniedaaDoorPiC
import Derived.Test.YtgabgmogcniedaaDoorMay2
namespace Go.Proofs.YtgabgmogcniedaaDoor.NoPl
open Pl NmPl Cmp Or2 Help Name NGood Forms May
set_option linter.unusedVariables false
set_option linter.unusedSimpArgs false

theorem cB_neg : ∀ (x y : List UInt8), Lib.compareBytes y x = - Lib.compareBytes x y
  | [], [] => rfl
  | [], _ :: _ => rfl
  | _ :: _, [] => rfl
  | a :: u, b :: v => by
    unfold Lib.compareBytes
    by_cases h1 : a < b
    · have h2 : ¬ b < a := fun h => by have := UInt8.lt_iff_toNat_lt.1 h; have := UInt8.lt_iff_toNat_lt.1 h1; omega
      simp [h1, h2]
    · by_cases h2 : b < a
      · simp [h1, h2]
      · simp [h1, h2, cB_neg u v]
theorem cB_eq : ∀ (x y : List UInt8), Lib.compareBytes x y = 0 → x = y
  | [], [], _ => rfl
  | [], _ :: _, h => by simp [Lib.compareBytes] at h
  | _ :: _, [], h => by simp [Lib.compareBytes] at h
  | a :: u, b :: v, h => by
    unfold Lib.compareBytes at h
    by_cases h1 : a < b
    · simp [h1] at h
    · by_cases h2 : b < a
      · simp [h1, h2] at h
      · simp [h1, h2] at h
        rw [Or2.ofNat_inj h1 h2, cB_eq u v h]
theorem cS_neg (a b : ByteArray) : cmpS b a = - cmpS a b := by rw [← cmpS_eq, ← cmpS_eq, cB_neg]
theorem cS_eq {a b : ByteArray} (h : cmpS a b = 0) : a = b := by
  rw [← cmpS_eq] at h
  have := cB_eq _ _ h
  apply ByteArray.ext
  exact Array.toList_inj.1 this
theorem cS_bd (a b : ByteArray) : -1 ≤ cmpS a b ∧ cmpS a b ≤ 1 := by unfold cmpS; (repeat' split) <;> omega
theorem cL_neg : ∀ (x y : List ByteArray), cmpL y x = - cmpL x y
  | [], [] => rfl
  | [], _ :: _ => rfl
  | _ :: _, [] => rfl
  | a :: u, b :: v => by
    unfold cmpL
    rw [cS_neg a b, cL_neg u v]
    by_cases h : cmpS a b = 0 <;> simp [h]
theorem cL_bd : ∀ (x y : List ByteArray), -1 ≤ cmpL x y ∧ cmpL x y ≤ 1
  | [], [] => by simp [cmpL]
  | [], _ :: _ => by simp [cmpL]
  | _ :: _, [] => by simp [cmpL]
  | a :: u, b :: v => by
    unfold cmpL
    split
    · exact cL_bd u v
    · exact cS_bd a b
theorem cL_zero : ∀ (x y : List ByteArray), x.length = y.length → cmpL x y = 0 → x = y
  | [], [], _, _ => rfl
  | [], _ :: _, h, _ => by simp at h
  | _ :: _, [], h, _ => by simp at h
  | a :: u, b :: v, hl, h => by
    unfold cmpL at h
    by_cases h0 : cmpS a b = 0
    · rw [if_pos h0] at h
      rw [cS_eq h0, cL_zero u v (by simpa using hl) h]
    · rw [if_neg h0] at h; exact absurd h h0
theorem name_neg (xs : List ByteArray) (p f s : ByteArray) (ys : List ByteArray) (p2 f2 s2 : ByteArray) : cmpM ys p2 f2 s2 xs p f s = - cmpM xs p f s ys p2 f2 s2 := by
  rw [← cmpM_eq, ← cmpM_eq, cL_neg]
theorem name_bd (xs : List ByteArray) (p f s : ByteArray) (ys : List ByteArray) (p2 f2 s2 : ByteArray) : -1 ≤ cmpM xs p f s ys p2 f2 s2 ∧ cmpM xs p f s ys p2 f2 s2 ≤ 1 := by
  rw [← cmpM_eq]; exact cL_bd _ _
theorem name_zero {xs : List ByteArray} {p f s : ByteArray} {ys : List ByteArray} {p2 f2 s2 : ByteArray} (h1 : okN xs p f s = true) (h2 : okN ys p2 f2 s2 = true) : cmpM xs p f s ys p2 f2 s2 = 0 ↔ (xs = ys ∧ p = p2 ∧ f = f2 ∧ s = s2) := by
  constructor
  · intro h
    rw [← cmpM_eq] at h
    have e := cL_zero (cpL xs p f s) (cpL ys p2 f2 s2) rfl h
    unfold cpL at e
    simp only [List.cons.injEq] at e
    have e4 := e.2.2.2.1
    obtain ⟨a1, a2, a3, a4⟩ := Pi.cand_eq h1 rfl
    obtain ⟨b1, b2, b3, b4⟩ := Pi.cand_eq h2 e4
    exact ⟨a1.symm.trans b1, a2.symm.trans b2, a3.symm.trans b3, a4.symm.trans b4⟩
  · rintro ⟨rfl, rfl, rfl, rfl⟩
    have := name_neg xs p f s xs p f s
    omega
theorem fit_comm (a b : List UInt8) : fitB a b = fitB b a := by
  unfold fitB
  rw [headE_comm a b, show (a == b) = (b == a) from by rw [Bool.eq_iff_iff, beq_iff_eq, beq_iff_eq]; exact eq_comm]
  cases (b == a) <;> cases (decide (a.length = 1) && headE b a) <;> cases (decide (b.length = 1) && headE b a) <;> rfl
theorem zfit_comm : ∀ (a b : List (List UInt8)), zfit a b = zfit b a
  | [], [] => rfl
  | [], _ :: _ => rfl
  | _ :: _, [] => rfl
  | x :: a, y :: b => by
    have ih := zfit_comm a b
    unfold zfit at ih ⊢
    simp only [List.zip_cons_cons, List.all_cons]
    rw [ih, fit_comm x y]
theorem may_comm (xs : List ByteArray) (p f s : ByteArray) (ys : List ByteArray) (p2 f2 s2 : ByteArray) : mayB ys p2 f2 s2 xs p f s = mayB xs p f s ys p2 f2 s2 := by
  unfold mayB
  rw [zfit_comm (ls ys), decide_eq_decide.2 (show p2 = p ↔ p = p2 from eq_comm), decide_eq_decide.2 (show f2 = f ↔ f = f2 from eq_comm), decide_eq_decide.2 (show s2 = s ↔ s = s2 from eq_comm)]
theorem zfit_self : ∀ (a : List (List UInt8)), zfit a a = true
  | [] => rfl
  | x :: a => by
    have ih := zfit_self a
    unfold zfit at ih ⊢
    simp only [List.zip_cons_cons, List.all_cons]
    rw [ih, fit_same]; rfl
theorem may_self (xs : List ByteArray) (p f s : ByteArray) : mayB xs p f s xs p f s = true := by
  unfold mayB
  rw [zfit_self]; simp
end Go.Proofs.YtgabgmogcniedaaDoor.NoPl
