/-
  Plain mathematics: folding twice is folding once; comparing from the other side gives the opposite; equal only if the same.
-/
import Derived.Test.YthacdkbjefpoaaaDoorCl
import Derived.Test.YthacdkbjefpoaaaDoorNc4
namespace Go.Proofs.YthacdkbjefpoaaaDoor.FdPl
open Pl NmPl FoPl NcPl Cmp Or2 Fo Nc
set_option linter.unusedVariables false
set_option linter.unusedSimpArgs false

theorem low_low (c : UInt8) : Lib.lowerB (Lib.lowerB c) = Lib.lowerB c := by
  cases hu : isUp c with
  | true =>
    refine FoPl.low_no ?_
    have h1 := FoPl.low_up hu
    have h2 : 65 ≤ c.toNat ∧ c.toNat ≤ 90 := by unfold isUp at hu; simpa using hu
    unfold isUp
    rw [h1]
    simp
    omega
  | false => rw [FoPl.low_no hu, FoPl.low_no hu]
theorem kp_low (c : UInt8) : kp (Lib.lowerB c) = kp c := by
  cases hu : isUp c with
  | true =>
    have h1 := FoPl.low_up hu
    have h2 : 65 ≤ c.toNat ∧ c.toNat ≤ 90 := by unfold isUp at hu; simpa using hu
    have h3 : isLo (Lib.lowerB c) = true := by unfold isLo; rw [h1]; simp; omega
    have e1 : kp c = true := by unfold kp isLt; rw [hu]; rfl
    have e2 : kp (Lib.lowerB c) = true := by unfold kp isLt; rw [h3]; simp
    rw [e1, e2]
  | false => rw [FoPl.low_no hu]
theorem fA_map (l : List UInt8) : fA kp (l.map Lib.lowerB) = ((fA kp l).1, (fA kp l).2.map Lib.lowerB) := by
  refine listSnoc (P := fun l => fA kp (l.map Lib.lowerB) = ((fA kp l).1, (fA kp l).2.map Lib.lowerB)) rfl ?_ l
  intro l c ih
  rw [List.map_append, List.map_cons, List.map_nil, fA_snoc, fA_snoc, ih]
  have e : decide ((Lib.lowerB c).toNat = 32) = decide (c.toNat = 32) := decide_eq_decide.2 (by rw [sp_low])
  unfold fS
  rw [kp_low, e]
  cases kp c <;> simp [gap_low]
theorem fA_again (l : List UInt8) : fA kp (fA kp l).2 = (false, (fA kp l).2) := by
  refine listSnoc (P := fun l => fA kp (fA kp l).2 = (false, (fA kp l).2)) rfl ?_ l
  intro l c ih
  rw [fA_snoc]
  generalize fA kp l = p at *
  obtain ⟨g, o⟩ := p
  simp only at ih
  unfold fS
  cases hk : kp c with
  | false => simpa using ih
  | true =>
    simp only [if_true]
    cases hg : (g && decide (0 < o.length)) with
    | false =>
      show fA kp (o ++ [] ++ [c]) = _
      rw [List.append_nil, fA_snoc, ih]
      simp [fS, hk, gapL]
    | true =>
      have ho : 0 < o.length := by simp at hg; exact hg.2
      show fA kp (o ++ [32] ++ [c]) = _
      rw [fA_snoc, fA_snoc, ih]
      have h32 : kp 32 = false := by decide
      simp [fS, hk, h32, gapL, ho]
theorem fT_again (l : List UInt8) : fT (fT l) = fT l := by
  unfold fT
  rw [fA_map, fA_again, List.map_map]
  apply List.map_congr_left
  intro c _
  exact low_low c
theorem cB_neg : ∀ (x y : List UInt8), Lib.compareBytes y x = - Lib.compareBytes x y
  | [], [] => rfl
  | [], _ :: _ => rfl
  | _ :: _, [] => rfl
  | a :: u, b :: v => by
    unfold Lib.compareBytes
    by_cases h1 : a < b
    · have h2 : ¬ b < a := fun h => by have := UInt8.lt_iff_toNat_lt.1 h; have := UInt8.lt_iff_toNat_lt.1 h1; omega
      simp [h1, h2]
    · by_cases h2 : b < a
      · simp [h1, h2]
      · simp [h1, h2, cB_neg u v]
theorem cB_eq : ∀ (x y : List UInt8), Lib.compareBytes x y = 0 → x = y
  | [], [], _ => rfl
  | [], _ :: _, h => by simp [Lib.compareBytes] at h
  | _ :: _, [], h => by simp [Lib.compareBytes] at h
  | a :: u, b :: v, h => by
    unfold Lib.compareBytes at h
    by_cases h1 : a < b
    · simp [h1] at h
    · by_cases h2 : b < a
      · simp [h1, h2] at h
      · simp [h1, h2] at h
        rw [Or2.ofNat_inj h1 h2, cB_eq u v h]
theorem cS_neg (a b : ByteArray) : cmpS b a = - cmpS a b := by rw [← cmpS_eq, ← cmpS_eq, cB_neg]
theorem cS_eq {a b : ByteArray} (h : cmpS a b = 0) : a = b := by
  rw [← cmpS_eq] at h
  have := cB_eq _ _ h
  apply ByteArray.ext
  exact Array.toList_inj.1 this
theorem neg_self {x : Int} (h : x = -x) : x = 0 := by omega
theorem cS_self (a : ByteArray) : cmpS a a = 0 := neg_self (cS_neg a a)
theorem cS_bd (a b : ByteArray) : -1 ≤ cmpS a b ∧ cmpS a b ≤ 1 := by unfold cmpS; (repeat' split) <;> omega
theorem or_neg (a b : Int) : or2 (-a) (-b) = - or2 a b := by unfold or2; by_cases h : a = 0 <;> simp [h]
theorem or_bd {a b : Int} (ha : -1 ≤ a ∧ a ≤ 1) (hb : -1 ≤ b ∧ b ≤ 1) : -1 ≤ or2 a b ∧ or2 a b ≤ 1 := by unfold or2; split <;> assumption
theorem or_zero {a b : Int} (h : or2 a b = 0) : b = 0 := by
  unfold or2 at h
  by_cases ha : a = 0
  · simpa [ha] using h
  · rw [if_pos ha] at h; exact absurd h ha
theorem cI_neg (a b : Int) : Lib.compareInt b a = - Lib.compareInt a b := by unfold Lib.compareInt; (repeat' split) <;> omega
theorem cI_bd (a b : Int) : -1 ≤ Lib.compareInt a b ∧ Lib.compareInt a b ≤ 1 := by unfold Lib.compareInt; (repeat' split) <;> omega
theorem col_neg (a b : ByteArray) : colV b a = - colV a b := by unfold colV; rw [cS_neg (ba (fT a.data.toList)), cS_neg a, or_neg]
theorem col_bd (a b : ByteArray) : -1 ≤ colV a b ∧ colV a b ≤ 1 := or_bd (cS_bd _ _) (cS_bd _ _)
theorem col_zero (a b : ByteArray) : (colV a b = 0) = (a = b) := propext ⟨fun h => cS_eq (or_zero h), fun h => by subst h; exact neg_self (col_neg a a)⟩
theorem cn_neg (x y : List UInt8) : cnV y x = - cnV x y := by unfold cnV; rw [cI_neg, cS_neg (ba (st0 x)), or_neg]
theorem cn_bd (x y : List UInt8) : -1 ≤ cnV x y ∧ cnV x y ≤ 1 := or_bd (cI_bd _ _) (cS_bd _ _)
theorem cr_neg (x y : List UInt8) : crV y x = - crV x y := by
  unfold crV
  cases dg (x.headD 0) <;> cases dg (y.headD 0) <;> simp [cn_neg x y, cS_neg (ba x) (ba y)]
theorem cr_bd (x y : List UInt8) : -1 ≤ crV x y ∧ crV x y ≤ 1 := by
  unfold crV
  have h1 := cn_bd x y
  have h2 := cS_bd (ba x) (ba y)
  (repeat' split) <;> omega
theorem cl_neg : ∀ (x y : List (List UInt8)), crL y x = - crL x y
  | [], [] => rfl
  | [], _ :: _ => rfl
  | _ :: _, [] => rfl
  | a :: u, b :: v => by
    unfold crL
    rw [cr_neg a b, cl_neg u v]
    by_cases h : crV a b = 0 <;> simp [h]
theorem cl_bd : ∀ (x y : List (List UInt8)), -1 ≤ crL x y ∧ crL x y ≤ 1
  | [], [] => by simp [crL]
  | [], _ :: _ => by simp [crL]
  | _ :: _, [] => by simp [crL]
  | a :: u, b :: v => by
    unfold crL
    split
    · exact cl_bd u v
    · exact cr_bd a b
/-- how two texts compare naturally -/
def natV (a b : ByteArray) : Int := or2 (crL (runs a.data.toList) (runs b.data.toList)) (cmpS a b)
theorem nat_neg (a b : ByteArray) : natV b a = - natV a b := by unfold natV; rw [cl_neg (runs a.data.toList), cS_neg a, or_neg]
theorem nat_bd (a b : ByteArray) : -1 ≤ natV a b ∧ natV a b ≤ 1 := or_bd (cl_bd _ _) (cS_bd _ _)
theorem nat_zero (a b : ByteArray) : (natV a b = 0) = (a = b) := propext ⟨fun h => cS_eq (or_zero h), fun h => by subst h; exact neg_self (nat_neg a a)⟩
end Go.Proofs.YthacdkbjefpoaaaDoor.FdPl
