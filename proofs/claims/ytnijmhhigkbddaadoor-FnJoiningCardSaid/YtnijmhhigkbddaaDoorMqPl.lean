/-
  Plain mathematics of chapter 11: marks, what replaces two of them, seams, cleaning. Nothing of the program is named here.
-/
import Derived.Test.YtnijmhhigkbddaaDoorPlain
import Derived.Test.YtnijmhhigkbddaaDoorNmPl
import Derived.Lib.Bytealg
import Derived.Lib.TrimByte
import Derived.Laws.Runes
namespace Go.Proofs.YtnijmhhigkbddaaDoor.MqPl
open Pl NmPl

/-- the index of a mark, or -1 -/
def mI (n : Nat) : Int := if n = 46 then 0 else if n = 44 then 1 else if n = 59 then 2 else if n = 58 then 3 else if n = 33 then 4 else if n = 63 then 5 else -1
theorem mI_cases (n : Nat) : mI n = -1 ∨ ∃ i : Nat, i < 6 ∧ mI n = (i : Int) := by
  unfold mI
  split
  · exact .inr ⟨0, by omega, rfl⟩
  split
  · exact .inr ⟨1, by omega, rfl⟩
  split
  · exact .inr ⟨2, by omega, rfl⟩
  split
  · exact .inr ⟨3, by omega, rfl⟩
  split
  · exact .inr ⟨4, by omega, rfl⟩
  split
  · exact .inr ⟨5, by omega, rfl⟩
  · exact .inl rfl
def isM (c : UInt8) : Bool := decide (0 ≤ mI c.toNat)
theorem isM_eq {c : UInt8} {z : Int} (h : mI c.toNat = z) : isM c = decide (0 ≤ z) := by unfold isM; rw [h]
def allM : List UInt8 := [46, 44, 59, 58, 33, 63]
theorem index_allM (c : UInt8) : Lib.indexByte allM c = mI c.toNat := by
  have h : ∀ n, n < 256 → Lib.indexByte allM (UInt8.ofNat n) = mI n := by decide +kernel
  have h2 := h c.toNat c.toNat_lt
  rwa [UInt8.ofNat_toNat] at h2
/-- the table: 0 where both remain -/
def tabL : List UInt8 := [46, 0, 0, 0, 33, 63, 46, 44, 59, 58, 33, 63, 46, 59, 59, 58, 33, 63, 58, 58, 59, 58, 33, 63, 33, 33, 0, 0, 33, 0, 63, 63, 0, 0, 0, 63]
def tb (i j : Nat) : UInt8 := tabL.getD (i * 6 + j) 0
def rowsM : List (List UInt8) := [[46, 32, 32, 32, 33, 63], [46, 44, 59, 58, 33, 63], [46, 59, 59, 58, 33, 63], [58, 58, 59, 58, 33, 63], [33, 33, 32, 32, 33, 32], [63, 63, 32, 32, 32, 63]]
theorem rows_tb : ∀ i, i < 6 → ∀ j, j < 6 → (rowsM.getD i []).getD j 0 = if tb i j = 0 then 32 else tb i j := by decide +kernel
theorem rows_len : ∀ i, i < 6 → (rowsM.getD i []).length = 6 := by decide +kernel
theorem tb_facts : ∀ i, i < 6 → ∀ j, j < 6 → (tb i j).toNat < 128 ∧ (tb i j) ≠ 32 ∧ (tb i j ≠ 0 → isM (tb i j) = true) := by decide +kernel
/-- the mark that replaces two -/
def rm (a b : UInt8) : Option UInt8 :=
  if isM a = true ∧ isM b = true then (if tb (mI a.toNat).toNat (mI b.toNat).toNat = 0 then none else some (tb (mI a.toNat).toNat (mI b.toNat).toNat)) else none
theorem rm_no_a {a b : UInt8} (h : isM a = false) : rm a b = none := by unfold rm; rw [if_neg (by simp [h])]
theorem rm_no_b {a b : UInt8} (h : isM b = false) : rm a b = none := by unfold rm; rw [if_neg (by simp [h])]
theorem rm_at {a b : UInt8} {i j : Nat} (hi : mI a.toNat = i) (hj : mI b.toNat = j) : rm a b = if tb i j = 0 then none else some (tb i j) := by
  unfold rm
  rw [if_pos ⟨by unfold isM; rw [hi]; simp, by unfold isM; rw [hj]; simp⟩, hi, hj, Int.toNat_natCast, Int.toNat_natCast]
theorem rm_facts {a b x : UInt8} (h : rm a b = some x) : x.toNat < 128 ∧ x ≠ 32 ∧ isM x = true ∧ isM a = true ∧ isM b = true := by
  rcases mI_cases a.toNat with ha | ⟨i, hi, ha⟩
  · rw [rm_no_a (by rw [isM_eq ha]; rfl)] at h; cases h
  · rcases mI_cases b.toNat with hb | ⟨j, hj, hb⟩
    · rw [rm_no_b (by rw [isM_eq hb]; rfl)] at h; cases h
    · rw [rm_at ha hb] at h
      by_cases h0 : tb i j = 0
      · rw [if_pos h0] at h; cases h
      · rw [if_neg h0] at h
        cases h
        obtain ⟨h1, h2, h3⟩ := tb_facts i hi j hj
        exact ⟨h1, h2, h3 h0, by rw [isM_eq ha]; simp, by rw [isM_eq hb]; simp⟩
/-- what replaces two marks -/
def mg (a b : UInt8) : List UInt8 := match rm a b with | some x => [x] | none => [a, b]
theorem mg_len (a b : UInt8) : 1 ≤ (mg a b).length ∧ (mg a b).length ≤ 2 := by unfold mg; split <;> simp
/-- what stands at a seam -/
def sm (a b : UInt8) : List UInt8 := if a = 32 ∧ b = 32 then [32] else mg a b
theorem sm_len (a b : UInt8) : 1 ≤ (sm a b).length ∧ (sm a b).length ≤ 2 := by
  unfold sm; split
  · simp
  · exact mg_len a b
theorem m32 : isM 32 = false := by decide
theorem enc_one (x : UInt8) (h : x.toNat < 128) : Utf8.encode (x.toNat : Int) = ba [x] := by
  have h1 : ∀ n, n < 128 → Utf8.encode ((n : Nat) : Int) = ba [UInt8.ofNat n] := by decide +kernel
  have h2 := h1 x.toNat h
  rwa [UInt8.ofNat_toNat] at h2
/-- two texts joined -/
def jt (a b : List UInt8) : List UInt8 := match a.getLast?, b with
  | some x, y :: b0 => a.take (a.length - 1) ++ (sm x y ++ b0)
  | _, _ => a ++ b
theorem jt_nil_l (b : List UInt8) : jt [] b = b := by cases b <;> rfl
theorem jt_nil_r (a : List UInt8) : jt a [] = a := by unfold jt; cases a.getLast? <;> simp
theorem jt_at (a0 : List UInt8) (x y : UInt8) (b0 : List UInt8) : jt (a0 ++ [x]) (y :: b0) = a0 ++ (sm x y ++ b0) := by
  unfold jt
  simp
theorem jt_len (a b : List UInt8) : (jt a b).length ≤ a.length + b.length := by
  rcases List.eq_nil_or_concat a with rfl | ⟨a0, x, rfl⟩
  · rw [jt_nil_l]; simp
  · cases b with
    | nil => rw [jt_nil_r]; simp
    | cons y b0 =>
      rw [List.concat_eq_append, jt_at]
      have := (sm_len x y).2
      simp; omega
theorem jt_ne {a b : List UInt8} (h : a ≠ [] ∨ b ≠ []) : jt a b ≠ [] := by
  rcases List.eq_nil_or_concat a with rfl | ⟨a0, x, rfl⟩
  · rw [jt_nil_l]; rcases h with h | h
    · exact absurd rfl h
    · exact h
  · cases b with
    | nil => rw [jt_nil_r]; simp
    | cons y b0 =>
      rw [List.concat_eq_append, jt_at]
      intro e
      have h1 := (sm_len x y).1
      have h2 : (a0 ++ (sm x y ++ b0)).length = 0 := by rw [e]; rfl
      rw [List.length_append, List.length_append] at h2
      omega
def prM (c : UInt8) : Bool := decide (32 ≤ c.toNat ∧ c.toNat ≤ 126)
/-- is it a text -/
def okX (l : List UInt8) : Bool := decide (l.length ≤ 60) && l.all prM
end Go.Proofs.YtnijmhhigkbddaaDoor.MqPl
