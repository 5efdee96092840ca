/-
  Plain mathematics of chapter 6: valid titles (braces, spaces), protected parts, words, the title without braces. Nothing of the program is named here.
-/
import Derived.Test.YtobjfmchnlnohaaGreatDoorPlain
import Derived.Test.YtobjfmchnlnohaaGreatDoorNmPl
import Derived.Lib.Strings
import Derived.Lib.Index
namespace Go.Proofs.YtobjfmchnlnohaaGreatDoor.TiPl
open Pl NmPl

def prC (c : UInt8) : Bool := decide (32 ≤ c.toNat ∧ c.toNat ≤ 126)
/-- are the braces behind place i paired, where an opened one stands at place z (or none: z < 0) -/
def br : List UInt8 → Nat → Int → Bool
  | [], _, z => decide (z < 0)
  | c :: r, i, z =>
    if c.toNat = 123 then (if 0 ≤ z then false else br r (i + 1) i)
    else if c.toNat = 125 then (if z < 0 ∨ z = (i : Int) - 1 then false else br r (i + 1) (-1))
    else br r (i + 1) z
/-- two spaces in a row; p: a space stands ahead -/
def dbl : Bool → List UInt8 → Bool
  | _, [] => false
  | p, c :: r => (p && c == 32) || dbl (c == 32) r
/-- printable, no two spaces in a row, braces paired: in one pass -/
def gd : List UInt8 → Nat → Bool → Int → Bool
  | [], _, _, z => decide (z < 0)
  | c :: r, i, p, z =>
    if prC c = false then false
    else if p = true ∧ c.toNat = 32 then false
    else if c.toNat = 123 then (if 0 ≤ z then false else gd r (i + 1) false i)
    else if c.toNat = 125 then (if z < 0 ∨ z = (i : Int) - 1 then false else gd r (i + 1) false (-1))
    else gd r (i + 1) (decide (c.toNat = 32)) z
theorem beq32 (c : UInt8) : (c == 32) = decide (c.toNat = 32) := by
  rw [Bool.eq_iff_iff, beq_iff_eq, decide_eq_true_eq]
  constructor
  · rintro rfl; rfl
  · intro h; exact UInt8.toNat_inj.1 h
theorem gd_eq (l : List UInt8) (i : Nat) (p : Bool) (z : Int) : gd l i p z = (l.all prC && (!(dbl p l) && br l i z)) := by
  induction l generalizing i p z with
  | nil => simp [gd, br, dbl]
  | cons c r ih =>
    rw [List.all_cons]
    unfold gd br dbl
    rw [beq32]
    by_cases h1 : prC c = true
    · rw [if_neg (by simp [h1]), h1, Bool.true_and]
      by_cases h2 : p = true ∧ c.toNat = 32
      · rw [if_pos h2, h2.1]; simp [h2.2]
      · rw [if_neg h2]
        have h2' : (p && decide (c.toNat = 32)) = false := by
          cases p <;> simp_all
        rw [h2', Bool.false_or]
        by_cases h3 : c.toNat = 123
        · rw [if_pos h3, if_pos h3]
          have e : decide (c.toNat = 32) = false := by simp; omega
          rw [e]
          by_cases h4 : 0 ≤ z
          · rw [if_pos h4, if_pos h4]; simp
          · rw [if_neg h4, if_neg h4, ih]
        · rw [if_neg h3, if_neg h3]
          by_cases h5 : c.toNat = 125
          · rw [if_pos h5, if_pos h5]
            have e : decide (c.toNat = 32) = false := by simp; omega
            rw [e]
            by_cases h6 : z < 0 ∨ z = (i : Int) - 1
            · rw [if_pos h6, if_pos h6]; simp
            · rw [if_neg h6, if_neg h6, ih]
          · rw [if_neg h5, if_neg h5, ih]
    · have h1' : prC c = false := by simpa using h1
      rw [if_pos h1', h1']
      simp
/-- what stands at the ends -/
def edg (l : List UInt8) : Bool := !(Lib.hasPrefix l [32]) && !(Lib.hasSuffix l [32])
/-- is it a title -/
def okT (l : List UInt8) : Bool := decide (1 ≤ l.length ∧ l.length ≤ 100) && (edg l && gd l 0 false (-1))
theorem okT_size {l : List UInt8} (h : okT l = true) : 1 ≤ l.length ∧ l.length ≤ 100 := by
  unfold okT at h
  simp only [Bool.and_eq_true, decide_eq_true_eq] at h
  exact h.1
theorem okT_gd {l : List UInt8} (h : okT l = true) : gd l 0 false (-1) = true := by
  unfold okT at h
  simp only [Bool.and_eq_true] at h
  exact h.2.2
/-- strings.Contains of two spaces -/
theorem pre2 (l : List UInt8) : List.isPrefixOf [32, 32] l = (match l with | a :: b :: _ => (a == 32) && (b == 32) | _ => false) := by
  match l with
  | [] => rfl
  | [a] => simp [List.isPrefixOf]
  | a :: b :: t =>
    show ((32 : UInt8) == a && ((32 : UInt8) == b && true)) = _
    rw [Bool.and_true, BEq.comm (a := (32 : UInt8)) (b := a), BEq.comm (a := (32 : UInt8)) (b := b)]
theorem contains2 : ∀ l : List UInt8, decide (0 ≤ Lib.index l [32, 32]) = dbl false l
  | [] => rfl
  | [c] => by simp [Lib.index, pre2, dbl]
  | a :: b :: t => by
    have ih := contains2 (b :: t)
    have hge := Lib.index_ge (b :: t) [32, 32]
    unfold Lib.index
    rw [pre2]
    have e : dbl false (a :: b :: t) = ((a == 32 && b == 32) || dbl false (b :: t)) := by
      simp only [dbl, Bool.false_and, Bool.false_or]
    rw [e, ← ih]
    dsimp only
    by_cases h : (a == 32 && b == 32) = true
    · rw [if_pos h, h]; rfl
    · rw [if_neg h]
      have h' : (a == 32 && b == 32) = false := by simpa using h
      rw [h', Bool.false_or]
      by_cases h2 : Lib.index (b :: t) [32, 32] = -1
      · rw [h2]; rfl
      · have : (Lib.index (b :: t) [32, 32] == -1) = false := by simpa using h2
        rw [this]
        simp only [Bool.false_eq_true, if_false]
        rw [Bool.eq_iff_iff]; simp; omega
/-- the byte ahead of place k is a space -/
def sp1 (l : List UInt8) (k : Nat) : Bool := match k with
  | 0 => false
  | j + 1 => match l[j]? with | some c => decide (c.toNat = 32) | none => false
/-- the title without its braces -/
def pl (l : List UInt8) : List UInt8 := l.filter fun c => decide (c.toNat ≠ 123) && decide (c.toNat ≠ 125)
theorem pl_snoc (l : List UInt8) (c : UInt8) : pl (l ++ [c]) = pl l ++ (if c.toNat ≠ 123 ∧ c.toNat ≠ 125 then [c] else []) := by
  unfold pl
  rw [List.filter_append]
  by_cases h : c.toNat ≠ 123 ∧ c.toNat ≠ 125
  · rw [if_pos h]; simp [h.1, h.2]
  · rw [if_neg h]
    have : (decide (c.toNat ≠ 123) && decide (c.toNat ≠ 125)) = false := by
      rw [Bool.eq_false_iff]; simp only [ne_eq, Bool.and_eq_true, decide_eq_true_eq]; exact h
    simp only [List.filter_cons, this]
    simp
theorem pl_len (l : List UInt8) : (pl l).length ≤ l.length := List.length_filter_le _ _
end Go.Proofs.YtobjfmchnlnohaaGreatDoor.TiPl
