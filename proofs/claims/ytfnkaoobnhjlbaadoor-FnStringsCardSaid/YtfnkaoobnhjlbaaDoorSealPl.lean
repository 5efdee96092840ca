/-
  Plain mathematics: a sealed text in which one byte is changed is no sealed text. Nothing of the program is named here.
-/
import Derived.Test.YtfnkaoobnhjlbaaDoorPlain
import Derived.Test.YtfnkaoobnhjlbaaDoorStPl
import Derived.Test.YtfnkaoobnhjlbaaDoorReadPl
namespace Go.Proofs.YtfnkaoobnhjlbaaDoor.SealPl
open Pl Stands ReadPl

theorem step_inj_h {a b : Int} {c : UInt8} (ha : 0 ≤ a ∧ a < 999979) (hb : 0 ≤ b ∧ b < 999979) (h : ckStep a c = ckStep b c) : a = b := by
  unfold ckStep at h; omega
theorem step_inj_c {a : Int} {c d : UInt8} (h : ckStep a c = ckStep a d) : c = d := by
  unfold ckStep at h
  have h1 := c.toNat_lt
  have h2 := d.toNat_lt
  apply UInt8.toNat_inj.1
  omega
theorem fold_inj (l : List UInt8) : ∀ {a b : Int}, 0 ≤ a ∧ a < 999979 → 0 ≤ b ∧ b < 999979 → l.foldl ckStep a = l.foldl ckStep b → a = b := by
  induction l with
  | nil => intro a b _ _ h; exact h
  | cons c l ih => intro a b ha hb h; exact step_inj_h ha hb (ih (ckStep_bd a c) (ckStep_bd b c) h)
theorem ck_one {u v : List UInt8} {c d : UInt8} (h : ckSum (u ++ c :: v) = ckSum (u ++ d :: v)) : c = d := by
  unfold ckSum at h
  rw [List.foldl_append, List.foldl_append, List.foldl_cons, List.foldl_cons] at h
  exact step_inj_c (fold_inj v (ckStep_bd _ _) (ckStep_bd _ _) h)
def digs (x : List UInt8) : List UInt8 := Lib.decDigits (ckSum x).toNat
theorem digs_inj {x y : List UInt8} (h : digs x = digs y) : ckSum x = ckSum y := by
  have h1 := dec_val (ckSum x).toNat
  have h2 := dec_val (ckSum y).toNat
  unfold digs at h
  rw [h, h2] at h1
  have := ckSum_bd x
  have := ckSum_bd y
  omega
def sealL (x : List UInt8) : List UInt8 := x ++ 35 :: digs x
theorem free_at {x : List UInt8} (h : stB 35 x = false) (i : Nat) : x[i]? ≠ some 35 := by
  intro h'
  have hm := List.mem_of_getElem? h'
  unfold stB at h
  rw [← List.contains_iff_mem] at hm
  rw [hm] at h; cases h
theorem digs_free (x : List UInt8) (i : Nat) : (digs x)[i]? ≠ some 35 := by
  intro h'
  have hm := List.mem_of_getElem? h'
  have := dec_digs _ _ hm
  unfold isD at this
  have e : (35 : UInt8).toNat = 35 := rfl
  omega
theorem seal_lo (x : List UInt8) {i : Nat} (h : i < x.length) : (sealL x)[i]? = x[i]? := List.getElem?_append_left h
theorem seal_at (x : List UInt8) : (sealL x)[x.length]? = some 35 := by
  unfold sealL; rw [List.getElem?_append_right (Nat.le_refl _), Nat.sub_self]; rfl
theorem seal_hi (x : List UInt8) (j : Nat) : (sealL x)[x.length + 1 + j]? = (digs x)[j]? := by
  unfold sealL
  rw [List.getElem?_append_right (by omega), show x.length + 1 + j - x.length = j + 1 by omega]; rfl
theorem seal_hash {x : List UInt8} (hx : stB 35 x = false) {i : Nat} (h : (sealL x)[i]? = some 35) : i = x.length := by
  rcases Nat.lt_trichotomy i x.length with h1 | h1 | h1
  · rw [seal_lo x h1] at h; exact absurd h (free_at hx i)
  · exact h1
  · obtain ⟨j, rfl⟩ : ∃ j, i = x.length + 1 + j := ⟨i - x.length - 1, by omega⟩
    rw [seal_hi] at h; exact absurd h (digs_free x j)
/-- two sealed texts that agree but at one place are the same -/
theorem one_same {x t : List UInt8} {k : Nat} (hx : stB 35 x = false) (ht : stB 35 t = false) (h : ∀ i, i ≠ k → (sealL t)[i]? = (sealL x)[i]?) : sealL t = sealL x := by
  by_cases hp : t.length = x.length
  · by_cases hk : k < x.length
    · have hd : digs t = digs x := by
        apply List.ext_getElem?
        intro j
        rw [← seal_hi, ← seal_hi, hp]
        exact h _ (by omega)
      have hc := digs_inj hd
      have hkt : k < t.length := by omega
      have e1 : t.take k = x.take k := by
        apply List.ext_getElem?
        intro i
        rw [List.getElem?_take, List.getElem?_take]
        split
        · rw [← seal_lo t (by omega), ← seal_lo x (by omega)]; exact h i (by omega)
        · rfl
      have e2 : t.drop (k + 1) = x.drop (k + 1) := by
        apply List.ext_getElem?
        intro i
        rw [List.getElem?_drop, List.getElem?_drop]
        rcases Nat.lt_or_ge (k + 1 + i) x.length with hl | hl
        · rw [← seal_lo t (by omega), ← seal_lo x (by omega)]; exact h _ (by omega)
        · rw [List.getElem?_eq_none (by omega), List.getElem?_eq_none (by omega)]
      have s1 : t = t.take k ++ t[k] :: t.drop (k + 1) := by rw [← List.drop_eq_getElem_cons, List.take_append_drop]
      have s2 : x = x.take k ++ x[k] :: x.drop (k + 1) := by rw [← List.drop_eq_getElem_cons, List.take_append_drop]
      have s3 : t = x.take k ++ t[k] :: x.drop (k + 1) := by rw [← e1, ← e2]; exact s1
      have hcc : t[k] = x[k] := by
        refine ck_one (u := x.take k) (v := x.drop (k + 1)) ?_
        rw [← s3, ← s2]; exact hc
      have : t = x := by rw [s3, hcc]; exact s2.symm
      rw [this]
    · have : t = x := by
        apply List.ext_getElem?
        intro i
        rcases Nat.lt_or_ge i x.length with hl | hl
        · rw [← seal_lo t (by omega), ← seal_lo x (by omega)]; exact h _ (by omega)
        · rw [List.getElem?_eq_none (by omega), List.getElem?_eq_none (by omega)]
      rw [this]
  · exfalso
    have k1 : x.length = k := by
      apply Decidable.byContradiction
      intro hne
      have := h _ hne
      rw [seal_at] at this
      exact hp (seal_hash ht this).symm
    have k2 : t.length = k := by
      apply Decidable.byContradiction
      intro hne
      have := h _ hne
      rw [seal_at] at this
      exact hp (seal_hash hx this.symm)
    omega
end Go.Proofs.YtfnkaoobnhjlbaaDoor.SealPl
