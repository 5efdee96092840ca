/-
  Plain mathematics: what is split at a byte and joined again; the first part.
-/
import Derived.Test.YtkiogbbbigmgnaaPlain
import Derived.Test.YtkiogbbbigmgnaaStPl
import Derived.Lib.Join
namespace Go.Proofs.Ytkiogbbbigmgnaa.SplitPl
open Pl Stands

/-! what is split at a byte and joined again -/
def flat (b : UInt8) (D : List (List UInt8)) : List UInt8 := (D.map (· ++ [b])).flatten
theorem tail_snoc (b : UInt8) (r : List (List UInt8)) (c : List UInt8) : Lib.joinTail [b] (r ++ [c]) = Lib.joinTail [b] r ++ [b] ++ c := by
  simp [Lib.joinTail]
theorem join_snoc (b : UInt8) (D : List (List UInt8)) (c : List UInt8) : Lib.join (D ++ [c]) [b] = flat b D ++ c := by
  induction D with
  | nil => simp [flat, Lib.join_one]
  | cons x r ih =>
    cases r with
    | nil => simp [flat, Lib.join_cons, Lib.joinTail]
    | cons y r =>
      have h1 : Lib.join (x :: (y :: r ++ [c])) [b] = x ++ [b] ++ Lib.join (y :: r ++ [c]) [b] := by
        rw [Lib.join_cons, List.cons_append, Lib.join_cons]
        simp [Lib.joinTail]
      rw [List.cons_append, h1, ih]
      simp [flat]
theorem join_split (b : UInt8) (l : List UInt8) : Lib.join (split b l) [b] = l := by
  unfold split
  rw [join_snoc]
  refine snocInd (P := fun l => flat b (spD b l) ++ spC b l = l) rfl ?_ l
  intro l x ih
  by_cases h : x = b
  · rw [spD_hit b l h, spC_hit b l h, h]
    conv => rhs; rw [← ih]
    simp [flat]
  · rw [spD_miss b l h, spC_miss b l h, ← List.append_assoc, ih]
theorem split_free (b : UInt8) (l : List UInt8) : ∀ x ∈ split b l, stB b x = false := by
  have : (∀ x ∈ spD b l, stB b x = false) ∧ stB b (spC b l) = false := by
    refine snocInd (P := fun l => (∀ x ∈ spD b l, stB b x = false) ∧ stB b (spC b l) = false) ⟨fun x hx => (by cases hx), rfl⟩ ?_ l
    rintro l x ⟨h1, h2⟩
    by_cases h : x = b
    · rw [spD_hit b l h, spC_hit b l h]
      refine ⟨fun y hy => ?_, rfl⟩
      rcases List.mem_append.1 hy with hy | hy
      · exact h1 y hy
      · simp at hy; subst hy; exact h2
    · rw [spD_miss b l h, spC_miss b l h]
      exact ⟨h1, by rw [stB_snoc, h2]; simpa using h⟩
  intro x hx
  rcases List.mem_append.1 hx with hx | hx
  · exact this.1 x hx
  · simp at hx; subst hx; exact this.2

/-- the part before the first such byte -/
def hd (b : UInt8) (l : List UInt8) : List UInt8 := l.takeWhile (· != b)
theorem free_mem {b : UInt8} {x : List UInt8} (h : stB b x = false) : ∀ a ∈ x, (a != b) = true := by
  intro a ha
  rw [bne_iff_ne]
  rintro rfl
  unfold stB at h
  rw [List.contains_eq_mem] at h
  simp [ha] at h
theorem hd_free {b : UInt8} {x : List UInt8} (h : stB b x = false) : hd b x = x := by
  have := List.takeWhile_append_of_pos (p := (· != b)) (l₁ := x) (l₂ := []) (free_mem h)
  simpa [hd] using this
theorem hd_app {b : UInt8} {x y : List UInt8} (h : stB b x = false) : hd b (x ++ b :: y) = x := by
  unfold hd
  rw [List.takeWhile_append_of_pos (free_mem h)]
  simp
theorem split_hd (b : UInt8) (l : List UInt8) : (split b l)[0]? = some (hd b l) := by
  have hj := join_split b l
  have hf := split_free b l
  cases hs : split b l with
  | nil => unfold split at hs; simp at hs
  | cons x r =>
    rw [hs] at hj hf
    have hx := hf x (List.mem_cons_self ..)
    rw [Lib.join_cons] at hj
    cases r with
    | nil =>
      simp [Lib.joinTail] at hj
      subst hj
      simp [hd_free hx]
    | cons y r =>
      have e : Lib.joinTail [b] (y :: r) = b :: (y ++ Lib.joinTail [b] r) := by simp [Lib.joinTail]
      rw [e] at hj
      rw [← hj, hd_app hx]
      rfl
theorem hd_nofind (b : UInt8) (l : List UInt8) : stB b (hd b l) = false := by
  unfold stB hd
  rw [Bool.eq_false_iff]
  intro h
  rw [List.contains_iff_mem] at h
  have key : ∀ l : List UInt8, b ∉ List.takeWhile (fun x => x != b) l := by
    intro l
    induction l with
    | nil => simp
    | cons a l ih =>
      rw [List.takeWhile_cons]
      split
      · rename_i hab
        intro hm
        rcases List.mem_cons.1 hm with rfl | hm
        · simp at hab
        · exact ih hm
      · simp
  exact key l h
theorem hd_len (b : UInt8) (l : List UInt8) : (hd b l).length ≤ l.length := (List.takeWhile_sublist _).length_le
theorem hd_index_none {b : UInt8} {l : List UInt8} (h : stB b l = false) : hd b l = l := hd_free h
theorem hd_index {b : UInt8} {l : List UInt8} {o : Nat} (h1 : l[o]? = some b) (h2 : ∀ k, k < o → l[k]? ≠ some b) : hd b l = l.take o := by
  have hlt : o < l.length := (List.getElem?_eq_some_iff.1 h1).1
  have hb : l[o] = b := (List.getElem?_eq_some_iff.1 h1).2
  have e : l = l.take o ++ b :: l.drop (o + 1) := by
    conv => lhs; rw [← List.take_append_drop o l, List.drop_eq_getElem_cons hlt, hb]
  have hf : stB b (l.take o) = false := by
    unfold stB
    rw [Bool.eq_false_iff]
    intro h
    rw [List.contains_iff_mem] at h
    obtain ⟨i, hi⟩ := List.getElem?_of_mem h
    rw [List.getElem?_take] at hi
    split at hi
    · exact h2 i (by assumption) hi
    · cases hi
  conv => lhs; rw [e]
  exact hd_app hf
end Go.Proofs.Ytkiogbbbigmgnaa.SplitPl
