/-
  Plain facts of the law FnTitleParts: the words put together are the title, a protected word leaves the plain title. Nothing of the program is named here.
-/
import Derived.Test.YtobjfmchnlnohaaGreatDoorWdPl
import Derived.Test.YtobjfmchnlnohaaGreatDoorJo
namespace Go.Proofs.YtobjfmchnlnohaaGreatDoor.TiPl
open Pl NmPl Jo
set_option linter.unusedSimpArgs false

theorem jL_last (D : List (List UInt8)) (x y : List UInt8) : jL (D ++ [x ++ y]) = jL (D ++ [x]) ++ y := by
  by_cases h : D = []
  · subst h; rw [List.nil_append, List.nil_append, jL_one, jL_one]
  · rw [jL_snoc h, jL_snoc h]; simp
theorem words_join (l : List UInt8) : jL (words l) = l := by
  refine snocInd (P := fun l => jL (words l) = l) (jL_one []) ?_ l
  intro l c ih
  by_cases h : st false l = false ∧ c.toNat = 32
  · obtain ⟨e1, e2⟩ := wd_hit h.1 h.2
    have hc : c = 32 := UInt8.toNat_inj.1 h.2
    rw [words, e1, e2]
    show jL (words l ++ [[]]) = _
    rw [jL_snoc (by simp [words]), ih, hc]
  · obtain ⟨e1, e2⟩ := wd_miss h
    rw [words, e1, e2, jL_last]
    show jL (words l) ++ [c] = _
    rw [ih]
theorem wd_room {l : List UInt8} {i : Nat} {y : List UInt8} (h : (words l)[i]? = some y) : y.length ≤ l.length := by
  have ho := words_off l
  have : ∀ W : List (List UInt8), y ∈ W → y.length + 1 ≤ off W := by
    intro W
    induction W with
    | nil => intro h; cases h
    | cons z r ih =>
      intro h
      rw [off_cons]
      rcases List.mem_cons.1 h with rfl | h
      · omega
      · have := ih h; omega
  have := this _ (List.mem_of_getElem? h)
  omega
theorem pl_app (a b : List UInt8) : pl (a ++ b) = pl a ++ pl b := List.filter_append _ _
theorem snocI {α : Type} {P : List α → Prop} (h0 : P []) (h1 : ∀ l x, P l → P (l ++ [x])) (l : List α) : P l := by
  have : ∀ n (l : List α), l.length = n → P l := by
    intro n
    induction n with
    | zero => intro l hl; rw [List.eq_nil_of_length_eq_zero hl]; exact h0
    | succ n ih =>
      intro l hl
      rcases List.eq_nil_or_concat l with rfl | ⟨l', x, rfl⟩
      · exact h0
      · rw [List.concat_eq_append] at hl ⊢
        exact h1 _ _ (ih _ (by simpa using hl))
  exact this _ l rfl
theorem pl_map (f : List UInt8 → List UInt8) (hf : ∀ x, pl (f x) = pl x) (W : List (List UInt8)) : pl (jL (W.map f)) = pl (jL W) := by
  refine snocI (P := fun W => pl (jL (W.map f)) = pl (jL W)) rfl ?_ W
  intro W x ih
  rw [List.map_append, List.map_cons, List.map_nil]
  by_cases h : W = []
  · subst h; rw [List.map_nil, List.nil_append, List.nil_append, jL_one, jL_one, hf]
  · rw [jL_snoc (by simpa using h), jL_snoc h, pl_app, pl_app, ih]
    congr 1
    show pl ([32] ++ f x) = pl ([32] ++ x)
    rw [pl_app, pl_app, hf]
theorem pl_in (x : List UInt8) : pl (123 :: (x ++ [125])) = pl x := by
  show pl ([123] ++ (x ++ [125])) = _
  rw [pl_app, pl_app]
  have e1 : pl [123] = [] := by decide
  have e2 : pl [125] = [] := by decide
  rw [e1, e2]; simp
end Go.Proofs.YtobjfmchnlnohaaGreatDoor.TiPl
