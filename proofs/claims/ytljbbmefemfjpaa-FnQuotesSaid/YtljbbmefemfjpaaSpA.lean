/-
  Boxes of spans, rows of spans that grow.
-/
import Derived.Test.YtljbbmefemfjpaaSpH
import Derived.Test.YtljbbmefemfjpaaSpNp
import Derived.Laws.CopyOwn
import Derived.Maps.AppendAt
import Derived.IntWalk
import Derived.Deep.DeepCutAuto
namespace Go.Proofs.Ytljbbmefemfjpaa.SpA
open Go.RowKit SpPl Sp
set_option linter.unusedSimpArgs false
set_option linter.unusedVariables false

def P3 (W : World) (b : Nat) (l : ByteArray) (f t : Bool) : Prop := b < W.heap.size ∧ W.cell? ⟨b, 0, none⟩ = some (.string l) ∧ W.cell? ⟨b, 1, none⟩ = some (.bool f) ∧ W.cell? ⟨b, 2, none⟩ = some (.bool t)
theorem P3.new (w : World) (l : ByteArray) (f t : Bool) (ty : TypeId) : P3 (w.alloc (.cells #[.string l, .bool f, .bool t] ty)) w.heap.size l f t :=
  ⟨by simp, by simp, by simp, by simp⟩
theorem P3.below {W w' : World} {b : Nat} {l : ByteArray} {f t : Bool} (h : P3 W b l f t) (hb : Below W.heap.size W w') : P3 w' b l f t := by
  obtain ⟨h0, h1, h2, h3⟩ := h
  exact ⟨Nat.lt_of_lt_of_le h0 hb.size, (hb.cell (p := ⟨b, 0, none⟩) h0).trans h1, (hb.cell (p := ⟨b, 1, none⟩) h0).trans h2, (hb.cell (p := ⟨b, 2, none⟩) h0).trans h3⟩
theorem P3.set0 {W : World} {b : Nat} {l : ByteArray} {f t : Bool} (h : P3 W b l f t) (l' : ByteArray) : P3 (W.setCell ⟨b, 0, none⟩ (.string l')) b l' f t := by
  obtain ⟨h0, h1, h2, h3⟩ := h
  refine ⟨by simpa [World.setCell] using h0, ?_, ?_, ?_⟩
  · exact World.cell?_setCell_same W _ _ h1
  · rw [World.cell?_setCell_other W _ _ _ (by simp)]; exact h2
  · rw [World.cell?_setCell_other W _ _ _ (by simp)]; exact h3
theorem row_base' {w : World} {b b' : Nat} {e : TypeId} {size : Nat} {v : Value} {n : Nat} {xs : List Value} (h : b' ≤ b) (ho : w.ownsRow b e size v n xs) : w.ownsRow b' e size v n xs := by
  refine ⟨ho.1, ?_⟩
  rcases ho.2 with h' | ⟨g, cap, cur, e1, e2, e3⟩
  · exact .inl h'
  · exact .inr ⟨g, cap, cur, e1, Nat.le_trans h e2, e3⟩
theorem cell_three_new (w : World) (a b c : Value) (t : TypeId) : ∀ (j : Nat) (u : Value), [a, b, c][j]? = some u → (w.alloc (.cells #[a, b, c] t)).cell? ((⟨w.heap.size, 0, none⟩ : Addr).add j) = some u := by
  intro j u hu
  rw [Go.WideShapes.add_plain, Nat.zero_add]
  match j, hu with
  | 0, hu => cases hu; simp
  | 1, hu => cases hu; simp
  | 2, hu => cases hu; simp
  | j + 3, hu => simp at hu
theorem own_far {w w' : World} {base : Nat} {e : TypeId} {size n : Nat} {v : Value} {xs : List Value} {row : Option Nat} (h : w.ownsRow base e size v n xs) (hg : w.grownBy w' row) (hne : v.ownBlock ≠ row) : w'.ownsRow base e size v n xs :=
  h.kept hg (.inr hne)
theorem below_grown {B : Nat} {w0 w w' : World} {row : Option Nat} (h : Below B w0 w) (hg : w.grownBy w' row) (hB : B ≤ w.heap.size) (hrow : ∀ k, row = some k → B ≤ k) : Below B w0 w' :=
  h.trans ⟨hg.os, hg.tape, hg.output, hg.size, fun k hk => hg.block k (Nat.lt_of_lt_of_le hk hB) (fun e => by have := hrow k e.symm; omega)⟩
theorem below_drewN' {W w : World} (h : Kp W w) (q : Nat) : Kp W (w.drewN q) := ⟨h.os, h.tape, h.output, h.size, h.block⟩
theorem Kp.refl' (W : World) : Kp W W := Below.refl _ _
theorem set_one {L : List Sp1} {k : Nat} {y : Sp1} (hy : L[k]? = some y) (s : ByteArray) : (pcells L).set (k * 3) (.string s) = pcells (L.set k ⟨s, y.f, y.t⟩) := by
  obtain ⟨hk, e⟩ := List.getElem?_eq_some_iff.1 hy
  obtain ⟨_, e1, e2⟩ := pcells_at hy
  rw [← pcells_set ⟨s, y.f, y.t⟩ hk]
  have hl := pcells_len L
  apply List.ext_getElem?
  intro i
  simp only [List.getElem?_set, List.length_set]
  by_cases h2 : k * 3 + 2 = i
  · subst h2
    rw [if_neg (by omega), if_pos rfl, if_pos (by omega)]
    exact e2
  · rw [if_neg h2]
    by_cases h1 : k * 3 + 1 = i
    · subst h1
      rw [if_neg (by omega), if_pos rfl, if_pos (by omega)]
      exact e1
    · rw [if_neg h1]
theorem ne_str {s : ByteArray} (h : 0 < s.size) : (s.toList == []) = false ∧ s.toList.isEmpty = false := by
  have hn : s.data.toList ≠ [] := by
    intro e
    have h9 : s.data.toList.length = s.size := by rw [Array.length_toList]; rfl
    rw [e] at h9
    simp at h9
    omega
  rw [Lib.toList_data]
  exact ⟨by rw [beq_eq_false_iff_ne]; exact hn, List.isEmpty_eq_false_iff.2 hn⟩
theorem nil_str {s : ByteArray} (h : s.size = 0) : s = ⟨#[]⟩ := ByteArray.ext (Array.eq_empty_of_size_eq_zero (show s.data.size = 0 by have : s.data.size = s.size := rfl; omega))
end Go.Proofs.Ytljbbmefemfjpaa.SpA
