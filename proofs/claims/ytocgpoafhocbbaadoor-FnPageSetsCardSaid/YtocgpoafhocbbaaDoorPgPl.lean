/-
  Plain mathematics of ranges of pages: validity, lists. Nothing of the program is named here.
-/
import Derived.WalkKit
import Derived.Test.YtocgpoafhocbbaaDoorNmPl
namespace Go.Proofs.YtocgpoafhocbbaaDoor.PgPl
open NmPl

/-- a range: its letter, its first and its last page -/
structure Pr where
  l : ByteArray
  f : Int
  t : Int
instance : Inhabited Pr := ⟨⟨ByteArray.empty, 0, 0⟩⟩
/-- may the string denote a part -/
def lB (s : ByteArray) : Bool := match s.data.toList with
  | [] => true
  | [c] => isUp c
  | _ => false
theorem lB_0 : lB ⟨#[]⟩ = true := rfl
theorem lB_1 {s : ByteArray} (h : s.size = 1) : lB s = isUp (s[0]'(by omega)) := by
  obtain ⟨⟨l⟩⟩ := s
  match l, h with
  | [c], _ => rfl
theorem lB_2 {s : ByteArray} (h : 1 < s.size) : lB s = false := by
  obtain ⟨⟨l⟩⟩ := s
  match l, h with
  | _ :: _ :: _, _ => rfl
  | [], h => exact absurd h (by decide)
  | [c], h => exact absurd h (Nat.lt_irrefl 1)
theorem emp {s : ByteArray} (h : s.size = 0) : s = ⟨#[]⟩ := by
  obtain ⟨⟨l⟩⟩ := s
  match l, h with
  | [], _ => rfl
theorem lB_size {s : ByteArray} (h : lB s = true) : s.size ≤ 1 := by
  rcases Nat.lt_or_ge 1 s.size with h1 | h1
  · rw [lB_2 h1] at h; cases h
  · exact h1
def okR (l : ByteArray) (f t : Int) : Bool := lB l && decide (1 ≤ f ∧ f ≤ t ∧ t ≤ 99999)
/-- is the range valid -/
def Pr.ok (x : Pr) : Bool := okR x.l x.f x.t
theorem okR_yes {l : ByteArray} {f t : Int} (h : okR l f t = true) : lB l = true ∧ 1 ≤ f ∧ f ≤ t ∧ t ≤ 99999 := by
  unfold okR at h
  rw [Bool.and_eq_true, decide_eq_true_eq] at h
  exact h
/-- is the list a list of ranges -/
def okL (L : List Pr) : Bool := decide (1 ≤ (L.length : Int) ∧ (L.length : Int) ≤ 8) && L.all Pr.ok
theorem okL_yes {L : List Pr} (h : okL L = true) : 1 ≤ L.length ∧ L.length ≤ 8 ∧ ∀ x ∈ L, x.ok = true := by
  unfold okL at h
  rw [Bool.and_eq_true, decide_eq_true_eq] at h
  exact ⟨by omega, by omega, List.all_eq_true.1 h.2⟩
theorem oks_drop {L : List Pr} {k : Nat} {x : Pr} (h : L[k]? = some x) : (L.drop k).all Pr.ok = (x.ok && (L.drop (k + 1)).all Pr.ok) := by
  obtain ⟨hk, e⟩ := List.getElem?_eq_some_iff.1 h
  rw [List.drop_eq_getElem_cons hk, e]
  rfl
/-- the sizes of the letters together -/
def szL (L : List Pr) : Nat := (L.map fun x => x.l.size).sum
theorem szL_take {L : List Pr} {k : Nat} {x : Pr} (h : L[k]? = some x) : szL (L.take (k + 1)) = szL (L.take k) + x.l.size := by
  unfold szL
  rw [List.take_add_one, h, List.map_append, List.sum_append]
  simp
theorem szL_le (L : List Pr) (k : Nat) : szL (L.take k) ≤ szL L := by
  conv => rhs; rw [← List.take_append_drop k L]
  unfold szL
  rw [List.map_append, List.sum_append]
  omega
theorem szL_mem {L : List Pr} {x : Pr} (h : x ∈ L) : x.l.size ≤ szL L := by
  obtain ⟨k, hk, rfl⟩ := List.getElem_of_mem h
  have := szL_take (List.getElem?_eq_getElem hk)
  have := szL_le L (k + 1)
  omega
/-- what szPageRangeS answers -/
def szPs (left : Nat) (L : List Pr) : Int := if L.length + szL L ≤ left then (left : Int) - L.length - szL L else -1
end Go.Proofs.YtocgpoafhocbbaaDoor.PgPl
