/-
  Plain: is a page in a list of ranges. Nothing of the program is named here.
-/
import Derived.Test.YtocgpoafhocbbaaDoorPgPl
namespace Go.Proofs.YtocgpoafhocbbaaDoor.PgHit
open PgPl
/-- is the page in the range -/
def hit (l : ByteArray) (p : Int) (x : Pr) : Bool := decide (x.l = l) && decide (x.f ≤ p ∧ p ≤ x.t)
def hits (l : ByteArray) (p : Int) (L : List Pr) : Bool := L.any (hit l p)
theorem hits_drop {l : ByteArray} {p : Int} {L : List Pr} {k : Nat} {x : Pr} (h : L[k]? = some x) : hits l p (L.drop k) = (hit l p x || hits l p (L.drop (k + 1))) := by
  obtain ⟨hk, e⟩ := List.getElem?_eq_some_iff.1 h
  rw [List.drop_eq_getElem_cons hk, e]
  rfl
/-- may it be asked -/
def hasOk (L : List Pr) (l : ByteArray) (p : Int) : Bool := okL L && okR l p p
theorem hit_ne {l : ByteArray} {p : Int} {x : Pr} (h : x.l ≠ l) : hit l p x = false := by unfold hit; rw [decide_eq_false h]; rfl
theorem hit_eq {l : ByteArray} {p f t : Int} : hit l p ⟨l, f, t⟩ = decide (f ≤ p ∧ p ≤ t) := by unfold hit; rw [decide_eq_true rfl]; rfl
end Go.Proofs.YtocgpoafhocbbaaDoor.PgHit
