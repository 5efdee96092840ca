/-
  Contracts of l6Simple, l6Sort of the model and of SortTitle of both.
-/
import Derived.Test.YtobjfmchnlnohaaGreatDoorSo
import Derived.Test.YtobjfmchnlnohaaGreatDoorTi
import Derived.OwnWalk
namespace Go.Proofs.YtobjfmchnlnohaaGreatDoor.So
open Go.RowKit Pl NmPl TiPl Word Lt Ra Ca Jo Cs Ti Kt
set_option linter.unusedVariables false
set_option linter.unusedSimpArgs false

/-- rows of different types lie in different blocks -/
theorem own_types {w : World} {b0 b1 : Nat} {e0 e1 : TypeId} {s0 s1 : Nat} {v0 v1 : Value} {n0 n1 : Nat} {xs ys : List Value} (he : e0 ≠ e1) (h0 : w.ownsRow b0 e0 s0 v0 n0 xs) (h1 : w.ownsRow b1 e1 s1 v1 n1 ys) : v0.ownBlock = none ∨ v0.ownBlock ≠ v1.ownBlock := by
  rcases h0.2 with ⟨rfl, _⟩ | ⟨g, cap, cur, rfl, _, hg, _⟩
  · exact .inl rfl
  · refine .inr fun e => ?_
    rcases h1.2 with ⟨rfl, _⟩ | ⟨g', cap', cur', rfl, _, hg', _⟩
    · cases e
    · simp [Value.ownBlock] at e
      subst e
      rw [hg] at hg'
      simp at hg'
      exact he hg'.2
theorem own_form {w : World} {b : Nat} {e : TypeId} {sz : Nat} {v : Value} {n : Nat} {xs : List Value} (h : w.ownsRow b e sz v n xs) : ∃ A c, v = .slice A n c := by
  rcases h.2 with ⟨rfl, rfl⟩ | ⟨g, cap, cur, rfl, _⟩
  · exact ⟨none, 0, rfl⟩
  · exact ⟨_, _, rfl⟩
theorem dg_low (c : UInt8) : isDg c = isDg c := rfl

end Go.Proofs.YtobjfmchnlnohaaGreatDoor.So
