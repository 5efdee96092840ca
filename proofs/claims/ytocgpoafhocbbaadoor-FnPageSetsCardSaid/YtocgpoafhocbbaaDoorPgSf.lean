/-
  What FnPageSets needs of merging, counting and HasPage, over letters.
-/
import Derived.Test.YtocgpoafhocbbaaDoorPgM4
import Derived.Test.YtocgpoafhocbbaaDoorPgHit
import Derived.Test.YtocgpoafhocbbaaDoorPg2
namespace Go.Proofs.YtocgpoafhocbbaaDoor.PgSf
open Go.RowKit PgPl PgHit PgMe Pg PgM
set_option linter.unusedVariables false
set_option linter.unusedSimpArgs false

theorem hit_own {x : Pr} {p : Int} (h1 : x.f ≤ p) (h2 : p ≤ x.t) : hit x.l p x = true := by
  unfold hit
  rw [decide_eq_true rfl, decide_eq_true ⟨h1, h2⟩]
  rfl
theorem hits_own {L : List Pr} {x : Pr} {p : Int} (hx : x ∈ L) (h1 : x.f ≤ p) (h2 : p ≤ x.t) : hits x.l p L = true :=
  List.any_eq_true.2 ⟨x, hx, hit_own h1 h2⟩
theorem okR_mk {l : ByteArray} {p : Int} (h : lB l = true) (h1 : 1 ≤ p) (h2 : p ≤ 99999) : okR l p p = true := by
  unfold okR
  rw [h, decide_eq_true ⟨h1, Int.le_refl _, h2⟩]
  rfl
theorem set_vals (L : List Pr) : ∃ (z : Bool) (M : List Pr) (cL : Int), okL L = z ∧ mrg z L = M ∧ ctn z L = cL ∧
    (z = true → okL M = true ∧ mrg true M = M ∧ ctn true M = cL ∧ M.length ≤ 8 ∧
      ∀ (j : Nat) (x : Pr), L[j]? = some x → (hasOk M x.l x.f = true ∧ (true && hits x.l x.f M) = true) ∧ (hasOk M x.l x.t = true ∧ (true && hits x.l x.t M) = true)) := by
  refine ⟨okL L, mrg (okL L) L, ctn (okL L) L, rfl, rfl, rfl, fun hz => ?_⟩
  rw [hz]
  obtain ⟨hl1, hl8, hok⟩ := okL_yes hz
  obtain ⟨i1, i2, i3, i4⟩ := mL_facts hok
  have eM : mrg true L = mL L := rfl
  rw [eM]
  have hh : ∀ x ∈ L, (hits x.l x.f (mL L) = true) ∧ hits x.l x.t (mL L) = true := fun x hx => by
    have h := okR_yes (hok x hx)
    rw [i3, i3]
    exact ⟨hits_own hx (Int.le_refl _) h.2.2.1, hits_own hx h.2.2.1 (Int.le_refl _)⟩
  have hne : 1 ≤ (mL L).length := by
    rcases Nat.eq_zero_or_pos (mL L).length with h0 | h0
    · have e : mL L = [] := List.length_eq_zero_iff.1 h0
      have := (hh L[0] (List.getElem_mem (by omega))).1
      rw [e] at this
      cases this
    · exact h0
  have hM : okL (mL L) = true := by
    unfold okL
    rw [decide_eq_true (by omega), Bool.true_and]
    exact List.all_eq_true.2 i1
  have again : mL (mL L) = mL L := mL_again hok
  refine ⟨hM, again, ?_, by omega, fun j x hx => ?_⟩
  · show cnt (mL (mL L)) = cnt (mL L)
    rw [again]
  · have hm := List.mem_of_getElem? hx
    have h := okR_yes (hok x hm)
    obtain ⟨e1, e2⟩ := hh x hm
    unfold hasOk
    rw [hM, e1, e2, okR_mk h.1 (by omega) (by omega), okR_mk h.1 (by omega) (by omega)]
    exact ⟨⟨rfl, rfl⟩, rfl, rfl⟩
end Go.Proofs.YtocgpoafhocbbaaDoor.PgSf
