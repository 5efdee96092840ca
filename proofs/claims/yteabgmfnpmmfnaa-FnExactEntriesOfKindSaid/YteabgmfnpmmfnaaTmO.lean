/-
  Marks: what is owned elsewhere stays; the names of fresh lists.
-/
import Derived.Test.YteabgmfnpmmfnaaTm
import Derived.Test.YteabgmfnpmmfnaaEn3
namespace Go.Proofs.Yteabgmfnpmmfnaa.Tms
open Go.RowKit Strs Name Nms Ens
set_option linter.unusedVariables false
set_option linter.unusedSimpArgs false

/-- the names of a fresh list, as marks want them, in a later world -/
theorem fr_ns' {b0 b1 g : Nat} {w : World} {M : List Nm} (h : Fr w g M) (h0 : b0 ≤ g) (h1 : w.heap.size ≤ b1) : Ns b0 b1 w (some ⟨g, 0, none⟩) (M.map Nm.n) := fr_ns h.1 h.2.1 h.2.2 h0 h1
theorem Ns.below {b0 b1 : Nat} {ns : List Nat} {w w' : World} {A : Option Addr} (h : Ns b0 b1 w A ns) (hb : Below w.heap.size w w') : Ns b0 b1 w' A ns := h.tm (Tm.of_below hb)
theorem cnt_sz {L : List Nm} {w : World} {A : Option Addr} (h : RdN0 w A L) : cnt (L.map Nm.n) ≤ 3 * L.length + szL L := by
  have hx : ∀ x ∈ L, x.n ≤ x.sz := fun x hx => by
    obtain ⟨k, hk, rfl⟩ := List.getElem_of_mem hx
    have h2 := (h k _ (List.getElem?_eq_getElem hk)).1.2.2
    unfold Nm.sz
    omega
  clear h
  induction L with
  | nil => simp [cnt]
  | cons x r ih =>
    have h1 := ih (fun y hy => hx y (List.mem_cons_of_mem _ hy))
    have h2 := hx x (List.mem_cons_self ..)
    have e1 : cnt ((x :: r).map Nm.n) = x.n + 3 + cnt (r.map Nm.n) := by simp [cnt]
    have e2 : szL (x :: r) = x.sz + szL r := by simp [szL]
    rw [e1, e2, List.length_cons]
    omega
end Go.Proofs.Yteabgmfnpmmfnaa.Tms
