/-
  What the size of a library bounds.
-/
import Derived.Test.YtkiogbbbigmgnaaLb
namespace Go.Proofs.Ytkiogbbbigmgnaa.Lbs
open Go.RowKit Pl Strs Help Name Stands SplitPl NmPl Word Part NGood Nms Jn Ens
theorem sm_of {w : World} {A : Option Addr} {L : List En} (h : RdE w A L) (hz : ∀ x ∈ L, x.sz ≤ 1048576) : ∀ x ∈ L, x.Sm := by
  intro x hx
  obtain ⟨k, hk, rfl⟩ := List.getElem_of_mem hx
  have hz' := hz _ hx
  obtain ⟨h1, h2, h3, h4⟩ := (h k _ (List.getElem?_eq_getElem hk)).1
  generalize L[k] = x at *
  unfold En.sz at hz'
  have lim : ∀ (K : List Nm) (C : Option Addr), RdN0 w C K → szL K ≤ 1048576 → ∀ x ∈ K, x.n ≤ 1048576 := fun K C h hz x hx => by
    have h1 := szL_mem hx
    obtain ⟨k, hk, rfl⟩ := List.getElem_of_mem hx
    have h2 := (h k _ (List.getElem?_eq_getElem hk)).1.2.2
    unfold Nm.sz at h1
    omega
  exact ⟨by omega, by omega, lim _ _ h1 (by omega), lim _ _ h3 (by omega)⟩
theorem sz_k {w w' : World} {x y : En} (hr : x.Rd w) (hr' : y.Rd w') (h : x.key4 = y.key4) : x.sz = y.sz := by
  obtain ⟨_, h2, _, h4⟩ := hr
  obtain ⟨_, g2, _, g4⟩ := hr'
  simp only [En.key4, Prod.mk.injEq] at h
  obtain ⟨e1, _, e3, e4, e5, e6, e7, _, _, e13, e14⟩ := h
  unfold En.sz
  rw [e1, ← h2, ← g2, ← h4, ← g4, szL_k4 e3, szL_k4 e4, len_of_key e3, len_of_key e4, e5, e6, e7, e13, e14]
theorem sz_of {w w' : World} {A B : Option Addr} {L M : List En} (hM : RdE w B M) (hL : RdE w' A L) (h : M.map En.key4 = L.map En.key4) (hz : ∀ x ∈ L, x.sz ≤ 1048576) : ∀ x ∈ M, x.sz ≤ 1048576 := by
  intro x hx
  obtain ⟨k, hk, rfl⟩ := List.getElem_of_mem hx
  have hk' : k < L.length := by rw [← len_of_key4 h]; exact hk
  have e : M[k].key4 = L[k].key4 := by
    have := congrArg (fun l => l[k]?) h
    simp [hk, hk'] at this
    exact this
  rw [sz_k (hM k _ (List.getElem?_eq_getElem hk)).1 (hL k _ (List.getElem?_eq_getElem hk')).1 e]
  exact hz _ (List.getElem_mem hk')
end Go.Proofs.Ytkiogbbbigmgnaa.Lbs
